/-
  Own texts, laid together: Sl.
-/
import Derived.Test.YtplfcncibmgllaaDoorSk
import Derived.Deep.OwnRows
/- Sl -/
namespace Go.Proofs.YtplfcncibmgllaaDoor.Fx
open Go.RowKit
theorem info_u64 : (Tryd.prog.info? 46).map (fun i => (i.zero, i.size, i.bytes)) = some (some (.int .u64 0), 1, 8) := by kernel_rfl
theorem ucells_zero (m : Nat) : madeCells #[Value.int .u64 0] m = ucells (List.replicate m 0) := by
  refine Array.ext (by simp [madeCells, ucells]) fun i h1 h2 => ?_
  simp [madeCells, ucells, uV, Nat.mod_one]
/-- the digits so far: those from place z on are 0 -/
def SqB (w : World) (g M z : Nat) (os : List Nat) (wr : World) : Prop :=
  Blk wr g 46 (ucells os) ∧ os.length = M ∧ (∀ x ∈ os, x < 4294967296) ∧ (∀ y ∈ os.drop z, y = 0) ∧ Below w.heap.size w wr
theorem mem_set_lt {l : List Nat} {p x B : Nat} (h : ∀ y ∈ l, y < B) (hx : x < B) : ∀ y ∈ l.set p x, y < B := by
  intro y hy
  rcases List.mem_or_eq_of_mem_set hy with h1 | h1
  · exact h y h1
  · rw [h1]; exact hx
theorem SqB.put {w : World} {g M z : Nat} {os : List Nat} {wr : World} (h : SqB w g M z os wr) (hg : w.heap.size ≤ g) {p x : Nat} (hp : p < z) (hx : x < 4294967296) : SqB w g M z (os.set p x) (wr.setCell ⟨g, p, none⟩ (.int .u64 (x : Int))) := by
  obtain ⟨h1, h2, h3, h4, h5⟩ := h
  exact ⟨h1.putU p x, by rw [List.length_set]; exact h2, mem_set_lt h3 hx, by rw [List.drop_set_of_lt hp]; exact h4, h5.setCell hg _⟩
theorem SqB.last {w : World} {g M z : Nat} {os : List Nat} {wr : World} (h : SqB w g M z os wr) (hg : w.heap.size ≤ g) {x : Nat} (hx : x < 4294967296) : SqB w g M (z + 1) (os.set z x) (wr.setCell ⟨g, z, none⟩ (.int .u64 (x : Int))) := by
  obtain ⟨h1, h2, h3, h4, h5⟩ := h
  refine ⟨h1.putU z x, by rw [List.length_set]; exact h2, mem_set_lt h3 hx, ?_, h5.setCell hg _⟩
  rw [List.drop_set_of_lt (by omega)]
  intro y hy
  refine h4 y ?_
  rw [show os.drop (z + 1) = (os.drop z).drop 1 by rw [List.drop_drop]] at hy
  exact List.mem_of_mem_drop hy
theorem SqB.at_ {w : World} {g M z : Nat} {os : List Nat} {wr : World} (h : SqB w g M z os wr) {p : Nat} (hp : p < M) : ∃ y, os[p]? = some y ∧ y < 4294967296 ∧ wr.cell? ⟨g, p, none⟩ = some (.int .u64 (y : Int)) ∧ wr.frozen? ⟨g, p, none⟩ = false := by
  have hl : p < os.length := by rw [h.2.1]; exact hp
  exact ⟨os[p], List.getElem?_eq_getElem hl, h.2.2.1 _ (List.getElem_mem hl), (h.1.cell p).trans (ucells_get (List.getElem?_eq_getElem hl)), h.1.frozen p⟩
theorem SqB.zero {w : World} {g M z : Nat} {os : List Nat} {wr : World} (h : SqB w g M z os wr) {y : Nat} (hy : os[z]? = some y) : y = 0 := by
  refine h.2.2.2.1 y ?_
  have : (os.drop z)[0]? = some y := by rw [List.getElem?_drop]; exact hy
  exact List.mem_of_getElem? this
theorem sqb_start (w : World) (M z : Nat) : SqB w w.heap.size M z (List.replicate M 0) (w.alloc (.cells (madeCells #[Value.int .u64 0] M) 46)) := by
  rw [ucells_zero]
  refine ⟨Blk.new w _ _, by simp, ?_, ?_, (Below.refl _ _).alloc (Nat.le_refl _) _⟩
  · intro x hx; rw [List.eq_of_mem_replicate hx]; omega
  · intro x hx; exact List.eq_of_mem_replicate (List.mem_of_mem_drop hx)
def SqP (w : World) (ds : List Nat) (e : Ending) (w' : World) : Prop :=
  ∃ g us, e = .returned (.slice (some ⟨g, 0, none⟩) us.length us.length) ∧ us.length = 2 * ds.length ∧ (∀ x ∈ us, x < 4294967296) ∧ valD us = valD ds * valD ds ∧ Blk w' g 46 (ucells us) ∧ Below w.heap.size w w'
/-- one digit more of a row -/
theorem sq_step (V0 V1 V2 P a b y c X h l S : Nat) (hX : a * b + y + c = X) (hl : X % 4294967296 = l) (hh : X / 4294967296 = h) (hset : V2 + P * y = V1 + P * l) (hi : V1 + P * c = V0 + S) :
    V2 + P * 4294967296 * h = V0 + (S + P * (a * b)) := by
  have e1 : 4294967296 * h + l = a * b + y + c := by omega
  have e2 : P * 4294967296 * h + P * l = P * (a * b) + P * y + P * c := by
    rw [Nat.mul_assoc, ← Nat.mul_add, e1, Nat.mul_add, Nat.mul_add]
  omega
set_option maxRecDepth 100000 in
set_option maxHeartbeats 4000000 in
theorem square_any (A : Option Addr) (m c : Nat) (ds : List Nat) (w : World) (hl : Hid (ds.length = m)) (hm : m ≤ 8) (hb : Hid (∀ x ∈ ds, x < 4294967296)) (hr : Hid (RdU w A ds)) :
    Calls Tryd.prog 35 #[.slice A m c] w (SqP w ds) := by
  obtain ⟨M, hM⟩ : ∃ M, 2 * m = M := ⟨_, rfl⟩
  have eM : 2 * (m : Int) = (M : Int) := by omega
  have HM := Lib.hid hM
  have M2 : M ≤ 16 := by omega
  clear hM
  have hmk : ∀ u : World, (Instr.makeSlice 59 (.int .i64 (M : Int)) (.int .i64 (M : Int))).run Tryd.prog u = .ok (.slice (some ⟨u.heap.size, 0, none⟩) M M) (u.alloc (.cells (madeCells #[.int .u64 0] M) 46)) := fun u =>
    run_make_row' (P := Tryd.prog) 59 46 (.int .u64 0) 8 Tryd.underlying59 info_u64 rfl .i64 .i64 M (by omega) (by omega) u
  obtain ⟨ad, rfl, hc⟩ := hr.out
  have HC := Lib.hid hc
  clear hc
  have H0 := Lib.hid (sqb_start w M m)
  go_enter Tryd.func35, Tryd.ntmps35
  go_wp2_with fail
  clear hmk
  generalize w.alloc _ = w0 at H0 ⊢
  obtain ⟨g, hg⟩ : ∃ g, g = w.heap.size := ⟨_, rfl⟩
  rw [← hg] at H0 ⊢
  have HG := Lib.hid hg
  clear hg
  go_loopw [16] (fun vi wr => ∃ (i : Nat) (os : List Nat), vi = .int .i64 (i : Int) ∧ i ≤ m ∧ Hid (SqB w g M (i + m) os wr ∧ valD os = valD (ds.take i) * valD ds)) (fun vi _ => m - (intOf vi).toNat)
  case atStart => exact ⟨0, _, rfl, by omega, Lib.hid ⟨by rw [Nat.zero_add]; exact H0.out, by rw [valD_zero _ (fun x hx => List.eq_of_mem_replicate hx)]; simp [valD]⟩⟩
  case round =>
    obtain ⟨i, os, rfl, hi, HS⟩ := hrel
    clear H0
    by_cases hlt : i < m
    · obtain ⟨a, ha⟩ : ∃ a, ds[i]? = some a := ⟨_, List.getElem?_eq_getElem (by rw [hl.out]; exact hlt)⟩
      have hca := (HS.out.1.2.2.2.2.cell (p := ad.add i) (World.block_lt_of_cell? _ _ (HC.out i a ha))).trans (HC.out i a ha)
      have a32 : a < 4294967296 := hb.out a (List.mem_of_getElem? ha)
      have HA := Lib.hid ha
      clear ha
      go_wp2_with fail
      clear hca
      go_loopw [6, 23] (fun vc vk wq => ∃ (cr k : Nat) (qs : List Nat), vc = .int .u64 (cr : Int) ∧ vk = .int .i64 (k : Int) ∧ k ≤ m ∧ cr < 4294967296 ∧ Hid (SqB w g M (i + m) qs wq ∧ valD qs + 4294967296 ^ (i + k) * cr = valD os + 4294967296 ^ i * (a * valD (ds.take k)))) (fun _ vk _ => m - (intOf vk).toNat)
      case atStart => exact ⟨0, 0, os, rfl, rfl, by omega, by omega, Lib.hid ⟨HS.out.1, by simp [valD]⟩⟩
      case round =>
        obtain ⟨cr, k, qs, rfl, rfl, hk, c32, HQ⟩ := hrel
        by_cases hkm : k < m
        · obtain ⟨b, hbk⟩ : ∃ b, ds[k]? = some b := ⟨_, List.getElem?_eq_getElem (by rw [hl.out]; exact hkm)⟩
          have hcb := (HQ.out.1.2.2.2.2.cell (p := ad.add k) (World.block_lt_of_cell? _ _ (HC.out k b hbk))).trans (HC.out k b hbk)
          have b32 : b < 4294967296 := hb.out b (List.mem_of_getElem? hbk)
          have HBK := Lib.hid hbk
          clear hbk
          obtain ⟨p, hp⟩ : ∃ p, i + k = p := ⟨_, rfl⟩
          have ep : (i : Int) + (k : Int) = (p : Int) := by omega
          have p2 : p < M := by have := HM.out; omega
          obtain ⟨y, hy, y32, hcy, hfy⟩ := HQ.out.1.at_ p2
          obtain ⟨pr, hpr⟩ : ∃ pr, a * b = pr := ⟨_, rfl⟩
          have pr2 : pr ≤ 18446744065119617025 := by rw [← hpr]; exact Nat.mul_le_mul (show a ≤ 4294967295 by omega) (show b ≤ 4294967295 by omega)
          have epr : (a : Int) * (b : Int) = (pr : Int) := by rw [← hpr]; simp
          obtain ⟨X, hX⟩ : ∃ X, pr + y + cr = X := ⟨_, rfl⟩
          have eX : (pr : Int) + (y : Int) + (cr : Int) = (X : Int) := by omega
          have X2 : X < 18446744073709551616 := by omega
          obtain ⟨l, hll⟩ : ∃ l, X % 4294967296 = l := ⟨_, rfl⟩
          obtain ⟨h, hhh⟩ : ∃ h, X / 4294967296 = h := ⟨_, rfl⟩
          have el : bits BinOp.and IntKind.u64 (X : Int) 4294967295 = (l : Int) := by rw [low32 X X2, hll]
          have eh : (X : Int) / 4294967296 = (h : Int) := by omega
          have l32 : l < 4294967296 := by omega
          have h32 : h < 4294967296 := by omega
          have HST := Lib.hid (show valD (qs.set p l) + 4294967296 ^ (i + (k + 1)) * h = valD os + 4294967296 ^ i * (a * valD (ds.take (k + 1))) from by
            have h1 := valD_set qs p y l hy
            have h2 := HQ.out.2
            rw [hp] at h2
            have h3 := sq_step (valD os) (valD qs) (valD (qs.set p l)) (4294967296 ^ p) a b y cr X h l _ (by rw [hpr]; exact hX) hll hhh h1 h2
            rw [show i + (k + 1) = p + 1 by omega, Nat.pow_succ, h3, take_snocW ds k b HBK.out, valD_append, List.length_take, show min k ds.length = k by have := hl.out; omega]
            rw [Nat.mul_add a, Nat.mul_add (4294967296 ^ i), ← hp, Nat.pow_add]
            congr 2
            simp only [valD, Nat.mul_zero, Nat.add_zero]
            rw [Nat.mul_assoc, Nat.mul_left_comm a])
          have HP := Lib.hid hp
          have HY := Lib.hid hy
          clear hp hy hpr hX hll hhh
          go_wp2
          clear hcb ep hcy hfy epr eX el eh
          go_roundw
          case rel => exact ⟨h, k + 1, qs.set p l, rfl, by go_num, by omega, h32, Lib.hid ⟨HQ.out.1.put (by rw [HG.out]; exact Nat.le_refl _) (by have := HP.out; omega) l32, HST.out⟩⟩
          case measure => simp [intOf]; omega
        · obtain rfl : k = m := by omega
          obtain ⟨p, hp⟩ : ∃ p, i + k = p := ⟨_, rfl⟩
          have ep : (i : Int) + (k : Int) = (p : Int) := by omega
          have p2 : p < M := by have := HM.out; omega
          obtain ⟨y, hy, y32, hcy, hfy⟩ := HQ.out.1.at_ p2
          obtain rfl : y = 0 := HQ.out.1.zero (by rw [hp]; exact hy)
          have HST := Lib.hid (show valD (qs.set p cr) = valD (ds.take (i + 1)) * valD ds from by
            have h1 := valD_set qs p 0 cr hy
            have h2 := HQ.out.2
            rw [hp] at h2
            rw [List.take_of_length_le (by have := hl.out; omega)] at h2
            have h3 := HS.out.2
            rw [take_snocW ds i a HA.out, valD_append, List.length_take, show min i ds.length = i by have := hl.out; omega, Nat.add_mul, ← h3]
            simp only [valD, Nat.mul_zero, Nat.add_zero] at h1 ⊢
            rw [Nat.mul_assoc]
            omega)
          have HP := Lib.hid hp
          clear hp hy
          go_wp2
          clear ep hcy hfy
          go_roundw
          case rel =>
            refine ⟨i + 1, qs.set p cr, by go_num, by omega, Lib.hid ⟨?_, HST.out⟩⟩
            have := HQ.out.1.last (by rw [HG.out]; exact Nat.le_refl _) c32
            rw [HP.out] at this
            rw [show i + 1 + k = p + 1 by have := HP.out; omega]
            exact this
          case measure => simp [intOf]; omega
    · obtain rfl : i = m := by omega
      go_wp2
      go_ret
      obtain ⟨⟨h1, h2, h3, h4, h5⟩, h6⟩ := HS.out
      refine ⟨g, os, ?_, by rw [h2, hl.out]; exact HM.out.symm, h3, ?_, h1, h5⟩
      · rw [h2]; rfl
      · rw [h6, List.take_of_length_le (by have := hl.out; omega)]
end Go.Proofs.YtplfcncibmgllaaDoor.Fx
