/-
  What Join answers.
-/
import Derived.Test.YthaannpkgljngaaWc
namespace Go.Proofs.Ythaannpkgljngaa
open Go.RowKit

/-- one of the bits that are joined, as it lies in memory -/
structure It where
  A : Option Addr
  n : Nat
  c : Nat
  N : Int
  bs : List Nat
def It.ok (x : It) : Bool := okB x.bs x.N
def It.bits (x : It) : List Bool := bitsIn x.bs x.N.toNat
/-- the slice '.slice AL n cap' reads as the list xs of bits -/
def RdL (w : World) (AL : Option Addr) (n : Nat) (xs : List It) : Prop :=
  xs.length = n ∧ (0 < n → ∃ L, AL = some L ∧ ∀ j x, xs[j]? = some x → w.cell? (L.add (j * 2)) = some (.slice x.A x.n x.c) ∧ w.cell? ⟨(L.add (j * 2)).block, (L.add (j * 2)).off + 1, none⟩ = some (.int .i64 x.N) ∧ Rd w x.A x.n x.bs)
theorem RdL.below {w w' : World} {AL : Option Addr} {n : Nat} {xs : List It} (h : RdL w AL n xs) (hb : Below w.heap.size w w') : RdL w' AL n xs := by
  refine ⟨h.1, fun hn => ?_⟩
  obtain ⟨L, e, hc⟩ := h.2 hn
  refine ⟨L, e, fun j x hx => ?_⟩
  obtain ⟨h1, h2, h3⟩ := hc j x hx
  exact ⟨(hb.cell (World.block_lt_of_cell? _ _ h1)).trans h1, (hb.cell (World.block_lt_of_cell? _ _ h2)).trans h2, h3.below hb⟩
def sumN (xs : List It) : Int := (xs.map (·.N)).sum
def allBits (xs : List It) : List Bool := xs.flatMap It.bits
theorem sumN_snoc (xs : List It) (x : It) : sumN (xs ++ [x]) = sumN xs + x.N := by simp [sumN]
theorem take_snoc (xs : List It) (k : Nat) (x : It) (h : xs[k]? = some x) : xs.take (k + 1) = xs.take k ++ [x] := by
  obtain ⟨hk, e⟩ := List.getElem?_eq_some_iff.1 h
  rw [List.take_succ_eq_append_getElem hk, e]
theorem allBits_snoc (xs : List It) (x : It) : allBits (xs ++ [x]) = allBits xs ++ x.bits := by simp [allBits]
theorem It.ok_N {x : It} (h : x.ok = true) : 0 ≤ x.N ∧ x.N ≤ 65536 := by
  unfold It.ok okB at h
  have := of_decide_eq_true h
  omega
theorem It.ok_pack {x : It} {w : World} (h : x.ok = true) (hr : Rd w x.A x.n x.bs) : x.bs = pack x.bits ∧ x.N = (x.bits.length : Int) ∧ x.n = (pack x.bits).length := by
  obtain ⟨l, _, h2, h3⟩ := okB_some h hr.2.1
  have e : x.bits = l := by unfold It.bits; rw [h2, h3, Int.toNat_natCast, bitsIn_pack]
  rw [e]
  exact ⟨h2, h3, by rw [← hr.1, h2]⟩
theorem sum_bound (xs : List It) (h : ∀ x ∈ xs, x.ok = true) : 0 ≤ sumN xs ∧ sumN xs ≤ 65536 * (xs.length : Int) := by
  induction xs with
  | nil => simp [sumN]
  | cons x xs ih =>
    have h1 := ih fun y hy => h y (List.mem_cons_of_mem _ hy)
    have h2 := It.ok_N (h x (List.mem_cons_self))
    have e : sumN (x :: xs) = x.N + sumN xs := by simp [sumN]
    rw [e, List.length_cons]
    omega
theorem allBits_length (xs : List It) (h : ∀ x ∈ xs, x.ok = true) : ((allBits xs).length : Int) = sumN xs := by
  induction xs with
  | nil => simp [sumN, allBits]
  | cons x xs ih =>
    have h1 := ih fun y hy => h y (List.mem_cons_of_mem _ hy)
    have h2 := It.ok_N (h x (List.mem_cons_self))
    have e : sumN (x :: xs) = x.N + sumN xs := by simp [sumN]
    have e2 : (allBits (x :: xs)).length = x.bits.length + (allBits xs).length := by simp [allBits]
    have e3 : x.bits.length = x.N.toNat := bitsIn_length _ _
    rw [e, e2]
    omega

def zeroB : Value := .agg #[.slice none 0 0, .int .i64 0]
/-- bits in a block of their own, from block B on -/
def IsN (w : World) (B : Nat) (v : Value) (l : List Bool) : Prop :=
  ∃ g, v = .agg #[.slice (some ⟨g, 0, none⟩) (pack l).length (pack l).length, .int .i64 (l.length : Int)] ∧ B ≤ g ∧ Blk w g 5 (bcells (pack l)) ∧ l.length ≤ 65536
theorem IsN.isB {w : World} {B : Nat} {v : Value} {l : List Bool} (h : IsN w B v l) : IsB w v l := by
  obtain ⟨g, rfl, _, hb, hl⟩ := h
  exact ⟨_, _, rfl, Rd.of_blk hb (pack_lt _), hl⟩
theorem IsN.mono {w : World} {B B' : Nat} {v : Value} {l : List Bool} (h : IsN w B v l) (hB : B' ≤ B) : IsN w B' v l := by
  obtain ⟨g, e, hg, hb, hl⟩ := h
  exact ⟨g, e, by omega, hb, hl⟩
theorem IsN.res {w : World} {B r : Nat} {v : Value} {l : List Bool} (h : IsN w B v l) (hr : r < B) (a b : Value) : IsN ((w.setCell ⟨r, 0, none⟩ a).setCell ⟨r, 1, none⟩ b) B v l := by
  obtain ⟨g, e, hg, hb, hl⟩ := h
  exact ⟨g, e, hg, (hb.far (by simp; omega) _).far (by simp; omega) _, hl⟩
/-- what Join answers -/
def JoinPostN (w : World) (xs : List It) (e : Ending) (w' : World) : Prop :=
  Below w.heap.size w w' ∧
  (((∃ x ∈ xs, x.ok = false) ∧ e = .returned (.tuple #[zeroB, .int .i64 1])) ∨
   ((∀ x ∈ xs, x.ok = true) ∧ 65536 < sumN xs ∧ e = .returned (.tuple #[zeroB, .int .i64 2])) ∨
   ((∀ x ∈ xs, x.ok = true) ∧ sumN xs ≤ 65536 ∧ ∃ v, e = .returned (.tuple #[v, .int .i64 0]) ∧ IsN w' w.heap.size v (allBits xs)))
def JoinPost (w : World) (xs : List It) (e : Ending) (w' : World) : Prop :=
  Below w.heap.size w w' ∧
  (((∃ x ∈ xs, x.ok = false) ∧ e = .returned (.tuple #[zeroB, .int .i64 1])) ∨
   ((∀ x ∈ xs, x.ok = true) ∧ 65536 < sumN xs ∧ e = .returned (.tuple #[zeroB, .int .i64 2])) ∨
   ((∀ x ∈ xs, x.ok = true) ∧ sumN xs ≤ 65536 ∧ ∃ v, e = .returned (.tuple #[v, .int .i64 0]) ∧ IsB w' v (allBits xs)))

theorem join_blk {w wr w1 : World} {o : Obj} {cs : Array Value} (hres : Blk wr w.heap.size 24 cs) (hb : Below (wr.alloc o).heap.size (wr.alloc o) w1) : Blk w1 w.heap.size 24 cs :=
  (hres.alloc o).below hb (hres.alloc o).lt
theorem join_below {w wr w1 : World} {o : Obj} (hbl : Below w.heap.size w wr) (hb : Below (wr.alloc o).heap.size (wr.alloc o) w1) : Below w.heap.size w w1 :=
  (hbl.alloc hbl.size o).trans (hb.mono (by have := hbl.size; simp; omega))
theorem join_res {w wr w1 : World} {o : Obj} (hres : Blk wr w.heap.size 24 #[.slice none 0 0, .int .i64 0]) (hbl : Below w.heap.size w wr) (hb : Below (wr.alloc o).heap.size (wr.alloc o) w1) :
    w1.cell? ⟨w.heap.size, 0, none⟩ = some (.slice none 0 0) ∧ w1.cell? ⟨w.heap.size, 1, none⟩ = some (.int .i64 0) ∧ w1.frozen? ⟨w.heap.size, 0, none⟩ = false ∧ w1.frozen? ⟨w.heap.size, 1, none⟩ = false ∧ Below w.heap.size w w1 :=
  have r1 := join_blk hres hb
  ⟨r1.cell 0, r1.cell 1, r1.frozen 0, r1.frozen 1, join_below hbl hb⟩
theorem join_box {wr w1 : World} {v0 v1 : Value} {t : TypeId} (hb : Below (wr.alloc (.cells #[v0, v1] t)).heap.size (wr.alloc (.cells #[v0, v1] t)) w1) : w1.cell? ⟨wr.heap.size, 1, none⟩ = some v1 :=
  ((Blk.new wr t #[v0, v1]).below hb (Blk.new wr t #[v0, v1]).lt).cell 1

theorem lay_at (g m p n c : Nat) (A : Option Addr) (l1 l2 : List Bool) (w : World) (hm : m ≤ 8192) (hroom : l1.length + l2.length ≤ 8 * m) (hp : p = l1.length) (hn : n = (pack l2).length)
    (hb : Blk w g 5 (bcells (packF m (bitF l1)))) (hr : Rd w A n (pack l2)) (hA : ∀ ad, A = some ad → 0 < n → ad.block ≠ g) :
    Calls Try.prog 35 #[.slice (some ⟨g, 0, none⟩) m m, .int .i64 (p : Int), .slice A n c] w fun e w' => e = .returned (.tuple #[]) ∧ Blk w' g 5 (bcells (packF m (bitF (l1 ++ l2)))) ∧ w.grownBy w' (some g) := by
  subst hp hn
  exact lay_any g m c A l1 l2 w hm hroom hb hr hA
theorem join_laid {w wo w2 w1 : World} {cs : Array Value} {v0 v1 : Value} (hg : wo.heap.size < w2.heap.size) (hgw : w.heap.size < wo.heap.size) (hres : Blk w2 w.heap.size 24 cs) (hbl : Below w.heap.size w w2)
    (hg1 : (w2.alloc (.cells #[v0, v1] 24)).grownBy w1 (some wo.heap.size)) :
    w1.cell? ⟨w2.heap.size, 1, none⟩ = some v1 ∧ Below w.heap.size w w1 ∧ Blk w1 w.heap.size 24 cs := by
  refine ⟨((Blk.new w2 _ #[v0, v1]).only hg1 (by omega)).cell 1, ?_, (hres.alloc _).only hg1 (by omega)⟩
  exact (hbl.alloc hbl.size _).grown hg1 (by have := hbl.size; simp; omega) (by intro k hk; injection hk with hk; omega)
theorem allBits_take_le (xs : List It) (k : Nat) : (allBits (xs.take k)).length ≤ (allBits xs).length := by
  have e : allBits xs = allBits (xs.take k) ++ allBits (xs.drop k) := by
    unfold allBits
    rw [← List.flatMap_append, List.take_append_drop]
  rw [e, List.length_append]
  omega
theorem Rd.lies {w : World} {A : Option Addr} {n : Nat} {bs : List Nat} (h : Rd w A n bs) (hn : 0 < n) : ∀ ad, A = some ad → ad.block < w.heap.size := by
  intro ad e
  obtain ⟨ad', e', hb, _⟩ := h.at_ (k := 0) hn
  rw [e] at e'
  injection e' with e'
  subst e'
  exact hb

set_option maxHeartbeats 1000000 in
theorem joinN_any (AL : Option Addr) (n cap : Nat) (xs : List It) (w : World) (hn : n ≤ 1000000) (hR : Hid (RdL w AL n xs)) :
    Calls Try.prog 21 #[.slice AL n cap] w (JoinPostN w xs) := by
  go_enter Try.func21, Try.ntmps21
  go_wp2
  go_loopw [4, 13] (fun s i wr => ∃ (k : Nat) (S : Int), k ≤ n ∧ i = .int .i64 k ∧ s = .int .i64 S ∧ S = sumN (xs.take k) ∧ (∀ x ∈ xs.take k, x.ok = true) ∧ Blk wr w.heap.size 24 #[.slice none 0 0, .int .i64 0] ∧ Below w.heap.size w wr)
    (fun _ i _ => n - (intOf i).toNat)
  case atStart =>
    refine ⟨0, 0, Nat.zero_le _, rfl, rfl, rfl, by simp, Blk.new _ _ _, (Below.refl _ _).alloc (Nat.le_refl _) _⟩
  case round =>
    obtain ⟨k, S, hk, rfl, rfl, hS, hok, hres, hbl⟩ := hrel
    have hb := sum_bound _ hok
    rw [← hS, List.length_take] at hb
    have hS0 : 0 ≤ S := hb.1
    have hS1 : S ≤ 65536 * 1000000 := by have := hb.2; omega
    by_cases hlt : k < n
    · have hRr := hR.out.below hbl
      obtain ⟨L, hL, hc⟩ := hRr.2 (by omega)
      subst hL
      have hkx : k < xs.length := by have := hRr.1; omega
      obtain ⟨x, hx⟩ : ∃ x, xs[k]? = some x := ⟨_, List.getElem?_eq_getElem hkx⟩
      obtain ⟨c0, c1, hrd⟩ := hc k x hx
      have HR := Lib.hid hrd
      have HS := Lib.hid hS
      have HX := Lib.hid hx
      have HO := Lib.hid hok
      have HRES := Lib.hid hres
      have HBL := Lib.hid hbl
      clear hb hc hrd hS hx hok hres hbl hRr
      cases hxo : x.ok
      · have HXO := Lib.hid hxo
        clear hxo
        go_wp2_with fail
        refine (check_no _ _ _ _ x.bs _ (HR.out.alloc _) HXO.out).mono ?_
        rintro e w1 ⟨rfl, hb1⟩
        obtain ⟨z0, z1, f0, f1, hb2⟩ := join_res HRES.out HBL.out hb1
        have HB2 := Lib.hid hb2
        clear hb1 hb2
        go_wp2
        refine bodyPost_ret (v := .tuple #[zeroB, .int .i64 1]) (by simp [results, Try.results21, go_sem, z0, z1, zeroB]) rfl ⟨?_, .inl ⟨⟨x, List.mem_of_getElem? HX.out, HXO.out⟩, rfl⟩⟩
        exact (HB2.out.setCell (by simp) _).setCell (by simp) _
      · have HXO := Lib.hid hxo
        clear hxo
        have hN := It.ok_N HXO.out
        have hN0 : 0 ≤ x.N := hN.1
        have hN1 : x.N ≤ 65536 := hN.2
        clear hN
        go_wp2_with fail
        refine (check_yes _ _ _ _ x.bs _ (HR.out.alloc _) HXO.out).mono ?_
        rintro e w1 ⟨rfl, hb1⟩
        have y1 := join_box hb1
        have hb2 := join_below HBL.out hb1
        have hr1 := join_blk HRES.out hb1
        have HB2 := Lib.hid hb2
        have HR1 := Lib.hid hr1
        clear hb1 hb2 hr1
        go_wp2
        go_roundw
        case rel =>
          refine ⟨k + 1, S + x.N, by omega, by go_num, rfl, ?_, ?_, HR1.out, HB2.out⟩
          · rw [take_snoc _ _ _ HX.out, sumN_snoc, ← HS.out]
          · rw [take_snoc _ _ _ HX.out]
            intro y hy
            rcases List.mem_append.1 hy with hy | hy
            · exact HO.out y hy
            · rw [List.mem_singleton.1 hy]; exact HXO.out
        case measure => simp [intOf]; omega
    · obtain rfl : k = n := by omega
      have ht : xs.take k = xs := List.take_of_length_le (by have := hR.out.1; omega)
      rw [ht] at hS hok
      have hS' : S = ((allBits xs).length : Int) := by rw [hS, allBits_length xs hok]
      have z0 : wr.cell? ⟨w.heap.size, 0, none⟩ = some (.slice none 0 0) := hres.cell 0
      have z1 : wr.cell? ⟨w.heap.size, 1, none⟩ = some (.int .i64 0) := hres.cell 1
      have f0 := hres.frozen 0
      have f1 := hres.frozen 1
      have HS := Lib.hid hS
      have HO := Lib.hid hok
      have HRES := Lib.hid hres
      have HBL := Lib.hid hbl
      by_cases hlong : 65536 < S
      · clear hb hS hok hres hbl ht hS'
        go_wp2
        refine bodyPost_ret (v := .tuple #[zeroB, .int .i64 2]) (by simp [results, Try.results21, go_sem, z0, z1, zeroB]) rfl ⟨?_, .inr (.inl ⟨HO.out, by rw [← HS.out]; exact hlong, rfl⟩)⟩
        exact (HBL.out.setCell (by simp) _).setCell (by simp) _
      · obtain ⟨T, hT⟩ : ∃ T : Nat, T = (allBits xs).length := ⟨_, rfl⟩
        rw [← hT] at hS'
        subst hS'
        have hT1 : T ≤ 65536 := by omega
        obtain ⟨m, hm⟩ : ∃ m : Nat, m = (T + 7) / 8 := ⟨_, rfl⟩
        have HM := Lib.hid hm
        have HT := Lib.hid hT
        have hm1 : m ≤ 8192 := by omega
        have hd : decide (65536 < (T : Int)) = false := by simp; omega
        clear hb hS hok hres hbl ht hT hm hlong z0 z1 f0 f1
        have hmk := run_make_row' (P := Try.prog) 22 5 (.int .u8 0) 1 Try.underlying22 info_u8 rfl .i64 .i64 m (by omega) (by omega)
        go_wp2_with (go_at_call 33; refine (bytesFor_nat _ m _ HM.out (by omega)).mono ?_; rintro e w' ⟨rfl, rfl⟩)
        clear hmk
        have hgw : w.heap.size < wr.heap.size := HRES.out.lt
        go_loopw [8, 34] (fun a i w2 => ∃ j p : Nat, j ≤ k ∧ i = .int .i64 j ∧ a = .int .i64 p ∧ p = (allBits (xs.take j)).length ∧ Blk w2 wr.heap.size 5 (bcells (packF m (bitF (allBits (xs.take j))))) ∧ Blk w2 w.heap.size 24 #[.slice none 0 0, .int .i64 0] ∧ Below w.heap.size w w2)
          (fun _ i _ => k - (intOf i).toNat)
        case atStart =>
          refine ⟨0, 0, Nat.zero_le _, rfl, rfl, rfl, ?_, HRES.out.alloc _, HBL.out.alloc HBL.out.size _⟩
          rw [madeZero]
          exact Blk.newAt rfl
        case round =>
          obtain ⟨j, p, hj, rfl, rfl, hp, hout, hres, hbl⟩ := hrel
          have hp1 : p ≤ 65536 := by have := allBits_take_le xs j; have := HT.out; omega
          by_cases hlt : j < k
          · have hRr := hR.out.below hbl
            obtain ⟨L, hL, hc⟩ := hRr.2 (by omega)
            subst hL
            have hkx : j < xs.length := by have := hRr.1; omega
            obtain ⟨x, hx⟩ : ∃ x, xs[j]? = some x := ⟨_, List.getElem?_eq_getElem hkx⟩
            obtain ⟨c0, c1, hrd⟩ := hc j x hx
            obtain ⟨e1, e2, e3⟩ := It.ok_pack (HO.out x (List.mem_of_getElem? hx)) hrd
            have hN := It.ok_N (HO.out x (List.mem_of_getElem? hx))
            have hN0 : 0 ≤ x.N := hN.1
            have hN1 : x.N ≤ 65536 := hN.2
            have hl : (allBits (xs.take (j + 1))).length ≤ T := by have := allBits_take_le xs (j + 1); have := HT.out; omega
            rw [take_snoc _ _ _ hx, allBits_snoc, List.length_append] at hl
            have hA0 : ∀ ad, x.A = some ad → 0 < x.n → ad.block < w.heap.size := fun ad e hn => by
              obtain ⟨L', _, hc'⟩ := hR.out.2 (by omega)
              exact (hc' j x hx).2.2.lies hn ad e
            have HA0 := Lib.hid hA0
            have HL := Lib.hid hl
            have HE1 := Lib.hid e1
            have HE2 := Lib.hid e2
            have HE3 := Lib.hid e3
            have HRD := Lib.hid hrd
            have HX := Lib.hid hx
            have HP := Lib.hid hp
            have HOUT := Lib.hid hout
            have HRES2 := Lib.hid hres
            have HBL2 := Lib.hid hbl
            clear hN hc hrd hx hp hout hres hbl hRr e1 e2 e3 hl hA0
            go_wp2_with fail
            refine (lay_at _ m p _ _ _ (allBits (xs.take j)) x.bits _ hm1 (by have := HL.out; have := HM.out; omega) HP.out HE3.out (HOUT.out.alloc _) (by have := HRD.out.alloc (.cells #[.slice x.A x.n x.c, .int .i64 x.N] 24); rw [HE1.out] at this; exact this) ?_).mono ?_
            · intro ad e hn
              have := HA0.out ad e hn
              omega
            rintro e w1 ⟨rfl, hb1, hg1⟩
            obtain ⟨y1, hb2, hr1⟩ := join_laid HOUT.out.lt hgw HRES2.out HBL2.out hg1
            have HB1 := Lib.hid hb1
            have HB2 := Lib.hid hb2
            have HR1 := Lib.hid hr1
            clear hb1 hg1 hb2 hr1
            go_wp2
            go_roundw
            case rel =>
              refine ⟨j + 1, p + x.bits.length, by omega, by go_num, ?_, ?_, ?_, HR1.out, HB2.out⟩
              · rw [HE2.out]; go_num
              · rw [take_snoc _ _ _ HX.out, allBits_snoc, List.length_append, HP.out]
              · rw [take_snoc _ _ _ HX.out, allBits_snoc]; exact HB1.out
            case measure => simp [intOf]; omega
          · obtain rfl : j = k := by omega
            have ht : xs.take j = xs := List.take_of_length_le (by have := hR.out.1; omega)
            rw [ht] at hp hout
            have z0 : wr.cell? ⟨w.heap.size, 0, none⟩ = some (.slice none 0 0) := hres.cell 0
            have z1 : wr.cell? ⟨w.heap.size, 1, none⟩ = some (.int .i64 0) := hres.cell 1
            have f0 := hres.frozen 0
            have f1 := hres.frozen 1
            have HP := Lib.hid hp
            have HOUT := Lib.hid hout
            have HBL2 := Lib.hid hbl
            clear hp hout hres hbl ht
            go_wp2
            have eT : (T : Int) = ((allBits xs).length : Int) := by rw [HT.out]
            have hpk : packF m (bitF (allBits xs)) = pack (allBits xs) := by unfold pack; rw [HM.out, HT.out]
            have hpl : (pack (allBits xs)).length = m := by rw [pack_length, HM.out, HT.out]
            refine bodyPost_ret (v := .tuple #[.agg #[.slice (some ⟨_, 0, none⟩) m m, .int .i64 (T : Int)], .int .i64 0]) (by simp [results, Try.results21, go_sem, z0, z1]; rfl) rfl ⟨?_, .inr (.inr ⟨HO.out, by rw [← HS.out]; omega, _, rfl, ?_⟩)⟩
            · exact (HBL2.out.setCell (by simp) _).setCell (by simp) _
            · have hb := HOUT.out
              rw [hpk] at hb
              exact ⟨_, by rw [eT, hpl], Nat.le_of_lt hgw, (hb.far (by simp; omega) _).far (by simp; omega) _, by have := HT.out; omega⟩
theorem JoinPostN.plain {w w' : World} {xs : List It} {e : Ending} (h : JoinPostN w xs e w') : JoinPost w xs e w' := by
  obtain ⟨hb, h | h | ⟨h1, h2, v, h3, h4⟩⟩ := h
  · exact ⟨hb, .inl h⟩
  · exact ⟨hb, .inr (.inl h)⟩
  · exact ⟨hb, .inr (.inr ⟨h1, h2, v, h3, h4.isB⟩)⟩
theorem join_any (AL : Option Addr) (n cap : Nat) (xs : List It) (w : World) (hn : n ≤ 1000000) (hR : Hid (RdL w AL n xs)) :
    Calls Try.prog 21 #[.slice AL n cap] w (JoinPost w xs) :=
  (joinN_any AL n cap xs w hn hR).mono fun _ _ h => h.plain

end Go.Proofs.Ythaannpkgljngaa
