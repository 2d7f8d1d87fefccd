/-
  Own texts, laid together: Sc.
-/
import Derived.Test.YtplfcncibmgllaaDoorSb
import Derived.Test.YtplfcncibmgllaaDoorLen
import Derived.Lib.Mul64
import Derived.Laws.Externs
import Derived.Laws.Bits64b
import Derived.Deep.WholeRow
/- Sc -/
namespace Go.Proofs.YtplfcncibmgllaaDoor.Fx
open Go.RowKit
theorem low32 (a : Nat) (ha : a < 18446744073709551616) : bits BinOp.and IntKind.u64 (a : Int) 4294967295 = ((a % 4294967296 : Nat) : Int) := by
  have h := u64_and_nat a 4294967295 ha (by omega)
  rw [show a &&& 4294967295 = a % 4294967296 from Nat.and_two_pow_sub_one_eq_mod a 32] at h
  exact h
set_option maxHeartbeats 1000000 in
theorem mul64_any (x y h l : Nat) (w : World) (hx : x < 18446744073709551616) (hy : y < 18446744073709551616) (hh : Hid (x * y / 18446744073709551616 = h)) (hl : Hid (x * y % 18446744073709551616 = l)) :
    Calls Tryd.prog 42 #[.int .u64 (x : Int), .int .u64 (y : Int)] w fun e w' => e = .returned (.tuple #[.int .u64 (h : Int), .int .u64 (l : Int)]) ∧ w = w' := by
  obtain ⟨bd, bt, bw, hhi⟩ := Lib.mul64_hi x y hx hy
  have b1 := Lib.half_mul_le (a := x / 4294967296) (b := y / 4294967296) (by omega) (by omega)
  have b2 := Lib.half_mul_le (a := x / 4294967296) (b := y % 4294967296) (by omega) (by omega)
  have b3 := Lib.half_mul_le (a := x % 4294967296) (b := y / 4294967296) (by omega) (by omega)
  have b4 := Lib.half_mul_le (a := x % 4294967296) (b := y % 4294967296) (by omega) (by omega)
  rw [hh.out] at hhi
  have m1 := low32 x hx
  have m2 := low32 y hy
  have d1 : (x : Int) / 4294967296 = ((x / 4294967296 : Nat) : Int) := by omega
  have d2 : (y : Int) / 4294967296 = ((y / 4294967296 : Nat) : Int) := by omega
  generalize x % 4294967296 = x0 at *
  generalize x / 4294967296 = x1 at *
  generalize y % 4294967296 = y0 at *
  generalize y / 4294967296 = y1 at *
  have p1 : (x1 : Int) * (y1 : Int) = ((x1 * y1 : Nat) : Int) := by simp
  have p2 : (x1 : Int) * (y0 : Int) = ((x1 * y0 : Nat) : Int) := by simp
  have p3 : (x0 : Int) * (y1 : Int) = ((x0 * y1 : Nat) : Int) := by simp
  have p4 : (x0 : Int) * (y0 : Int) = ((x0 * y0 : Nat) : Int) := by simp
  generalize x1 * y1 = A at *
  generalize x1 * y0 = B at *
  generalize x0 * y1 = C at *
  generalize x0 * y0 = D at *
  obtain ⟨T, hT⟩ : ∃ T, B + D / 4294967296 = T := ⟨_, rfl⟩
  rw [hT] at hhi bt bw
  have e1 : (B : Int) + (D : Int) / 4294967296 = (T : Int) := by omega
  have m3 := low32 T bt
  obtain ⟨U, hU⟩ : ∃ U, T % 4294967296 + C = U := ⟨_, rfl⟩
  rw [hU] at hhi bw
  have e2 : ((T % 4294967296 : Nat) : Int) + (C : Int) = (U : Int) := by omega
  have e3 : (A : Int) + (T : Int) / 4294967296 + (U : Int) / 4294967296 = (h : Int) := by omega
  have hp : (x : Int) * (y : Int) % 18446744073709551616 = (l : Int) := by rw [← hl.out]; simp
  have b5 : A + T / 4294967296 + U / 4294967296 < 18446744073709551616 := by omega
  have HHI := Lib.hid hhi
  have E3 := Lib.hid e3
  clear hhi hT hU e3
  generalize T % 4294967296 = T0 at *
  have HP := Lib.hid hp
  clear hp
  go_enter Tryd.func42, Tryd.ntmps42
  go_wp2
  rw [E3.out, show IntKind.u64.wrap ((x : Int) * (y : Int)) = (l : Int) by rw [IntKind.wrap_u64]; exact HP.out]
  go_ret2
  exact ⟨rfl, rfl⟩
/-- the law of a call of Add64 -/
theorem add64_is (x y : Nat) (w : World) :
    (callFunc 43 #[.int .u64 (x : Int), .int .u64 (y : Int), .int .u64 0]).run Tryd.prog w =
      .ok (.value (.tuple #[.int .u64 (((x + y) % 18446744073709551616 : Nat) : Int), .int .u64 (((x + y) / 18446744073709551616 : Nat) : Int)])) w := by
  rw [run_callFunc_extern Tryd.func43 (by kernel_rfl) (by kernel_rfl) (by kernel_rfl) (e := add64Entry) (by kernel_rfl), run_add64 x y 0 (by omega) (by omega) (by omega) (by omega)]
  simp only [Result.andThen]
  congr 5 <;> omega
/-- words as cells -/
def uV (n : Nat) : Value := .int .u64 (n : Int)
def ucells (l : List Nat) : Array Value := (l.map uV).toArray
theorem ucells_get {l : List Nat} {i x : Nat} (h : l[i]? = some x) : (ucells l)[i]? = some (.int .u64 (x : Int)) := by simp [ucells, h, uV]
theorem ucells_set (l : List Nat) (i x : Nat) : (ucells l).setIfInBounds i (.int .u64 (x : Int)) = ucells (l.set i x) := by
  simp [ucells, List.map_set, uV]
/-- the number that words are, the lowest first -/
def valW : List Nat → Nat
  | [] => 0
  | x :: l => x + 18446744073709551616 * valW l
theorem valW_snoc (l : List Nat) (x : Nat) : valW (l ++ [x]) = valW l + 18446744073709551616 ^ l.length * x := by
  induction l with
  | nil => simp [valW]
  | cons y l ih =>
    simp only [List.cons_append, valW, ih, List.length_cons, Nat.pow_succ]
    rw [Nat.mul_add, Nat.mul_comm (18446744073709551616 ^ l.length) 18446744073709551616, ← Nat.mul_assoc]
    omega
theorem valW_lt (l : List Nat) (h : ∀ x ∈ l, x < 18446744073709551616) : valW l < 18446744073709551616 ^ l.length := by
  induction l with
  | nil => simp [valW]
  | cons y l ih =>
    have h1 := ih (fun x hx => h x (by simp [hx]))
    have h2 := h y (by simp)
    simp only [valW, List.length_cons, Nat.pow_succ]
    omega
theorem list8 {l : List Nat} (h : l.length = 8) : ∃ a0 a1 a2 a3 a4 a5 a6 a7, l = [a0, a1, a2, a3, a4, a5, a6, a7] := by
  match l, h with
  | [a0, a1, a2, a3, a4, a5, a6, a7], _ => exact ⟨a0, a1, a2, a3, a4, a5, a6, a7, rfl⟩
theorem index8 (a0 a1 a2 a3 a4 a5 a6 a7 k x : Nat) (h : [a0, a1, a2, a3, a4, a5, a6, a7][k]? = some x) (w : World) :
    (Instr.index 66 (.agg #[uV a0, uV a1, uV a2, uV a3, uV a4, uV a5, uV a6, uV a7]) (.int .i64 (k : Int))).run Tryd.prog w = .ok (.int .u64 (x : Int)) w := by
  match k, h with
  | 0, h => cases h; rfl
  | 1, h => cases h; rfl
  | 2, h => cases h; rfl
  | 3, h => cases h; rfl
  | 4, h => cases h; rfl
  | 5, h => cases h; rfl
  | 6, h => cases h; rfl
  | 7, h => cases h; rfl
/-- one word more -/
theorem times_step (n v k x y c h l s o : Nat) (hx : x < 18446744073709551616) (hn : n < 18446744073709551616) (hc : c < 18446744073709551616)
    (hi : v + 18446744073709551616 ^ k * c = n * y) (hh : x * n / 18446744073709551616 = h) (hl : x * n % 18446744073709551616 = l) (hs : (l + c) % 18446744073709551616 = s) (ho : (l + c) / 18446744073709551616 = o) :
    h + o < 18446744073709551616 ∧ v + 18446744073709551616 ^ k * s + 18446744073709551616 ^ (k + 1) * (h + o) = n * (y + 18446744073709551616 ^ k * x) := by
  have e1 : 18446744073709551616 * h + l = x * n := by omega
  have e2 : 18446744073709551616 * (h + o) + s = x * n + c := by omega
  constructor
  · have := Nat.mul_le_mul (show x ≤ 18446744073709551615 by omega) (show n ≤ 18446744073709551615 by omega)
    omega
  · rw [Nat.pow_succ]
    generalize 18446744073709551616 ^ k = P at *
    have e3 : P * s + P * 18446744073709551616 * (h + o) = P * (x * n) + P * c := by rw [← Nat.mul_add, ← e2, Nat.mul_assoc, ← Nat.mul_add]; congr 1; omega
    have e4 : n * (y + P * x) = n * y + P * (x * n) := by rw [Nat.mul_add]; congr 1; rw [← Nat.mul_assoc, Nat.mul_comm n P, Nat.mul_assoc, Nat.mul_comm n x]
    generalize P * 18446744073709551616 * (h + o) = Q at *
    omega
theorem take_snocW (l : List Nat) (k x : Nat) (h : l[k]? = some x) : l.take (k + 1) = l.take k ++ [x] := by
  rw [List.take_add_one, h]; rfl
def TmS (w : World) (g : Nat) (us ns : List Nat) (wr : World) : Prop :=
  Blk wr g 66 (ucells (ns ++ us.drop ns.length)) ∧ (∃ Z, Blk wr (g + 1) 66 (ucells Z) ∧ Z.length = 8) ∧ Below g w wr
theorem set_mid (us ns : List Nat) (x : Nat) (h : ns.length < us.length) : (ns ++ us.drop ns.length).set ns.length x = (ns ++ [x]) ++ us.drop (ns ++ [x]).length := by
  rw [List.set_append_right _ _ (by omega), Nat.sub_self]
  have e : us.drop ns.length = us[ns.length] :: us.drop (ns.length + 1) := List.drop_eq_getElem_cons h
  rw [e]
  simp only [List.set_cons_zero, List.append_assoc, List.cons_append, List.nil_append, List.length_append, List.length_cons, List.length_nil, Nat.zero_add]
theorem TmS.put {w : World} {g : Nat} {us ns : List Nat} {wr : World} (h : TmS w g us ns wr) (hl : ns.length < us.length) (x : Nat) : TmS w g us (ns ++ [x]) (wr.setCell ⟨g, ns.length, none⟩ (.int .u64 (x : Int))) := by
  obtain ⟨h1, ⟨Z, h2, h3⟩, h4⟩ := h
  refine ⟨?_, ⟨Z, h2.far (by simp) _, h3⟩, h4.setCell (Nat.le_refl _) _⟩
  have := h1.set_ ns.length (.int .u64 (x : Int))
  rw [ucells_set, set_mid us ns x hl] at this
  exact this
theorem tms_start (w : World) (us : List Nat) (c : Array Value) (hc : c = ucells us) : TmS w w.heap.size us [] ((w.alloc (.cells c 66)).alloc (.cells (ucells [0, 0, 0, 0, 0, 0, 0, 0]) 66)) := by
  subst hc
  refine ⟨?_, ⟨[0, 0, 0, 0, 0, 0, 0, 0], ?_, rfl⟩, ((Below.refl _ _).alloc (Nat.le_refl _) _).alloc (by simp) _⟩
  · simpa using (Blk.new w 66 (ucells us)).alloc _
  · exact Blk.newAt (by simp)
/-- eight cells, one by one -/
theorem blk8 {w : World} {g : Nat} {t : TypeId} {b0 b1 b2 b3 b4 b5 b6 b7 : Nat} (h : Blk w g t (ucells [b0, b1, b2, b3, b4, b5, b6, b7])) :
    w.cell? ⟨g, 0, none⟩ = some (.int .u64 (b0 : Int)) ∧ w.cell? ⟨g, 1, none⟩ = some (.int .u64 (b1 : Int)) ∧ w.cell? ⟨g, 2, none⟩ = some (.int .u64 (b2 : Int)) ∧ w.cell? ⟨g, 3, none⟩ = some (.int .u64 (b3 : Int)) ∧ w.cell? ⟨g, 4, none⟩ = some (.int .u64 (b4 : Int)) ∧ w.cell? ⟨g, 5, none⟩ = some (.int .u64 (b5 : Int)) ∧ w.cell? ⟨g, 6, none⟩ = some (.int .u64 (b6 : Int)) ∧ w.cell? ⟨g, 7, none⟩ = some (.int .u64 (b7 : Int)) :=
  ⟨h.cell 0, h.cell 1, h.cell 2, h.cell 3, h.cell 4, h.cell 5, h.cell 6, h.cell 7⟩
theorem fz8 {w : World} {g : Nat} {t : TypeId} {c : Array Value} (h : Blk w g t c) :
    w.frozen? ⟨g, 0, none⟩ = false ∧ w.frozen? ⟨g, 1, none⟩ = false ∧ w.frozen? ⟨g, 2, none⟩ = false ∧ w.frozen? ⟨g, 3, none⟩ = false ∧ w.frozen? ⟨g, 4, none⟩ = false ∧ w.frozen? ⟨g, 5, none⟩ = false ∧ w.frozen? ⟨g, 6, none⟩ = false ∧ w.frozen? ⟨g, 7, none⟩ = false :=
  ⟨h.frozen 0, h.frozen 1, h.frozen 2, h.frozen 3, h.frozen 4, h.frozen 5, h.frozen 6, h.frozen 7⟩
theorem _root_.Go.Proofs.YtplfcncibmgllaaDoor.Blk.putU {w : World} {g : Nat} {t : TypeId} {l : List Nat} (h : Blk w g t (ucells l)) (i x : Nat) : Blk (w.setCell ⟨g, i, none⟩ (.int .u64 (x : Int))) g t (ucells (l.set i x)) := by
  have := h.set_ i (.int .u64 (x : Int))
  rwa [ucells_set] at this
/-- eight cells written, one by one -/
theorem put8 {w0 w : World} {B g : Nat} {t : TypeId} {z0 z1 z2 z3 z4 z5 z6 z7 : Nat} (b0 b1 b2 b3 b4 b5 b6 b7 : Nat) (h : Blk w g t (ucells [z0, z1, z2, z3, z4, z5, z6, z7])) (hb : Below B w0 w) (hg : B ≤ g) :
    Blk ((((((((w.setCell ⟨g, 0, none⟩ (.int .u64 (b0 : Int))).setCell ⟨g, 1, none⟩ (.int .u64 (b1 : Int))).setCell ⟨g, 2, none⟩ (.int .u64 (b2 : Int))).setCell ⟨g, 3, none⟩ (.int .u64 (b3 : Int))).setCell ⟨g, 4, none⟩ (.int .u64 (b4 : Int))).setCell ⟨g, 5, none⟩ (.int .u64 (b5 : Int))).setCell ⟨g, 6, none⟩ (.int .u64 (b6 : Int))).setCell ⟨g, 7, none⟩ (.int .u64 (b7 : Int))) g t (ucells [b0, b1, b2, b3, b4, b5, b6, b7]) ∧
    Below B w0 ((((((((w.setCell ⟨g, 0, none⟩ (.int .u64 (b0 : Int))).setCell ⟨g, 1, none⟩ (.int .u64 (b1 : Int))).setCell ⟨g, 2, none⟩ (.int .u64 (b2 : Int))).setCell ⟨g, 3, none⟩ (.int .u64 (b3 : Int))).setCell ⟨g, 4, none⟩ (.int .u64 (b4 : Int))).setCell ⟨g, 5, none⟩ (.int .u64 (b5 : Int))).setCell ⟨g, 6, none⟩ (.int .u64 (b6 : Int))).setCell ⟨g, 7, none⟩ (.int .u64 (b7 : Int))) :=
  ⟨(((((((h.putU 0 b0).putU 1 b1).putU 2 b2).putU 3 b3).putU 4 b4).putU 5 b5).putU 6 b6).putU 7 b7,
    (((((((hb.setCell hg _).setCell hg _).setCell hg _).setCell hg _).setCell hg _).setCell hg _).setCell hg _).setCell hg _⟩
def TmP (w : World) (n : Nat) (us : List Nat) (e : Ending) (w' : World) : Prop :=
  ∃ ns, e = .returned (.agg (ucells ns)) ∧ ns.length = 8 ∧ (∀ x ∈ ns, x < 18446744073709551616) ∧ valW ns = n * valW us ∧ Below w.heap.size w w'
set_option maxRecDepth 100000 in
set_option maxHeartbeats 1000000 in
theorem times_any (us : List Nat) (n : Nat) (w : World) (hn : n < 18446744073709551616) (hl : us.length = 8) (ha : Hid (∀ x ∈ us, x < 18446744073709551616)) (hv : Hid (n * valW us < 18446744073709551616 ^ 8)) :
    Calls Tryd.prog 40 #[.agg (ucells us), .int .u64 (n : Int)] w (TmP w n us) := by
  obtain ⟨a0, a1, a2, a3, a4, a5, a6, a7, has⟩ := list8 hl
  have HC := Lib.hid (show #[uV a0, uV a1, uV a2, uV a3, uV a4, uV a5, uV a6, uV a7] = ucells us by rw [has]; rfl)
  rw [show ucells us = #[uV a0, uV a1, uV a2, uV a3, uV a4, uV a5, uV a6, uV a7] from HC.out.symm]
  have H0 := Lib.hid (tms_start w us _ HC.out)
  have HIX := Lib.hid (show ∀ k x : Nat, us[k]? = some x → ∀ w, (Instr.index 66 (.agg #[uV a0, uV a1, uV a2, uV a3, uV a4, uV a5, uV a6, uV a7]) (.int .i64 (k : Int))).run Tryd.prog w = .ok (.int .u64 (x : Int)) w from by
    subst has; exact fun k x h w => index8 a0 a1 a2 a3 a4 a5 a6 a7 k x h w)
  have HL := Lib.hid hl
  clear has hl
  go_enter Tryd.func40, Tryd.ntmps40
  go_wp2_with fail
  rw [show ucells [0, 0, 0, 0, 0, 0, 0, 0] = #[Value.int IntKind.u64 0, Value.int IntKind.u64 0, Value.int IntKind.u64 0, Value.int IntKind.u64 0, Value.int IntKind.u64 0, Value.int IntKind.u64 0, Value.int IntKind.u64 0, Value.int IntKind.u64 0] from rfl] at H0
  generalize (w.alloc _).alloc _ = w0 at H0 ⊢
  obtain ⟨g, hg⟩ : ∃ g, g = w.heap.size := ⟨_, rfl⟩
  rw [← hg] at H0 ⊢
  have HG := Lib.hid hg
  clear hg HC
  go_loopw [5, 13] (fun vc vi wr => ∃ (c : Nat) (ns : List Nat), vc = .int .u64 (c : Int) ∧ vi = .int .i64 (ns.length : Int) ∧ ns.length ≤ 8 ∧ c < 18446744073709551616 ∧ Hid (TmS w g us ns wr) ∧ Hid ((∀ x ∈ ns, x < 18446744073709551616) ∧ valW ns + 18446744073709551616 ^ ns.length * c = n * valW (us.take ns.length))) (fun _ vi _ => 8 - (intOf vi).toNat)
  case atStart => exact ⟨0, [], rfl, rfl, by simp, by omega, H0, Lib.hid ⟨by simp, by simp [valW]⟩⟩
  case round =>
    obtain ⟨c, ns, rfl, rfl, hk, hc, HS, HV⟩ := hrel
    obtain ⟨k, hkk⟩ : ∃ k, ns.length = k := ⟨_, rfl⟩
    rw [hkk] at hk ⊢
    have HK := Lib.hid hkk
    clear hkk
    by_cases hlt : k < 8
    · obtain ⟨x, hx⟩ : ∃ x, us[k]? = some x := ⟨_, List.getElem?_eq_getElem (by rw [HL.out]; exact hlt)⟩
      have hix := HIX.out k x hx
      have HX := Lib.hid hx
      have x64 : x < 18446744073709551616 := ha.out x (List.mem_of_getElem? hx)
      clear hx
      obtain ⟨h, hh⟩ : ∃ h, x * n / 18446744073709551616 = h := ⟨_, rfl⟩
      obtain ⟨l, hl⟩ : ∃ l, x * n % 18446744073709551616 = l := ⟨_, rfl⟩
      obtain ⟨s, hs⟩ : ∃ s, (l + c) % 18446744073709551616 = s := ⟨_, rfl⟩
      obtain ⟨o, ho⟩ : ∃ o, (l + c) / 18446744073709551616 = o := ⟨_, rfl⟩
      have hst := times_step n (valW ns) k x (valW (us.take k)) c h l s o x64 hn hc (by have := HV.out.2; rw [HK.out] at this; exact this) hh hl hs ho
      have HH := Lib.hid hh
      have HLL := Lib.hid hl
      have hadd := fun w => add64_is l c w
      rw [hs, ho] at hadd
      have s64 : s < 18446744073709551616 := by omega
      have ho64 := hst.1
      have HST := Lib.hid hst.2
      clear hh hl hs ho hst
      obtain ⟨old, hold⟩ : ∃ old, wr.cell? ⟨g, k, none⟩ = some old := by
        have e := HS.out.1.cell k
        have hlen : (ns ++ us.drop ns.length).length = 8 := by have := HL.out; have := HK.out; simp; omega
        obtain ⟨y, hy⟩ : ∃ y, (ns ++ us.drop ns.length)[k]? = some y := ⟨_, List.getElem?_eq_getElem (by omega)⟩
        exact ⟨_, e.trans (ucells_get hy)⟩
      have hfz := HS.out.1.frozen k
      go_wp2_with fail
      refine (mul64_any x n h l _ x64 hn HH HLL).mono ?_
      rintro e w' ⟨rfl, rfl⟩
      go_wp2
      clear hadd hix hfz hold
      go_roundw
      case rel =>
        refine ⟨h + o, ns ++ [s], by go_num, by rw [List.length_append, HK.out]; go_num, by rw [List.length_append, HK.out]; simp; omega, ho64, ?_, ?_⟩
        · have := HS.out.put (by have := HL.out; have := HK.out; omega) s
          rw [HK.out] at this
          exact Lib.hid this
        · refine Lib.hid ⟨?_, ?_⟩
          · intro x hx
            rcases List.mem_append.1 hx with hx | hx
            · exact HV.out.1 x hx
            · rw [List.mem_singleton.1 hx]; exact s64
          · rw [valW_snoc, List.length_append, HK.out, show k + [s].length = k + 1 from rfl, take_snocW us k x HX.out, valW_snoc, List.length_take, show min k us.length = k by have := HL.out; omega]
            exact HST.out
      case measure => simp [intOf]; omega
    · obtain rfl : k = 8 := by omega
      obtain ⟨b0, b1, b2, b3, b4, b5, b6, b7, hns⟩ := list8 HK.out
      have HB : Hid (Blk wr g 66 (ucells [b0, b1, b2, b3, b4, b5, b6, b7])) := by
        have := HS.out.1
        rw [HK.out, List.drop_eq_nil_of_le (by rw [HL.out]; omega), List.append_nil, hns] at this
        exact Lib.hid this
      obtain ⟨Z, hZ, hZ8⟩ := HS.out.2.1
      obtain ⟨z0, z1, z2, z3, z4, z5, z6, z7, hz⟩ := list8 hZ8
      rw [hz] at hZ
      have HZ := Lib.hid hZ
      obtain ⟨x0, x1, x2, x3, x4, x5, x6, x7⟩ := blk8 HB.out
      obtain ⟨y0, y1, y2, y3, y4, y5, y6, y7⟩ := blk8 hZ
      obtain ⟨f0, f1, f2, f3, f4, f5, f6, f7⟩ := fz8 hZ
      have HNS := Lib.hid hns
      clear hZ hZ8 hz hns
      go_wp2_with fail
      have HW := Lib.hid (put8 b0 b1 b2 b3 b4 b5 b6 b7 HZ.out HS.out.2.2 (show g ≤ g + 1 by omega))
      generalize World.setCell _ _ _ = w9 at HW ⊢
      clear x0 x1 x2 x3 x4 x5 x6 x7 y0 y1 y2 y3 y4 y5 y6 y7 f0 f1 f2 f3 f4 f5 f6 f7
      obtain ⟨x0, x1, x2, x3, x4, x5, x6, x7⟩ := blk8 HW.out.1
      refine bodyPost_ret (v := .agg (ucells [b0, b1, b2, b3, b4, b5, b6, b7])) (by simp [results, Tryd.results40, go_sem, x0, x1, x2, x3, x4, x5, x6, x7, ucells, uV]) rfl ?_
      refine ⟨_, rfl, rfl, by rw [← HNS.out]; exact HV.out.1, ?_, by rw [← HG.out]; exact HW.out.2⟩
      have hvv := HV.out.2
      rw [HK.out, List.take_of_length_le (by rw [HL.out]; omega)] at hvv
      rw [← HNS.out]
      have h8 := hv.out
      have hc0 : c = 0 := by
        rcases Nat.eq_zero_or_pos c with h | h
        · exact h
        · have := Nat.mul_le_mul_left (18446744073709551616 ^ 8) h
          omega
      rw [hc0] at hvv
      omega
end Go.Proofs.YtplfcncibmgllaaDoor.Fx
