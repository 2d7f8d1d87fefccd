/-
  Own texts, laid together: Sd.
-/
import Derived.Test.YtplfcncibmgllaaDoorSc
import Derived.Lib.ItoaNum
/- Sd -/
namespace Go.Proofs.YtplfcncibmgllaaDoor.Fx
open Go.RowKit
theorem log2_is {n k : Nat} (h1 : 2 ^ k ≤ n) (h2 : n < 2 ^ (k + 1)) : n.log2 = k :=
  (Nat.log2_eq_iff (by have : 0 < 2 ^ k := Nat.pow_pos (by omega); omega)).2 ⟨h1, h2⟩
theorem log2_in {n : Nat} (h : 0 < n) : 2 ^ n.log2 ≤ n ∧ n < 2 ^ (n.log2 + 1) := (Nat.log2_eq_iff (by omega)).1 rfl
theorem bitLen_log {x : Nat} (h : 0 < x) (hx : x < 18446744073709551616) : Lib.bitLen x = x.log2 + 1 := by
  obtain ⟨h1, h2, h3⟩ := Lib.bitLenAux_bounds 64 x hx (by omega)
  have e := log2_is (n := x) (k := Lib.bitLenAux 64 x - 1) h2 (by rw [show Lib.bitLenAux 64 x - 1 + 1 = Lib.bitLenAux 64 x by omega]; exact h3)
  show Lib.bitLenAux 64 x = _
  omega
/-- a number's logarithm, shifted, with something behind -/
theorem log2_shift {x s r : Nat} (h : 0 < x) (hr : r < 2 ^ s) : (r + 2 ^ s * x).log2 = s + x.log2 := by
  obtain ⟨h1, h2⟩ := log2_in h
  refine log2_is ?_ ?_
  · rw [Nat.pow_add]
    exact Nat.le_trans (Nat.mul_le_mul_left _ h1) (by omega)
  · have h3 : 2 ^ s * (x + 1) ≤ 2 ^ s * 2 ^ (x.log2 + 1) := Nat.mul_le_mul_left _ h2
    rw [Nat.add_assoc, Nat.pow_add]
    rw [Nat.mul_add] at h3
    omega
theorem pow64 (k : Nat) : 18446744073709551616 ^ k = 2 ^ (64 * k) := by rw [Nat.pow_mul]
theorem valW_append (l m : List Nat) : valW (l ++ m) = valW l + 18446744073709551616 ^ l.length * valW m := by
  induction l with
  | nil => simp [valW]
  | cons y l ih =>
    simp only [List.cons_append, valW, ih, List.length_cons, Nat.pow_succ]
    rw [Nat.mul_add, Nat.mul_comm (18446744073709551616 ^ l.length) 18446744073709551616, ← Nat.mul_assoc]
    omega
theorem valW_zero (l : List Nat) (h : ∀ x ∈ l, x = 0) : valW l = 0 := by
  induction l with
  | nil => rfl
  | cons y l ih => simp only [valW]; rw [h y (by simp), ih (fun x hx => h x (by simp [hx]))]
/-- the highest word that is not 0 -/
theorem log2_words {us : List Nat} {j x : Nat} (hx : us[j]? = some x) (h0 : 0 < x) (hb : ∀ y ∈ us, y < 18446744073709551616) (hz : ∀ y ∈ us.drop (j + 1), y = 0) : (valW us).log2 = 64 * j + x.log2 := by
  have hj : j < us.length := by
    rcases Nat.lt_or_ge j us.length with h | h
    · exact h
    · rw [List.getElem?_eq_none h] at hx; cases hx
  have e : us = us.take j ++ ([x] ++ us.drop (j + 1)) := by
    rw [← List.append_assoc, ← take_snocW us j x hx, List.take_append_drop]
  have hl : (us.take j).length = j := by rw [List.length_take]; omega
  have hv : valW us = valW (us.take j) + 2 ^ (64 * j) * x := by
    conv => lhs; rw [e]
    rw [valW_append, valW_append, valW_zero _ hz, hl, pow64]
    simp [valW]
  have hlt := valW_lt (us.take j) (fun y hy => hb y (List.mem_of_mem_take hy))
  rw [hl, pow64] at hlt
  rw [hv, log2_shift h0 hlt]
theorem words_drop {us : List Nat} {j x : Nat} (hx : us[j]? = some x) (h0 : x = 0) (hz : ∀ y ∈ us.drop (j + 1), y = 0) : ∀ y ∈ us.drop j, y = 0 := by
  intro y hy
  have hj : j < us.length := by
    rcases Nat.lt_or_ge j us.length with h | h
    · exact h
    · rw [List.getElem?_eq_none h] at hx; cases hx
  have e : us.drop j = us[j] :: us.drop (j + 1) := List.drop_eq_getElem_cons hj
  rw [e] at hy
  rcases List.mem_cons.1 hy with h | h
  · rw [h]; rw [List.getElem?_eq_getElem hj] at hx; injection hx with hx; rw [hx, h0]
  · exact hz y h
set_option maxRecDepth 100000 in
set_option maxHeartbeats 1000000 in
theorem length_any (us : List Nat) (w : World) (hl : us.length = 8) (ha : Hid (∀ x ∈ us, x < 18446744073709551616)) (hv : Hid (0 < valW us)) :
    Calls Tryd.prog 39 #[.agg (ucells us)] w fun e w' => e = .returned (.int .i64 (((valW us).log2 + 1 : Nat) : Int)) ∧ Below w.heap.size w w' := by
  obtain ⟨a0, a1, a2, a3, a4, a5, a6, a7, has⟩ := list8 hl
  have HC := Lib.hid (show #[uV a0, uV a1, uV a2, uV a3, uV a4, uV a5, uV a6, uV a7] = ucells us by rw [has]; rfl)
  rw [show ucells us = #[uV a0, uV a1, uV a2, uV a3, uV a4, uV a5, uV a6, uV a7] from HC.out.symm]
  have H0 := Lib.hid (show Blk (w.alloc (.cells #[uV a0, uV a1, uV a2, uV a3, uV a4, uV a5, uV a6, uV a7] 66)) w.heap.size 66 (ucells us) from by rw [← HC.out]; exact Blk.new w _ _)
  have HB := Lib.hid (show Below w.heap.size w (w.alloc (.cells #[uV a0, uV a1, uV a2, uV a3, uV a4, uV a5, uV a6, uV a7] 66)) from (Below.refl _ _).alloc (Nat.le_refl _) _)
  have HL := Lib.hid hl
  obtain ⟨V, hV⟩ : ∃ V, (valW us).log2 = V := ⟨_, rfl⟩
  rw [hV]
  have HVV := Lib.hid hV
  clear has hl hV HC
  go_enter Tryd.func39, Tryd.ntmps39
  go_wp2_with fail
  generalize w.alloc _ = w0 at H0 HB ⊢
  obtain ⟨g, hg⟩ : ∃ g, g = w.heap.size := ⟨_, rfl⟩
  rw [← hg] at H0 ⊢
  have HG := Lib.hid hg
  clear hg
  go_loopw [3] (fun vi wr => ∃ k : Nat, vi = .int .i64 ((k : Int) - 1) ∧ k ≤ 8 ∧ Hid (∀ y ∈ us.drop k, y = 0) ∧ wr = w0) (fun vi _ => ((intOf vi) + 1).toNat)
  case atStart => exact ⟨8, rfl, by omega, Lib.hid (by rw [List.drop_eq_nil_of_le (by rw [HL.out]; omega)]; simp), rfl⟩
  case round =>
    obtain ⟨k, rfl, hk, HZ, rfl⟩ := hrel
    cases k with
    | zero =>
      exact absurd (valW_zero us HZ.out) (by have := hv.out; omega)
    | succ k =>
      rw [show (((k + 1 : Nat) : Int) - 1) = (k : Int) by omega]
      obtain ⟨x, hx⟩ : ∃ x, us[k]? = some x := ⟨_, List.getElem?_eq_getElem (by rw [HL.out]; omega)⟩
      have hcell := (H0.out.cell k).trans (ucells_get hx)
      have x64 : x < 18446744073709551616 := ha.out x (List.mem_of_getElem? hx)
      have HX := Lib.hid hx
      clear hx
      by_cases h0 : x = 0
      · subst h0
        go_wp2
        go_roundw
        case rel => exact ⟨k, by go_num, by omega, Lib.hid (words_drop HX.out rfl HZ.out), trivial⟩
        case measure => simp [intOf]
      · have hb := bitLen_log (by omega) x64
        have hlog := log2_words HX.out (by omega) ha.out HZ.out
        rw [HVV.out] at hlog
        have hx64 : x.log2 < 64 := (Nat.log2_lt (by omega)).2 x64
        generalize x.log2 = L at hb hlog hx64
        have HBL := Lib.hid hb
        have HLG := Lib.hid hlog
        have h0' : ((x : Int) != 0) = true := by simp; omega
        clear hb hlog
        go_wp2_with fail
        refine (len64_any (x : Int) _ (by omega) (by omega)).mono ?_
        rintro e w' ⟨rfl, rfl⟩
        rw [show ((x : Int).toNat) = x from rfl, HBL.out]
        go_wp2
        go_ret
        exact ⟨by rw [HLG.out]; exact congrArg Ending.returned (congrArg (Value.int IntKind.i64) (by omega)), HB.out⟩
/-- what eighthPower keeps -/
def EpS (w : World) (g : Nat) (us : List Nat) (wr : World) : Prop :=
  Blk wr (g + 1) 66 (ucells us) ∧ (∃ Z, Blk wr g 66 (ucells Z) ∧ Z.length = 8) ∧ Below g w wr ∧ us.length = 8 ∧ ∀ x ∈ us, x < 18446744073709551616
theorem EpS.next {w : World} {g : Nat} {us : List Nat} {u u' : World} (h : EpS w g us u) (hb : Below u.heap.size u u') (hg : g ≤ u.heap.size) : EpS w g us u' := by
  obtain ⟨h1, ⟨Z, h2, h3⟩, h4, h5⟩ := h
  exact ⟨h1.below hb h1.lt, ⟨Z, h2.below hb h2.lt, h3⟩, h4.trans (hb.mono hg), h5⟩
def EpP (w : World) (V : Nat) (e : Ending) (w' : World) : Prop :=
  ∃ us, e = .returned (.agg (ucells us)) ∧ us.length = 8 ∧ (∀ x ∈ us, x < 18446744073709551616) ∧ valW us = V ∧ Below w.heap.size w w'
theorem eps_start (w : World) : EpS w w.heap.size [1, 0, 0, 0, 0, 0, 0, 0] ((w.alloc (.cells (ucells [0, 0, 0, 0, 0, 0, 0, 0]) 66)).alloc (.cells (ucells [1, 0, 0, 0, 0, 0, 0, 0]) 66)) := by
  refine ⟨Blk.newAt (by simp), ⟨[0, 0, 0, 0, 0, 0, 0, 0], ?_, rfl⟩, ((Below.refl _ _).alloc (Nat.le_refl _) _).alloc (by simp) _, rfl, by simp⟩
  exact (Blk.new w _ _).alloc _
theorem pow_up (n k : Nat) (hn : n < 18446744073709551616) (hk : k < 8) : n * n ^ k < 18446744073709551616 ^ 8 := by
  rw [Nat.mul_comm, ← Nat.pow_succ]
  have h1 : n ^ (k + 1) < 18446744073709551616 ^ (k + 1) := Nat.pow_lt_pow_left hn (by omega)
  have h2 : 18446744073709551616 ^ (k + 1) ≤ 18446744073709551616 ^ 8 := Nat.pow_le_pow_right (by omega) (by omega)
  exact Nat.lt_of_lt_of_le h1 h2
set_option maxRecDepth 100000 in
set_option maxHeartbeats 1000000 in
theorem eighth_any (n : Nat) (w : World) (hn : n < 18446744073709551616) :
    Calls Tryd.prog 38 #[.int .u64 (n : Int)] w (EpP w (n ^ 8)) := by
  have H0 := Lib.hid (eps_start w)
  go_enter Tryd.func38, Tryd.ntmps38
  go_wp2_with fail
  rw [show ucells [0, 0, 0, 0, 0, 0, 0, 0] = #[Value.int IntKind.u64 0, Value.int IntKind.u64 0, Value.int IntKind.u64 0, Value.int IntKind.u64 0, Value.int IntKind.u64 0, Value.int IntKind.u64 0, Value.int IntKind.u64 0, Value.int IntKind.u64 0] from rfl,
    show ucells [1, 0, 0, 0, 0, 0, 0, 0] = #[Value.int IntKind.u64 1, Value.int IntKind.u64 0, Value.int IntKind.u64 0, Value.int IntKind.u64 0, Value.int IntKind.u64 0, Value.int IntKind.u64 0, Value.int IntKind.u64 0, Value.int IntKind.u64 0] from rfl] at H0
  generalize (w.alloc _).alloc _ = w0 at H0 ⊢
  obtain ⟨g, hg⟩ : ∃ g, g = w.heap.size := ⟨_, rfl⟩
  rw [← hg] at H0 ⊢
  have HG := Lib.hid hg
  clear hg
  go_loopw [5] (fun vi wr => ∃ (k : Nat) (us : List Nat), vi = .int .i64 (k : Int) ∧ k ≤ 8 ∧ Hid (EpS w g us wr ∧ valW us = n ^ k)) (fun vi _ => 8 - (intOf vi).toNat)
  case atStart => exact ⟨0, [1, 0, 0, 0, 0, 0, 0, 0], rfl, by omega, Lib.hid ⟨H0.out, by simp [valW]⟩⟩
  case round =>
    obtain ⟨k, us, rfl, hk, HS⟩ := hrel
    clear H0
    obtain ⟨b0, b1, b2, b3, b4, b5, b6, b7, hus⟩ := list8 HS.out.1.2.2.2.1
    rw [hus] at HS
    clear hus
    obtain ⟨x0, x1, x2, x3, x4, x5, x6, x7⟩ := blk8 HS.out.1.1
    by_cases hlt : k < 8
    · go_wp2_with fail
      refine (times_any [b0, b1, b2, b3, b4, b5, b6, b7] n _ hn rfl (Lib.hid HS.out.1.2.2.2.2) (Lib.hid (by rw [HS.out.2]; exact pow_up n k hn hlt))).mono ?_
      rintro e w1 ⟨ns, rfl, hl, hb, hv, hbel⟩
      clear x0 x1 x2 x3 x4 x5 x6 x7
      obtain ⟨c0, c1, c2, c3, c4, c5, c6, c7, hns⟩ := list8 hl
      subst hns
      have H1 := Lib.hid (HS.out.1.next hbel (by have := HS.out.1.2.1.choose_spec.1.lt; omega))
      have HV := Lib.hid (show valW [c0, c1, c2, c3, c4, c5, c6, c7] = n ^ (k + 1) by rw [hv, HS.out.2, Nat.pow_succ, Nat.mul_comm])
      have HB := Lib.hid hb
      clear hl hb hv hbel HS
      obtain ⟨x0, x1, x2, x3, x4, x5, x6, x7⟩ := blk8 H1.out.1
      obtain ⟨f0, f1, f2, f3, f4, f5, f6, f7⟩ := fz8 H1.out.1
      rw [show ucells [c0, c1, c2, c3, c4, c5, c6, c7] = #[Value.int IntKind.u64 c0, Value.int IntKind.u64 c1, Value.int IntKind.u64 c2, Value.int IntKind.u64 c3, Value.int IntKind.u64 c4, Value.int IntKind.u64 c5, Value.int IntKind.u64 c6, Value.int IntKind.u64 c7] from rfl]
      go_wp2
      clear x0 x1 x2 x3 x4 x5 x6 x7 f0 f1 f2 f3 f4 f5 f6 f7
      go_roundw
      case rel =>
        have hp := put8 c0 c1 c2 c3 c4 c5 c6 c7 H1.out.1 H1.out.2.2.1 (show g ≤ g + 1 by omega)
        obtain ⟨Z, hz, hz8⟩ := H1.out.2.1
        have hz' := (((((((hz.far (p := ⟨g + 1, 0, none⟩) (by simp) (.int .u64 (c0 : Int))).far (p := ⟨g + 1, 1, none⟩) (by simp) (.int .u64 (c1 : Int))).far (p := ⟨g + 1, 2, none⟩) (by simp) (.int .u64 (c2 : Int))).far (p := ⟨g + 1, 3, none⟩) (by simp) (.int .u64 (c3 : Int))).far (p := ⟨g + 1, 4, none⟩) (by simp) (.int .u64 (c4 : Int))).far (p := ⟨g + 1, 5, none⟩) (by simp) (.int .u64 (c5 : Int))).far (p := ⟨g + 1, 6, none⟩) (by simp) (.int .u64 (c6 : Int))).far (p := ⟨g + 1, 7, none⟩) (by simp) (.int .u64 (c7 : Int))
        exact ⟨k + 1, [c0, c1, c2, c3, c4, c5, c6, c7], by go_num, by omega, Lib.hid ⟨⟨hp.1, ⟨Z, hz', hz8⟩, hp.2, rfl, HB.out⟩, HV.out⟩⟩
      case measure => simp [intOf]; omega
    · obtain rfl : k = 8 := by omega
      obtain ⟨Z, hZ, hZ8⟩ := HS.out.1.2.1
      obtain ⟨z0, z1, z2, z3, z4, z5, z6, z7, hz⟩ := list8 hZ8
      rw [hz] at hZ
      have HZ := Lib.hid hZ
      obtain ⟨y0, y1, y2, y3, y4, y5, y6, y7⟩ := blk8 hZ
      obtain ⟨f0, f1, f2, f3, f4, f5, f6, f7⟩ := fz8 hZ
      clear hZ hZ8 hz
      go_wp2_with fail
      have HW := Lib.hid (put8 b0 b1 b2 b3 b4 b5 b6 b7 HZ.out HS.out.1.2.2.1 (Nat.le_refl g))
      generalize World.setCell _ _ _ = w9 at HW ⊢
      clear x0 x1 x2 x3 x4 x5 x6 x7 y0 y1 y2 y3 y4 y5 y6 y7 f0 f1 f2 f3 f4 f5 f6 f7
      obtain ⟨x0, x1, x2, x3, x4, x5, x6, x7⟩ := blk8 HW.out.1
      refine bodyPost_ret (v := .agg (ucells [b0, b1, b2, b3, b4, b5, b6, b7])) (by simp [results, Tryd.results38, go_sem, x0, x1, x2, x3, x4, x5, x6, x7, ucells, uV]) rfl ?_
      exact ⟨_, rfl, rfl, HS.out.1.2.2.2.2, HS.out.2, by rw [← HG.out]; exact HW.out.2⟩
/-- eight times a number's logarithm, rounded down -/
def logN (n : Nat) : Nat := (n ^ 8).log2
theorem log2_words_lt {x j : Nat} (h0 : x ≠ 0) (h : x < 18446744073709551616 ^ j) : x.log2 < 64 * j := (Nat.log2_lt h0).2 (by rw [← pow64]; exact h)
theorem logN_lt (n : Nat) (hn : n < 18446744073709551616) : logN n < 512 := by
  rcases Nat.eq_zero_or_pos n with h | h
  · subst h; decide
  · have hp : n ^ 8 ≠ 0 := by have := Nat.pow_pos (n := 8) h; omega
    exact log2_words_lt (j := 8) hp (Nat.pow_lt_pow_left hn (by omega))
set_option maxHeartbeats 1000000 in
theorem log_any (n : Nat) (w : World) (hn : n < 18446744073709551616) :
    Calls Tryd.prog 33 #[.int .u64 (n : Int)] w fun e w' => e = .returned (.int .i64 (logN n : Int)) ∧ Below w.heap.size w w' := by
  by_cases h0 : n = 0
  · subst h0
    rw [show logN 0 = 0 by decide]
    go_enter Tryd.func33, Tryd.ntmps33
    go_wp2
    go_ret
    exact ⟨rfl, Below.refl _ _⟩
  · have h0' : ((n : Int) == 0) = false := by simp; omega
    have hlt := logN_lt n hn
    obtain ⟨L, hL⟩ : ∃ L, logN n = L := ⟨_, rfl⟩
    rw [hL] at hlt ⊢
    have HL := Lib.hid hL
    clear hL
    go_enter Tryd.func33, Tryd.ntmps33
    go_wp2_with fail
    refine (eighth_any n _ hn).mono ?_
    rintro e w1 ⟨us, rfl, hl, hb, hv, hbel⟩
    go_wp2_with fail
    refine (length_any us _ hl (Lib.hid hb) (Lib.hid (by rw [hv]; exact Nat.pow_pos (by omega)))).mono ?_
    rintro e w2 ⟨rfl, hbel2⟩
    rw [show (valW us).log2 + 1 = L + 1 by rw [hv, ← HL.out]; rfl]
    have HB := Lib.hid (hbel.trans (hbel2.mono hbel.size))
    clear hv hb hbel hbel2
    go_wp2
    go_ret
    exact ⟨rfl, HB.out⟩
end Go.Proofs.YtplfcncibmgllaaDoor.Fx
