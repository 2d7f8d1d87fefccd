/-
  The statement BitsBack is proved: what was put, one behind the other, is got, whatever stands ahead, and behind; for every input, without a condition.
-/
import Derived.Test.YthaannpkgljngaaOpenL
import Derived.Test.YthaannpkgljngaaBe
namespace Go.Proofs.Ythaannpkgljngaa.bitsBack
open Go.ChangeShapes Go.WideShapes Go.ChangeAt Go.RowKit Go.Joins Go.Deep

theorem cells_item : Try.prog.cellsOf 43 = 2 := by kernel_rfl
theorem list_of {α : Type} {n : Nat} {P : Nat → α → Prop} (h : ∀ i, i < n → ∃ x, P i x) : ∃ xs : List α, xs.length = n ∧ ∀ i x, xs[i]? = some x → P i x := by
  induction n with
  | zero => exact ⟨[], rfl, fun i x hx => by simp at hx⟩
  | succ n ih =>
    obtain ⟨xs, hl, hp⟩ := ih fun i hi => h i (by omega)
    obtain ⟨y, hy⟩ := h n (by omega)
    refine ⟨xs ++ [y], by simp [hl], fun i x hx => ?_⟩
    rcases Nat.lt_or_ge i xs.length with hi | hi
    · rw [List.getElem?_append_left hi] at hx
      exact hp i x hx
    · rw [List.getElem?_append_right hi] at hx
      have e : i - xs.length = 0 := by
        rcases Nat.eq_zero_or_pos (i - xs.length) with e | e
        · exact e
        · rw [List.getElem?_eq_none (by simp; omega)] at hx; cases hx
      rw [e] at hx
      simp only [List.getElem?_cons_zero, Option.some.injEq] at hx
      subst hx
      have : i = n := by omega
      subst this
      exact hy
section
variable {H : Type} {enc : TypeId × Value → H} {W : World} {base : Nat} {spare : Nat → Bool} {held : Bool}
/-- two cells that were read as an item -/
theorem open_item {fuel : Nat} {cs : List Value} {y : DataW H × List MemPlace} (h : DataW.trod enc Try.prog W base spare held fuel 43 cs = some y) :
    ∃ (V : Nat) (Wd : Int), cs = [.int .u64 (V : Int), .int .i64 Wd] ∧ V < 18446744073709551616 := by
  obtain ⟨y0, y1, m, _, hl, h0, h1⟩ := trod_struct2 Try.underlying43 h
  rw [cells_item] at hl
  match cs, hl with
  | [c0, c1], _ =>
    have h0' : DataW.trod enc Try.prog W base spare held m 25 [c0] = some y0 := h0
    have h1' : DataW.trod enc Try.prog W base spare held m 3 [c1] = some y1 := h1
    obtain ⟨V, e0, _, hw⟩ := DataW.trod_int Try.underlying25 h0'
    obtain ⟨N, e, _, _⟩ := DataW.trod_int Try.underlying3 h1'
    simp only [List.cons.injEq, and_true] at e e0
    subst e e0
    have hb := bounds_u64 hw
    refine ⟨V.toNat, N, ?_, by omega⟩
    rw [Int.toNat_of_nonneg hb.1]
theorem open_items {fuel : Nat} {cs : List Value} {y : DataW H × List MemPlace} (h : DataW.trod enc Try.prog W base spare held fuel 40 cs = some y) :
    ∃ AL n cap ls, cs = [.slice AL n cap] ∧ RdI W AL n ls := by
  rcases open_slice Try.underlying40 h with ⟨rfl, _⟩ | ⟨a, len, cap, m, k, D, Pl, rfl, _, hl, hm, hmm, _, hi⟩
  · exact ⟨none, 0, 0, [], rfl, ⟨rfl, fun h => by omega⟩⟩
  · have hlm : len ≤ m := by rw [hmm]; split <;> omega
    rw [cells_item] at hi
    obtain ⟨xs, hxl, hxs⟩ := list_of (α := Itm) (n := len) (P := fun i x => W.cell? (a.add (i * 2)) = some (.int .u64 (x.V : Int)) ∧ W.cell? ⟨(a.add (i * 2)).block, (a.add (i * 2)).off + 1, none⟩ = some (.int .i64 x.W) ∧ x.V < 18446744073709551616) (fun i hi' => by
      obtain ⟨cs', hc, ht⟩ := hi i (by omega)
      obtain ⟨V, N, rfl, hV⟩ := open_item ht
      obtain ⟨_, _, hat⟩ := World.cells?_some hc
      have c0 := hat 0 (by omega)
      have c1 := hat 1 (by omega)
      exact ⟨⟨V, N⟩, c0, c1, hV⟩)
    exact ⟨some a, len, cap, xs, rfl, ⟨hxl, fun _ => ⟨a, rfl, hxs⟩⟩⟩
end

theorem call (A0 A1 AL : Option Addr) (n0 c0 n1 c1 n cap : Nat) (N0 N1 : Int) (bs0 bs1 : List Nat) (ls : List Itm) (w : World) (hr0 : Rd w A0 n0 bs0) (hr1 : Rd w A1 n1 bs1) (hR : RdI w AL n ls) :
    Calls Try.prog 5 #[.agg #[.slice A0 n0 c0, .int .i64 N0], .slice AL n cap, .agg #[.slice A1 n1 c1, .int .i64 N1]] w fun e w' => e = .returned (.bool true) ∧ Below w.heap.size w w' := by
  cases hf : decide (lenW [⟨A0, n0, c0, N0, bs0⟩, ⟨A1, n1, c1, N1, bs1⟩] ≤ 20000)
  · exact back_few A0 A1 AL n0 c0 n1 c1 n cap N0 N1 bs0 bs1 w (Lib.hid hr0) (Lib.hid hr1) (Lib.hid hf.symm)
  · by_cases hn : n ≤ 100
    · cases hk0 : okB bs0 N0
      · exact back_bad0 A0 A1 AL n0 c0 n1 c1 n cap N0 N1 bs0 bs1 w (Lib.hid hr0) (Lib.hid hr1) hn (Lib.hid hk0) (Lib.hid hf.symm)
      · cases hk1 : okB bs1 N1
        · exact back_bad1 A0 A1 AL n0 c0 n1 c1 n cap N0 N1 bs0 bs1 w (Lib.hid hr0) (Lib.hid hr1) hn (Lib.hid hk0) (Lib.hid hk1) (Lib.hid hf.symm)
        · obtain ⟨l0, hl0, rfl, rfl⟩ := okB_some hk0 hr0.2.1
          obtain ⟨l1, hl1, rfl, rfl⟩ := okB_some hk1 hr1.2.1
          have hn0 : n0 ≤ 8192 := by have := hr0.1; have := pack_length l0; omega
          exact back_core A0 A1 AL n0 c0 n1 c1 n cap l0 l1 ls w (Lib.hid hr0) (Lib.hid hr1) hn (Lib.hid hl0) (Lib.hid hl1) hn0 (Lib.hid hR) (Lib.hid hf.symm)
    · exact back_many A0 A1 AL n0 c0 n1 c1 n cap N0 N1 bs0 bs1 w (Lib.hid hr0) (Lib.hid hr1) (by omega) (Lib.hid hf.symm)

set_option maxRecDepth 100000 in
theorem lifted (os : Os) (started : os.Started) (H : Type) (enc : TypeId × Value → H) :
    ReturnsInHanded {} Try.checked os 5 .any (Rows.bitsBackSpec.pre6 enc Try.prog Try.f5 Rows.bitsBackRow.domain false) (Rows.bitsBackSpec.post enc Try.prog Try.f5 false true false false) := by
  refine returnsInHanded_of_change (C := Try.checked) own started (by kernel_rfl) Try.func5
    (ChangeSpec.witness6 (enc := enc) (C := Try.checked) false ⟨#[], #[.agg #[.slice none 0 0, .int .i64 0], .slice none 0 0, .agg #[.slice none 0 0, .int .i64 0]], []⟩ 8 (by kernel_rfl) (by kernel_rfl) (by kernel_rfl) (by kernel_rfl)) ?_
  intro W base args ds gs before hval0 hW hcnd _
  have hval : ∀ (j : Nat) t v, Try.f5.params[j]? = some t → args[j]? = some v → Value.okWide Try.prog W .any base t v := hval0
  have hW' := hW
  obtain ⟨p, q, hA0, hV, rfl, hfz, hnd⟩ := hW
  have hA : DataW.TrodAll enc Try.prog W 0 (fun _ => true) true Try.f5.params.toList args.toList ds p := hA0
  rw [Try.params5] at hA hval
  obtain ⟨v0, vs0, d0, ds0, p0, q0, hargs, rfl, rfl, h0, r0⟩ := trodAll_cons hA
  obtain ⟨v1, vs1, d1, ds1, p1, q1, rfl, rfl, rfl, h1, r1⟩ := trodAll_cons r0
  obtain ⟨v2, vs2, d2, ds2, p2, q2, rfl, rfl, rfl, h2, r2⟩ := trodAll_cons r1
  obtain ⟨rfl, rfl, rfl⟩ := trodAll_nil r2
  obtain rfl : args = #[v0, v1, v2] := by cases args; simp_all
  obtain ⟨rfl, rfl⟩ := trodVars_none hV
  have k0 := h0
  have k1 := h1
  have k2 := h2
  have lt0 : ∀ x ∈ p0, x.block < W.heap.size := by obtain ⟨m, hm⟩ := k0; exact DataW.trod_lt m _ _ _ hm
  have lt1 : ∀ x ∈ p1, x.block < W.heap.size := by obtain ⟨m, hm⟩ := k1; exact DataW.trod_lt m _ _ _ hm
  have lt2 : ∀ x ∈ p2, x.block < W.heap.size := by obtain ⟨m, hm⟩ := k2; exact DataW.trod_lt m _ _ _ hm
  obtain ⟨A0, n0, c0, N0, bs0, rfl, hr0, _, _, _⟩ := open_bits (hval 0 24 v0 rfl rfl) h0
  obtain ⟨a1, len1, cap1, rfl⟩ := okWide_slice Try.underlying40 (hval 1 40 v1 rfl rfl)
  obtain ⟨A2, n2, c2, N2, bs2, rfl, hr2, _, _, _⟩ := open_bits (hval 2 24 v2 rfl rfl) h2
  obtain ⟨AL, n, cap, ls, e1, hR⟩ : ∃ AL n cap ls, Value.slice a1 len1 cap1 = .slice AL n cap ∧ RdI W AL n ls := by
    obtain ⟨fuel, hf⟩ := h1
    obtain ⟨AL, n, cap, ls, e, hR⟩ := open_items hf
    simp only [Value.cells, List.cons.injEq, and_true] at e
    exact ⟨AL, n, cap, ls, e, hR⟩
  rw [e1] at k1 hW' ⊢
  clear hA0 hval0
  refine (call A0 A2 AL n0 c0 n2 c2 n cap N0 N2 bs0 bs2 ls W hr0 hr2 hR).mono fun e W' ⟨he, bel⟩ => ?_
  subst he
  exact ⟨_, rfl, _, _, _, [], _, [], hW', trodAll_mk1 (shut_bool Try.underlying4 _), (trodAll_cons_mk (Below.trod laidOut (by kernel_rfl) (of_decide_eq_true (by kernel_rfl)) k0 bel lt0) (trodAll_cons_mk (Below.trod laidOut (by kernel_rfl) (of_decide_eq_true (by kernel_rfl)) k1 bel lt1) (trodAll_cons_mk (Below.trod laidOut (by kernel_rfl) (of_decide_eq_true (by kernel_rfl)) k2 bel lt2) trodAll_mk0))), rfl, bel.frame _, fun h => by cases h⟩

theorem over : Rows.bitsBackRow.holds Try.pinned (OpenSpec.ofChange Rows.bitsBackSpec) :=
  OpenClaim.holds_of_wide 5 Try.f5 rfl rfl rfl rfl rfl rfl rfl ⟨rfl, rfl, rfl, rfl, rfl⟩ rfl rfl rfl rfl rfl (by kernel_rfl) Try.func5 (by kernel_rfl)
    (of_decide_eq_true (by kernel_rfl)) (by unfold Func.isWrapper; first | (rw [if_pos (by decide +kernel)]; kernel_rfl) | (rw [if_neg (by decide +kernel)]; exact ⟨rfl, rfl⟩))
    (fun os started H enc _ => lifted os started H enc)

theorem proved : Rows.BitsBackSaid := over
#print axioms proved
end Go.Proofs.Ythaannpkgljngaa.bitsBack
