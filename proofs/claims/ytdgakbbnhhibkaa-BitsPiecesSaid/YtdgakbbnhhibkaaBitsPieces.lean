/-
  The statement BitsPieces is proved: the bits of bytes, joined, are the bits of all the bytes; for every input, without a condition.
-/
import Derived.Test.YtdgakbbnhhibkaaOpenL
import Derived.Test.YtdgakbbnhhibkaaPc
namespace Go.Proofs.Ytdgakbbnhhibkaa.bitsPieces
open Go.ChangeShapes Go.WideShapes Go.ChangeAt Go.RowKit Go.Joins Go.Deep

theorem list_bt {n : Nat} {P : Nat → Bt → Prop} (h : ∀ i, i < n → ∃ x, P i x) : ∃ xs : List Bt, xs.length = n ∧ ∀ i x, xs[i]? = some x → P i x := by
  induction n with
  | zero => exact ⟨[], rfl, fun i x hx => by simp at hx⟩
  | succ n ih =>
    obtain ⟨xs, hl, hp⟩ := ih fun i hi => h i (by omega)
    obtain ⟨y, hy⟩ := h n (by omega)
    refine ⟨xs ++ [y], by simp [hl], fun i x hx => ?_⟩
    rcases Nat.lt_or_ge i xs.length with hi | hi
    · rw [List.getElem?_append_left hi] at hx
      exact hp i x hx
    · rw [List.getElem?_append_right hi] at hx
      have e : i - xs.length = 0 := by
        rcases Nat.eq_zero_or_pos (i - xs.length) with e | e
        · exact e
        · rw [List.getElem?_eq_none (by simp; omega)] at hx; cases hx
      rw [e] at hx
      simp only [List.getElem?_cons_zero, Option.some.injEq] at hx
      subst hx
      have : i = n := by omega
      subst this
      exact hy
section
variable {H : Type} {enc : TypeId × Value → H} {W : World} {base : Nat} {spare : Nat → Bool} {held : Bool}
/-- a slice of bytes that was read; one without memory holds no room -/
theorem open_bytes0 {fuel : Nat} {v : Value} {y : DataW H × List MemPlace} (h : DataW.trod enc Try.prog W base spare held fuel 22 [v] = some y) :
    ∃ A n c bs, v = .slice A n c ∧ Rd W A n bs ∧ (A = none → c = 0) := by
  obtain ⟨A, n, c, bs, rfl, hr, _⟩ := open_bytes h
  refine ⟨A, n, c, bs, rfl, hr, ?_⟩
  rintro rfl
  rcases open_ints Try.underlying22 Try.underlying5 cells_u8 h with ⟨hcs, _⟩ | ⟨x, l, c', zs, hcs, _⟩
  · simp only [List.cons.injEq, and_true, Value.slice.injEq] at hcs
    exact hcs.2.2
  · simp at hcs
theorem open_pieces {fuel : Nat} {cs : List Value} {y : DataW H × List MemPlace} (h : DataW.trod enc Try.prog W base spare held fuel 54 cs = some y) :
    ∃ AL n cap xs, cs = [.slice AL n cap] ∧ RdB W AL n xs ∧ n ≤ maxLen := by
  rcases open_slice Try.underlying54 h with ⟨rfl, _⟩ | ⟨a, len, cap, m, k, D, Pl, rfl, _, hl, hm, hmm, _, hi⟩
  · exact ⟨none, 0, 0, [], rfl, ⟨rfl, fun h => by omega⟩, by unfold maxLen; omega⟩
  · have hlm : len ≤ m := by rw [hmm]; split <;> omega
    rw [cells_slice] at hi
    obtain ⟨xs, hxl, hxs⟩ := list_bt (n := len) (P := fun i x => W.cell? (a.add i) = some (.slice x.A x.n x.c) ∧ Rd W x.A x.n x.bs ∧ (x.A = none → x.c = 0)) (fun i hi' => by
      obtain ⟨cs', hc, ht⟩ := hi i (by omega)
      rw [Nat.mul_one] at hc
      obtain ⟨hlen, _, hat⟩ := World.cells?_some hc
      match cs', hlen with
      | [c0], _ =>
        obtain ⟨A, n, c, bs, rfl, hr, h0⟩ := open_bytes0 ht
        have c0 := hat 0 (by omega)
        refine ⟨⟨A, n, c, bs⟩, ?_, hr, h0⟩
        exact c0)
    exact ⟨some a, len, cap, xs, rfl, ⟨hxl, fun _ => ⟨a, rfl, hxs⟩⟩, by omega⟩
end

theorem pieces_many (AL : Option Addr) (n cap : Nat) (w : World) (hn : ¬ n ≤ 50) :
    Calls Try.prog 8 #[.slice AL n cap] w fun e w' => e = .returned (.bool true) ∧ Below w.heap.size w w' := by
  have hd : decide ((50 : Int) < (n : Int)) = true := by simp; omega
  go_enter Try.func8, Try.ntmps8
  go_wp2_with fail
  refine (live_any _).mono ?_
  rintro e w0 ⟨rfl, hb0⟩
  have H0 := Lib.hid hb0
  clear hb0
  go_wp2
  go_ret
  exact ⟨rfl, H0.out⟩

set_option maxRecDepth 100000 in
theorem lifted (os : Os) (started : os.Started) (H : Type) (enc : TypeId × Value → H) :
    ReturnsInHanded {} Try.checked os 8 .any (Rows.bitsPiecesSpec.pre6 enc Try.prog Try.f8 Rows.bitsPiecesRow.domain false) (Rows.bitsPiecesSpec.post enc Try.prog Try.f8 false true false false) := by
  refine returnsInHanded_of_change (C := Try.checked) own started (by kernel_rfl) Try.func8
    (ChangeSpec.witness6 (enc := enc) (C := Try.checked) false ⟨#[], #[.slice none 0 0], []⟩ 8 (by kernel_rfl) (by kernel_rfl) (by kernel_rfl) (by kernel_rfl)) ?_
  intro W base args ds gs before hval0 hW hcnd _
  have hval : ∀ (j : Nat) t v, Try.f8.params[j]? = some t → args[j]? = some v → Value.okWide Try.prog W .any base t v := hval0
  have hW' := hW
  obtain ⟨p, q, hA0, hV, rfl, hfz, hnd⟩ := hW
  have hA : DataW.TrodAll enc Try.prog W 0 (fun _ => true) true Try.f8.params.toList args.toList ds p := hA0
  rw [Try.params8] at hA hval
  obtain ⟨v0, vs0, d0, ds0, p0, q0, hargs, rfl, rfl, h0, r0⟩ := trodAll_cons hA
  obtain ⟨rfl, rfl, rfl⟩ := trodAll_nil r0
  obtain rfl : args = #[v0] := by cases args; simp_all
  obtain ⟨rfl, rfl⟩ := trodVars_none hV
  have k0 := h0
  have lt0 : ∀ x ∈ p0, x.block < W.heap.size := by obtain ⟨m, hm⟩ := k0; exact DataW.trod_lt m _ _ _ hm
  obtain ⟨a0, len0, cap0, rfl⟩ := okWide_slice Try.underlying54 (hval 0 54 v0 rfl rfl)
  obtain ⟨AL, n, cap, xs, e0, hR, hn⟩ : ∃ AL n cap xs, Value.slice a0 len0 cap0 = .slice AL n cap ∧ RdB W AL n xs ∧ n ≤ maxLen := by
    obtain ⟨fuel, hf⟩ := h0
    obtain ⟨AL, n, cap, xs, e, hR, hn⟩ := open_pieces hf
    simp only [Value.cells, List.cons.injEq, and_true] at e
    exact ⟨AL, n, cap, xs, e, hR, hn⟩
  rw [e0] at k0 hW' ⊢
  clear hA0 hval0
  have hcall : Calls Try.prog 8 #[.slice AL n cap] W fun e w' => e = .returned (.bool true) ∧ Below W.heap.size W w' := by
    by_cases hm : n ≤ 50
    · exact pieces_core AL n cap xs W hm (Lib.hid hR)
    · exact pieces_many AL n cap W hm
  refine hcall.mono fun e W' ⟨he, bel⟩ => ?_
  subst he
  exact ⟨_, rfl, _, _, _, [], _, [], hW', trodAll_mk1 (shut_bool Try.underlying4 _), (trodAll_cons_mk (Below.trod laidOut (by kernel_rfl) (of_decide_eq_true (by kernel_rfl)) k0 bel lt0) trodAll_mk0), rfl, bel.frame _, fun h => by cases h⟩

theorem over : Rows.bitsPiecesRow.holds Try.pinned (OpenSpec.ofChange Rows.bitsPiecesSpec) :=
  OpenClaim.holds_of_wide 8 Try.f8 rfl rfl rfl rfl rfl rfl rfl ⟨rfl, rfl, rfl, rfl, rfl⟩ rfl rfl rfl rfl rfl (by kernel_rfl) Try.func8 (by kernel_rfl)
    (of_decide_eq_true (by kernel_rfl)) (by unfold Func.isWrapper; first | (rw [if_pos (by decide +kernel)]; kernel_rfl) | (rw [if_neg (by decide +kernel)]; exact ⟨rfl, rfl⟩))
    (fun os started H enc _ => lifted os started H enc)

theorem proved : Rows.BitsPiecesSaid := over
#print axioms proved
end Go.Proofs.Ytdgakbbnhhibkaa.bitsPieces
