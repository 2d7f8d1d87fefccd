/-
  The statement BitsJoins is proved: any bits joined are what the document's own Join makes of them, or why not; for every input, without a condition.
-/
import Derived.Test.YtdgakbbnhhibkaaOpenL
import Derived.Test.YtdgakbbnhhibkaaJoins
namespace Go.Proofs.Ytdgakbbnhhibkaa.bitsJoins
open Go.ChangeShapes Go.WideShapes Go.ChangeAt Go.RowKit

set_option maxRecDepth 100000 in
theorem lifted (os : Os) (started : os.Started) (H : Type) (enc : TypeId × Value → H) :
    ReturnsInHanded {} Try.checked os 4 .any (Rows.bitsJoinsSpec.pre6 enc Try.prog Try.f4 Rows.bitsJoinsRow.domain false) (Rows.bitsJoinsSpec.post enc Try.prog Try.f4 false true false false) := by
  refine returnsInHanded_of_change (C := Try.checked) own started (by kernel_rfl) Try.func4
    (ChangeSpec.witness6 (enc := enc) (C := Try.checked) false ⟨#[], #[.slice none 0 0], []⟩ 8 (by kernel_rfl) (by kernel_rfl) (by kernel_rfl) (by kernel_rfl)) ?_
  intro W base args ds gs before hval0 hW hcnd _
  have hval : ∀ (j : Nat) t v, Try.f4.params[j]? = some t → args[j]? = some v → Value.okWide Try.prog W .any base t v := hval0
  have hW' := hW
  obtain ⟨p, q, hA0, hV, rfl, hfz, hnd⟩ := hW
  have hA : DataW.TrodAll enc Try.prog W 0 (fun _ => true) true Try.f4.params.toList args.toList ds p := hA0
  rw [Try.params4] at hA hval
  obtain ⟨v0, vs0, d0, ds0, p0, q0, hargs, rfl, rfl, h0, r0⟩ := trodAll_cons hA
  obtain ⟨rfl, rfl, rfl⟩ := trodAll_nil r0
  obtain rfl : args = #[v0] := by cases args; simp_all
  obtain ⟨rfl, rfl⟩ := trodVars_none hV
  have k0 := h0
  have lt0 : ∀ x ∈ p0, x.block < W.heap.size := by obtain ⟨m, hm⟩ := k0; exact DataW.trod_lt m _ _ _ hm
  obtain ⟨a0, len0, cap0, rfl⟩ := okWide_slice Try.underlying37 (hval 0 37 v0 rfl rfl)
  obtain ⟨AL, n, cap, xs, e0, hR, hn⟩ : ∃ AL n cap xs, Value.slice a0 len0 cap0 = .slice AL n cap ∧ RdL W AL n xs ∧ n ≤ maxLen := by
    obtain ⟨fuel, hf⟩ := h0
    obtain ⟨AL, n, cap, xs, e, hR, hn⟩ := open_list hf
    simp only [Value.cells, List.cons.injEq, and_true] at e
    exact ⟨AL, n, cap, xs, e, hR, hn⟩
  rw [e0] at k0 hW' ⊢
  clear hA0 hval0
  have hcall : Calls Try.prog 4 #[.slice AL n cap] W fun e w' => e = .returned (.bool true) ∧ Below W.heap.size W w' := by
    cases hf : decide (lenW xs ≤ 20000)
    · exact joins_few AL n cap xs W (Lib.hid hn) (Lib.hid hR) (Lib.hid hf)
    · by_cases hm : 1000 < n
      · exact joins_many AL n cap xs W (Lib.hid hn) (Lib.hid hR) (Lib.hid hf) hm
      · exact joins_core AL n cap xs _ _ _ W (Lib.hid hn) (Lib.hid hR) (Lib.hid hf) hm (Lib.hid rfl)
  refine hcall.mono fun e W' ⟨he, bel⟩ => ?_
  subst he
  exact ⟨_, rfl, _, _, _, [], _, [], hW', trodAll_mk1 (shut_bool Try.underlying4 _), (trodAll_cons_mk (Below.trod laidOut (by kernel_rfl) (of_decide_eq_true (by kernel_rfl)) k0 bel lt0) trodAll_mk0), rfl, bel.frame _, fun h => by cases h⟩

theorem over : Rows.bitsJoinsRow.holds Try.pinned (OpenSpec.ofChange Rows.bitsJoinsSpec) :=
  OpenClaim.holds_of_wide 4 Try.f4 rfl rfl rfl rfl rfl rfl rfl ⟨rfl, rfl, rfl, rfl, rfl⟩ rfl rfl rfl rfl rfl (by kernel_rfl) Try.func4 (by kernel_rfl)
    (of_decide_eq_true (by kernel_rfl)) (by unfold Func.isWrapper; first | (rw [if_pos (by decide +kernel)]; kernel_rfl) | (rw [if_neg (by decide +kernel)]; exact ⟨rfl, rfl⟩))
    (fun os started H enc _ => lifted os started H enc)

theorem proved : Rows.BitsJoinsSaid := over
#print axioms proved
end Go.Proofs.Ytdgakbbnhhibkaa.bitsJoins
