/-
  The statement BitsCodes is proved: codes of greater numbers are no shorter, no code is another one's beginning, and a code that is cut off is too short; for every input, without a condition.
-/
import Derived.Test.YtdgakbbnhhibkaaRows
import Derived.Test.YtdgakbbnhhibkaaCodes
import Derived.ProofKit
import Derived.OpenShut
namespace Go.Proofs.Ytdgakbbnhhibkaa.bitsCodes
open Go.ChangeShapes Go.WideShapes Go.ChangeAt Go.RowKit

theorem own : ownKnob Try.prog.godebug = none := by kernel_rfl

theorem walk (a0 a1 a2 : Int) (w0 : (Lit.int .u64 a0).wf = true) (w1 : (Lit.int .u64 a1).wf = true) (w : World) :
    Calls Try.prog 6 #[.int .u64 a0, .int .u64 a1, .int .i64 a2] w fun e w' => e = .returned (.bool true) ∧ Below w.heap.size w w' := by
  have b0 := (bounds_u64 w0).1
  have b1 := (bounds_u64 w1).1
  obtain ⟨α, hα⟩ : ∃ α : Nat, a0 % 4294967296 = (α : Int) := ⟨(a0 % 4294967296).toNat, by omega⟩
  obtain ⟨β, hβ⟩ : ∃ β : Nat, a1 % 4294967296 = (β : Int) := ⟨(a1 % 4294967296).toNat, by omega⟩
  have hα2 : α < 2 ^ 32 := by omega
  have hβ2 : β < 2 ^ 32 := by omega
  have hlo2 : min α β < 2 ^ 32 := by omega
  have hhi2 : max α β < 2 ^ 32 := by omega
  have l1 := codeOf_len_le (min α β) hlo2
  have l2 := codeOf_len_le (max α β) hhi2
  have l3 := codeOf_mono (min α β) (max α β) (by omega) hhi2
  refine codes_core a0 a1 a2 α β (min α β) (max α β) _ _ _ _ w b0 b1 hα hβ (Lib.hid (by omega)) (Lib.hid (by omega)) (Lib.hid hlo2) (Lib.hid hhi2) (Lib.hid rfl) (Lib.hid rfl) (Lib.hid rfl) (Lib.hid rfl) l1.2 l1.1 l3 l2.1 (Lib.hid fun hne he => ?_)
  have e1 : ((codeOf (max α β)).take (codeOf (min α β)).length).length = ((codeOf (min α β)).take (codeOf (min α β)).length).length := by
    rw [List.length_take, List.length_take]; omega
  have e2 := num_inj e1 he
  rw [List.take_of_length_le (l := codeOf (min α β)) (Nat.le_refl _)] at e2
  have := codeOf_apart _ _ hlo2 hhi2 e2
  omega

set_option maxRecDepth 100000 in
theorem lifted (os : Os) (started : os.Started) (H : Type) (enc : TypeId × Value → H) :
    ReturnsInHanded {} Try.checked os 6 .any (Rows.bitsCodesSpec.pre6 enc Try.prog Try.f6 Rows.bitsCodesRow.domain false) (Rows.bitsCodesSpec.post enc Try.prog Try.f6 false true false false) := by
  refine returnsInHanded_of_change (C := Try.checked) own started (by kernel_rfl) Try.func6
    (ChangeSpec.witness6 (enc := enc) (C := Try.checked) false ⟨#[], #[.int .u64 0, .int .u64 0, .int .i64 0], []⟩ 8 (by kernel_rfl) (by kernel_rfl) (by kernel_rfl) (by kernel_rfl)) ?_
  intro W base args ds gs before hval0 hW hcnd _
  have hval : ∀ (j : Nat) t v, Try.f6.params[j]? = some t → args[j]? = some v → Value.okWide Try.prog W .any base t v := hval0
  have hW' := hW
  obtain ⟨p, q, hA0, hV, rfl, hfz, hnd⟩ := hW
  have hA : DataW.TrodAll enc Try.prog W 0 (fun _ => true) true Try.f6.params.toList args.toList ds p := hA0
  rw [Try.params6] at hA hval
  obtain ⟨v0, vs0, d0, ds0, p0, q0, hargs, rfl, rfl, h0, r0⟩ := trodAll_cons hA
  obtain ⟨v1, vs1, d1, ds1, p1, q1, rfl, rfl, rfl, h1, r1⟩ := trodAll_cons r0
  obtain ⟨v2, vs2, d2, ds2, p2, q2, rfl, rfl, rfl, h2, r2⟩ := trodAll_cons r1
  obtain ⟨rfl, rfl, rfl⟩ := trodAll_nil r2
  obtain rfl : args = #[v0, v1, v2] := by cases args; simp_all
  obtain ⟨rfl, rfl⟩ := trodVars_none hV
  obtain ⟨a0, rfl, rfl, rfl, w0⟩ := open_int Try.underlying25 (hval 0 25 v0 rfl rfl) h0
  obtain ⟨a1, rfl, rfl, rfl, w1⟩ := open_int Try.underlying25 (hval 1 25 v1 rfl rfl) h1
  obtain ⟨a2, rfl, rfl, rfl, w2⟩ := open_int Try.underlying3 (hval 2 3 v2 rfl rfl) h2
  clear hA0 hval0
  simp only [List.append_nil] at hW'
  refine (walk a0 a1 a2 w0 w1 W).mono fun e W' ⟨he, bel⟩ => ?_
  subst he
  exact ⟨_, rfl, _, _, _, [], [], [], hW', trodAll_mk1 (shut_bool Try.underlying4 _), (trodAll_cons_mk (shut_int Try.underlying25 w0) (trodAll_cons_mk (shut_int Try.underlying25 w1) (trodAll_cons_mk (shut_int Try.underlying3 w2) trodAll_mk0))), rfl, bel.frame _, fun h => by cases h⟩

theorem over : Rows.bitsCodesRow.holds Try.pinned (OpenSpec.ofChange Rows.bitsCodesSpec) :=
  OpenClaim.holds_of_wide 6 Try.f6 rfl rfl rfl rfl rfl rfl rfl ⟨rfl, rfl, rfl, rfl, rfl⟩ rfl rfl rfl rfl rfl (by kernel_rfl) Try.func6 (by kernel_rfl)
    (of_decide_eq_true (by kernel_rfl)) (by unfold Func.isWrapper; first | (rw [if_pos (by decide +kernel)]; kernel_rfl) | (rw [if_neg (by decide +kernel)]; exact ⟨rfl, rfl⟩))
    (fun os started H enc _ => lifted os started H enc)

theorem proved : Rows.BitsCodesSaid := over
#print axioms proved
end Go.Proofs.Ytdgakbbnhhibkaa.bitsCodes
