/-
  Own texts, laid together: Wf.
-/
import Derived.Test.YtplfcncibmgllaaDoorWn
import Derived.RangeFuncNested
import Derived.RangeFuncBound
import Derived.RangeFuncCalls
import Derived.RangeFuncLeaves
import Derived.Shelf.Abstract
import Derived.Shelf.RegionOpen
import Derived.OwnWalkIn
import Derived.TacticsInMore
import Derived.LoopNIn
import Derived.LoopIn
/- Wf -/
namespace Go.Proofs.YtplfcncibmgllaaDoor.Lp
open Go.RowKit Go.Shelf Go.Proofs.YtplfcncibmgllaaDoor.Fx Go.Proofs.YtplfcncibmgllaaDoor.Fq Go.Proofs.YtplfcncibmgllaaDoor.Tb
attribute [local go_sem] Oper.semAt_some
section
variable {P : Program} {l n : Nat} {a : Act} {w : World} {Q : Exit → Act → World → Prop} {ops : Array Oper}
theorem oper_in {o : Oper} {K : Act → World → Prop} (hnd : ∀ c, o.op ≠ .defer c) (h : o.wp P a w K Q) : o.wpIn (Fence.wide.inRound l) n P a w K Q := by
  refine ⟨fun _ _ => trivial, ?_⟩
  unfold Oper.wp at h
  rw [show (Fence.wide.inRound l).round = some l from rfl, Oper.semAt_some l _ _ hnd]
  generalize (execOp a.eval o).run P w = r at h ⊢
  cases r with
  | ok x w' =>
    cases x <;> first
      | exact h
      | exact h.elim
      | exact ⟨fun hd => (by cases hd), (callsIn_wide.2 h).inRound l⟩
      | exact ⟨fun hd => (by cases hd), fun c cs _ => let ⟨v, w'', r, s⟩ := h c cs; ⟨v, w'', r, stepsIn_wide.2 s⟩⟩
  | halt x w' => cases x <;> exact h
def undeferred (ops : Array Oper) : Bool := ops.toList.all fun o => match o.op with | .defer _ => false | _ => true
theorem undeferred_at (h : undeferred ops = true) {i : Nat} {o : Oper} (hi : ops[i]? = some o) (c) : o.op ≠ .defer c := fun e => by
  have hm : o ∈ ops.toList := by
    rw [← Array.getElem?_toList] at hi
    exact List.mem_of_getElem? hi
  have := List.all_eq_true.1 h o hm
  rw [e] at this
  cases this
theorem op_in (h : undeferred ops = true) (hno : ¬ LetsOut Q) {i : Nat} {K : Act → World → Prop} (hh : wpOp P ops Q i K a w) : wpOpIn (Fence.wide.inRound l) n P ops Q i K a w := by
  unfold wpOp at hh
  unfold wpOpIn
  cases ho : ops[i]? with
  | none => rw [ho] at hh; exact hh
  | some o =>
    rw [ho] at hh
    simp only at hh ⊢
    by_cases hw : Region.wanted o (yielded ops a.tmps) = true
    · rw [if_pos hw] at hh ⊢
      exact oper_in (undeferred_at h ho) (hh.resolve_right fun k => hno k.2)
    · rw [if_neg hw] at hh ⊢
      exact ⟨fun _ _ => trivial, hh⟩
theorem any_in {md : Region.Mode} (h : undeferred ops = true) (hno : ¬ LetsOut Q) : ∀ (fuel : Nat) (listed : Array Bool) (a : Act) (w : World), wpAny P md ops Q fuel listed a w → wpAnyIn (Fence.wide.inRound l) n P md ops Q fuel listed a w
  | 0, _, _, _, hh => hh
  | fuel + 1, _, _, _, hh => ⟨hh.1, fun i hi => wpOpIn_mono (fun a' w' h' => any_in h hno fuel _ a' w' h') (op_in h hno (hh.2 i hi))⟩
/-- a region that draws, in a round: as anywhere -/
theorem round_held {S : World → Prop} {id : Nat} (hm : P.follows .mixedOrders = true) (h : undeferred ops = true) (hno : ¬ LetsOut Q) (hS : S w.drew)
    (hh : S w.drew → wpAnyH P .any ops Q S ops.size (Array.replicate ops.size false) a w.drew) : (Code.region id ops true).wpIn (Fence.wide.inRound l) n P Q a w :=
  wpIn_region_any hm (any_in h hno _ _ _ _ (wpAny_of_held _ _ _ _ (hh hS)))
end
/-- what fromBehind has handed over behind k rounds -/
def std (k : Nat) : List (Fin 6) := (List.range k).map fun i => (⟨5 - i, by omega⟩ : Fin 6)
theorem std_succ (k : Nat) : std (k + 1) = std k ++ [⟨5 - k, by omega⟩] := by
  unfold std; rw [List.range_succ, List.map_append]; rfl
theorem std_length (k : Nat) : (std k).length = k := by unfold std; rw [List.length_map, List.length_range]
set_option maxHeartbeats 2000000 in
theorem behind_stops (F : Fence) (n : Nat) (hF : F.fn 36) (hro : F.round = none) (hn : 1 ≤ n) (w : World) :
    SeqStopsK F n Tryd.prog 36 #[] (fun x : Fin 6 => #[.int .i64 ((x.val : Nat) : Int)]) KeepsWalks (fun xs => xs = std 6) (fun pre => ∃ k, k ≤ 6 ∧ pre = std k) 6 w := fun l J Jx W _ _ _ hY h0 => by
  refine callsIn_of_wp Tryd.func36 rfl hF ?_ hro
  simp only [Tryd.ntmps36, List.size_toArray, List.length_cons, List.length_nil, Nat.reduceAdd, Nat.reduceSub, Array.replicate_succ, Array.replicate_zero, List.push_toArray, List.append_toArray, List.nil_append, List.cons_append]
  gi_wp2
  gi_loopw [2] (fun p wr => ∃ (k : Nat) (z : Int), k ≤ 6 ∧ p = .int .i64 z ∧ Hid (z = 5 - (k : Int)) ∧ J (std k) wr) (fun p _ => (intOf p + 1).toNat)
  case atStart => exact ⟨0, 5, by omega, rfl, Lib.hid (by omega), h0⟩
  case round =>
    obtain ⟨k, z, hk, rfl, HZ, hJ⟩ := hrel
    have hz1 : -1 ≤ z := by have := HZ.out; omega
    have hz2 : z ≤ 5 := by have := HZ.out; omega
    by_cases hlt : k < 6
    · have hz3 : 0 ≤ z := by have := HZ.out; omega
      obtain ⟨fn, tmps, assign, body, hy, hR⟩ := hY (std k) ⟨5 - k, by omega⟩ wr hJ (by rw [std_length]; exact hlt)
      have e : (((5 - k : Nat)) : Int) = z := by have := HZ.out; omega
      rw [← std_succ] at hR
      simp only [e] at hy
      clear e
      gi_wp2
      refine hR.mono ?_
      rintro e W3 (⟨rfl, hJ3, -⟩ | ⟨rfl, hJx3⟩)
      · gi_wp2
        go_roundw
        case rel => exact ⟨k + 1, z - 1, by omega, rfl, Lib.hid (by have := HZ.out; omega), hJ3⟩
        case measure => simp [intOf]; omega
      · gi_wp2
        refine bodyPost_ret (results_none rfl _ _ _) rfl ?_
        exact ⟨⟨_, rfl⟩, .inr ⟨std (k + 1), ⟨k + 1, by omega, rfl⟩, hJx3⟩⟩
    · obtain rfl : k = 6 := by omega
      have hz3 : z < 0 := by have := HZ.out; omega
      gi_wp2
      go_end0
      exact ⟨⟨_, rfl⟩, .inl ⟨std 6, rfl, hJ⟩⟩
end Go.Proofs.YtplfcncibmgllaaDoor.Lp
