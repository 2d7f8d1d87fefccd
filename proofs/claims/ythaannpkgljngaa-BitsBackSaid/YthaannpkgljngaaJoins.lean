/-
  The walk of BitsJoins: Join answers what the document's own Join answers.
-/
import Derived.Test.YthaannpkgljngaaRc
namespace Go.Proofs.Ythaannpkgljngaa
open Go.RowKit

/-- what is joined: the number of bits, the error, the bytes -/
def jWhat (xs : List It) : Int × Int × List Nat :=
  if xs.all It.ok then (if sumN xs ≤ 65536 then (((allBits xs).length : Int), 0, pack (allBits xs)) else (0, 2, [])) else (0, 1, [])
def JOut (w : World) (N E : Int) (bs : List Nat) (e : Ending) (w' : World) : Prop :=
  ∃ A n c, e = .returned (.tuple #[.agg #[.slice A n c, .int .i64 N], .int .i64 E]) ∧ Below w.heap.size w w' ∧ Rd w' A n bs
theorem JoinPost.out {w w' : World} {xs : List It} {e : Ending} {N E : Int} {bs : List Nat} (h : JoinPost w xs e w') (hj : jWhat xs = (N, E, bs)) : JOut w N E bs e w' := by
  obtain ⟨hb, h⟩ := h
  unfold jWhat at hj
  rcases h with ⟨⟨x, hx, hf⟩, rfl⟩ | ⟨hok, hs, rfl⟩ | ⟨hok, hs, v, rfl, hv⟩
  · have hall : xs.all It.ok = false := by
      cases h : xs.all It.ok
      · rfl
      · rw [List.all_eq_true.1 h x hx] at hf; cases hf
    rw [hall] at hj
    simp only [Bool.false_eq_true, if_false, Prod.mk.injEq] at hj
    obtain ⟨rfl, rfl, rfl⟩ := hj
    exact ⟨none, 0, 0, rfl, hb, Rd.none_⟩
  · rw [List.all_eq_true.2 hok, if_pos rfl, if_neg (by omega)] at hj
    simp only [Prod.mk.injEq] at hj
    obtain ⟨rfl, rfl, rfl⟩ := hj
    exact ⟨none, 0, 0, rfl, hb, Rd.none_⟩
  · rw [List.all_eq_true.2 hok, if_pos rfl, if_pos hs] at hj
    simp only [Prod.mk.injEq] at hj
    obtain ⟨rfl, rfl, rfl⟩ := hj
    obtain ⟨A, c, rfl, hr, _⟩ := hv
    exact ⟨A, _, c, rfl, hb, hr⟩

set_option maxHeartbeats 1000000 in
theorem joins_few (AL : Option Addr) (n cap : Nat) (xs : List It) (w : World) (hn : Hid (n ≤ maxLen)) (hR : Hid (RdL w AL n xs)) (hf : Hid (decide (lenW xs ≤ 20000) = false)) :
    Calls Try.prog 4 #[.slice AL n cap] w fun e w' => e = .returned (.bool true) ∧ Below w.heap.size w w' := by
  go_enter Try.func4, Try.ntmps4
  go_wp2_with fail
  refine (live_any _).mono ?_
  rintro e w0 ⟨rfl, hb0⟩
  have H0 := Lib.hid hb0
  have HR0 := Lib.hid (hR.out.below hb0)
  clear hb0
  go_wp2_with fail
  refine (few_any AL n cap xs _ hn.out HR0).mono ?_
  rintro e w1 ⟨rfl, hb1⟩
  rw [hf.out]
  have H1 := Lib.hid (H0.out.trans (hb1.mono H0.out.size))
  clear hb1
  go_wp2
  go_ret
  exact ⟨rfl, H1.out⟩
set_option maxHeartbeats 1000000 in
theorem joins_many (AL : Option Addr) (n cap : Nat) (xs : List It) (w : World) (hn : Hid (n ≤ maxLen)) (hR : Hid (RdL w AL n xs)) (hf : Hid (decide (lenW xs ≤ 20000) = true)) (hm : 1000 < n) :
    Calls Try.prog 4 #[.slice AL n cap] w fun e w' => e = .returned (.bool true) ∧ Below w.heap.size w w' := by
  have hd : decide ((1000 : Int) < (n : Int)) = true := by simp; omega
  go_enter Try.func4, Try.ntmps4
  go_wp2_with fail
  refine (live_any _).mono ?_
  rintro e w0 ⟨rfl, hb0⟩
  have H0 := Lib.hid hb0
  have HR0 := Lib.hid (hR.out.below hb0)
  clear hb0
  go_wp2_with fail
  refine (few_any AL n cap xs _ hn.out HR0).mono ?_
  rintro e w1 ⟨rfl, hb1⟩
  rw [hf.out]
  have H1 := Lib.hid (H0.out.trans (hb1.mono H0.out.size))
  clear hb1
  go_wp2
  go_ret
  exact ⟨rfl, H1.out⟩
set_option maxHeartbeats 1000000 in
theorem joins_core (AL : Option Addr) (n cap : Nat) (xs : List It) (N E : Int) (bs : List Nat) (w : World) (hn : Hid (n ≤ maxLen)) (hR : Hid (RdL w AL n xs)) (hf : Hid (decide (lenW xs ≤ 20000) = true)) (hm : ¬ 1000 < n) (hj : Hid (jWhat xs = (N, E, bs))) :
    Calls Try.prog 4 #[.slice AL n cap] w fun e w' => e = .returned (.bool true) ∧ Below w.heap.size w w' := by
  have hd : decide ((1000 : Int) < (n : Int)) = false := by simp; omega
  go_enter Try.func4, Try.ntmps4
  go_wp2_with fail
  refine (live_any _).mono ?_
  rintro e w0 ⟨rfl, hb0⟩
  have H0 := Lib.hid hb0
  have HR0 := Lib.hid (hR.out.below hb0)
  clear hb0
  go_wp2_with fail
  refine (few_any AL n cap xs _ hn.out HR0).mono ?_
  rintro e w1 ⟨rfl, hb1⟩
  rw [hf.out]
  have H1 := Lib.hid (H0.out.trans (hb1.mono H0.out.size))
  have HR1 := Lib.hid (HR0.out.below hb1)
  clear hb1
  go_wp2_with fail
  refine ((join_any AL n cap xs _ (by omega) HR1).mono fun _ _ h => h.out hj.out).mono ?_
  rintro e w2 ⟨A2, n2, c2, rfl, hb2, hr2⟩
  have H2 := Lib.hid (H1.out.trans (hb2.mono H1.out.size))
  have HR2 := Lib.hid (HR1.out.below hb2)
  have HX2 := Lib.hid hr2
  clear hb2 hr2
  go_wp2_with fail
  refine ((rjoin_any AL n cap xs _ (by omega) (Lib.hid (hR.out.below (H2.out.alloc H2.out.size _)))).mono fun _ _ h => h.out hj.out).mono ?_
  rintro e w3 ⟨A3, n3, c3, rfl, hb3, hr3⟩
  have HB3 := Lib.hid ((Blk.new w2 24 #[.slice A2 n2 c2, .int .i64 N]).below hb3 (Blk.new _ _ _).lt)
  have H3 := Lib.hid ((H2.out.alloc H2.out.size (.cells #[.slice A2 n2 c2, .int .i64 N] 24)).trans (hb3.mono (by have := H2.out.size; simp; omega)))
  have HX3 := Lib.hid ((HX2.out.alloc (.cells #[.slice A2 n2 c2, .int .i64 N] 24)).below hb3)
  have HY3 := Lib.hid hr3
  have hlt3 : w2.heap.size < w3.heap.size := HB3.out.lt
  have x0 : w3.cell? ⟨w2.heap.size, 0, none⟩ = some (.slice A2 n2 c2) := HB3.out.cell 0
  have x1 : w3.cell? ⟨w2.heap.size, 1, none⟩ = some (.int .i64 N) := HB3.out.cell 1
  clear hb3 hr3
  go_wp2_with fail
  refine (same_yes A2 A3 n2 n3 c2 c3 N bs _ (Lib.hid (HX3.out.alloc _)) (Lib.hid (HY3.out.alloc _))).mono ?_
  rintro e w4 ⟨rfl, hb4⟩
  have H4 := Lib.hid ((H3.out.alloc H3.out.size (.cells #[.slice A3 n3 c3, .int .i64 N] 24)).trans (hb4.mono (by have := H3.out.size; simp; omega)))
  clear hb4 x0 x1
  go_wp2
  go_ret
  exact ⟨rfl, H4.out⟩

end Go.Proofs.Ythaannpkgljngaa
