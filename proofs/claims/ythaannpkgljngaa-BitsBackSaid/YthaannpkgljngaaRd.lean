/-
  What the document's own Copy and Put answer.
-/
import Derived.Test.YthaannpkgljngaaJoins
import Derived.Deep.RegionLaw
import Derived.Deep.AppendLies
namespace Go.Proofs.Ythaannpkgljngaa
open Go.RowKit

/-- a copy of bits, in memory of its own -/
def CopyPost (w : World) (bs : List Nat) (N : Int) (e : Ending) (w' : World) : Prop :=
  ∃ A n c, e = .returned (.agg #[.slice A n c, .int .i64 N]) ∧ w'.ownsRow w.heap.size 5 1 (.slice A n c) n (bs.map byteV) ∧ Below w.heap.size w w'

theorem copy_form {w w1 : World} {a1 a2 r1 r2 : Value} (hg : (((w.alloc (.cells #[a1, a2] 24)).alloc (.cells #[r1, r2] 24)).drew).grownBy w1 none) :
    (w1.cell? ⟨w.heap.size, 0, none⟩ = some a1 ∧ w1.cell? ⟨w.heap.size, 1, none⟩ = some a2) ∧ (w1.cell? ⟨w.heap.size + 1, 0, none⟩ = some r1 ∧ w1.cell? ⟨w.heap.size + 1, 1, none⟩ = some r2 ∧ w1.frozen? ⟨w.heap.size + 1, 0, none⟩ = false ∧ w1.frozen? ⟨w.heap.size + 1, 1, none⟩ = false) ∧ Below w.heap.size w w1 := by
  have B0 : Blk ((w.alloc (.cells #[a1, a2] 24)).alloc (.cells #[r1, r2] 24)).drew w.heap.size 24 #[a1, a2] := (Blk.new w 24 #[a1, a2]).alloc _
  have B1 : Blk ((w.alloc (.cells #[a1, a2] 24)).alloc (.cells #[r1, r2] 24)).drew (w.heap.size + 1) 24 #[r1, r2] := Blk.newAt (w := w.alloc (.cells #[a1, a2] 24)) (by simp)
  have C0 : Blk w1 w.heap.size 24 #[a1, a2] := (hg.block _ B0.lt (by simp)).trans B0
  have C1 : Blk w1 (w.heap.size + 1) 24 #[r1, r2] := (hg.block _ B1.lt (by simp)).trans B1
  refine ⟨⟨C0.cell 0, C0.cell 1⟩, ⟨C1.cell 0, C1.cell 1, C1.frozen 0, C1.frozen 1⟩, ?_⟩
  exact (Below.drew (((Below.refl w.heap.size w).alloc (Nat.le_refl _) (.cells #[a1, a2] 24)).alloc (by simp) (.cells #[r1, r2] 24))).grown hg (by have h : w.heap.size ≤ ((w.alloc (.cells #[a1, a2] 24)).alloc (.cells #[r1, r2] 24)).heap.size := (by simp; omega); exact h) (by simp)

set_option maxHeartbeats 1000000 in
theorem rcopy_pos (ad : Addr) (n c : Nat) (N : Int) (bs : List Nat) (w : World) (hr : Hid (Rd w (some ad) n bs)) (hn0 : Hid (0 < n)) (hn : Hid (n ≤ 20000)) (_hlt : ad.block < w.heap.size) :
    Calls Try.prog 11 #[.agg #[.slice (some ad) n c, .int .i64 N]] w (CopyPost w bs N) := by
  obtain ⟨i0, hi0, hz0, hz1, hz2⟩ := info_parts info_u8
  have HN := Lib.hid (show ∀ j u, (bs.map byteV)[j]? = some u → (((w.alloc (.cells #[.slice (some ad) n c, .int .i64 N] 24)).alloc (.cells #[.slice none 0 0, .int .i64 0] 24)).drew).cell? (ad.add j) = some u from by
    intro j u hu
    have hrd := (((hr.out.alloc (.cells #[.slice (some ad) n c, .int .i64 N] 24)).alloc (.cells #[.slice none 0 0, .int .i64 0] 24)).drew)
    obtain ⟨ad', e, hc⟩ := hrd.2.2 hn0.out
    injection e with e
    subst e
    rw [List.getElem?_map] at hu
    obtain ⟨x, hx, rfl⟩ := Option.map_eq_some_iff.1 hu
    exact hc j x hx)
  have HLN := Lib.hid (show (bs.map byteV).length = n * 1 by rw [List.length_map, hr.out.1, Nat.mul_one])
  have HONE := Lib.hid (show ∀ u ∈ bs.map byteV, u.oneCell' = true from by
    intro u hu
    obtain ⟨x, _, rfl⟩ := List.mem_map.1 hu
    rfl)
  go_enter Try.func11, Try.ntmps11
  go_wp2
  go_region_law (first
    | (refine step_append_lies _ rfl (.const (.slice none 0 0)) (.tmp 4) 22 rfl w.heap.size 5 i0 _ 1 1 Try.underlying22 hi0 hz0 hz1 hz2 rfl (by omega) (.slice none 0 0) 0 [] rfl (World.ownsRow_nil _ _ _ _) ad n c (bs.map byteV) rfl HLN.out HN.out HONE.out hn0.out (by have := hn.out; unfold maxLen; omega) (by have := hn.out; omega) (by simp; omega) _ rfl ?_
       intro g cap w1 hown1 hg1 hat1 hlt1
       obtain ⟨⟨b10, b11⟩, ⟨y0, y1, y2, y3⟩, hbl⟩ := copy_form hg1
       have HOWN := Lib.hid hown1
       have HBL := Lib.hid hbl
       have HG := Lib.hid hat1
       clear hown1 hg1 hat1 hbl))
  all_goals
    go_wp2
    refine bodyPost_ret (v := .agg #[.slice (some ⟨g, 0, none⟩) n cap, .int .i64 N]) (by simp [results, Try.results11, go_sem, y0, y1]) rfl ⟨_, _, _, rfl, ?_, ?_⟩
    · have ho := HOWN.out
      rw [Nat.zero_add, List.nil_append] at ho
      have hne : ¬ g = w.heap.size + 1 := by
        have hg : g = ((w.alloc (.cells #[.slice (some ad) n c, .int .i64 N] 24)).alloc (.cells #[.slice none 0 0, .int .i64 0] 24)).heap.size := by
          rcases HG.out with h | h
          · simp [Value.ownBlock] at h
          · exact h
        rw [hg]
        simp
      exact ownsRow_setCell_other (ownsRow_setCell_other ho (by simp [Value.ownBlock]; exact hne) _) (by simp [Value.ownBlock]; exact hne) _
    · exact (HBL.out.setCell (by simp) _).setCell (by simp) _
set_option maxHeartbeats 1000000 in
theorem rcopy_zero (A : Option Addr) (c : Nat) (N : Int) (w : World) :
    Calls Try.prog 11 #[.agg #[.slice A 0 c, .int .i64 N]] w (CopyPost w [] N) := by
  cases A
  all_goals
    go_enter Try.func11, Try.ntmps11
    go_wp2
    go_region
    all_goals
      go_wp2
      refine bodyPost_ret (v := .agg #[.slice none 0 0, .int .i64 N]) (by simp [results, Try.results11, go_sem]) rfl ⟨_, _, _, rfl, World.ownsRow_nil _ _ _ _, ?_⟩
      exact Below.drew (((Below.refl _ _).alloc (Nat.le_refl _) _).alloc (by simp) _)
theorem rcopy_any (A : Option Addr) (n c : Nat) (N : Int) (bs : List Nat) (w : World) (hr : Rd w A n bs) (hn : n ≤ 20000) :
    Calls Try.prog 11 #[.agg #[.slice A n c, .int .i64 N]] w (CopyPost w bs N) := by
  by_cases h0 : 0 < n
  · obtain ⟨ad, rfl, hb, _, _⟩ := hr.at_ h0
    exact rcopy_pos ad n c N bs w (Lib.hid hr) (Lib.hid h0) (Lib.hid hn) hb
  · obtain rfl : n = 0 := by omega
    obtain rfl : bs = [] := List.eq_nil_of_length_eq_zero hr.1
    exact rcopy_zero A c N w

end Go.Proofs.Ythaannpkgljngaa
