/-
  Own texts, laid together: Gt.
-/
import Derived.Test.YtgelgbfnioagbaaGs
/- Gt -/
namespace Go.Proofs.Ytgelgbfnioagbaa.Cd
open Go.RowKit
/-- what All of none answers -/
def NilP (w : World) (e : Ending) (w' : World) : Prop :=
  ∃ g, e = .returned (.tuple #[.agg #[.slice (some ⟨g, 0, none⟩) 1 1, .int .i64 2], .int .i64 0]) ∧ Blk w' g 5 #[.int .u8 64] ∧ Below w.heap.size w w'
theorem ex_end : endBits e0 = [false, true] := rfl
theorem all_nil (w : World) : Calls Try.prog 26 #[.slice none 0 0, .slice none 0 0] w (NilP w) := by
  refine (all_walk none 0 0 none 0 [] [] w (Lib.hid (by unfold maxLen; omega)) (Lib.hid Fq.RdI.none_) (Lib.hid RdT.none_)).mono ?_
  rintro e w' (⟨_, A, n, c, N, er, rfl, hb, h⟩ | ⟨h, _⟩)
  · have he : endBits (stE e0 (prs [] [])) = [false, true] := rfl
    rw [he] at h
    rcases h with ⟨_, rfl, g, e, _, hg, _⟩ | ⟨h, _⟩
    · exact ⟨g, by rw [e]; rfl, hg, hb⟩
    · simp at h
  · exact absurd rfl h
/-- what live keeps -/
structure LvS (w : World) (b1 g1 b3 gf : Nat) (u : World) : Prop where
  x1 : Blk u b1 25 #[.slice (some ⟨g1, 0, none⟩) 1 1, .int .i64 2]
  x2 : Blk u g1 5 #[.int .u8 64]
  x3 : Blk u b3 30 #[.slice (some ⟨gf, 0, none⟩) 3 3]
  x4 : Blk u gf 3 (Fq.icells [0, 1, 4])
  x5 : Below w.heap.size w u
theorem LvS.next {w : World} {b1 g1 b3 gf : Nat} {u u' : World} (h : LvS w b1 g1 b3 gf u) (hb : Below u.heap.size u u') : LvS w b1 g1 b3 gf u' :=
  ⟨h.x1.below hb h.x1.lt, h.x2.below hb h.x2.lt, h.x3.below hb h.x3.lt, h.x4.below hb h.x4.lt, h.x5.trans (hb.mono h.x5.size)⟩
theorem LvS.alloc {w : World} {b1 g1 b3 gf : Nat} {u : World} (h : LvS w b1 g1 b3 gf u) (o : Obj) : LvS w b1 g1 b3 gf (u.alloc o) := h.next ((Below.refl u.heap.size u).alloc (Nat.le_refl _) o)
/-- three tables that are the same -/
def t3 (gf : Nat) : Tb := ⟨some ⟨gf, 0, none⟩, 3, 3, [0, 1, 4]⟩
theorem rdT_three {w : World} {b1 g1 b3 gf : Nat} {u : World} {bt : Nat} (h : LvS w b1 g1 b3 gf u) (hb : Blk u bt 30 #[.slice (some ⟨gf, 0, none⟩) 3 3, .slice (some ⟨gf, 0, none⟩) 3 3, .slice (some ⟨gf, 0, none⟩) 3 3]) : RdT u (some ⟨bt, 0, none⟩) 3 [t3 gf, t3 gf, t3 gf] := by
  refine ⟨rfl, fun _ => ⟨_, rfl, fun j t ht => ?_⟩⟩
  have hj : j < 3 := by
    obtain ⟨hk, _⟩ := List.getElem?_eq_some_iff.1 ht
    exact hk
  have et : t = t3 gf := by
    rcases (show j = 0 ∨ j = 1 ∨ j = 2 by omega) with rfl | rfl | rfl <;> · injection ht with ht; exact ht.symm
  subst et
  refine ⟨?_, Fq.RdI.of_blk h.x4 rfl, by show (3 : Nat) ≤ maxLen; unfold maxLen; omega⟩
  rw [add_own, hb.cell]
  rcases (show j = 0 ∨ j = 1 ∨ j = 2 by omega) with rfl | rfl | rfl <;> rfl
theorem ex_tab : Fq.acc [1, 3] = [0, 1, 4] := by decide +kernel
def ex3 : List Pr := [(1, [0, 1, 4]), (0, [0, 1, 4]), (1, [0, 1, 4])]
theorem ex_err : allErr e0 ex3 = 0 := by decide +kernel
theorem ex_len : (endBits (stE e0 ex3)).length ≤ 65536 := by decide +kernel
theorem ex_prs (gf : Nat) : prs [1, 0, 1] [t3 gf, t3 gf, t3 gf] = ex3 := rfl
theorem ex_tbs (gf : Nat) : tbs [t3 gf, t3 gf, t3 gf] = ex3.map (·.2) := rfl
end Go.Proofs.Ytgelgbfnioagbaa.Cd
