/-
  Own texts, laid together: Tg.
-/
import Derived.Test.YtplfcncibmgllaaDoorTf
/- Tg -/
namespace Go.Proofs.YtplfcncibmgllaaDoor.Tb
open Go.RowKit Go.Proofs.YtplfcncibmgllaaDoor.Fx Go.Proofs.YtplfcncibmgllaaDoor.Fq
theorem info_partsT {o : Option TypeInfo} {z : Option Value} {s b : Nat} (h : o.map (fun i => (i.zero, i.size, i.bytes)) = some (z, s, b)) : ∃ i, o = some i ∧ i.zero = z ∧ i.size = s ∧ i.bytes = b := by
  obtain ⟨i, hi, e⟩ := Option.map_eq_some_iff.1 h
  simp only [Prod.mk.injEq] at e
  exact ⟨i, hi, e.1, e.2.1, e.2.2⟩
def iV (x : Int) : Value := .int .i64 x
/-- a slice of ints of one's own, read -/
theorem own_rdI {w : World} {base n : Nat} {v : Value} {zs : List Int} (h : w.ownsRow base 3 1 v n (zs.map iV)) : ∃ A c, v = .slice A n c ∧ RdI w A n zs := by
  have hlen : zs.length = n := by have := h.1; rw [List.length_map, Nat.mul_one] at this; exact this
  rcases h.2 with ⟨rfl, h0⟩ | ⟨g, cap, cur, rfl, hb, hh, hnc, hcm, hcs, ht⟩
  · subst h0
    exact ⟨none, 0, rfl, ⟨hlen, fun h => by omega⟩⟩
  · refine ⟨_, _, rfl, hlen, fun _ => ⟨_, rfl, fun j x hx => ?_⟩⟩
    exact World.ownsRow.cells h (g := g) rfl j (iV x) (by rw [List.getElem?_map, hx]; rfl)
theorem own_snocI {w : World} {base n : Nat} {v : Value} {zs : List Int} {x : Int} (h : w.ownsRow base 3 1 v (n + 1) (zs.map iV ++ [.int .i64 x])) : w.ownsRow base 3 1 v (n + 1) ((zs ++ [x]).map iV) := by
  rw [List.map_append]; exact h
theorem grow_belowI {w w2 w3 : World} {o : Obj} {t : TypeId} {size n : Nat} {v : Value} {xs : List Value} (hb : Below w.heap.size w w2) (h : w2.ownsRow w.heap.size t size v n xs) (hg : (w2.alloc o).grownBy w3 v.ownBlock) : Below w.heap.size w w3 :=
  (hb.alloc hb.size o).grown hg (hb.alloc hb.size o).size (fun k hk => (World.ownsRow.lt h k hk).1)
theorem rowI_take (k : Int) (j : Nat) (hj : j < 32) : (rowI k).take (j + 1) = (rowI k).take j ++ [kerI (j : Int) k] := by
  have hl : (rowI k).length = 32 := rowI_length k
  have e : (rowI k)[j]? = some (kerI (j : Int) k) := by unfold rowI; rw [List.getElem?_map, List.getElem?_range hj]; rfl
  rw [List.take_add_one, e]
  rfl
def RRowQ (w : World) (xs : List Int) (e : Ending) (w' : World) : Prop := ∃ A c, e = .returned (.tuple #[.slice A 32 c, .int .i64 0]) ∧ RdI w' A 32 xs ∧ Below w.heap.size w w'
end Go.Proofs.YtplfcncibmgllaaDoor.Tb
