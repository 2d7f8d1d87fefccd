/-
  Own texts, laid together: Ta, Tb, Tc, Td, Te, Tf, Tg.
-/
import Derived.Test.YtcnckamocbaceaaDoorMS
import Derived.StillTailTactics
import Derived.Deep.RegionHeld3
import Derived.Deep.OwnRows
import Derived.Laws.CopyOwn
import Derived.Laws.AppendOwn
import Derived.Laws.AppendOwnNone
import Derived.Maps.AppendAt
import Derived.OwnWalk
/- Ta -/
namespace Go.Proofs.YtcnckamocbaceaaDoor.Tb
open Go.RowKit Go.Proofs.YtcnckamocbaceaaDoor.Fx
/-- the i-th part's cosine and sine -/
def partP (i : Nat) : Int × Int :=
  if i = 1 then (-1073741824, 0) else if i = 2 then (0, 1073741824) else if i = 3 then (759250124, 759250124) else if i = 4 then (992008094, 410903207)
  else if i = 5 then (1053110175, 209476638) else if i = 6 then (1068571463, 105245105) else if i = 7 then (1072448454, 52686017) else (0, 0)
def rot (p q : Int × Int) : Int × Int := (roundI (p.1 * q.1 - p.2 * q.2) 30, roundI (p.1 * q.2 + p.2 * q.1) 30)
/-- the point behind j parts -/
def stP (m : Nat) : Nat → Int × Int
  | 0 => (1073741824, 0)
  | j + 1 => if m / 2 ^ (6 - j) % 2 = 1 then rot (stP m j) (partP (j + 1)) else stP m j
def ptP (m : Nat) : Int × Int := stP m 7
/-- no number of a point is great -/
def Low (p : Int × Int) : Prop := -1100000000 ≤ p.1 ∧ p.1 ≤ 1100000000 ∧ -1100000000 ≤ p.2 ∧ p.2 ≤ 1100000000
instance (p : Int × Int) : Decidable (Low p) := inferInstanceAs (Decidable (_ ∧ _))
theorem stP_low : ∀ m, m < 128 → ∀ j, j < 8 → Low (stP m j) := by decide +kernel
theorem partP_low : ∀ i, i < 8 → Low (partP i) := by decide +kernel
instance (n r : Nat) : Decidable (IsRt n r) := inferInstanceAs (Decidable (_ ∧ _))
theorem partP_root : ∀ i, i < 8 → 2 < i → IsRt ((1073741824 + (partP (i - 1)).1).toNat * 536870912) (partP i).1.toNat ∧ IsRt ((1073741824 - (partP (i - 1)).1).toNat * 536870912) (partP i).2.toNat
    ∧ 0 ≤ (partP i).1 ∧ 0 ≤ (partP i).2 ∧ 0 ≤ 1073741824 + (partP (i - 1)).1 ∧ 0 ≤ 1073741824 - (partP (i - 1)).1 ∧ (partP (i - 1)).1 ≤ 1073741824 := by decide +kernel
theorem low_mul {x y : Int} (h1 : -1100000000 ≤ x) (h2 : x ≤ 1100000000) (h3 : -1100000000 ≤ y) (h4 : y ≤ 1100000000) : -1210000000000000000 ≤ x * y ∧ x * y ≤ 1210000000000000000 := by
  have h : (x * y).natAbs ≤ 1100000000 * 1100000000 := by
    rw [Int.natAbs_mul]
    exact Nat.mul_le_mul (by omega) (by omega)
  omega
theorem blk2 {w : World} {g : Nat} {t : TypeId} {u v : Value} (h : Blk w g t #[u, v]) : w.cell? ⟨g, 0, none⟩ = some u ∧ w.cell? ⟨g, 1, none⟩ = some v ∧ w.frozen? ⟨g, 0, none⟩ = false ∧ w.frozen? ⟨g, 1, none⟩ = false := ⟨h.cell 0, h.cell 1, h.frozen 0, h.frozen 1⟩
theorem below_pt {B g : Nat} {w w4 : World} (h : Below B w w4) (hg : B ≤ g) (u v : Value) : Below B w ((w4.setCell ⟨g, 0, none⟩ u).setCell ⟨g, 1, none⟩ v) := (h.setCell (p := ⟨g, 0, none⟩) hg u).setCell (p := ⟨g, 1, none⟩) hg v
/-- a point as a value -/
def ptV (p : Int × Int) : Value := .agg #[.int .i64 p.1, .int .i64 p.2]
end Go.Proofs.YtcnckamocbaceaaDoor.Tb
/- Tb -/
namespace Go.Proofs.YtcnckamocbaceaaDoor.Tb
open Go.RowKit Go.Proofs.YtcnckamocbaceaaDoor.Fx
theorem grown_trans {a b c : World} {g : Option Nat} (h : a.grownBy b g) (k : b.grownBy c g) : a.grownBy c g :=
  ⟨k.os.trans h.os, k.tape.trans h.tape, k.output.trans h.output, Nat.le_trans h.size k.size, fun i hi hne => (k.block i (Nat.lt_of_lt_of_le hi h.size) hne).trans (h.block i hi hne)⟩
end Go.Proofs.YtcnckamocbaceaaDoor.Tb
/- Tc -/
namespace Go.Proofs.YtcnckamocbaceaaDoor.Tb
open Go.RowKit Go.Proofs.YtcnckamocbaceaaDoor.Fx
theorem i64_and127 (n : Int) : bits BinOp.and IntKind.i64 n 127 = n % 128 := by
  have h1 : (BitVec.ofInt 64 127).toNat = 2 ^ 7 - 1 := by decide
  have key : (BitVec.ofInt 64 n &&& BitVec.ofInt 64 127).toNat = (n % ((2 ^ 64 : Nat) : Int)).toNat % 2 ^ 7 := by
    rw [BitVec.toNat_and, BitVec.toNat_ofInt, h1, Nat.and_two_pow_sub_one_eq_mod]
  show IntKind.i64.wrap ((BitVec.ofInt 64 n &&& BitVec.ofInt 64 127).toNat : Nat) = n % 128
  rw [key, IntKind.wrap_i64]
  omega
end Go.Proofs.YtcnckamocbaceaaDoor.Tb
/- Td -/
namespace Go.Proofs.YtcnckamocbaceaaDoor.Tb
open Go.RowKit Go.Proofs.YtcnckamocbaceaaDoor.Fx
/-- cosines and sines in parts of 2^24 -/
def cosP (n : Nat) : Int := roundI (ptP n).1 6
def sinP (n : Nat) : Int := roundI (ptP n).2 6
theorem below_grown {B g : Nat} {w w1 w2 : World} (h : Below B w w1) (k : w1.grownBy w2 (some g)) (hg : B ≤ g) (hB : B ≤ w1.heap.size) : Below B w w2 :=
  ⟨k.os.trans h.os, k.tape.trans h.tape, k.output.trans h.output, Nat.le_trans h.size k.size, fun i hi => (k.block i (by omega) (fun e => by injection e; omega)).trans (h.block i hi)⟩
theorem ptP_low (n : Nat) (h : n < 128) : Low (ptP n) := stP_low n h 7 (by omega)
/-- the place on the circle -/
def pl (m : Int) : Nat := (m % 128).toNat
theorem pl_is (m : Int) : pl m < 128 ∧ m % 128 = (pl m : Int) := by unfold pl; omega
def halfT (i : Int) : Value := if 1 ≤ i ∧ i ≤ 7 then .tuple #[.int .i64 (partP i.toNat).1, .int .i64 (partP i.toNat).2, .int .i64 0] else .tuple #[.int .i64 0, .int .i64 0, .int .i64 1]
def turnT (n : Nat) : Value := .tuple #[.int .i64 (ptP n).1, .int .i64 (ptP n).2]
end Go.Proofs.YtcnckamocbaceaaDoor.Tb
/- Te -/
namespace Go.Proofs.YtcnckamocbaceaaDoor.Tb
open Go.RowKit Go.Proofs.YtcnckamocbaceaaDoor.Fx Go.Proofs.YtcnckamocbaceaaDoor.Fq
/-- the kernel's place -/
def phI (n k : Int) : Int := (2 * n + 17) * (2 * k + 1)
theorem ph_in {n k : Int} (h1 : 0 ≤ n) (h2 : n ≤ 31) (h3 : 0 ≤ k) (h4 : k ≤ 15) : 0 ≤ phI n k ∧ phI n k ≤ 2449 := by
  unfold phI
  refine ⟨Int.mul_nonneg (by omega) (by omega), ?_⟩
  have := Int.mul_le_mul (show 2 * n + 17 ≤ 79 by omega) (show 2 * k + 1 ≤ 31 by omega) (by omega) (by omega)
  omega
def winT (n : Int) : Value := if 0 ≤ n ∧ n ≤ 31 then .tuple #[.int .i64 (sinP (pl (2 * n + 1))), .int .i64 0] else .tuple #[.int .i64 0, .int .i64 1]
def kerI (n k : Int) : Int := cosP (pl (phI n k))
def kerT (n k : Int) : Value := if 0 ≤ n ∧ n ≤ 31 ∧ 0 ≤ k ∧ k ≤ 15 then .tuple #[.int .i64 (kerI n k), .int .i64 0] else .tuple #[.int .i64 0, .int .i64 1]
/-- a row, as far as it is made -/
def rowK (k : Int) (j : Nat) : List Int := (List.range 32).map fun n => if n < j then kerI ((n : Nat) : Int) k else 0
def rowI (k : Int) : List Int := (List.range 32).map fun n => kerI ((n : Nat) : Int) k
theorem rowK_length (k : Int) (j : Nat) : (rowK k j).length = 32 := by simp [rowK]
theorem rowI_length (k : Int) : (rowI k).length = 32 := by simp [rowI]
theorem rowK_all (k : Int) : rowK k 32 = rowI k := by
  unfold rowK rowI
  refine List.map_congr_left fun n hn => ?_
  rw [if_pos (List.mem_range.1 hn)]
theorem rowK_none (k : Int) : rowK k 0 = List.replicate 32 0 := by unfold rowK; rfl
theorem rowK_set (k : Int) (j : Nat) (hj : j < 32) : (rowK k j).set j (kerI (j : Int) k) = rowK k (j + 1) := by
  refine List.ext_getElem? fun i => ?_
  rw [List.getElem?_set, rowK_length]
  by_cases hi : i < 32
  · simp only [rowK, List.getElem?_map, List.getElem?_range hi, Option.map_some]
    by_cases h : j = i
    · subst h
      rw [if_pos rfl, if_pos hj, if_pos (by omega)]
    · rw [if_neg h]
      by_cases h2 : i < j
      · rw [if_pos h2, if_pos (by omega)]
      · rw [if_neg h2, if_neg (by omega)]
  · rw [List.getElem?_eq_none (by rw [rowK_length]; omega), List.getElem?_eq_none (by rw [rowK_length]; omega), if_neg (by omega)]
theorem info_intT : (Tryd.prog.info? 3).map (fun i => (i.zero, i.size, i.bytes)) = some (some (.int .i64 0), 1, 8) := by kernel_rfl
def RowQ (w : World) (xs : List Int) (e : Ending) (w' : World) : Prop := ∃ r, e = .returned (.tuple #[.slice (some ⟨r, 0, none⟩) 32 32, .int .i64 0]) ∧ Blk w' r 3 (icells xs) ∧ Below w.heap.size w w'
end Go.Proofs.YtcnckamocbaceaaDoor.Tb
/- Tf -/
namespace Go.Proofs.YtcnckamocbaceaaDoor.Tb
open Go.RowKit Go.Proofs.YtcnckamocbaceaaDoor.Fx Go.Proofs.YtcnckamocbaceaaDoor.Fq
def halfV2 (i : Nat) : Value := .tuple #[.int .i64 (partP i).1, .int .i64 (partP i).2]
theorem tm128 (m : Int) (n : Nat) (hm : m % 128 = (n : Int)) : ∃ t, m.tmod 128 = t ∧ -128 < t ∧ t < 128 ∧ (t + 128) % 128 = (n : Int) ∧ t % 128 = (n : Int) := by
  have h1 := Int.mul_tdiv_add_tmod m 128
  have h2 := tdm m 128 (by omega)
  exact ⟨_, rfl, by have := h2.2; omega, by have := h2.2; omega, by omega, by omega⟩
end Go.Proofs.YtcnckamocbaceaaDoor.Tb
/- Tg -/
namespace Go.Proofs.YtcnckamocbaceaaDoor.Tb
open Go.RowKit Go.Proofs.YtcnckamocbaceaaDoor.Fx Go.Proofs.YtcnckamocbaceaaDoor.Fq
theorem info_partsT {o : Option TypeInfo} {z : Option Value} {s b : Nat} (h : o.map (fun i => (i.zero, i.size, i.bytes)) = some (z, s, b)) : ∃ i, o = some i ∧ i.zero = z ∧ i.size = s ∧ i.bytes = b := by
  obtain ⟨i, hi, e⟩ := Option.map_eq_some_iff.1 h
  simp only [Prod.mk.injEq] at e
  exact ⟨i, hi, e.1, e.2.1, e.2.2⟩
def iV (x : Int) : Value := .int .i64 x
/-- a slice of ints of one's own, read -/
theorem own_rdI {w : World} {base n : Nat} {v : Value} {zs : List Int} (h : w.ownsRow base 3 1 v n (zs.map iV)) : ∃ A c, v = .slice A n c ∧ RdI w A n zs := by
  have hlen : zs.length = n := by have := h.1; rw [List.length_map, Nat.mul_one] at this; exact this
  rcases h.2 with ⟨rfl, h0⟩ | ⟨g, cap, cur, rfl, hb, hh, hnc, hcm, hcs, ht⟩
  · subst h0
    exact ⟨none, 0, rfl, ⟨hlen, fun h => by omega⟩⟩
  · refine ⟨_, _, rfl, hlen, fun _ => ⟨_, rfl, fun j x hx => ?_⟩⟩
    exact World.ownsRow.cells h (g := g) rfl j (iV x) (by rw [List.getElem?_map, hx]; rfl)
theorem own_snocI {w : World} {base n : Nat} {v : Value} {zs : List Int} {x : Int} (h : w.ownsRow base 3 1 v (n + 1) (zs.map iV ++ [.int .i64 x])) : w.ownsRow base 3 1 v (n + 1) ((zs ++ [x]).map iV) := by
  rw [List.map_append]; exact h
theorem grow_belowI {w w2 w3 : World} {o : Obj} {t : TypeId} {size n : Nat} {v : Value} {xs : List Value} (hb : Below w.heap.size w w2) (h : w2.ownsRow w.heap.size t size v n xs) (hg : (w2.alloc o).grownBy w3 v.ownBlock) : Below w.heap.size w w3 :=
  (hb.alloc hb.size o).grown hg (hb.alloc hb.size o).size (fun k hk => (World.ownsRow.lt h k hk).1)
theorem rowI_take (k : Int) (j : Nat) (hj : j < 32) : (rowI k).take (j + 1) = (rowI k).take j ++ [kerI (j : Int) k] := by
  have hl : (rowI k).length = 32 := rowI_length k
  have e : (rowI k)[j]? = some (kerI (j : Int) k) := by unfold rowI; rw [List.getElem?_map, List.getElem?_range hj]; rfl
  rw [List.take_add_one, e]
  rfl
def RRowQ (w : World) (xs : List Int) (e : Ending) (w' : World) : Prop := ∃ A c, e = .returned (.tuple #[.slice A 32 c, .int .i64 0]) ∧ RdI w' A 32 xs ∧ Below w.heap.size w w'
end Go.Proofs.YtcnckamocbaceaaDoor.Tb
