/-
  What slices' swapRange and rotate do: they change places alone.
-/
import Derived.Test.YtlmkcipcclomdaaFk
namespace Go.Proofs.Ytlmkcipcclomdaa.Fq
open Go.RowKit

/-- the row holds the same places in some order -/
def PmP (w : World) (B : Nat) (xs : List Nat) (e : Ending) (w' : World) : Prop := e = .returned (.tuple #[]) ∧ ∃ ys : List Nat, ys.Perm xs ∧ St w w' B ys
set_option maxRecDepth 100000 in
set_option maxHeartbeats 2000000 in
theorem swapRange_any (B n c a b m : Nat) (f : Value) (xs : List Nat) (w : World) (hs : Hid (∃ ys : List Nat, ys.Perm xs ∧ St w w B ys)) (hl : Hid (xs.length = n)) (ha : a + m ≤ n) (hb : b + m ≤ n) (hab : ¬ a = b) (hn : n ≤ 1000000) :
    Calls Try.prog 48 #[.slice (some ⟨B, 0, none⟩) n c, .int .i64 (a : Int), .int .i64 (b : Int), .int .i64 (m : Int), f] w (PmP w B xs) := by
  go_enter Try.func48, Try.ntmps48
  go_wp2
  go_loopw [10] (fun vi wr => ∃ i : Nat, vi = .int .i64 (i : Int) ∧ i ≤ m ∧ Hid (∃ ys : List Nat, ys.Perm xs ∧ St w wr B ys)) (fun vi _ => m - (intOf vi).toNat)
  case atStart => exact ⟨0, rfl, by omega, hs⟩
  case round =>
    obtain ⟨i, rfl, him, HO⟩ := hrel
    by_cases hlt : i < m
    · obtain ⟨dj, hp, hst⟩ := HO.out
      have HLJ := Lib.hid (show dj.length = n by rw [hp.length_eq, hl.out])
      have HP := Lib.hid hp
      have HST := Lib.hid hst
      have c1 := ncells_at hst.2 (i := a + i) (by rw [HLJ.out]; omega)
      have c0 := ncells_at hst.2 (i := b + i) (by rw [HLJ.out]; omega)
      have f1 := Blk.frozen hst.2 (a + i)
      have f0 := Blk.frozen hst.2 (b + i)
      clear hp hst HO
      obtain ⟨x, hx⟩ : ∃ x, dj.getD (a + i) 0 = x := ⟨_, rfl⟩
      obtain ⟨y, hy⟩ : ∃ y, dj.getD (b + i) 0 = y := ⟨_, rfl⟩
      rw [hx] at c1
      rw [hy] at c0
      have HX := Lib.hid hx
      have HY := Lib.hid hy
      clear hx hy
      obtain ⟨p, hpe⟩ : ∃ p, a + i = p := ⟨_, rfl⟩
      obtain ⟨q, hqe⟩ : ∃ q, b + i = q := ⟨_, rfl⟩
      rw [hpe] at c1 f1 HX
      rw [hqe] at c0 f0 HY
      have hne : ¬ p = q := by omega
      have hne' : ¬ q = p := by omega
      have lp : p < n := by omega
      have lq : q < n := by omega
      have e1 : (a : Int) + (i : Int) = (p : Int) := by omega
      have e2 : (b : Int) + (i : Int) = (q : Int) := by omega
      have w1 : IntKind.i64.wrap (p : Int) = (p : Int) := IntWalk.i64_in _ (by omega)
      have w2 : IntKind.i64.wrap (q : Int) = (q : Int) := IntWalk.i64_in _ (by omega)
      have lp' : (p : Int) < (n : Int) := by omega
      have lq' : (q : Int) < (n : Int) := by omega
      clear hpe hqe
      go_wp2_with fail
      go_region
      all_goals
        go_wp2
        go_roundw
        case rel =>
          refine ⟨i + 1, by go_num, by omega, Lib.hid ⟨swapL dj p q, (swapL_perm dj _ _ (by rw [HLJ.out]; exact lp) (by rw [HLJ.out]; exact lq)).trans HP.out, ?_⟩⟩
          first | exact HST.out.swap p q x y HX.out HY.out | exact (HST.out.swap p q x y HX.out HY.out).drew
        case measure => simp [intOf]; omega
    · go_wp2
      exact bodyPost_end (results_none rfl _ _ _) rfl ⟨rfl, HO.out⟩
theorem PmP.next {w w1 w2 : World} {B : Nat} {xs ys zs : List Nat} (hp : ys.Perm xs) (h : St w w1 B ys) (hp2 : zs.Perm ys) (h2 : St w1 w2 B zs) : ∃ zs : List Nat, zs.Perm xs ∧ St w w2 B zs :=
  ⟨zs, hp2.trans hp, h.trans h2⟩
theorem St.self {w wr : World} {B : Nat} {xs : List Nat} (h : St w wr B xs) : St wr wr B xs := ⟨World.grownBy.refl _ _, h.2⟩
set_option maxRecDepth 100000 in
set_option maxHeartbeats 2000000 in
theorem rotate_any (B n c a m b : Nat) (f : Value) (xs : List Nat) (w : World) (hs : Hid (∃ ys : List Nat, ys.Perm xs ∧ St w w B ys)) (hl : Hid (xs.length = n)) (ha : a < m) (hm : m < b) (hb : b ≤ n) (hn : n ≤ 1000000) :
    Calls Try.prog 47 #[.slice (some ⟨B, 0, none⟩) n c, .int .i64 (a : Int), .int .i64 (m : Int), .int .i64 (b : Int), f] w (PmP w B xs) := by
  obtain ⟨i0, hi0⟩ : ∃ i0, i0 = m - a := ⟨_, rfl⟩
  obtain ⟨j0, hj0⟩ : ∃ j0, j0 = b - m := ⟨_, rfl⟩
  have e1 : (m : Int) - (a : Int) = (i0 : Int) := by omega
  have e2 : (b : Int) - (m : Int) = (j0 : Int) := by omega
  have b1 : 0 < i0 := by omega
  have b2 : 0 < j0 := by omega
  have b3 : i0 ≤ m := by omega
  have b4 : m + j0 ≤ n := by omega
  clear hi0 hj0
  go_enter Try.func47, Try.ntmps47
  go_wp2
  clear e1 e2
  go_loopw [10, 11] (fun vi vj wr => ∃ i j : Nat, vi = .int .i64 (i : Int) ∧ vj = .int .i64 (j : Int) ∧ 0 < i ∧ 0 < j ∧ i ≤ m ∧ m + j ≤ n ∧ Hid (∃ ys : List Nat, ys.Perm xs ∧ St w wr B ys)) (fun vi vj _ => (intOf vi).toNat + (intOf vj).toNat)
  case atStart => exact ⟨i0, j0, rfl, rfl, b1, b2, b3, b4, hs⟩
  case round =>
    obtain ⟨i, j, rfl, rfl, hi, hj, him, hjn, HO⟩ := hrel
    obtain ⟨dj, hp, hst⟩ := HO.out
    have HLJ := Lib.hid (show dj.length = n by rw [hp.length_eq, hl.out])
    have HP := Lib.hid hp
    have HST := Lib.hid hst
    have HSE := Lib.hid (show ∃ ys : List Nat, ys.Perm dj ∧ St wr wr B ys from ⟨dj, List.Perm.refl _, hst.self⟩)
    clear hp hst HO b1 b2 b3 b4
    obtain ⟨p, hpe⟩ : ∃ p, p = m - i := ⟨_, rfl⟩
    have e1 : (m : Int) - (i : Int) = (p : Int) := by omega
    have lp : p + i = m := by omega
    have HPE := Lib.hid lp
    clear hpe
    by_cases hij : i = j
    · subst hij
      have d1 : ((i : Int) != (i : Int)) = false := by simp
      clear lp
      go_wp2_with fail
      refine (swapRange_any B n c p m i f dj _ HSE HLJ (by have := HPE.out; omega) (by omega) (by have := HPE.out; omega) hn).mono ?_
      rintro e w1 ⟨rfl, zs, hz1, hz2⟩
      have HZ := Lib.hid (PmP.next HP.out HST.out hz1 hz2)
      clear hz1 hz2
      go_wp2
      exact bodyPost_end (results_none rfl _ _ _) rfl ⟨rfl, HZ.out⟩
    · have d1 : ((i : Int) != (j : Int)) = true := by simp; omega
      clear lp
      by_cases hgt : j < i
      · have hgt' : (j : Int) < (i : Int) := by omega
        go_wp2_with fail
        refine (swapRange_any B n c p m j f dj _ HSE HLJ (by have := HPE.out; omega) (by omega) (by have := HPE.out; omega) hn).mono ?_
        rintro e w1 ⟨rfl, zs, hz1, hz2⟩
        have HZ := Lib.hid (PmP.next HP.out HST.out hz1 hz2)
        clear hz1 hz2
        go_wp2
        go_roundw
        case rel => exact ⟨i - j, j, by go_num, rfl, by omega, hj, by omega, hjn, HZ⟩
        case measure => simp [intOf]; omega
      · have hgt' : ¬ (j : Int) < (i : Int) := by omega
        obtain ⟨q, hqe⟩ : ∃ q, q = m + j - i := ⟨_, rfl⟩
        have e2 : (m : Int) + (j : Int) - (i : Int) = (q : Int) := by omega
        have HQE := Lib.hid (show q + i = m + j by omega)
        clear hqe
        go_wp2_with fail
        refine (swapRange_any B n c p q i f dj _ HSE HLJ (by have := HPE.out; omega) (by have := HQE.out; omega) (by have := HPE.out; have := HQE.out; omega) hn).mono ?_
        rintro e w1 ⟨rfl, zs, hz1, hz2⟩
        have HZ := Lib.hid (PmP.next HP.out HST.out hz1 hz2)
        clear hz1 hz2
        go_wp2
        go_roundw
        case rel => exact ⟨i, j - i, rfl, by go_num, hi, by omega, him, by omega, HZ⟩
        case measure => simp [intOf]; omega
end Go.Proofs.Ytlmkcipcclomdaa.Fq
