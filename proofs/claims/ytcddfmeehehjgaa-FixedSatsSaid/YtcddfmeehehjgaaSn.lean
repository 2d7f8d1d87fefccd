/-
  Own texts, laid together: Sn.
-/
import Derived.Test.YtcddfmeehehjgaaSi
/- Sn -/
namespace Go.Proofs.Ytcddfmeehehjgaa.Fx
open Go.RowKit
/-- the sum, held behind each one -/
def addI (b : Int) (l : List Int) : Int := l.foldl (fun s v => satI (s + satI v 62) b) 0
theorem addI_snoc (b : Int) (l : List Int) (x : Int) : addI b (l ++ [x]) = satI (addI b l + satI x 62) b := by simp [addI]
theorem satI_in (v b : Int) : -2305843009213693952 ≤ satI v b ∧ satI v b ≤ 2305843009213693952 := by
  obtain ⟨p1, p2⟩ := p61 (bwN_le b)
  have h := holdI_in v (-((2 ^ bwN b : Nat) : Int)) (((2 ^ bwN b : Nat) : Int) - 1) (by omega)
  unfold satI
  omega
theorem addI_in (b : Int) (l : List Int) : -2305843009213693952 ≤ addI b l ∧ addI b l ≤ 2305843009213693952 := by
  rcases List.eq_nil_or_concat l with h | ⟨m, x, h⟩
  · subst h; simp [addI]
  · rw [h, List.concat_eq_append, addI_snoc]; exact satI_in _ _
set_option maxRecDepth 100000 in
set_option maxHeartbeats 1000000 in
theorem add_any (b : Int) (A : Option Addr) (n c : Nat) (zs : List Int) (w : World) (hn : n ≤ 1001) (hr : Hid (Fq.RdI w A n zs)) :
    Calls Try.prog 15 #[.int .i64 b, .slice A n c] w fun e w' => e = .returned (.int .i64 (addI b zs)) ∧ w = w' := by
  have HL := Lib.hid hr.out.1
  go_enter Try.func15, Try.ntmps15
  go_wp2
  go_loopw [5, 10] (fun vs vi wr => ∃ k : Nat, vs = .int .i64 (addI b (zs.take k)) ∧ vi = .int .i64 (k : Int) ∧ k ≤ n ∧ wr = w) (fun _ vi _ => n - (intOf vi).toNat)
  case atStart => exact ⟨0, rfl, rfl, by omega, rfl⟩
  case round =>
    obtain ⟨k, rfl, rfl, hk, rfl⟩ := hrel
    by_cases hlt : k < n
    · obtain ⟨ad, rfl, -, hcell⟩ := hr.out.at_ hlt
      obtain ⟨x, hx⟩ : ∃ x, zs.getD k 0 = x := ⟨_, rfl⟩
      rw [hx] at hcell
      obtain ⟨s, hs⟩ : ∃ s, addI b (zs.take k) = s := ⟨_, rfl⟩
      have s1 := addI_in b (zs.take k)
      rw [hs] at s1 ⊢
      obtain ⟨t, ht⟩ : ∃ t, satI x 62 = t := ⟨_, rfl⟩
      have t1 := satI_in x 62
      rw [ht] at t1
      have HST := Lib.hid (show satI (s + t) b = addI b (zs.take (k + 1)) by
        rw [Fq.take_snocI zs k (by rw [HL.out]; exact hlt), addI_snoc, hs, hx, ht])
      have HT := Lib.hid ht
      obtain ⟨u, hu⟩ : ∃ u, s + t = u := ⟨_, rfl⟩
      rw [hu] at HST
      have u1 : -4611686018427387904 ≤ u := by omega
      have u2 : u ≤ 4611686018427387904 := by omega
      clear hx hs ht
      go_wp2_with fail
      refine (sat_any x 62 _).mono ?_
      rintro e w' ⟨rfl, rfl⟩
      rw [HT.out]
      go_wp2_with fail
      refine (sat_any u b _).mono ?_
      rintro e w' ⟨rfl, rfl⟩
      rw [HST.out]
      clear hcell hu
      go_wp2
      go_roundw
      case rel => exact ⟨k + 1, rfl, by go_num, by omega, trivial⟩
      case measure => simp [intOf]; omega
    · obtain rfl : k = n := by omega
      rw [List.take_of_length_le (by rw [HL.out]; omega)]
      go_wp2
      go_ret
      exact ⟨rfl, rfl⟩
set_option maxRecDepth 100000 in
set_option maxHeartbeats 1000000 in
theorem radd_any (b : Int) (A : Option Addr) (n c : Nat) (zs : List Int) (w : World) (hn : n ≤ 1001) (hr : Hid (Fq.RdI w A n zs)) :
    Calls Try.prog 16 #[.int .i64 b, .slice A n c] w fun e w' => e = .returned (.int .i64 (addI b zs)) ∧ w = w' := by
  have HL := Lib.hid hr.out.1
  go_enter Try.func16, Try.ntmps16
  go_wp2
  go_loopw [5, 10] (fun vs vi wr => ∃ k : Nat, vs = .int .i64 (addI b (zs.take k)) ∧ vi = .int .i64 (k : Int) ∧ k ≤ n ∧ wr = w) (fun _ vi _ => n - (intOf vi).toNat)
  case atStart => exact ⟨0, rfl, rfl, by omega, rfl⟩
  case round =>
    obtain ⟨k, rfl, rfl, hk, rfl⟩ := hrel
    by_cases hlt : k < n
    · obtain ⟨ad, rfl, -, hcell⟩ := hr.out.at_ hlt
      obtain ⟨x, hx⟩ : ∃ x, zs.getD k 0 = x := ⟨_, rfl⟩
      rw [hx] at hcell
      obtain ⟨s, hs⟩ : ∃ s, addI b (zs.take k) = s := ⟨_, rfl⟩
      have s1 := addI_in b (zs.take k)
      rw [hs] at s1 ⊢
      obtain ⟨t, ht⟩ : ∃ t, satI x 62 = t := ⟨_, rfl⟩
      have t1 := satI_in x 62
      rw [ht] at t1
      have HST := Lib.hid (show satI (s + t) b = addI b (zs.take (k + 1)) by
        rw [Fq.take_snocI zs k (by rw [HL.out]; exact hlt), addI_snoc, hs, hx, ht])
      have HT := Lib.hid ht
      obtain ⟨u, hu⟩ : ∃ u, s + t = u := ⟨_, rfl⟩
      rw [hu] at HST
      have u1 : -4611686018427387904 ≤ u := by omega
      have u2 : u ≤ 4611686018427387904 := by omega
      clear hx hs ht
      go_wp2_with fail
      refine (rsat_any x 62 _).mono ?_
      rintro e w' ⟨rfl, rfl⟩
      rw [HT.out]
      go_wp2_with fail
      refine (rsat_any u b _).mono ?_
      rintro e w' ⟨rfl, rfl⟩
      rw [HST.out]
      clear hcell hu
      go_wp2
      go_roundw
      case rel => exact ⟨k + 1, rfl, by go_num, by omega, trivial⟩
      case measure => simp [intOf]; omega
    · obtain rfl : k = n := by omega
      rw [List.take_of_length_le (by rw [HL.out]; omega)]
      go_wp2
      go_ret
      exact ⟨rfl, rfl⟩
end Go.Proofs.Ytcddfmeehehjgaa.Fx
