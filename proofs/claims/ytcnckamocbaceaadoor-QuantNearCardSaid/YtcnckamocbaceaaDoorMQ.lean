/-
  Own texts, laid together: Qm, Qa, Qb, Qc, Qd, Qe.
-/
import Derived.Test.YtcnckamocbaceaaDoorMX
import Derived.Test.YtcnckamocbaceaaDoorMW
import Derived.BigQuiet
/- Qm -/
namespace Go.Proofs.YtcnckamocbaceaaDoor.Lp
open Go.RowKit Go.Proofs.YtcnckamocbaceaaDoor.Fx Go.Proofs.YtcnckamocbaceaaDoor.Fq Go.Proofs.YtcnckamocbaceaaDoor.Tb
/-- how many steps k bits are -/
def mostN (k : Nat) : Nat := 2 ^ k - 1
/-- how great numbers of a level are -/
def peakN (l : Nat) : Nat := (8 + l % 8) * 2 ^ (l / 8) / 8 + 1
/-- a step of a level's numbers, with k bits -/
def stepN (l k : Nat) : Nat := (peakN l + mostN k - 1) / mostN k
theorem mostN_pos {k : Nat} (h : 1 ≤ k) : 1 ≤ mostN k := by
  obtain ⟨j, rfl⟩ : ∃ j, k = j + 1 := ⟨k - 1, by omega⟩
  have := Nat.two_pow_pos j
  unfold mostN; rw [Nat.pow_succ]; omega
theorem mostN_bd : ∀ k, k ≤ 7 → mostN k ≤ 127 := by decide
theorem mostN_succ (k : Nat) : mostN (k + 1) = 2 * mostN k + 1 := by
  have := Nat.two_pow_pos k
  unfold mostN; rw [Nat.pow_succ]; omega
theorem peakN_bd : ∀ l, l < 256 → 2 ≤ peakN l ∧ peakN l ≤ 4026531841 := by decide +kernel
theorem peakN_next : ∀ l, l < 255 → peakN l ≤ peakN (l + 1) ∧ peakN (l + 1) ≤ 2 * peakN l := by decide +kernel
theorem stepN_reach {l k : Nat} (hk : 1 ≤ k) : peakN l ≤ mostN k * stepN l k ∧ mostN k * (stepN l k - 1) < peakN l := by
  have hm := mostN_pos hk
  have hp : 1 ≤ peakN l := by unfold peakN; omega
  unfold stepN
  generalize mostN k = m at hm
  generalize peakN l = p at hp
  have h1 := Nat.div_add_mod (p + m - 1) m
  have h2 := Nat.mod_lt (p + m - 1) (show 0 < m by omega)
  generalize (p + m - 1) / m = s at h1
  rw [Nat.mul_sub, Nat.mul_one]
  constructor <;> omega
theorem stepN_bd {l k : Nat} (hl : l < 256) (hk : 1 ≤ k) (hk7 : k ≤ 7) : 1 ≤ stepN l k ∧ stepN l k ≤ 4026531967 := by
  have hm := mostN_pos hk
  have hm7 := mostN_bd k hk7
  have hp := peakN_bd l hl
  constructor
  · unfold stepN
    exact (Nat.le_div_iff_mul_le (by omega)).2 (by omega)
  · unfold stepN
    exact Nat.le_trans (Nat.div_le_self _ _) (by omega)
theorem eight_pow : ∀ r, r < 8 → 8 ^ 8 * 2 ^ r ≤ (8 + r) ^ 8 := by decide
/-- a number whose eighth power is below 2 to the level is below its peak -/
theorem below_peak {x L : Nat} (h : x ^ 8 < 2 ^ L) : x < peakN L := by
  unfold peakN
  have hL := Nat.div_add_mod L 8
  have hr := Nat.mod_lt L (show 0 < 8 by omega)
  generalize L / 8 = a at hL
  generalize L % 8 = r at hL hr
  rw [← hL, Nat.pow_add, Nat.pow_mul, ← Nat.pow_mul, Nat.mul_comm 8 a, Nat.pow_mul] at h
  have key : 8 * x < (8 + r) * 2 ^ a := by
    refine Nat.lt_of_not_le fun hge => ?_
    have h1 := Nat.pow_le_pow_left hge 8
    rw [Nat.mul_pow, Nat.mul_pow] at h1
    have h2 := eight_pow r hr
    have h3 : 8 ^ 8 * 2 ^ r * (2 ^ a) ^ 8 ≤ (8 + r) ^ 8 * (2 ^ a) ^ 8 := Nat.mul_le_mul_right _ h2
    have h4 : 8 ^ 8 * 2 ^ r * (2 ^ a) ^ 8 ≤ 8 ^ 8 * x ^ 8 := Nat.le_trans h3 h1
    rw [Nat.mul_assoc] at h4
    have h5 := Nat.le_of_mul_le_mul_left h4 (by decide : 0 < 8 ^ 8)
    rw [Nat.mul_comm] at h5
    omega
  omega
theorem sumN_ge {f : Nat → Int} : ∀ n i : Nat, i < n → (∀ j, 0 ≤ f j) → f i ≤ sumN f n
  | n + 1, i, hi, h => by
    rw [sumN_succ]
    have h1 := sumN_nonneg (f := f) n fun j _ => h j
    by_cases e : i = n
    · subst e; omega
    · have := sumN_ge n i (by omega) h
      have := h n
      omega
theorem log2_ltp {x k m : Nat} (hx : x ≠ 0) (h : x < (2 ^ k) ^ m) : x.log2 < k * m := (Nat.log2_lt hx).2 (by rw [Nat.pow_mul]; exact h)
theorem logN_lt57 {E : Nat} (h : E < 144115188075855872) : logN E < 456 := by
  by_cases h0 : E = 0
  · subst h0; decide
  · have hE : E ^ 8 ≠ 0 := by have := Nat.pow_pos (n := 8) (show 0 < E by omega); omega
    have e : (144115188075855872 : Nat) = 2 ^ 57 := by decide
    rw [e] at h
    have h1 := Nat.pow_lt_pow_left h (n := 8) (by omega)
    have h2 := log2_ltp hE h1
    unfold logN; omega
/-- each number of a band is below the peak of the band's level -/
theorem near_peak {x : List Int} (h : okX x = true) {n b : Nat} (hn : n < 16) (hb : b < 6) (hin : bnd n = b) : (x.getD n 0).natAbs < peakN (levB x b).toNat := by
  obtain ⟨E, hE⟩ : ∃ E, enB x b = E := ⟨_, rfl⟩
  obtain ⟨v, hv⟩ : ∃ v, x.getD n 0 = v := ⟨_, rfl⟩
  have hi := (bnd_iff n hn b hb).1 hin
  have hen := enN_le h b (Nat.le_refl 16)
  have hsq : v.natAbs * v.natAbs ≤ E := by
    have h1 : ownF x b n * ownF x b n ≤ enN x b 16 := sumN_ge (f := fun i => ownF x b i * ownF x b i) 16 n hn fun i => sq_nonneg' _
    rw [ownF_in hi.1 hi.2, hv] at h1
    have h3 : ((v.natAbs * v.natAbs : Nat) : Int) = v * v := by rw [Int.natCast_mul, Int.natAbs_mul_self' v]
    unfold enB at hE
    omega
  have hlt : E < 144115188075855872 := by unfold enB at hE; omega
  rw [hv]
  by_cases h0 : E = 0
  · have hz : v.natAbs = 0 := by
      rcases Nat.eq_zero_or_pos v.natAbs with e | e
      · exact e
      · have := Nat.mul_pos e e; omega
    rw [hz]
    unfold peakN; omega
  · have hL := logN_lt57 hlt
    have hlev : (levB x b).toNat = logN E / 2 + 1 := by
      unfold levB lvl
      rw [hE, if_neg h0]
      omega
    rw [hlev]
    refine below_peak ?_
    have hE0 : E ^ 8 ≠ 0 := by have := Nat.pow_pos (n := 8) (show 0 < E by omega); omega
    have h1 : E ^ 8 < 2 ^ (logN E + 1) := (Nat.log2_lt hE0).1 (Nat.lt_succ_self _)
    have h2 : (2 : Nat) ^ (logN E + 1) ≤ 2 ^ ((logN E / 2 + 1) * 2) := Nat.pow_le_pow_right (by omega) (by omega)
    have h3 := Nat.pow_le_pow_left hsq 8
    have h4 : (v.natAbs ^ 8) ^ 2 < (2 ^ (logN E / 2 + 1)) ^ 2 := by
      rw [← Nat.pow_mul 2, ← Nat.pow_mul, show 8 * 2 = 2 * 8 from rfl, Nat.pow_mul, show v.natAbs ^ 2 = v.natAbs * v.natAbs from Nat.pow_two _]
      omega
    exact Nat.lt_of_not_le fun hge => by
      have := Nat.pow_le_pow_left hge 2
      omega
/-- a number by a step, rounded: off by half a step at the most -/
theorem divI_near {a s : Int} (hs : 1 ≤ s) : 2 * (divI a s * s - a) ≤ s ∧ -s ≤ 2 * (divI a s * s - a) := by
  have h1 := Int.mul_tdiv_add_tmod a s
  have h2 := Int.tmod_lt_of_pos a (show 0 < s by omega)
  have h3 := Int.tmod_lt_of_pos (-a) (show 0 < s by omega)
  rw [Int.neg_tmod] at h3
  unfold divI
  rw [Int.mul_comm] at h1
  generalize a.tdiv s = q at h1 ⊢
  generalize a.tmod s = r at h1 h2 h3 ⊢
  split
  · rw [Int.add_mul, Int.one_mul]; omega
  · split
    · rw [Int.sub_mul, Int.one_mul]; omega
    · omega
/-- a multiple of a step by the step is what it was -/
theorem divI_mul (q : Int) {s : Int} (hs : 1 ≤ s) : divI (q * s) s = q := by
  unfold divI
  rw [Int.mul_tmod_left, Int.mul_tdiv_cancel q (by omega)]
  rw [if_neg (by omega), if_neg (by omega)]
/-- what is within m steps is within m -/
theorem divI_within {a s m : Int} (hs : 1 ≤ s) (h1 : -(m * s) ≤ a) (h2 : a ≤ m * s) : -m ≤ divI a s ∧ divI a s ≤ m := by
  have hn := divI_near (a := a) hs
  generalize divI a s = q at hn
  constructor
  · refine Int.not_lt.1 fun h => ?_
    have h3 : q * s ≤ (-m - 1) * s := Int.mul_le_mul_of_nonneg_right (by omega) (by omega)
    rw [Int.sub_mul, Int.neg_mul, Int.one_mul] at h3
    omega
  · refine Int.not_lt.1 fun h => ?_
    have h3 : (m + 1) * s ≤ q * s := Int.mul_le_mul_of_nonneg_right (by omega) (by omega)
    rw [Int.add_mul, Int.one_mul] at h3
    omega
def clampI (v by' : Int) : Int := min (max v (-by')) by'
end Go.Proofs.YtcnckamocbaceaaDoor.Lp
/- Qa -/
namespace Go.Proofs.YtcnckamocbaceaaDoor.Lp
open Go.RowKit Go.Proofs.YtcnckamocbaceaaDoor.Fx Go.Proofs.YtcnckamocbaceaaDoor.Fq Go.Proofs.YtcnckamocbaceaaDoor.Tb
theorem bnd_below : ∀ n, n < 16 → ∀ k, k ≤ bnd n → (edg (k + 1) ≤ n ↔ k < bnd n) := by decide
set_option maxRecDepth 100000 in
set_option maxHeartbeats 4000000 in
theorem rof_good (n : Nat) (w : World) (hn : n < 16) :
    Calls Tryd.prog 44 #[.int .i64 (n : Int)] w fun e w' => e = .returned (.tuple #[.int .i64 (bnd n : Int), .int .i64 0]) ∧ w = w' := by
  have HB := Lib.hid (bnd_below n hn)
  have b1 := (bnd_all n hn).1
  obtain ⟨m, hm⟩ : ∃ m, bnd n = m := ⟨_, rfl⟩
  rw [hm] at b1 HB
  rw [hm]
  have n15 : (n : Int) ≤ 15 := by omega
  clear hm
  go_enter Tryd.func44, Tryd.ntmps44
  go_wp2_with fail
  go_loop [4] (fun vi => ∃ k : Nat, k ≤ m ∧ vi = .int .i64 (k : Int)) (fun vi => 6 - (intOf vi).toNat)
  case atStart => exact ⟨0, by omega, rfl⟩
  case round =>
    obtain ⟨k, hk, rfl⟩ := hrel
    have k6 : (k : Int) < 6 := by omega
    have F1 := Lib.hid (fun u => rfirst_any (k + 1) ((k : Int) + 1) u (by omega) (by omega))
    have hb := HB.out k hk
    generalize edg (k + 1) = z at F1 hb
    by_cases hlt : k < m
    · have hd : z ≤ n := hb.2 hlt
      have hd2 : decide (z ≤ n) = true := decide_eq_true hd
      clear hb
      go_wp2_with fail
      refine (F1.out _).mono ?_
      rintro e wb ⟨rfl, rfl⟩
      go_wp2_with fail
      clear hd2
      go_round
      case rel => exact ⟨k + 1, by omega, by go_num⟩
      case measure => simp [intOf]; omega
    · obtain rfl : k = m := by omega
      have hd : ¬ z ≤ n := fun h => hlt (hb.1 h)
      have hd2 : decide (z ≤ n) = false := decide_eq_false hd
      clear hb hd
      go_wp2_with fail
      refine (F1.out _).mono ?_
      rintro e wb ⟨rfl, rfl⟩
      go_wp2_with fail
      go_ret2
      exact ⟨rfl, rfl⟩
/-- how many steps, whatever the bits are -/
def mostV (v : Int) : Nat := mostN (min (max v 0) 7).toNat
theorem rmost_any (v : Int) (w : World) : Calls Tryd.prog 15 #[.int .i64 v] w fun e w' => e = .returned (.int .i64 (mostV v : Int)) ∧ w = w' := by
  obtain ⟨c, hc⟩ : ∃ c : Nat, min (max v 0) 7 = (c : Int) := ⟨(min (max v 0) 7).toNat, by omega⟩
  have c7 : c ≤ 7 := by omega
  have HV := Lib.hid (show mostV v = mostN c by unfold mostV; rw [hc]; rfl)
  go_enter Tryd.func15, Tryd.ntmps15
  go_wp2_with fail
  clear hc
  go_loop [3, 7] (fun vn vi => ∃ k : Nat, k ≤ c ∧ vi = .int .i64 (k : Int) ∧ vn = .int .i64 ((mostN k : Nat) : Int)) (fun _ vi => c - (intOf vi).toNat)
  case atStart => exact ⟨0, by omega, rfl, rfl⟩
  case round =>
    obtain ⟨k, hk, rfl, rfl⟩ := hrel
    by_cases hlt : k < c
    · have kc : (k : Int) < (c : Int) := by omega
      have HS := Lib.hid (mostN_succ k)
      have hb := mostN_bd k (by omega)
      generalize mostN k = z at hb HS
      go_wp2
      go_round
      case rel => exact ⟨k + 1, by omega, by go_num, by rw [HS.out]; go_num⟩
      case measure => simp [intOf]; omega
    · obtain rfl : k = c := by omega
      go_wp2
      go_ret
      exact ⟨ri (by rw [HV.out]), rfl⟩
theorem two_pow_le30 {i : Nat} (h : i ≤ 30) : 2 ^ i ≤ 1073741824 := Nat.pow_le_pow_right (n := 2) (i := i) (j := 30) (by omega) h
theorem two_pow_le31 {i : Nat} (h : i ≤ 31) : 2 ^ i ≤ 2147483648 := Nat.pow_le_pow_right (n := 2) (i := i) (j := 31) (by omega) h
theorem rpeak_good (l : Nat) (w : World) (hl : l < 256) : Calls Tryd.prog 11 #[.int .i64 (l : Int)] w fun e w' => e = .returned (.tuple #[.int .i64 (peakN l : Int), .int .i64 0]) ∧ w = w' := by
  have HP := Lib.hid (show peakN l = (8 + l % 8) * 2 ^ (l / 8) / 8 + 1 from rfl)
  obtain ⟨r, hr⟩ : ∃ r, l % 8 = r := ⟨_, rfl⟩
  obtain ⟨a, ha⟩ : ∃ a, l / 8 = a := ⟨_, rfl⟩
  rw [hr, ha] at HP
  have hri : (l : Int) % 8 = (r : Int) := by omega
  have hai : (l : Int) / 8 = (a : Int) := by omega
  have r8 : r < 8 := by omega
  have a31 : a ≤ 31 := by omega
  have l255 : (l : Int) ≤ 255 := by omega
  generalize peakN l = P at HP
  clear hr ha hl
  go_enter Tryd.func11, Tryd.ntmps11
  go_wp2_with fail
  clear hri hai
  go_loop [4, 16] (fun vp vi => ∃ k : Nat, k ≤ a ∧ vi = .int .i64 (k : Int) ∧ vp = .int .i64 (((8 + r) * 2 ^ k : Nat) : Int)) (fun _ vi => a - (intOf vi).toNat)
  case atStart => exact ⟨0, by omega, rfl, by rw [Nat.pow_zero, Nat.mul_one]; go_num⟩
  case round =>
    obtain ⟨k, hk, rfl, rfl⟩ := hrel
    by_cases hlt : k < a
    · have kc : (k : Int) < (a : Int) := by omega
      have HS := Lib.hid (show (8 + r) * 2 ^ (k + 1) = (8 + r) * 2 ^ k * 2 by rw [Nat.pow_succ, Nat.mul_assoc])
      have hb : (8 + r) * 2 ^ k ≤ 15 * 1073741824 := Nat.mul_le_mul (by omega) (two_pow_le30 (by omega))
      generalize (8 + r) * 2 ^ k = z at hb HS
      go_wp2
      go_round
      case rel => exact ⟨k + 1, by omega, by go_num, by rw [HS.out]; go_num⟩
      case measure => simp [intOf]; omega
    · obtain rfl : k = a := by omega
      have hb : (8 + r) * 2 ^ k ≤ 15 * 2147483648 := Nat.mul_le_mul (by omega) (two_pow_le31 (by omega))
      generalize (8 + r) * 2 ^ k = z at hb HP
      go_wp2
      go_ret2
      refine ⟨?_, rfl⟩
      have e : (P : Int) = (z : Int) / 8 + 1 := by have := HP.out; omega
      rw [e]; rfl
theorem rpeak_bad (l : Int) (w : World) (hl : l < 0 ∨ 255 < l) : Calls Tryd.prog 11 #[.int .i64 l] w fun e w' => e = .returned (.tuple #[.int .i64 0, .int .i64 1]) ∧ w = w' := by
  rcases hl with h | h
  · go_enter Tryd.func11, Tryd.ntmps11
    go_wp2
    go_ret2
    exact ⟨rfl, rfl⟩
  · have h0 : 0 ≤ l := by omega
    go_enter Tryd.func11, Tryd.ntmps11
    go_wp2
    go_ret2
    exact ⟨rfl, rfl⟩
/-- what Peak and Step answer -/
def peakV (l : Int) : Value := if 0 ≤ l ∧ l ≤ 255 then .tuple #[.int .i64 (peakN l.toNat : Int), .int .i64 0] else .tuple #[.int .i64 0, .int .i64 1]
def stepV (l k : Int) : Value := if (0 ≤ l ∧ l ≤ 255) ∧ 1 ≤ k ∧ k ≤ 7 then .tuple #[.int .i64 (stepN l.toNat k.toNat : Int), .int .i64 0] else .tuple #[.int .i64 0, .int .i64 1]
theorem rpeak_any (l : Int) (w : World) : Calls Tryd.prog 11 #[.int .i64 l] w fun e w' => e = .returned (peakV l) ∧ w = w' := by
  unfold peakV
  by_cases h : 0 ≤ l ∧ l ≤ 255
  · rw [if_pos h]
    obtain ⟨n, rfl⟩ : ∃ n : Nat, l = (n : Int) := ⟨l.toNat, by omega⟩
    exact rpeak_good n w (by omega)
  · rw [if_neg h]; exact rpeak_bad l w (by omega)
theorem rstep_good (l k : Nat) (w : World) (hl : l < 256) (h1 : 1 ≤ k) (h7 : k ≤ 7) : Calls Tryd.prog 13 #[.int .i64 (l : Int), .int .i64 (k : Int)] w fun e w' => e = .returned (.tuple #[.int .i64 (stepN l k : Int), .int .i64 0]) ∧ w = w' := by
  have HP := Lib.hid (fun u => rpeak_good l u hl)
  have HQ := Lib.hid (fun u => rmost_any (k : Int) u)
  rw [show mostV (k : Int) = mostN k by unfold mostV; congr 1; omega] at HQ
  have HS := Lib.hid (show stepN l k = (peakN l + mostN k - 1) / mostN k from rfl)
  have p1 := peakN_bd l hl
  have m1 := mostN_pos h1
  have m7 := mostN_bd k h7
  generalize peakN l = P at HP HS p1
  generalize mostN k = m at HQ HS m1 m7
  generalize stepN l k = s at HS
  have k1 : 1 ≤ (k : Int) := by omega
  have k7 : (k : Int) ≤ 7 := by omega
  have m1i : 1 ≤ (m : Int) := by omega
  have hs0 : ((P : Int) + (m : Int) - 1) / (m : Int) = (s : Int) := by
    rw [HS.out, Int.natCast_ediv]
    congr 1
    omega
  have hsb : s ≤ P + m := by rw [HS.out]; exact Nat.le_trans (Nat.div_le_self _ _) (by omega)
  have hd : IntKind.i64.wrap (((P : Int) + (m : Int) - 1).tdiv (m : Int)) = (s : Int) := by
    rw [Int.tdiv_eq_ediv_of_nonneg (by omega), hs0]
    exact i64_w (by omega) (by omega)
  have HD0 := Lib.hid hs0
  clear hl h1 h7 hs0
  go_enter Tryd.func13, Tryd.ntmps13
  go_wp2_with fail
  refine (HP.out _).mono ?_
  rintro e wb ⟨rfl, rfl⟩
  go_wp2_with fail
  refine (HQ.out _).mono ?_
  rintro e wb ⟨rfl, rfl⟩
  go_wp2_with fail
  go_ret2
  exact ⟨rfl, rfl⟩
theorem rstep_bad1 (l k : Int) (w : World) (hl : ¬ (0 ≤ l ∧ l ≤ 255)) : Calls Tryd.prog 13 #[.int .i64 l, .int .i64 k] w fun e w' => e = .returned (.tuple #[.int .i64 0, .int .i64 1]) ∧ w = w' := by
  have HP := Lib.hid (fun u => rpeak_bad l u (by omega))
  clear hl
  go_enter Tryd.func13, Tryd.ntmps13
  go_wp2_with fail
  refine (HP.out _).mono ?_
  rintro e wb ⟨rfl, rfl⟩
  go_wp2_with fail
  go_ret2
  exact ⟨rfl, rfl⟩
theorem rstep_bad2 (l : Nat) (k : Int) (w : World) (hl : l < 256) (hk : ¬ (1 ≤ k ∧ k ≤ 7)) : Calls Tryd.prog 13 #[.int .i64 (l : Int), .int .i64 k] w fun e w' => e = .returned (.tuple #[.int .i64 0, .int .i64 1]) ∧ w = w' := by
  have HP := Lib.hid (fun u => rpeak_good l u hl)
  generalize peakN l = P at HP
  clear hl
  by_cases h1 : 1 ≤ k
  · have h7 : 7 < k := by omega
    clear hk
    go_enter Tryd.func13, Tryd.ntmps13
    go_wp2_with fail
    refine (HP.out _).mono ?_
    rintro e wb ⟨rfl, rfl⟩
    go_wp2_with fail
    go_ret2
    exact ⟨rfl, rfl⟩
  · have h7 : k < 1 := by omega
    clear hk h1
    go_enter Tryd.func13, Tryd.ntmps13
    go_wp2_with fail
    refine (HP.out _).mono ?_
    rintro e wb ⟨rfl, rfl⟩
    go_wp2_with fail
    go_ret2
    exact ⟨rfl, rfl⟩
theorem rstep_any (l k : Int) (w : World) : Calls Tryd.prog 13 #[.int .i64 l, .int .i64 k] w fun e w' => e = .returned (stepV l k) ∧ w = w' := by
  unfold stepV
  by_cases h : 0 ≤ l ∧ l ≤ 255
  · obtain ⟨n, rfl⟩ : ∃ n : Nat, l = (n : Int) := ⟨l.toNat, by omega⟩
    by_cases hk : 1 ≤ k ∧ k ≤ 7
    · rw [if_pos ⟨h, hk⟩]
      obtain ⟨m, rfl⟩ : ∃ m : Nat, k = (m : Int) := ⟨k.toNat, by omega⟩
      exact rstep_good n m w (by omega) (by omega) (by omega)
    · rw [if_neg (fun x => hk x.2)]
      exact rstep_bad2 n k w (by omega) hk
  · rw [if_neg (fun x => h x.1)]; exact rstep_bad1 l k w h
end Go.Proofs.YtcnckamocbaceaaDoor.Lp
/- Qb -/
namespace Go.Proofs.YtcnckamocbaceaaDoor.Lp
open Go.RowKit Go.Proofs.YtcnckamocbaceaaDoor.Fx Go.Proofs.YtcnckamocbaceaaDoor.Fq Go.Proofs.YtcnckamocbaceaaDoor.Tb
theorem arrHop : Arr 29 16 := ⟨⟨.array 16 3, by kernel_rfl, rfl⟩, by kernel_rfl⟩
/-- each number's step, and how many steps; 0 of those without bits -/
def stF (l a : List Int) (n : Nat) : Int := if 0 < a.getD (bnd n) 0 then (stepN (l.getD (bnd n) 0).toNat (a.getD (bnd n) 0).toNat : Int) else 0
def moF (a : List Int) (n : Nat) : Int := if 0 < a.getD (bnd n) 0 then (mostN (a.getD (bnd n) 0).toNat : Int) else 0
theorem stF_is (l a : List Int) (n : Nat) : stF l a n = if 0 < a.getD (bnd n) 0 then (stepN (l.getD (bnd n) 0).toNat (a.getD (bnd n) 0).toNat : Int) else 0 := rfl
theorem moF_is (a : List Int) (n : Nat) : moF a n = if 0 < a.getD (bnd n) 0 then (mostN (a.getD (bnd n) 0).toNat : Int) else 0 := rfl
def stL (l a : List Int) : List Int := tab 16 (stF l a)
def moL (a : List Int) : List Int := tab 16 (moF a)
def ssL (l : List Int) : List Int := if chkL l = true then stL l (shareL l 120) else zr 16
def msL (l : List Int) : List Int := if chkL l = true then moL (shareL l 120) else zr 16
def asL (l : List Int) : List Int := if chkL l = true then shareL l 120 else zr 6
def stepsV (l : List Int) : Value := .tuple #[.agg (icells (ssL l)), .agg (icells (msL l)), .agg (icells (asL l)), .bool (chkL l)]
theorem part2_skip {n k : Nat} {f g : Nat → Int} (h : f k = g k) : tab n (part2 k f g) = tab n (part2 (k + 1) f g) := tab_congr fun i _ => by
  unfold part2
  by_cases e : i = k
  · subst e; rw [if_neg (by omega), if_pos (by omega), h]
  · by_cases h1 : i < k
    · rw [if_pos h1, if_pos (by omega)]
    · rw [if_neg h1, if_neg (by omega)]
theorem res_four {fn : Func} {p q r u : Tmp} {ty tz tx : TypeId} (h : fn.results = #[.cell p ty, .cell q tz, .cell r tx, .tmp u]) (tmps : Array Value) {w w0 : World} {L : List (Nat × TypeId × List Int)} {g k j n m o : Nat} {xs ys zs : List Int} {v : Value}
    (hp : tmps.getD p undef = .pointer (some ⟨g, 0, none⟩)) (hq : tmps.getD q undef = .pointer (some ⟨k, 0, none⟩)) (hr : tmps.getD r undef = .pointer (some ⟨j, 0, none⟩)) (hv : tmps.getD u undef = v)
    (ha : Arr ty n) (hb : Arr tz m) (hc : Arr tx o) (hm : Hid (Mem w0 L w))
    (hin : (g, ty, xs) ∈ L) (hin' : (k, tz, ys) ∈ L) (hin'' : (j, tx, zs) ∈ L) (hl : Hid (xs.length = n)) (hl' : Hid (ys.length = m)) (hl'' : Hid (zs.length = o)) :
    (results fn tmps).run Tryd.prog w = .ok (.tuple #[.agg (icells xs), .agg (icells ys), .agg (icells zs), v]) w := by
  have hp' : tmps[p]?.getD undef = .pointer (some ⟨g, 0, none⟩) := by simpa using hp
  have hq' : tmps[q]?.getD undef = .pointer (some ⟨k, 0, none⟩) := by simpa using hq
  have hr' : tmps[r]?.getD undef = .pointer (some ⟨j, 0, none⟩) := by simpa using hr
  have hv' : tmps[u]?.getD undef = v := by simpa using hv
  simp [results, h, hp', hq', hr', hv', asAddr, Sem.run_bind, Result.andThen, run_load_mem ha hm.out hin hl.out, run_load_mem hb hm.out hin' hl'.out, run_load_mem hc hm.out hin'' hl''.out]
set_option maxRecDepth 100000 in
set_option maxHeartbeats 4000000 in
theorem rsteps_bad (l : List Int) (w : World) (ll : l.length = 6) (hc : chkL l = false) :
    Calls Tryd.prog 36 #[.agg (icells l)] w (ValQ w (.tuple #[.agg (icells (zr 16)), .agg (icells (zr 16)), .agg (icells (zr 6)), .bool false])) := by
  have LL := Lib.hid ll
  have LZ := Lib.hid (zr_length 6)
  have LY := Lib.hid (zr_length 16)
  have HM := Lib.hid (Mem.start w)
  have HC := Lib.hid (fun u => rshare_any' l 120 u ll)
  rw [show shareV l 120 = .tuple #[.agg (icells (zr 6)), .int .i64 1] by unfold shareV; rw [if_neg (fun k => by rw [hc] at k; exact Bool.false_ne_true k.1)]] at HC
  clear ll hc
  go_enter Tryd.func36, Tryd.ntmps36
  go_wp2_with (first | ((first | refine wl_box rfl _ _ rfl rfl HM ?_ | refine wl_alloc rfl _ rfl (by exact arrOf) HM ?_); first | (have q : dL HM = 0 := rfl; clear q HM; intro g1 u1 HM) | (have q : dL HM = 1 := rfl; clear q HM; intro g2 u2 HM) | (have q : dL HM = 2 := rfl; clear q HM; intro g3 u3 HM) | (have q : dL HM = 3 := rfl; clear q HM; intro g4 u4 HM) | (have q : dL HM = 4 := rfl; clear q HM; intro g5 u5 HM) | (have q : dL HM = 5 := rfl; clear q HM; intro g6 u6 HM) | (have q : dL HM = 6 := rfl; clear q HM; intro g7 u7 HM) | (have q : dL HM = 7 := rfl; clear q HM; intro g8 u8 HM) | (have q : dL HM = 8 := rfl; clear q HM; intro g9 u9 HM) | (have q : dL HM = 9 := rfl; clear q HM; intro g10 u10 HM) | (have q : dL HM = 10 := rfl; clear q HM; intro g11 u11 HM) | (have q : dL HM = 11 := rfl; clear q HM; intro g12 u12 HM) | (have q : dL HM = 12 := rfl; clear q HM; intro g13 u13 HM) | (have q : dL HM = 13 := rfl; clear q HM; intro g14 u14 HM)) | (refine wl_load rfl _ _ rfl rfl (by exact arrOf) HM (by exact memOf) (by exact lenOf) ?_) | (refine wl_storeM rfl _ _ _ rfl rfl rfl (by exact arrOf) HM (by exact idxOf) (by exact lenOf) (by exact lenOf) ?_; clear HM; intro us HM; dsimp only [List.set] at HM) | (refine wl_zero rfl _ rfl (by exact arrOf) (by kernel_rfl) ?_))
  refine (HC.out _).mono ?_
  rintro e w2 ⟨rfl, h1⟩
  have HM2 := Lib.hid (HM.out.below h1)
  clear h1 HM HC
  have HM := HM2
  clear HM2
  go_wp2_with (first | ((first | refine wl_box rfl _ _ rfl rfl HM ?_ | refine wl_alloc rfl _ rfl (by exact arrOf) HM ?_); first | (have q : dL HM = 0 := rfl; clear q HM; intro g1 u1 HM) | (have q : dL HM = 1 := rfl; clear q HM; intro g2 u2 HM) | (have q : dL HM = 2 := rfl; clear q HM; intro g3 u3 HM) | (have q : dL HM = 3 := rfl; clear q HM; intro g4 u4 HM) | (have q : dL HM = 4 := rfl; clear q HM; intro g5 u5 HM) | (have q : dL HM = 5 := rfl; clear q HM; intro g6 u6 HM) | (have q : dL HM = 6 := rfl; clear q HM; intro g7 u7 HM) | (have q : dL HM = 7 := rfl; clear q HM; intro g8 u8 HM) | (have q : dL HM = 8 := rfl; clear q HM; intro g9 u9 HM) | (have q : dL HM = 9 := rfl; clear q HM; intro g10 u10 HM) | (have q : dL HM = 10 := rfl; clear q HM; intro g11 u11 HM) | (have q : dL HM = 11 := rfl; clear q HM; intro g12 u12 HM) | (have q : dL HM = 12 := rfl; clear q HM; intro g13 u13 HM) | (have q : dL HM = 13 := rfl; clear q HM; intro g14 u14 HM)) | (refine wl_load rfl _ _ rfl rfl (by exact arrOf) HM (by exact memOf) (by exact lenOf) ?_) | (refine wl_storeM rfl _ _ _ rfl rfl rfl (by exact arrOf) HM (by exact idxOf) (by exact lenOf) (by exact lenOf) ?_; clear HM; intro us HM; dsimp only [List.set] at HM) | (refine wl_zero rfl _ rfl (by exact arrOf) (by kernel_rfl) ?_))
  refine wp_region_held_drew (S := Mem w [(g7, 34, zr 6), (g6, 29, zr 16), (g5, 29, zr 16)]) (by kernel_rfl) (HM.out.drew.sub (by exact subOf)) (fun hHeld => ?_)
  have HM2 := Lib.hid HM.out.drew
  clear HM
  have HM := HM2
  clear HM2
  (refine wa_take (i := 0) rfl (by kernel_rfl) (by kernel_rfl) (by kernel_rfl) (fun _ _ _ h => h) (yi_load rfl _ _ rfl rfl (by exact arrOf) (fun u hu => hu) (by exact memOf) (by exact lenOf)) hHeld rfl ?_; (try simp only [Act.put, List.setIfInBounds_toArray, List.set_cons_zero, List.set_cons_succ]))
  (refine wa_take (i := 1) rfl (by kernel_rfl) (by kernel_rfl) (by kernel_rfl) (fun _ _ _ h => h) (yi_load rfl _ _ rfl rfl (by exact arrOf) (fun u hu => hu) (by exact memOf) (by exact lenOf)) hHeld rfl ?_; (try simp only [Act.put, List.setIfInBounds_toArray, List.set_cons_zero, List.set_cons_succ]))
  (refine wa_take (i := 2) rfl (by kernel_rfl) (by kernel_rfl) (by kernel_rfl) (fun _ _ _ h => h) (yi_load rfl _ _ rfl rfl (by exact arrOf) (fun u hu => hu) (by exact memOf) (by exact lenOf)) hHeld rfl ?_; (try simp only [Act.put, List.setIfInBounds_toArray, List.set_cons_zero, List.set_cons_succ]))
  (refine wpAnyH_ready (rs := [3]) (by kernel_rfl) (by simp) ?_; refine AllReadyH.cons rfl (fun K hK => ?_) AllReadyH.nil; rw [if_pos (by rfl)]; refine ow_store _ _ _ rfl rfl rfl (by exact arrOf) HM 5 rfl (by exact lenOf) (by exact lenOf) rfl ?_; clear HM; intro us HM; simp only [List.set_cons_zero, List.set_cons_succ] at HM; refine hK.out _ _ (HM.out.sub (by exact subOf)) (fun hHeld => ?_); clear hK K; (try simp only [Act.put]))
  (refine wpAnyH_ready (rs := [4]) (by kernel_rfl) (by simp) ?_; refine AllReadyH.cons rfl (fun K hK => ?_) AllReadyH.nil; rw [if_pos (by rfl)]; refine ow_store _ _ _ rfl rfl rfl (by exact arrOf) HM 4 rfl (by exact lenOf) (by exact lenOf) rfl ?_; clear HM; intro us HM; simp only [List.set_cons_zero, List.set_cons_succ] at HM; refine hK.out _ _ (HM.out.sub (by exact subOf)) (fun hHeld => ?_); clear hK K; (try simp only [Act.put]))
  (refine wpAnyH_ready (rs := [5]) (by kernel_rfl) (by simp) ?_; refine AllReadyH.cons rfl (fun K hK => ?_) AllReadyH.nil; rw [if_pos (by rfl)]; refine ow_store _ _ _ rfl rfl rfl (by exact arrOf) HM 3 rfl (by exact lenOf) (by exact lenOf) rfl ?_; clear HM; intro us HM; simp only [List.set_cons_zero, List.set_cons_succ] at HM; refine hK.out _ _ (HM.out.sub (by exact subOf)) (fun hHeld => ?_); clear hK K; (try simp only [Act.put]))
  (refine wa_take (i := 6) rfl (by kernel_rfl) (by kernel_rfl) (by kernel_rfl) (fun _ _ _ h => h) (yi_free rfl (fun u => rfl)) hHeld rfl ?_; (try simp only [Act.put, List.setIfInBounds_toArray, List.set_cons_zero, List.set_cons_succ]))
  refine wpAnyH_done (by kernel_rfl) ?_ _
  go_wp2
  refine bodyPost_ret (v := .tuple #[.agg (icells (zr 16)), .agg (icells (zr 16)), .agg (icells (zr 6)), .bool false]) (res_four rfl _ rfl rfl rfl rfl arrHop arrHop arrAll HM (by exact memOf) (by exact memOf) (by exact memOf) LY LY LZ) rfl ⟨rfl, HM.out.1⟩
set_option maxRecDepth 100000 in
set_option maxHeartbeats 8000000 in
theorem rsteps_good (l : List Int) (w : World) (ll : l.length = 6) (hc : chkL l = true) :
    Calls Tryd.prog 36 #[.agg (icells l)] w (ValQ w (.tuple #[.agg (icells (stL l (shareL l 120))), .agg (icells (moL (shareL l 120))), .agg (icells (shareL l 120)), .bool true])) := by
  have LL := Lib.hid ll
  have LZ := Lib.hid (zr_length 6)
  have LY := Lib.hid (zr_length 16)
  have HM := Lib.hid (Mem.start w)
  have HC := Lib.hid (fun u => rshare_any' l 120 u ll)
  rw [show shareV l 120 = .tuple #[.agg (icells (shareL l 120)), .int .i64 0] by unfold shareV; rw [if_pos ⟨hc, by decide⟩]] at HC
  have hok := (share_ok l (B := 120) (by decide)).1
  obtain ⟨A, hA⟩ : ∃ A, shareL l 120 = A := ⟨_, rfl⟩
  rw [hA] at HC hok
  rw [hA]
  have LA := Lib.hid hok.1
  have HA := Lib.hid hok.2
  have HL := Lib.hid (fun k => inR_bd hc (by omega) (by omega) k)
  clear ll hc hA hok
  go_enter Tryd.func36, Tryd.ntmps36
  go_wp2_with (first | ((first | refine wl_box rfl _ _ rfl rfl HM ?_ | refine wl_alloc rfl _ rfl (by exact arrOf) HM ?_); first | (have q : dL HM = 0 := rfl; clear q HM; intro g1 u1 HM) | (have q : dL HM = 1 := rfl; clear q HM; intro g2 u2 HM) | (have q : dL HM = 2 := rfl; clear q HM; intro g3 u3 HM) | (have q : dL HM = 3 := rfl; clear q HM; intro g4 u4 HM) | (have q : dL HM = 4 := rfl; clear q HM; intro g5 u5 HM) | (have q : dL HM = 5 := rfl; clear q HM; intro g6 u6 HM) | (have q : dL HM = 6 := rfl; clear q HM; intro g7 u7 HM) | (have q : dL HM = 7 := rfl; clear q HM; intro g8 u8 HM) | (have q : dL HM = 8 := rfl; clear q HM; intro g9 u9 HM) | (have q : dL HM = 9 := rfl; clear q HM; intro g10 u10 HM) | (have q : dL HM = 10 := rfl; clear q HM; intro g11 u11 HM) | (have q : dL HM = 11 := rfl; clear q HM; intro g12 u12 HM) | (have q : dL HM = 12 := rfl; clear q HM; intro g13 u13 HM) | (have q : dL HM = 13 := rfl; clear q HM; intro g14 u14 HM)) | (refine wl_load rfl _ _ rfl rfl (by exact arrOf) HM (by exact memOf) (by exact lenOf) ?_) | (refine wl_storeM rfl _ _ _ rfl rfl rfl (by exact arrOf) HM (by exact idxOf) (by exact lenOf) (by exact lenOf) ?_; clear HM; intro us HM; dsimp only [List.set] at HM) | (refine wl_zero rfl _ rfl (by exact arrOf) (by kernel_rfl) ?_))
  refine (HC.out _).mono ?_
  rintro e w2 ⟨rfl, h1⟩
  have HM2 := Lib.hid (HM.out.below h1)
  clear h1 HM HC
  have HM := HM2
  clear HM2
  go_wp2_with (first | ((first | refine wl_box rfl _ _ rfl rfl HM ?_ | refine wl_alloc rfl _ rfl (by exact arrOf) HM ?_); first | (have q : dL HM = 0 := rfl; clear q HM; intro g1 u1 HM) | (have q : dL HM = 1 := rfl; clear q HM; intro g2 u2 HM) | (have q : dL HM = 2 := rfl; clear q HM; intro g3 u3 HM) | (have q : dL HM = 3 := rfl; clear q HM; intro g4 u4 HM) | (have q : dL HM = 4 := rfl; clear q HM; intro g5 u5 HM) | (have q : dL HM = 5 := rfl; clear q HM; intro g6 u6 HM) | (have q : dL HM = 6 := rfl; clear q HM; intro g7 u7 HM) | (have q : dL HM = 7 := rfl; clear q HM; intro g8 u8 HM) | (have q : dL HM = 8 := rfl; clear q HM; intro g9 u9 HM) | (have q : dL HM = 9 := rfl; clear q HM; intro g10 u10 HM) | (have q : dL HM = 10 := rfl; clear q HM; intro g11 u11 HM) | (have q : dL HM = 11 := rfl; clear q HM; intro g12 u12 HM) | (have q : dL HM = 12 := rfl; clear q HM; intro g13 u13 HM) | (have q : dL HM = 13 := rfl; clear q HM; intro g14 u14 HM)) | (refine wl_load rfl _ _ rfl rfl (by exact arrOf) HM (by exact memOf) (by exact lenOf) ?_) | (refine wl_storeM rfl _ _ _ rfl rfl rfl (by exact arrOf) HM (by exact idxOf) (by exact lenOf) (by exact lenOf) ?_; clear HM; intro us HM; dsimp only [List.set] at HM) | (refine wl_zero rfl _ rfl (by exact arrOf) (by kernel_rfl) ?_))
  go_loopw [23] (fun vi wr => ∃ k : Nat, k ≤ 16 ∧ vi = .int .i64 (k : Int) ∧ Hid (Mem w [(g7, 34, A), (g6, 29, tab 16 (part2 k (moF A) (fun _ => 0))), (g5, 29, tab 16 (part2 k (stF l A) (fun _ => 0))), (g4, 34, zr 6), (g3, 29, zr 16), (g2, 29, zr 16), (g1, 32, l)] wr)) (fun vi _ => 16 - (intOf vi).toNat)
  case atStart => exact ⟨0, by omega, rfl, Lib.hid (by rw [part2_none, part2_none, tab_zero]; exact HM.out)⟩
  case round =>
    clear HM
    obtain ⟨k, hk, rfl, HM⟩ := hrel
    by_cases hlt : k < 16
    · have k16 : (k : Int) < 16 := by omega
      have SM := Lib.hid (part2_set (n := 16) (k := k) (moF A) (fun _ => 0))
      have SS := Lib.hid (part2_set (n := 16) (k := k) (stF l A) (fun _ => 0))
      have KM := Lib.hid (fun h => part2_skip (n := 16) (k := k) (f := moF A) (g := fun _ => 0) h)
      have KS := Lib.hid (fun h => part2_skip (n := 16) (k := k) (f := stF l A) (g := fun _ => 0) h)
      have HO := Lib.hid (fun u => rof_good k u hlt)
      have hb6 := (bnd_all k hlt).1
      have HF := Lib.hid (moF_is A k)
      have HG := Lib.hid (stF_is l A k)
      obtain ⟨b, hb⟩ : ∃ b, bnd k = b := ⟨_, rfl⟩
      rw [hb] at HO hb6 HF HG
      clear hb
      have hl := HL.out b
      have ha := HA.out b hb6
      have c7 := HM.out.cell (.head _) (k := b) (by rw [LA.out]; exact hb6)
      have b6 : (b : Int) < 6 := by omega
      have H1 := Lib.hid (fun (u : World) (hu : Mem w [(g7, 34, A), (g1, 32, l)] u) => hu.cell (.tail _ (.head _)) (k := b) (by rw [LL.out]; exact hb6))
      have H2 := Lib.hid (fun (u : World) (hu : Mem w [(g7, 34, A), (g1, 32, l)] u) => hu.cell (.head _) (k := b) (by rw [LA.out]; exact hb6))
      obtain ⟨y, hy⟩ : ∃ y : Nat, l.getD b 0 = (y : Int) := ⟨(l.getD b 0).toNat, by omega⟩
      obtain ⟨z, hz⟩ : ∃ z : Nat, A.getD b 0 = (z : Int) := ⟨(A.getD b 0).toNat, by omega⟩
      rw [hy] at H1 hl
      rw [hz] at H2 ha c7
      have HZ := Lib.hid hz
      have hy2 : y < 256 := by omega
      have hz2 : z ≤ 7 := by omega
      clear hl ha
      by_cases hpos : 1 ≤ z
      · have hz0 : 0 < (z : Int) := by omega
        have HP := Lib.hid (fun u => rstep_good y z u hy2 hpos hz2)
        have HQ := Lib.hid (fun u => rmost_any (z : Int) u)
        rw [show mostV (z : Int) = mostN z by unfold mostV; congr 1; omega] at HQ
        rw [hz, if_pos hz0] at HF
        rw [hy, hz, if_pos hz0] at HG
        rw [show ((z : Int)).toNat = z from rfl] at HF
        rw [show ((z : Int)).toNat = z from rfl, show ((y : Int)).toNat = y from rfl] at HG
        rw [HF.out] at SM
        rw [HG.out] at SS
        clear HF HG KM KS hy2 hz2 hpos hy hz
        generalize stepN y z = s at HP SS
        generalize mostN z = m at HQ SM
        go_wp2_with fail
        refine (HO.out _).mono ?_
        rintro e wb ⟨rfl, rfl⟩
        go_wp2_with fail
        clear c7
        refine wp_region_held_drew (S := Mem w [(g7, 34, A), (g1, 32, l)]) (by kernel_rfl) (HM.out.drew.sub (by exact subOf)) (fun hHeld => ?_)
        have HM2 := Lib.hid HM.out.drew
        clear HM
        have HM := HM2
        clear HM2
        generalize World.drew _ = wd at HM hHeld ⊢
        (refine wa_take (i := 0) rfl (by kernel_rfl) (by kernel_rfl) (by kernel_rfl) (fun _ _ _ h => h) (yi_free rfl (fun u => rfl)) hHeld rfl ?_; (try simp only [Act.put, List.setIfInBounds_toArray, List.set_cons_zero, List.set_cons_succ]))
        (refine wa_take (i := 1) rfl (by kernel_rfl) (by kernel_rfl) (by kernel_rfl) (fun _ _ _ h => h) (yi_free rfl (fun u => rfl)) hHeld rfl ?_; (try simp only [Act.put, List.setIfInBounds_toArray, List.set_cons_zero, List.set_cons_succ]))
        (refine wa_take (i := 2) (v := .pointer (some ⟨g1, b, none⟩)) rfl (by kernel_rfl) (by kernel_rfl) (by kernel_rfl) (fun _ _ _ h => h) (yi_free rfl (fun u => by go_simp)) hHeld rfl ?_; (try simp only [Act.put, List.setIfInBounds_toArray, List.set_cons_zero, List.set_cons_succ]))
        (refine wa_take (i := 3) rfl (by kernel_rfl) (by kernel_rfl) (by kernel_rfl) (fun _ _ _ h => h) (yi_cell rfl _ rfl rfl (H1).out) hHeld rfl ?_; (try simp only [Act.put, List.setIfInBounds_toArray, List.set_cons_zero, List.set_cons_succ]))
        (refine wa_take (i := 4) rfl (by kernel_rfl) (by kernel_rfl) (by kernel_rfl) (fun _ _ _ h => h) (yi_free rfl (fun u => rfl)) hHeld rfl ?_; (try simp only [Act.put, List.setIfInBounds_toArray, List.set_cons_zero, List.set_cons_succ]))
        (refine wa_take (i := 5) (v := .pointer (some ⟨g7, b, none⟩)) rfl (by kernel_rfl) (by kernel_rfl) (by kernel_rfl) (fun _ _ _ h => h) (yi_free rfl (fun u => by go_simp)) hHeld rfl ?_; (try simp only [Act.put, List.setIfInBounds_toArray, List.set_cons_zero, List.set_cons_succ]))
        (refine wa_take (i := 6) rfl (by kernel_rfl) (by kernel_rfl) (by kernel_rfl) (fun _ _ _ h => h) (yi_cell rfl _ rfl rfl (H2).out) hHeld rfl ?_; (try simp only [Act.put, List.setIfInBounds_toArray, List.set_cons_zero, List.set_cons_succ]))
        refine wpAnyH_ready (rs := [7]) (by kernel_rfl) (by simp) ?_; refine AllReadyH.cons rfl (fun K hK => ?_) (AllReadyH.nil)
        rw [if_pos (by rfl)]; go_simp
        refine (HP.out _).mono ?_
        rintro e wb ⟨rfl, rfl⟩
        clear hHeld
        go_wp2_with fail; refine hK.out _ _ (HM.out.sub (by exact subOf)) (fun hHeld => ?_); clear hK K; (try simp only [Act.put, List.setIfInBounds_toArray, List.set_cons_zero, List.set_cons_succ])
        (refine wa_take (i := 8) rfl (by kernel_rfl) (by kernel_rfl) (by kernel_rfl) (fun _ _ _ h => h) (yi_free rfl (fun u => rfl)) hHeld rfl ?_; (try simp only [Act.put, List.setIfInBounds_toArray, List.set_cons_zero, List.set_cons_succ]))
        (refine wa_take (i := 9) rfl (by kernel_rfl) (by kernel_rfl) (by kernel_rfl) (fun _ _ _ h => h) (yi_free rfl (fun u => rfl)) hHeld rfl ?_; (try simp only [Act.put, List.setIfInBounds_toArray, List.set_cons_zero, List.set_cons_succ]))
        (refine wa_take (i := 10) rfl (by kernel_rfl) (by kernel_rfl) (by kernel_rfl) (fun _ _ _ h => h) (yi_free rfl (fun u => rfl)) hHeld rfl ?_; (try simp only [Act.put, List.setIfInBounds_toArray, List.set_cons_zero, List.set_cons_succ]))
        (refine wa_take (i := 11) (v := .pointer (some ⟨g5, k, none⟩)) rfl (by kernel_rfl) (by kernel_rfl) (by kernel_rfl) (fun _ _ _ h => h) (yi_free rfl (fun u => by go_simp)) hHeld rfl ?_; (try simp only [Act.put, List.setIfInBounds_toArray, List.set_cons_zero, List.set_cons_succ]))
        have c1 := HM.out.cell (.tail _ (.tail _ (.head _))) (k := k) (by rw [tab_length]; exact hlt)
        have f1 := HM.out.free (.tail _ (.tail _ (.head _))) k
        generalize List.getD (tab 16 (part2 k (stF l A) _)) k 0 = o at c1
        refine wpAnyH_ready (rs := [12]) (by kernel_rfl) (by simp) ?_; refine AllReadyH.cons rfl (fun K hK => ?_) (AllReadyH.nil)
        rw [if_pos (by rfl)]; go_simp
        have HM3 := Lib.hid (HM.out.put 2 rfl k s)
        simp only [List.set_cons_zero, List.set_cons_succ] at HM3
        rw [SS.out] at HM3
        clear HM c1 f1 hHeld
        have HM := HM3
        clear HM3
        go_wp2_with fail; refine hK.out _ _ (HM.out.sub (by exact subOf)) (fun hHeld => ?_); clear hK K; (try simp only [Act.put, List.setIfInBounds_toArray, List.set_cons_zero, List.set_cons_succ])
        refine wpAnyH_done (by kernel_rfl) ?_ _
        clear H1 H2
        have c7 := HM.out.cell (.head _) (k := b) (by rw [LA.out]; exact hb6)
        rw [HZ.out] at c7
        go_wp2_with fail
        refine (HQ.out _).mono ?_
        rintro e wb ⟨rfl, rfl⟩
        have c1 := HM.out.cell (.tail _ (.head _)) (k := k) (by rw [tab_length]; exact hlt)
        have f1 := HM.out.free (.tail _ (.head _)) k
        generalize List.getD (tab 16 (part2 k (moF A) _)) k 0 = o at c1
        go_wp2_with fail
        have HM3 := Lib.hid (HM.out.put 1 rfl k m)
        simp only [List.set_cons_zero, List.set_cons_succ] at HM3
        rw [SM.out] at HM3
        clear HM c1 f1 c7
        go_roundw
        case rel => exact ⟨k + 1, by omega, by go_num, HM3⟩
        case measure => simp [intOf]; omega
      · obtain rfl : z = 0 := by omega
        rw [hz, if_neg (by omega)] at HF
        rw [hz, if_neg (by omega)] at HG
        rw [KM.out HF.out, KS.out HG.out] at HM
        clear HF HG KM KS SM SS hpos hy hz H1 H2
        go_wp2_with fail
        refine (HO.out _).mono ?_
        rintro e wb ⟨rfl, rfl⟩
        go_wp2_with fail
        clear c7
        go_roundw
        case rel => exact ⟨k + 1, by omega, by go_num, HM⟩
        case measure => simp [intOf]; omega
    · obtain rfl : k = 16 := by omega
      rw [part2_all, part2_all] at HM
      have L1 := Lib.hid (tab_length 16 (stF l A))
      have L2 := Lib.hid (tab_length 16 (moF A))
      go_wp2_with (first | ((first | refine wl_box rfl _ _ rfl rfl HM ?_ | refine wl_alloc rfl _ rfl (by exact arrOf) HM ?_); first | (have q : dL HM = 0 := rfl; clear q HM; intro g1 u1 HM) | (have q : dL HM = 1 := rfl; clear q HM; intro g2 u2 HM) | (have q : dL HM = 2 := rfl; clear q HM; intro g3 u3 HM) | (have q : dL HM = 3 := rfl; clear q HM; intro g4 u4 HM) | (have q : dL HM = 4 := rfl; clear q HM; intro g5 u5 HM) | (have q : dL HM = 5 := rfl; clear q HM; intro g6 u6 HM) | (have q : dL HM = 6 := rfl; clear q HM; intro g7 u7 HM) | (have q : dL HM = 7 := rfl; clear q HM; intro g8 u8 HM) | (have q : dL HM = 8 := rfl; clear q HM; intro g9 u9 HM) | (have q : dL HM = 9 := rfl; clear q HM; intro g10 u10 HM) | (have q : dL HM = 10 := rfl; clear q HM; intro g11 u11 HM) | (have q : dL HM = 11 := rfl; clear q HM; intro g12 u12 HM) | (have q : dL HM = 12 := rfl; clear q HM; intro g13 u13 HM) | (have q : dL HM = 13 := rfl; clear q HM; intro g14 u14 HM)) | (refine wl_load rfl _ _ rfl rfl (by exact arrOf) HM (by exact memOf) (by exact lenOf) ?_) | (refine wl_storeM rfl _ _ _ rfl rfl rfl (by exact arrOf) HM (by exact idxOf) (by exact lenOf) (by exact lenOf) ?_; clear HM; intro us HM; dsimp only [List.set] at HM) | (refine wl_zero rfl _ rfl (by exact arrOf) (by kernel_rfl) ?_))
      refine wp_region_held_drew (S := Mem w [(g7, 34, A), (g6, 29, tab 16 (moF A)), (g5, 29, tab 16 (stF l A))]) (by kernel_rfl) (HM.out.drew.sub (by exact subOf)) (fun hHeld => ?_)
      have HM2 := Lib.hid HM.out.drew
      clear HM
      have HM := HM2
      clear HM2
      (refine wa_take (i := 0) rfl (by kernel_rfl) (by kernel_rfl) (by kernel_rfl) (fun _ _ _ h => h) (yi_load rfl _ _ rfl rfl (by exact arrOf) (fun u hu => hu) (by exact memOf) (by exact lenOf)) hHeld rfl ?_; (try simp only [Act.put, List.setIfInBounds_toArray, List.set_cons_zero, List.set_cons_succ]))
      (refine wa_take (i := 1) rfl (by kernel_rfl) (by kernel_rfl) (by kernel_rfl) (fun _ _ _ h => h) (yi_load rfl _ _ rfl rfl (by exact arrOf) (fun u hu => hu) (by exact memOf) (by exact lenOf)) hHeld rfl ?_; (try simp only [Act.put, List.setIfInBounds_toArray, List.set_cons_zero, List.set_cons_succ]))
      (refine wa_take (i := 2) rfl (by kernel_rfl) (by kernel_rfl) (by kernel_rfl) (fun _ _ _ h => h) (yi_load rfl _ _ rfl rfl (by exact arrOf) (fun u hu => hu) (by exact memOf) (by exact lenOf)) hHeld rfl ?_; (try simp only [Act.put, List.setIfInBounds_toArray, List.set_cons_zero, List.set_cons_succ]))
      (refine wpAnyH_ready (rs := [3]) (by kernel_rfl) (by simp) ?_; refine AllReadyH.cons rfl (fun K hK => ?_) AllReadyH.nil; rw [if_pos (by rfl)]; refine ow_store _ _ _ rfl rfl rfl (by exact arrOf) HM 5 rfl (by exact lenOf) (by exact lenOf) rfl ?_; clear HM; intro us HM; simp only [List.set_cons_zero, List.set_cons_succ] at HM; refine hK.out _ _ (HM.out.sub (by exact subOf)) (fun hHeld => ?_); clear hK K; (try simp only [Act.put]))
      (refine wpAnyH_ready (rs := [4]) (by kernel_rfl) (by simp) ?_; refine AllReadyH.cons rfl (fun K hK => ?_) AllReadyH.nil; rw [if_pos (by rfl)]; refine ow_store _ _ _ rfl rfl rfl (by exact arrOf) HM 4 rfl (by exact lenOf) (by exact lenOf) rfl ?_; clear HM; intro us HM; simp only [List.set_cons_zero, List.set_cons_succ] at HM; refine hK.out _ _ (HM.out.sub (by exact subOf)) (fun hHeld => ?_); clear hK K; (try simp only [Act.put]))
      (refine wpAnyH_ready (rs := [5]) (by kernel_rfl) (by simp) ?_; refine AllReadyH.cons rfl (fun K hK => ?_) AllReadyH.nil; rw [if_pos (by rfl)]; refine ow_store _ _ _ rfl rfl rfl (by exact arrOf) HM 3 rfl (by exact lenOf) (by exact lenOf) rfl ?_; clear HM; intro us HM; simp only [List.set_cons_zero, List.set_cons_succ] at HM; refine hK.out _ _ (HM.out.sub (by exact subOf)) (fun hHeld => ?_); clear hK K; (try simp only [Act.put]))
      (refine wa_take (i := 6) rfl (by kernel_rfl) (by kernel_rfl) (by kernel_rfl) (fun _ _ _ h => h) (yi_free rfl (fun u => rfl)) hHeld rfl ?_; (try simp only [Act.put, List.setIfInBounds_toArray, List.set_cons_zero, List.set_cons_succ]))
      refine wpAnyH_done (by kernel_rfl) ?_ _
      go_wp2
      refine bodyPost_ret (v := .tuple #[.agg (icells (stL l A)), .agg (icells (moL A)), .agg (icells A), .bool true]) (res_four rfl _ rfl rfl rfl rfl arrHop arrHop arrAll HM (by exact memOf) (by exact memOf) (by exact memOf) L1 L2 LA) rfl ⟨rfl, HM.out.1⟩
theorem rsteps_any (l : List Int) (w : World) (ll : l.length = 6) : Calls Tryd.prog 36 #[.agg (icells l)] w (ValQ w (stepsV l)) := by
  unfold stepsV ssL msL asL
  cases h : chkL l with
  | true => rw [if_pos rfl, if_pos rfl, if_pos rfl]; exact rsteps_good l w ll h
  | false => rw [if_neg Bool.false_ne_true, if_neg Bool.false_ne_true, if_neg Bool.false_ne_true]; exact rsteps_bad l w ll h
/-- what the steps, and how many, keep to -/
theorem ssL_length (l : List Int) : (ssL l).length = 16 := by unfold ssL; split; exact tab_length _ _; exact zr_length _
theorem msL_length (l : List Int) : (msL l).length = 16 := by unfold msL; split; exact tab_length _ _; exact zr_length _
theorem asL_length (l : List Int) : (asL l).length = 6 := by unfold asL; split; exact (share_ok l (B := 120) (by decide)).1.1; exact zr_length _
theorem msL_bd (l : List Int) {k : Nat} (hk : k < 16) : 0 ≤ (msL l).getD k 0 ∧ (msL l).getD k 0 ≤ 127 := by
  unfold msL
  split
  · unfold moL
    rw [tab_getD _ hk]
    unfold moF
    have h := (share_ok l (B := 120) (by decide)).1.2 (bnd k) (bnd_all k hk).1
    split
    · have := mostN_bd ((shareL l 120).getD (bnd k) 0).toNat (by omega)
      omega
    · omega
  · rw [zr_getD]; omega
theorem ssL_bd (l : List Int) {k : Nat} (hk : k < 16) : 0 ≤ (ssL l).getD k 0 ∧ (ssL l).getD k 0 ≤ 4026531967 := by
  unfold ssL
  split
  · rename_i hc
    unfold stL
    rw [tab_getD _ hk]
    unfold stF
    have h := (share_ok l (B := 120) (by decide)).1.2 (bnd k) (bnd_all k hk).1
    have hl := inR_bd hc (by omega) (by omega) (bnd k)
    split
    · have := stepN_bd (l := (l.getD (bnd k) 0).toNat) (k := ((shareL l 120).getD (bnd k) 0).toNat) (by omega) (by omega) (by omega)
      omega
    · omega
  · rw [zr_getD]; omega
end Go.Proofs.YtcnckamocbaceaaDoor.Lp
/- Qc -/
namespace Go.Proofs.YtcnckamocbaceaaDoor.Lp
open Go.RowKit Go.Proofs.YtcnckamocbaceaaDoor.Fx Go.Proofs.YtcnckamocbaceaaDoor.Fq Go.Proofs.YtcnckamocbaceaaDoor.Tb
/-- the first k small numbers are within how many steps there are -/
def mayN (q m : List Int) : Nat → Bool
  | 0 => true
  | k + 1 => mayN q m k && (decide (-(m.getD k 0) ≤ q.getD k 0) && decide (q.getD k 0 ≤ m.getD k 0))
theorem mayN_succ (q m : List Int) (k : Nat) : mayN q m (k + 1) = (mayN q m k && (decide (-(m.getD k 0) ≤ q.getD k 0) && decide (q.getD k 0 ≤ m.getD k 0))) := rfl
def mayB (q l : List Int) : Bool := chkL l && mayN q (msL l) 16
theorem mayN_at {q m : List Int} : ∀ n k, k < n → mayN q m n = true → -(m.getD k 0) ≤ q.getD k 0 ∧ q.getD k 0 ≤ m.getD k 0
  | n + 1, k, hk, h => by
    rw [mayN_succ, Bool.and_eq_true, Bool.and_eq_true, decide_eq_true_eq, decide_eq_true_eq] at h
    by_cases e : k = n
    · subst e; exact h.2
    · exact mayN_at n k (by omega) h.1
set_option maxRecDepth 100000 in
set_option maxHeartbeats 8000000 in
theorem rmay_any (q l : List Int) (w : World) (lq : q.length = 16) (ll : l.length = 6) :
    Calls Tryd.prog 23 #[.agg (icells q), .agg (icells l)] w (ValQ w (.bool (mayB q l))) := by
  have LQ := Lib.hid lq
  have LL := Lib.hid ll
  have L1 := Lib.hid (ssL_length l)
  have L2 := Lib.hid (msL_length l)
  have L3 := Lib.hid (asL_length l)
  have LZ := Lib.hid (zr_length 6)
  have LY := Lib.hid (zr_length 16)
  have HM := Lib.hid (Mem.start w)
  have HC := Lib.hid (fun u => rsteps_any l u ll)
  have HB := Lib.hid (fun (k : Nat) (hk : k < 16) => msL_bd l hk)
  have HV := Lib.hid (show mayB q l = (chkL l && mayN q (msL l) 16) from rfl)
  unfold stepsV at HC
  generalize mayB q l = V at HV
  generalize ssL l = S at HC L1
  generalize msL l = M at HC L2 HB HV
  generalize asL l = A at HC L3
  generalize chkL l = c at HC HV
  clear lq ll
  go_enter Tryd.func23, Tryd.ntmps23
  go_wp2_with (first | ((first | refine wl_box rfl _ _ rfl rfl HM ?_ | refine wl_alloc rfl _ rfl (by exact arrOf) HM ?_); first | (have q : dL HM = 0 := rfl; clear q HM; intro g1 u1 HM) | (have q : dL HM = 1 := rfl; clear q HM; intro g2 u2 HM) | (have q : dL HM = 2 := rfl; clear q HM; intro g3 u3 HM) | (have q : dL HM = 3 := rfl; clear q HM; intro g4 u4 HM) | (have q : dL HM = 4 := rfl; clear q HM; intro g5 u5 HM) | (have q : dL HM = 5 := rfl; clear q HM; intro g6 u6 HM) | (have q : dL HM = 6 := rfl; clear q HM; intro g7 u7 HM) | (have q : dL HM = 7 := rfl; clear q HM; intro g8 u8 HM) | (have q : dL HM = 8 := rfl; clear q HM; intro g9 u9 HM) | (have q : dL HM = 9 := rfl; clear q HM; intro g10 u10 HM) | (have q : dL HM = 10 := rfl; clear q HM; intro g11 u11 HM) | (have q : dL HM = 11 := rfl; clear q HM; intro g12 u12 HM) | (have q : dL HM = 12 := rfl; clear q HM; intro g13 u13 HM) | (have q : dL HM = 13 := rfl; clear q HM; intro g14 u14 HM)) | (refine wl_load rfl _ _ rfl rfl (by exact arrOf) HM (by exact memOf) (by exact lenOf) ?_) | (refine wl_storeM rfl _ _ _ rfl rfl rfl (by exact arrOf) HM (by exact idxOf) (by exact lenOf) (by exact lenOf) ?_; clear HM; intro us HM; dsimp only [List.set] at HM) | (refine wl_zero rfl _ rfl (by exact arrOf) (by kernel_rfl) ?_))
  refine (HC.out _).mono ?_
  rintro e w2 ⟨rfl, h1⟩
  have HM2 := Lib.hid (HM.out.below h1)
  clear h1 HM HC
  have HM := HM2
  clear HM2
  go_wp2_with (first | ((first | refine wl_box rfl _ _ rfl rfl HM ?_ | refine wl_alloc rfl _ rfl (by exact arrOf) HM ?_); first | (have q : dL HM = 0 := rfl; clear q HM; intro g1 u1 HM) | (have q : dL HM = 1 := rfl; clear q HM; intro g2 u2 HM) | (have q : dL HM = 2 := rfl; clear q HM; intro g3 u3 HM) | (have q : dL HM = 3 := rfl; clear q HM; intro g4 u4 HM) | (have q : dL HM = 4 := rfl; clear q HM; intro g5 u5 HM) | (have q : dL HM = 5 := rfl; clear q HM; intro g6 u6 HM) | (have q : dL HM = 6 := rfl; clear q HM; intro g7 u7 HM) | (have q : dL HM = 7 := rfl; clear q HM; intro g8 u8 HM) | (have q : dL HM = 8 := rfl; clear q HM; intro g9 u9 HM) | (have q : dL HM = 9 := rfl; clear q HM; intro g10 u10 HM) | (have q : dL HM = 10 := rfl; clear q HM; intro g11 u11 HM) | (have q : dL HM = 11 := rfl; clear q HM; intro g12 u12 HM) | (have q : dL HM = 12 := rfl; clear q HM; intro g13 u13 HM) | (have q : dL HM = 13 := rfl; clear q HM; intro g14 u14 HM)) | (refine wl_load rfl _ _ rfl rfl (by exact arrOf) HM (by exact memOf) (by exact lenOf) ?_) | (refine wl_storeM rfl _ _ _ rfl rfl rfl (by exact arrOf) HM (by exact idxOf) (by exact lenOf) (by exact lenOf) ?_; clear HM; intro us HM; dsimp only [List.set] at HM) | (refine wl_zero rfl _ rfl (by exact arrOf) (by kernel_rfl) ?_))
  go_loopw [8, 17] (fun vb vi wr => ∃ k : Nat, k ≤ 16 ∧ vi = .int .i64 (k : Int) ∧ vb = .bool (c && mayN q M k) ∧ Hid (Mem w [(g5, 34, A), (g4, 29, M), (g3, 29, S), (g2, 32, l), (g1, 29, q)] wr)) (fun _ vi _ => 16 - (intOf vi).toNat)
  case atStart => exact ⟨0, by omega, rfl, by rw [show mayN q M 0 = true from rfl, Bool.and_true], HM⟩
  case round =>
    clear HM
    obtain ⟨k, hk, rfl, rfl, HM⟩ := hrel
    by_cases hlt : k < 16
    · have k16 : (k : Int) < 16 := by omega
      have HS := Lib.hid (mayN_succ q M k)
      have hm := HB.out k hlt
      have c1 := HM.out.cell (.tail _ (.tail _ (.tail _ (.tail _ (.head _))))) (k := k) (by rw [LQ.out]; exact hlt)
      have c2 := HM.out.cell (.tail _ (.head _)) (k := k) (by rw [L2.out]; exact hlt)
      generalize q.getD k 0 = x at c1 HS
      generalize M.getD k 0 = m at c2 HS hm
      obtain ⟨B, hB⟩ : ∃ B, (c && mayN q M k) = B := ⟨_, rfl⟩
      have HR := Lib.hid (show (c && mayN q M (k + 1)) = (B && (decide (-m ≤ x) && decide (x ≤ m))) by rw [HS.out, ← hB, Bool.and_assoc])
      rw [hB]
      clear hB HS
      obtain ⟨m1, m2⟩ := hm
      cases B with
      | false =>
        go_wp2
        go_quiet (fail)
        go_wp2
        go_roundw
        case rel => exact ⟨k + 1, by omega, by go_num, by rw [HR.out]; rfl, Lib.hid (HM.out.drewN nq)⟩
        case measure => simp [intOf]; omega
      | true =>
        by_cases h1 : -m ≤ x
        · have d1 : decide (-m ≤ x) = true := decide_eq_true h1
          by_cases h2 : x ≤ m
          · have d2 : decide (x ≤ m) = true := decide_eq_true h2
            rw [d1, d2] at HR
            go_wp2
            go_quiet (fail)
            go_wp2
            go_roundw
            case rel => exact ⟨k + 1, by omega, by go_num, by rw [HR.out]; rfl, Lib.hid (HM.out.drewN nq)⟩
            case measure => simp [intOf]; omega
          · have d2 : decide (x ≤ m) = false := decide_eq_false h2
            rw [d1, d2] at HR
            go_wp2
            go_quiet (fail)
            go_wp2
            go_roundw
            case rel => exact ⟨k + 1, by omega, by go_num, by rw [HR.out]; rfl, Lib.hid (HM.out.drewN nq)⟩
            case measure => simp [intOf]; omega
        · have d1 : decide (-m ≤ x) = false := decide_eq_false h1
          rw [d1] at HR
          go_wp2
          go_quiet (fail)
          go_wp2
          go_roundw
          case rel => exact ⟨k + 1, by omega, by go_num, by rw [HR.out]; rfl, Lib.hid (HM.out.drewN nq)⟩
          case measure => simp [intOf]; omega
    · obtain rfl : k = 16 := by omega
      rw [← HV.out]
      go_wp2
      go_ret
      exact ⟨rfl, HM.out.1⟩
/-- a number is held within 2^26 -/
def greatF (q s : List Int) (n : Nat) : Int := clampI (q.getD n 0 * s.getD n 0) 67108864
theorem greatF_is (q s : List Int) (n : Nat) : greatF q s n = min (max (q.getD n 0 * s.getD n 0) (-67108864)) 67108864 := rfl
def greatL (q l : List Int) : List Int := tab 16 (greatF q (ssL l))
def greatV (q l : List Int) : Value := if mayB q l = true then .tuple #[.agg (icells (greatL q l)), .int .i64 0] else .tuple #[.agg (icells (zr 16)), .int .i64 1]
theorem mulq_bd {a b m n : Int} (h1 : -m ≤ a) (h2 : a ≤ m) (h3 : 0 ≤ b) (h4 : b ≤ n) (hm : 0 ≤ m) : -(m * n) ≤ a * b ∧ a * b ≤ m * n := by
  have k1 : a * b ≤ m * b := Int.mul_le_mul_of_nonneg_right h2 h3
  have k2 : -m * b ≤ a * b := Int.mul_le_mul_of_nonneg_right h1 h3
  have k3 : m * b ≤ m * n := Int.mul_le_mul_of_nonneg_left h4 hm
  rw [Int.neg_mul] at k2
  omega
set_option maxRecDepth 100000 in
set_option maxHeartbeats 4000000 in
theorem rgreat_bad (q l : List Int) (w : World) (lq : q.length = 16) (ll : l.length = 6) (hb : mayB q l = false) :
    Calls Tryd.prog 19 #[.agg (icells q), .agg (icells l)] w (ValQ w (.tuple #[.agg (icells (zr 16)), .int .i64 1])) := by
  have LQ := Lib.hid lq
  have LL := Lib.hid ll
  have LY := Lib.hid (zr_length 16)
  have HM := Lib.hid (Mem.start w)
  have HC := Lib.hid (fun u => rmay_any q l u lq ll)
  rw [hb] at HC
  clear lq ll hb
  go_enter Tryd.func19, Tryd.ntmps19
  go_wp2_with (first | ((first | refine wl_box rfl _ _ rfl rfl HM ?_ | refine wl_alloc rfl _ rfl (by exact arrOf) HM ?_); first | (have q : dL HM = 0 := rfl; clear q HM; intro g1 u1 HM) | (have q : dL HM = 1 := rfl; clear q HM; intro g2 u2 HM) | (have q : dL HM = 2 := rfl; clear q HM; intro g3 u3 HM) | (have q : dL HM = 3 := rfl; clear q HM; intro g4 u4 HM) | (have q : dL HM = 4 := rfl; clear q HM; intro g5 u5 HM) | (have q : dL HM = 5 := rfl; clear q HM; intro g6 u6 HM) | (have q : dL HM = 6 := rfl; clear q HM; intro g7 u7 HM) | (have q : dL HM = 7 := rfl; clear q HM; intro g8 u8 HM) | (have q : dL HM = 8 := rfl; clear q HM; intro g9 u9 HM) | (have q : dL HM = 9 := rfl; clear q HM; intro g10 u10 HM) | (have q : dL HM = 10 := rfl; clear q HM; intro g11 u11 HM) | (have q : dL HM = 11 := rfl; clear q HM; intro g12 u12 HM) | (have q : dL HM = 12 := rfl; clear q HM; intro g13 u13 HM) | (have q : dL HM = 13 := rfl; clear q HM; intro g14 u14 HM)) | (refine wl_load rfl _ _ rfl rfl (by exact arrOf) HM (by exact memOf) (by exact lenOf) ?_) | (refine wl_storeM rfl _ _ _ rfl rfl rfl (by exact arrOf) HM (by exact idxOf) (by exact lenOf) (by exact lenOf) ?_; clear HM; intro us HM; dsimp only [List.set] at HM) | (refine wl_zero rfl _ rfl (by exact arrOf) (by kernel_rfl) ?_))
  refine (HC.out _).mono ?_
  rintro e w2 ⟨rfl, h1⟩
  have HM2 := Lib.hid (HM.out.below h1)
  clear h1 HM HC
  have HM := HM2
  clear HM2
  go_wp2_with (first | ((first | refine wl_box rfl _ _ rfl rfl HM ?_ | refine wl_alloc rfl _ rfl (by exact arrOf) HM ?_); first | (have q : dL HM = 0 := rfl; clear q HM; intro g1 u1 HM) | (have q : dL HM = 1 := rfl; clear q HM; intro g2 u2 HM) | (have q : dL HM = 2 := rfl; clear q HM; intro g3 u3 HM) | (have q : dL HM = 3 := rfl; clear q HM; intro g4 u4 HM) | (have q : dL HM = 4 := rfl; clear q HM; intro g5 u5 HM) | (have q : dL HM = 5 := rfl; clear q HM; intro g6 u6 HM) | (have q : dL HM = 6 := rfl; clear q HM; intro g7 u7 HM) | (have q : dL HM = 7 := rfl; clear q HM; intro g8 u8 HM) | (have q : dL HM = 8 := rfl; clear q HM; intro g9 u9 HM) | (have q : dL HM = 9 := rfl; clear q HM; intro g10 u10 HM) | (have q : dL HM = 10 := rfl; clear q HM; intro g11 u11 HM) | (have q : dL HM = 11 := rfl; clear q HM; intro g12 u12 HM) | (have q : dL HM = 12 := rfl; clear q HM; intro g13 u13 HM) | (have q : dL HM = 13 := rfl; clear q HM; intro g14 u14 HM)) | (refine wl_load rfl _ _ rfl rfl (by exact arrOf) HM (by exact memOf) (by exact lenOf) ?_) | (refine wl_storeM rfl _ _ _ rfl rfl rfl (by exact arrOf) HM (by exact idxOf) (by exact lenOf) (by exact lenOf) ?_; clear HM; intro us HM; dsimp only [List.set] at HM) | (refine wl_zero rfl _ rfl (by exact arrOf) (by kernel_rfl) ?_))
  refine bodyPost_ret (v := .tuple #[.agg (icells (zr 16)), .int .i64 1]) (res_two rfl _ rfl rfl arrSpec HM (by exact memOf) LY) rfl ⟨rfl, HM.out.1⟩
set_option maxRecDepth 100000 in
set_option maxHeartbeats 8000000 in
theorem rgreat_good (q l : List Int) (w : World) (lq : q.length = 16) (ll : l.length = 6) (hb : mayB q l = true) :
    Calls Tryd.prog 19 #[.agg (icells q), .agg (icells l)] w (ValQ w (.tuple #[.agg (icells (greatL q l)), .int .i64 0])) := by
  have LQ := Lib.hid lq
  have LL := Lib.hid ll
  have LY := Lib.hid (zr_length 16)
  have L1 := Lib.hid (ssL_length l)
  have L2 := Lib.hid (msL_length l)
  have L3 := Lib.hid (asL_length l)
  have LZ := Lib.hid (zr_length 6)
  have HM := Lib.hid (Mem.start w)
  have HC := Lib.hid (fun u => rmay_any q l u lq ll)
  have HT := Lib.hid (fun u => rsteps_any l u ll)
  have HB := Lib.hid (fun (k : Nat) (hk : k < 16) => (show -(127 * 4026531967) ≤ q.getD k 0 * (ssL l).getD k 0 ∧ q.getD k 0 * (ssL l).getD k 0 ≤ 127 * 4026531967 from by
    unfold mayB at hb
    rw [Bool.and_eq_true] at hb
    have h1 := mayN_at 16 k hk hb.2
    have h2 := msL_bd l hk
    have h3 := ssL_bd l hk
    exact mulq_bd (by omega) (by omega) h3.1 h3.2 (by decide)))
  have HV := Lib.hid (show greatL q l = tab 16 (greatF q (ssL l)) from rfl)
  rw [hb] at HC
  unfold stepsV at HT
  generalize greatL q l = V at HV
  generalize ssL l = S at HT L1 HB HV
  generalize msL l = M at HT L2
  generalize asL l = A at HT L3
  generalize chkL l = c at HT
  clear lq ll hb
  go_enter Tryd.func19, Tryd.ntmps19
  go_wp2_with (first | ((first | refine wl_box rfl _ _ rfl rfl HM ?_ | refine wl_alloc rfl _ rfl (by exact arrOf) HM ?_); first | (have q : dL HM = 0 := rfl; clear q HM; intro g1 u1 HM) | (have q : dL HM = 1 := rfl; clear q HM; intro g2 u2 HM) | (have q : dL HM = 2 := rfl; clear q HM; intro g3 u3 HM) | (have q : dL HM = 3 := rfl; clear q HM; intro g4 u4 HM) | (have q : dL HM = 4 := rfl; clear q HM; intro g5 u5 HM) | (have q : dL HM = 5 := rfl; clear q HM; intro g6 u6 HM) | (have q : dL HM = 6 := rfl; clear q HM; intro g7 u7 HM) | (have q : dL HM = 7 := rfl; clear q HM; intro g8 u8 HM) | (have q : dL HM = 8 := rfl; clear q HM; intro g9 u9 HM) | (have q : dL HM = 9 := rfl; clear q HM; intro g10 u10 HM) | (have q : dL HM = 10 := rfl; clear q HM; intro g11 u11 HM) | (have q : dL HM = 11 := rfl; clear q HM; intro g12 u12 HM) | (have q : dL HM = 12 := rfl; clear q HM; intro g13 u13 HM) | (have q : dL HM = 13 := rfl; clear q HM; intro g14 u14 HM)) | (refine wl_load rfl _ _ rfl rfl (by exact arrOf) HM (by exact memOf) (by exact lenOf) ?_) | (refine wl_storeM rfl _ _ _ rfl rfl rfl (by exact arrOf) HM (by exact idxOf) (by exact lenOf) (by exact lenOf) ?_; clear HM; intro us HM; dsimp only [List.set] at HM) | (refine wl_zero rfl _ rfl (by exact arrOf) (by kernel_rfl) ?_))
  refine (HC.out _).mono ?_
  rintro e w2 ⟨rfl, h1⟩
  have HM2 := Lib.hid (HM.out.below h1)
  clear h1 HM HC
  have HM := HM2
  clear HM2
  go_wp2_with (first | ((first | refine wl_box rfl _ _ rfl rfl HM ?_ | refine wl_alloc rfl _ rfl (by exact arrOf) HM ?_); first | (have q : dL HM = 0 := rfl; clear q HM; intro g1 u1 HM) | (have q : dL HM = 1 := rfl; clear q HM; intro g2 u2 HM) | (have q : dL HM = 2 := rfl; clear q HM; intro g3 u3 HM) | (have q : dL HM = 3 := rfl; clear q HM; intro g4 u4 HM) | (have q : dL HM = 4 := rfl; clear q HM; intro g5 u5 HM) | (have q : dL HM = 5 := rfl; clear q HM; intro g6 u6 HM) | (have q : dL HM = 6 := rfl; clear q HM; intro g7 u7 HM) | (have q : dL HM = 7 := rfl; clear q HM; intro g8 u8 HM) | (have q : dL HM = 8 := rfl; clear q HM; intro g9 u9 HM) | (have q : dL HM = 9 := rfl; clear q HM; intro g10 u10 HM) | (have q : dL HM = 10 := rfl; clear q HM; intro g11 u11 HM) | (have q : dL HM = 11 := rfl; clear q HM; intro g12 u12 HM) | (have q : dL HM = 12 := rfl; clear q HM; intro g13 u13 HM) | (have q : dL HM = 13 := rfl; clear q HM; intro g14 u14 HM)) | (refine wl_load rfl _ _ rfl rfl (by exact arrOf) HM (by exact memOf) (by exact lenOf) ?_) | (refine wl_storeM rfl _ _ _ rfl rfl rfl (by exact arrOf) HM (by exact idxOf) (by exact lenOf) (by exact lenOf) ?_; clear HM; intro us HM; dsimp only [List.set] at HM) | (refine wl_zero rfl _ rfl (by exact arrOf) (by kernel_rfl) ?_))
  refine (HT.out _).mono ?_
  rintro e w2 ⟨rfl, h1⟩
  have HM2 := Lib.hid (HM.out.below h1)
  clear h1 HM HT
  have HM := HM2
  clear HM2
  go_wp2_with (first | ((first | refine wl_box rfl _ _ rfl rfl HM ?_ | refine wl_alloc rfl _ rfl (by exact arrOf) HM ?_); first | (have q : dL HM = 0 := rfl; clear q HM; intro g1 u1 HM) | (have q : dL HM = 1 := rfl; clear q HM; intro g2 u2 HM) | (have q : dL HM = 2 := rfl; clear q HM; intro g3 u3 HM) | (have q : dL HM = 3 := rfl; clear q HM; intro g4 u4 HM) | (have q : dL HM = 4 := rfl; clear q HM; intro g5 u5 HM) | (have q : dL HM = 5 := rfl; clear q HM; intro g6 u6 HM) | (have q : dL HM = 6 := rfl; clear q HM; intro g7 u7 HM) | (have q : dL HM = 7 := rfl; clear q HM; intro g8 u8 HM) | (have q : dL HM = 8 := rfl; clear q HM; intro g9 u9 HM) | (have q : dL HM = 9 := rfl; clear q HM; intro g10 u10 HM) | (have q : dL HM = 10 := rfl; clear q HM; intro g11 u11 HM) | (have q : dL HM = 11 := rfl; clear q HM; intro g12 u12 HM) | (have q : dL HM = 12 := rfl; clear q HM; intro g13 u13 HM) | (have q : dL HM = 13 := rfl; clear q HM; intro g14 u14 HM)) | (refine wl_load rfl _ _ rfl rfl (by exact arrOf) HM (by exact memOf) (by exact lenOf) ?_) | (refine wl_storeM rfl _ _ _ rfl rfl rfl (by exact arrOf) HM (by exact idxOf) (by exact lenOf) (by exact lenOf) ?_; clear HM; intro us HM; dsimp only [List.set] at HM) | (refine wl_zero rfl _ rfl (by exact arrOf) (by kernel_rfl) ?_))
  go_loopw [24] (fun vi wr => ∃ k : Nat, k ≤ 16 ∧ vi = .int .i64 (k : Int) ∧ Hid (Mem w [(g7, 34, A), (g6, 29, M), (g5, 29, S), (g4, 30, tab 16 (part2 k (greatF q S) (fun _ => 0))), (g3, 30, zr 16), (g2, 32, l), (g1, 29, q)] wr)) (fun vi _ => 16 - (intOf vi).toNat)
  case atStart => exact ⟨0, by omega, rfl, Lib.hid (by rw [part2_none, tab_zero]; exact HM.out)⟩
  case round =>
    clear HM
    obtain ⟨k, hk, rfl, HM⟩ := hrel
    by_cases hlt : k < 16
    · have k16 : (k : Int) < 16 := by omega
      have SS := Lib.hid (part2_set (n := 16) (k := k) (greatF q S) (fun _ => 0))
      have hb := HB.out k hlt
      have H1 := Lib.hid (fun (u : World) (hu : Mem w [(g5, 29, S), (g1, 29, q)] u) => hu.cell (.tail _ (.head _)) (k := k) (by rw [LQ.out]; exact hlt))
      have H2 := Lib.hid (fun (u : World) (hu : Mem w [(g5, 29, S), (g1, 29, q)] u) => hu.cell (.head _) (k := k) (by rw [L1.out]; exact hlt))
      rw [greatF_is] at SS
      generalize q.getD k 0 = x at H1 hb SS
      generalize S.getD k 0 = s at H2 hb SS
      have hw : IntKind.i64.wrap (x * s) = x * s := i64_w (by omega) (by omega)
      go_wp2
      refine wp_region_held_drew (S := Mem w [(g5, 29, S), (g1, 29, q)]) (by kernel_rfl) (HM.out.drew.sub (by exact subOf)) (fun hHeld => ?_)
      have HM2 := Lib.hid HM.out.drew
      clear HM
      have HM := HM2
      clear HM2
      generalize World.drew _ = wd at HM hHeld ⊢
      (refine wa_take (i := 0) rfl (by kernel_rfl) (by kernel_rfl) (by kernel_rfl) (fun _ _ _ h => h) (yi_free rfl (fun u => rfl)) hHeld rfl ?_; (try simp only [Act.put, List.setIfInBounds_toArray, List.set_cons_zero, List.set_cons_succ]))
      (refine wa_take (i := 1) rfl (by kernel_rfl) (by kernel_rfl) (by kernel_rfl) (fun _ _ _ h => h) (yi_free rfl (fun u => rfl)) hHeld rfl ?_; (try simp only [Act.put, List.setIfInBounds_toArray, List.set_cons_zero, List.set_cons_succ]))
      (refine wa_take (i := 2) (v := .pointer (some ⟨g1, k, none⟩)) rfl (by kernel_rfl) (by kernel_rfl) (by kernel_rfl) (fun _ _ _ h => h) (yi_free rfl (fun u => by go_simp)) hHeld rfl ?_; (try simp only [Act.put, List.setIfInBounds_toArray, List.set_cons_zero, List.set_cons_succ]))
      (refine wa_take (i := 3) rfl (by kernel_rfl) (by kernel_rfl) (by kernel_rfl) (fun _ _ _ h => h) (yi_cell rfl _ rfl rfl (H1).out) hHeld rfl ?_; (try simp only [Act.put, List.setIfInBounds_toArray, List.set_cons_zero, List.set_cons_succ]))
      (refine wa_take (i := 4) rfl (by kernel_rfl) (by kernel_rfl) (by kernel_rfl) (fun _ _ _ h => h) (yi_free rfl (fun u => rfl)) hHeld rfl ?_; (try simp only [Act.put, List.setIfInBounds_toArray, List.set_cons_zero, List.set_cons_succ]))
      (refine wa_take (i := 5) (v := .pointer (some ⟨g5, k, none⟩)) rfl (by kernel_rfl) (by kernel_rfl) (by kernel_rfl) (fun _ _ _ h => h) (yi_free rfl (fun u => by go_simp)) hHeld rfl ?_; (try simp only [Act.put, List.setIfInBounds_toArray, List.set_cons_zero, List.set_cons_succ]))
      (refine wa_take (i := 6) rfl (by kernel_rfl) (by kernel_rfl) (by kernel_rfl) (fun _ _ _ h => h) (yi_cell rfl _ rfl rfl (H2).out) hHeld rfl ?_; (try simp only [Act.put, List.setIfInBounds_toArray, List.set_cons_zero, List.set_cons_succ]))
      (refine wa_take (i := 7) (v := .int .i64 (x * s)) rfl (by kernel_rfl) (by kernel_rfl) (by kernel_rfl) (fun _ _ _ h => h) (yi_free rfl (fun u => by go_simp)) hHeld rfl ?_; (try simp only [Act.put, List.setIfInBounds_toArray, List.set_cons_zero, List.set_cons_succ]))
      clear hw
      generalize x * s = p at hb SS ⊢
      (refine wa_take (i := 8) (v := .int .i64 (max p (-67108864))) rfl (by kernel_rfl) (by kernel_rfl) (by kernel_rfl) (fun _ _ _ h => h) (yi_free rfl (fun u => by go_simp)) hHeld rfl ?_; (try simp only [Act.put, List.setIfInBounds_toArray, List.set_cons_zero, List.set_cons_succ]))
      (refine wa_take (i := 9) (v := .int .i64 (min (max p (-67108864)) 67108864)) rfl (by kernel_rfl) (by kernel_rfl) (by kernel_rfl) (fun _ _ _ h => h) (yi_free rfl (fun u => by go_simp)) hHeld rfl ?_; (try simp only [Act.put, List.setIfInBounds_toArray, List.set_cons_zero, List.set_cons_succ]))
      clear hb
      generalize min (max p (-67108864)) 67108864 = z at SS ⊢
      (refine wa_take (i := 10) (v := .pointer (some ⟨g4, k, none⟩)) rfl (by kernel_rfl) (by kernel_rfl) (by kernel_rfl) (fun _ _ _ h => h) (yi_free rfl (fun u => by go_simp)) hHeld rfl ?_; (try simp only [Act.put, List.setIfInBounds_toArray, List.set_cons_zero, List.set_cons_succ]))
      have c1 := HM.out.cell (.tail _ (.tail _ (.tail _ (.head _)))) (k := k) (by rw [tab_length]; exact hlt)
      have f1 := HM.out.free (.tail _ (.tail _ (.tail _ (.head _)))) k
      generalize List.getD (tab 16 (part2 k (greatF q S) _)) k 0 = o at c1
      refine wpAnyH_ready (rs := [11]) (by kernel_rfl) (by simp) ?_; refine AllReadyH.cons rfl (fun K hK => ?_) (AllReadyH.nil)
      rw [if_pos (by rfl)]; go_simp
      have HM3 := Lib.hid (HM.out.put 3 rfl k z)
      simp only [List.set_cons_zero, List.set_cons_succ] at HM3
      rw [SS.out] at HM3
      clear HM c1 f1 hHeld
      have HM := HM3
      clear HM3
      go_wp2_with fail; refine hK.out _ _ (HM.out.sub (by exact subOf)) (fun hHeld => ?_); clear hK K; (try simp only [Act.put, List.setIfInBounds_toArray, List.set_cons_zero, List.set_cons_succ])
      refine wpAnyH_done (by kernel_rfl) ?_ _
      clear H1 H2
      go_wp2
      go_roundw
      case rel => exact ⟨k + 1, by omega, by go_num, HM⟩
      case measure => simp [intOf]; omega
    · obtain rfl : k = 16 := by omega
      rw [part2_all, ← HV.out] at HM
      have L5 := Lib.hid (show V.length = 16 by rw [HV.out]; exact tab_length _ _)
      go_wp2_with (first | ((first | refine wl_box rfl _ _ rfl rfl HM ?_ | refine wl_alloc rfl _ rfl (by exact arrOf) HM ?_); first | (have q : dL HM = 0 := rfl; clear q HM; intro g1 u1 HM) | (have q : dL HM = 1 := rfl; clear q HM; intro g2 u2 HM) | (have q : dL HM = 2 := rfl; clear q HM; intro g3 u3 HM) | (have q : dL HM = 3 := rfl; clear q HM; intro g4 u4 HM) | (have q : dL HM = 4 := rfl; clear q HM; intro g5 u5 HM) | (have q : dL HM = 5 := rfl; clear q HM; intro g6 u6 HM) | (have q : dL HM = 6 := rfl; clear q HM; intro g7 u7 HM) | (have q : dL HM = 7 := rfl; clear q HM; intro g8 u8 HM) | (have q : dL HM = 8 := rfl; clear q HM; intro g9 u9 HM) | (have q : dL HM = 9 := rfl; clear q HM; intro g10 u10 HM) | (have q : dL HM = 10 := rfl; clear q HM; intro g11 u11 HM) | (have q : dL HM = 11 := rfl; clear q HM; intro g12 u12 HM) | (have q : dL HM = 12 := rfl; clear q HM; intro g13 u13 HM) | (have q : dL HM = 13 := rfl; clear q HM; intro g14 u14 HM)) | (refine wl_load rfl _ _ rfl rfl (by exact arrOf) HM (by exact memOf) (by exact lenOf) ?_) | (refine wl_storeM rfl _ _ _ rfl rfl rfl (by exact arrOf) HM (by exact idxOf) (by exact lenOf) (by exact lenOf) ?_; clear HM; intro us HM; dsimp only [List.set] at HM) | (refine wl_zero rfl _ rfl (by exact arrOf) (by kernel_rfl) ?_))
      refine bodyPost_ret (v := .tuple #[.agg (icells V), .int .i64 0]) (res_two rfl _ rfl rfl arrSpec HM (by exact memOf) L5) rfl ⟨rfl, HM.out.1⟩
theorem rgreat_any (q l : List Int) (w : World) (lq : q.length = 16) (ll : l.length = 6) :
    Calls Tryd.prog 19 #[.agg (icells q), .agg (icells l)] w (ValQ w (greatV q l)) := by
  unfold greatV
  cases h : mayB q l with
  | true => rw [if_pos rfl]; exact rgreat_good q l w lq ll h
  | false => rw [if_neg Bool.false_ne_true]; exact rgreat_bad q l w lq ll h
end Go.Proofs.YtcnckamocbaceaaDoor.Lp
/- Qd -/
namespace Go.Proofs.YtcnckamocbaceaaDoor.Lp
open Go.RowKit Go.Proofs.YtcnckamocbaceaaDoor.Fx Go.Proofs.YtcnckamocbaceaaDoor.Fq Go.Proofs.YtcnckamocbaceaaDoor.Tb
def smallF (x s m : List Int) (n : Nat) : Int := if 0 < s.getD n 0 then clampI (divI (x.getD n 0) (s.getD n 0)) (m.getD n 0) else 0
theorem smallF_is (x s m : List Int) (n : Nat) : smallF x s m n = if 0 < s.getD n 0 then min (max (divI (x.getD n 0) (s.getD n 0)) (-(m.getD n 0))) (m.getD n 0) else 0 := rfl
def smallL (x l : List Int) : List Int := tab 16 (smallF x (ssL l) (msL l))
def smallV (x l : List Int) : Value := if chkL l = true ∧ okX x = true then .tuple #[.agg (icells (smallL x l)), .agg (icells (asL l)), .int .i64 0] else .tuple #[.agg (icells (zr 16)), .agg (icells (zr 6)), .int .i64 1]
set_option maxRecDepth 100000 in
set_option maxHeartbeats 4000000 in
theorem rsmall_bad (x l : List Int) (w : World) (lx : x.length = 16) (ll : l.length = 6) (hb : ¬ (chkL l = true ∧ okX x = true)) :
    Calls Tryd.prog 17 #[.agg (icells x), .agg (icells l)] w (ValQ w (.tuple #[.agg (icells (zr 16)), .agg (icells (zr 6)), .int .i64 1])) := by
  have LX := Lib.hid lx
  have LL := Lib.hid ll
  have L1 := Lib.hid (ssL_length l)
  have L2 := Lib.hid (msL_length l)
  have L3 := Lib.hid (asL_length l)
  have LZ := Lib.hid (zr_length 6)
  have LY := Lib.hid (zr_length 16)
  have HM := Lib.hid (Mem.start w)
  have HC := Lib.hid (fun u => rsteps_any l u ll)
  have HX := Lib.hid (fun b (h : okX x = b) u => mayX_any x b u lx h)
  have HB := Lib.hid hb
  unfold stepsV at HC
  generalize ssL l = S at HC L1
  generalize msL l = M at HC L2
  generalize asL l = A at HC L3
  generalize chkL l = c at HC HB
  clear lx ll hb
  cases c with
  | false =>
    clear HX HB
    go_enter Tryd.func17, Tryd.ntmps17
    go_wp2_with (first | ((first | refine wl_box rfl _ _ rfl rfl HM ?_ | refine wl_alloc rfl _ rfl (by exact arrOf) HM ?_); first | (have q : dL HM = 0 := rfl; clear q HM; intro g1 u1 HM) | (have q : dL HM = 1 := rfl; clear q HM; intro g2 u2 HM) | (have q : dL HM = 2 := rfl; clear q HM; intro g3 u3 HM) | (have q : dL HM = 3 := rfl; clear q HM; intro g4 u4 HM) | (have q : dL HM = 4 := rfl; clear q HM; intro g5 u5 HM) | (have q : dL HM = 5 := rfl; clear q HM; intro g6 u6 HM) | (have q : dL HM = 6 := rfl; clear q HM; intro g7 u7 HM) | (have q : dL HM = 7 := rfl; clear q HM; intro g8 u8 HM) | (have q : dL HM = 8 := rfl; clear q HM; intro g9 u9 HM) | (have q : dL HM = 9 := rfl; clear q HM; intro g10 u10 HM) | (have q : dL HM = 10 := rfl; clear q HM; intro g11 u11 HM) | (have q : dL HM = 11 := rfl; clear q HM; intro g12 u12 HM) | (have q : dL HM = 12 := rfl; clear q HM; intro g13 u13 HM) | (have q : dL HM = 13 := rfl; clear q HM; intro g14 u14 HM)) | (refine wl_load rfl _ _ rfl rfl (by exact arrOf) HM (by exact memOf) (by exact lenOf) ?_) | (refine wl_storeM rfl _ _ _ rfl rfl rfl (by exact arrOf) HM (by exact idxOf) (by exact lenOf) (by exact lenOf) ?_; clear HM; intro us HM; dsimp only [List.set] at HM) | (refine wl_zero rfl _ rfl (by exact arrOf) (by kernel_rfl) ?_))
    refine (HC.out _).mono ?_
    rintro e w2 ⟨rfl, h1⟩
    have HM2 := Lib.hid (HM.out.below h1)
    clear h1 HM HC
    have HM := HM2
    clear HM2
    go_wp2_with (first | ((first | refine wl_box rfl _ _ rfl rfl HM ?_ | refine wl_alloc rfl _ rfl (by exact arrOf) HM ?_); first | (have q : dL HM = 0 := rfl; clear q HM; intro g1 u1 HM) | (have q : dL HM = 1 := rfl; clear q HM; intro g2 u2 HM) | (have q : dL HM = 2 := rfl; clear q HM; intro g3 u3 HM) | (have q : dL HM = 3 := rfl; clear q HM; intro g4 u4 HM) | (have q : dL HM = 4 := rfl; clear q HM; intro g5 u5 HM) | (have q : dL HM = 5 := rfl; clear q HM; intro g6 u6 HM) | (have q : dL HM = 6 := rfl; clear q HM; intro g7 u7 HM) | (have q : dL HM = 7 := rfl; clear q HM; intro g8 u8 HM) | (have q : dL HM = 8 := rfl; clear q HM; intro g9 u9 HM) | (have q : dL HM = 9 := rfl; clear q HM; intro g10 u10 HM) | (have q : dL HM = 10 := rfl; clear q HM; intro g11 u11 HM) | (have q : dL HM = 11 := rfl; clear q HM; intro g12 u12 HM) | (have q : dL HM = 12 := rfl; clear q HM; intro g13 u13 HM) | (have q : dL HM = 13 := rfl; clear q HM; intro g14 u14 HM)) | (refine wl_load rfl _ _ rfl rfl (by exact arrOf) HM (by exact memOf) (by exact lenOf) ?_) | (refine wl_storeM rfl _ _ _ rfl rfl rfl (by exact arrOf) HM (by exact idxOf) (by exact lenOf) (by exact lenOf) ?_; clear HM; intro us HM; dsimp only [List.set] at HM) | (refine wl_zero rfl _ rfl (by exact arrOf) (by kernel_rfl) ?_))
    refine bodyPost_ret (v := .tuple #[.agg (icells (zr 16)), .agg (icells (zr 6)), .int .i64 1]) (res_three rfl _ rfl rfl rfl arrHop arrAll HM (by exact memOf) (by exact memOf) LY LZ) rfl ⟨rfl, HM.out.1⟩
  | true =>
    have hx : okX x = false := by
      cases h : okX x with
      | false => rfl
      | true => exact absurd ⟨rfl, h⟩ HB.out
    have HF := Lib.hid (HX.out false hx)
    clear HX HB hx
    go_enter Tryd.func17, Tryd.ntmps17
    go_wp2_with (first | ((first | refine wl_box rfl _ _ rfl rfl HM ?_ | refine wl_alloc rfl _ rfl (by exact arrOf) HM ?_); first | (have q : dL HM = 0 := rfl; clear q HM; intro g1 u1 HM) | (have q : dL HM = 1 := rfl; clear q HM; intro g2 u2 HM) | (have q : dL HM = 2 := rfl; clear q HM; intro g3 u3 HM) | (have q : dL HM = 3 := rfl; clear q HM; intro g4 u4 HM) | (have q : dL HM = 4 := rfl; clear q HM; intro g5 u5 HM) | (have q : dL HM = 5 := rfl; clear q HM; intro g6 u6 HM) | (have q : dL HM = 6 := rfl; clear q HM; intro g7 u7 HM) | (have q : dL HM = 7 := rfl; clear q HM; intro g8 u8 HM) | (have q : dL HM = 8 := rfl; clear q HM; intro g9 u9 HM) | (have q : dL HM = 9 := rfl; clear q HM; intro g10 u10 HM) | (have q : dL HM = 10 := rfl; clear q HM; intro g11 u11 HM) | (have q : dL HM = 11 := rfl; clear q HM; intro g12 u12 HM) | (have q : dL HM = 12 := rfl; clear q HM; intro g13 u13 HM) | (have q : dL HM = 13 := rfl; clear q HM; intro g14 u14 HM)) | (refine wl_load rfl _ _ rfl rfl (by exact arrOf) HM (by exact memOf) (by exact lenOf) ?_) | (refine wl_storeM rfl _ _ _ rfl rfl rfl (by exact arrOf) HM (by exact idxOf) (by exact lenOf) (by exact lenOf) ?_; clear HM; intro us HM; dsimp only [List.set] at HM) | (refine wl_zero rfl _ rfl (by exact arrOf) (by kernel_rfl) ?_))
    refine (HC.out _).mono ?_
    rintro e w2 ⟨rfl, h1⟩
    have HM2 := Lib.hid (HM.out.below h1)
    clear h1 HM HC
    have HM := HM2
    clear HM2
    go_wp2_with (first | ((first | refine wl_box rfl _ _ rfl rfl HM ?_ | refine wl_alloc rfl _ rfl (by exact arrOf) HM ?_); first | (have q : dL HM = 0 := rfl; clear q HM; intro g1 u1 HM) | (have q : dL HM = 1 := rfl; clear q HM; intro g2 u2 HM) | (have q : dL HM = 2 := rfl; clear q HM; intro g3 u3 HM) | (have q : dL HM = 3 := rfl; clear q HM; intro g4 u4 HM) | (have q : dL HM = 4 := rfl; clear q HM; intro g5 u5 HM) | (have q : dL HM = 5 := rfl; clear q HM; intro g6 u6 HM) | (have q : dL HM = 6 := rfl; clear q HM; intro g7 u7 HM) | (have q : dL HM = 7 := rfl; clear q HM; intro g8 u8 HM) | (have q : dL HM = 8 := rfl; clear q HM; intro g9 u9 HM) | (have q : dL HM = 9 := rfl; clear q HM; intro g10 u10 HM) | (have q : dL HM = 10 := rfl; clear q HM; intro g11 u11 HM) | (have q : dL HM = 11 := rfl; clear q HM; intro g12 u12 HM) | (have q : dL HM = 12 := rfl; clear q HM; intro g13 u13 HM) | (have q : dL HM = 13 := rfl; clear q HM; intro g14 u14 HM)) | (refine wl_load rfl _ _ rfl rfl (by exact arrOf) HM (by exact memOf) (by exact lenOf) ?_) | (refine wl_storeM rfl _ _ _ rfl rfl rfl (by exact arrOf) HM (by exact idxOf) (by exact lenOf) (by exact lenOf) ?_; clear HM; intro us HM; dsimp only [List.set] at HM) | (refine wl_zero rfl _ rfl (by exact arrOf) (by kernel_rfl) ?_))
    refine (HF.out _).mono ?_
    rintro e w2 ⟨rfl, h1⟩
    have HM2 := Lib.hid (HM.out.below h1)
    clear h1 HM HF
    have HM := HM2
    clear HM2
    go_wp2_with (first | ((first | refine wl_box rfl _ _ rfl rfl HM ?_ | refine wl_alloc rfl _ rfl (by exact arrOf) HM ?_); first | (have q : dL HM = 0 := rfl; clear q HM; intro g1 u1 HM) | (have q : dL HM = 1 := rfl; clear q HM; intro g2 u2 HM) | (have q : dL HM = 2 := rfl; clear q HM; intro g3 u3 HM) | (have q : dL HM = 3 := rfl; clear q HM; intro g4 u4 HM) | (have q : dL HM = 4 := rfl; clear q HM; intro g5 u5 HM) | (have q : dL HM = 5 := rfl; clear q HM; intro g6 u6 HM) | (have q : dL HM = 6 := rfl; clear q HM; intro g7 u7 HM) | (have q : dL HM = 7 := rfl; clear q HM; intro g8 u8 HM) | (have q : dL HM = 8 := rfl; clear q HM; intro g9 u9 HM) | (have q : dL HM = 9 := rfl; clear q HM; intro g10 u10 HM) | (have q : dL HM = 10 := rfl; clear q HM; intro g11 u11 HM) | (have q : dL HM = 11 := rfl; clear q HM; intro g12 u12 HM) | (have q : dL HM = 12 := rfl; clear q HM; intro g13 u13 HM) | (have q : dL HM = 13 := rfl; clear q HM; intro g14 u14 HM)) | (refine wl_load rfl _ _ rfl rfl (by exact arrOf) HM (by exact memOf) (by exact lenOf) ?_) | (refine wl_storeM rfl _ _ _ rfl rfl rfl (by exact arrOf) HM (by exact idxOf) (by exact lenOf) (by exact lenOf) ?_; clear HM; intro us HM; dsimp only [List.set] at HM) | (refine wl_zero rfl _ rfl (by exact arrOf) (by kernel_rfl) ?_))
    refine bodyPost_ret (v := .tuple #[.agg (icells (zr 16)), .agg (icells (zr 6)), .int .i64 1]) (res_three rfl _ rfl rfl rfl arrHop arrAll HM (by exact memOf) (by exact memOf) LY LZ) rfl ⟨rfl, HM.out.1⟩
set_option maxRecDepth 100000 in
set_option maxHeartbeats 8000000 in
theorem rsmall_good (x l : List Int) (w : World) (lx : x.length = 16) (ll : l.length = 6) (hc : chkL l = true) (hx : okX x = true) :
    Calls Tryd.prog 17 #[.agg (icells x), .agg (icells l)] w (ValQ w (.tuple #[.agg (icells (smallL x l)), .agg (icells (asL l)), .int .i64 0])) := by
  have LX := Lib.hid lx
  have LL := Lib.hid ll
  have L1 := Lib.hid (ssL_length l)
  have L2 := Lib.hid (msL_length l)
  have L3 := Lib.hid (asL_length l)
  have LZ := Lib.hid (zr_length 6)
  have LY := Lib.hid (zr_length 16)
  have HM := Lib.hid (Mem.start w)
  have HC := Lib.hid (fun u => rsteps_any l u ll)
  have HF := Lib.hid (fun u => mayX_any x true u lx hx)
  have HX := Lib.hid (fun k => inR_bd hx (by omega) (by omega) k)
  have HB := Lib.hid (fun (k : Nat) (hk : k < 16) => msL_bd l hk)
  have HG := Lib.hid (fun (k : Nat) (hk : k < 16) => ssL_bd l hk)
  have HV := Lib.hid (show smallL x l = tab 16 (smallF x (ssL l) (msL l)) from rfl)
  unfold stepsV at HC
  rw [hc] at HC
  generalize smallL x l = V at HV
  generalize ssL l = S at HC L1 HG HV
  generalize msL l = M at HC L2 HB HV
  generalize asL l = A at HC L3
  clear lx ll hc hx
  go_enter Tryd.func17, Tryd.ntmps17
  go_wp2_with (first | ((first | refine wl_box rfl _ _ rfl rfl HM ?_ | refine wl_alloc rfl _ rfl (by exact arrOf) HM ?_); first | (have q : dL HM = 0 := rfl; clear q HM; intro g1 u1 HM) | (have q : dL HM = 1 := rfl; clear q HM; intro g2 u2 HM) | (have q : dL HM = 2 := rfl; clear q HM; intro g3 u3 HM) | (have q : dL HM = 3 := rfl; clear q HM; intro g4 u4 HM) | (have q : dL HM = 4 := rfl; clear q HM; intro g5 u5 HM) | (have q : dL HM = 5 := rfl; clear q HM; intro g6 u6 HM) | (have q : dL HM = 6 := rfl; clear q HM; intro g7 u7 HM) | (have q : dL HM = 7 := rfl; clear q HM; intro g8 u8 HM) | (have q : dL HM = 8 := rfl; clear q HM; intro g9 u9 HM) | (have q : dL HM = 9 := rfl; clear q HM; intro g10 u10 HM) | (have q : dL HM = 10 := rfl; clear q HM; intro g11 u11 HM) | (have q : dL HM = 11 := rfl; clear q HM; intro g12 u12 HM) | (have q : dL HM = 12 := rfl; clear q HM; intro g13 u13 HM) | (have q : dL HM = 13 := rfl; clear q HM; intro g14 u14 HM)) | (refine wl_load rfl _ _ rfl rfl (by exact arrOf) HM (by exact memOf) (by exact lenOf) ?_) | (refine wl_storeM rfl _ _ _ rfl rfl rfl (by exact arrOf) HM (by exact idxOf) (by exact lenOf) (by exact lenOf) ?_; clear HM; intro us HM; dsimp only [List.set] at HM) | (refine wl_zero rfl _ rfl (by exact arrOf) (by kernel_rfl) ?_))
  refine (HC.out _).mono ?_
  rintro e w2 ⟨rfl, h1⟩
  have HM2 := Lib.hid (HM.out.below h1)
  clear h1 HM HC
  have HM := HM2
  clear HM2
  go_wp2_with (first | ((first | refine wl_box rfl _ _ rfl rfl HM ?_ | refine wl_alloc rfl _ rfl (by exact arrOf) HM ?_); first | (have q : dL HM = 0 := rfl; clear q HM; intro g1 u1 HM) | (have q : dL HM = 1 := rfl; clear q HM; intro g2 u2 HM) | (have q : dL HM = 2 := rfl; clear q HM; intro g3 u3 HM) | (have q : dL HM = 3 := rfl; clear q HM; intro g4 u4 HM) | (have q : dL HM = 4 := rfl; clear q HM; intro g5 u5 HM) | (have q : dL HM = 5 := rfl; clear q HM; intro g6 u6 HM) | (have q : dL HM = 6 := rfl; clear q HM; intro g7 u7 HM) | (have q : dL HM = 7 := rfl; clear q HM; intro g8 u8 HM) | (have q : dL HM = 8 := rfl; clear q HM; intro g9 u9 HM) | (have q : dL HM = 9 := rfl; clear q HM; intro g10 u10 HM) | (have q : dL HM = 10 := rfl; clear q HM; intro g11 u11 HM) | (have q : dL HM = 11 := rfl; clear q HM; intro g12 u12 HM) | (have q : dL HM = 12 := rfl; clear q HM; intro g13 u13 HM) | (have q : dL HM = 13 := rfl; clear q HM; intro g14 u14 HM)) | (refine wl_load rfl _ _ rfl rfl (by exact arrOf) HM (by exact memOf) (by exact lenOf) ?_) | (refine wl_storeM rfl _ _ _ rfl rfl rfl (by exact arrOf) HM (by exact idxOf) (by exact lenOf) (by exact lenOf) ?_; clear HM; intro us HM; dsimp only [List.set] at HM) | (refine wl_zero rfl _ rfl (by exact arrOf) (by kernel_rfl) ?_))
  refine (HF.out _).mono ?_
  rintro e w2 ⟨rfl, h1⟩
  have HM2 := Lib.hid (HM.out.below h1)
  clear h1 HM HF
  have HM := HM2
  clear HM2
  go_wp2_with (first | ((first | refine wl_box rfl _ _ rfl rfl HM ?_ | refine wl_alloc rfl _ rfl (by exact arrOf) HM ?_); first | (have q : dL HM = 0 := rfl; clear q HM; intro g1 u1 HM) | (have q : dL HM = 1 := rfl; clear q HM; intro g2 u2 HM) | (have q : dL HM = 2 := rfl; clear q HM; intro g3 u3 HM) | (have q : dL HM = 3 := rfl; clear q HM; intro g4 u4 HM) | (have q : dL HM = 4 := rfl; clear q HM; intro g5 u5 HM) | (have q : dL HM = 5 := rfl; clear q HM; intro g6 u6 HM) | (have q : dL HM = 6 := rfl; clear q HM; intro g7 u7 HM) | (have q : dL HM = 7 := rfl; clear q HM; intro g8 u8 HM) | (have q : dL HM = 8 := rfl; clear q HM; intro g9 u9 HM) | (have q : dL HM = 9 := rfl; clear q HM; intro g10 u10 HM) | (have q : dL HM = 10 := rfl; clear q HM; intro g11 u11 HM) | (have q : dL HM = 11 := rfl; clear q HM; intro g12 u12 HM) | (have q : dL HM = 12 := rfl; clear q HM; intro g13 u13 HM) | (have q : dL HM = 13 := rfl; clear q HM; intro g14 u14 HM)) | (refine wl_load rfl _ _ rfl rfl (by exact arrOf) HM (by exact memOf) (by exact lenOf) ?_) | (refine wl_storeM rfl _ _ _ rfl rfl rfl (by exact arrOf) HM (by exact idxOf) (by exact lenOf) (by exact lenOf) ?_; clear HM; intro us HM; dsimp only [List.set] at HM) | (refine wl_zero rfl _ rfl (by exact arrOf) (by kernel_rfl) ?_))
  go_loopw [31] (fun vi wr => ∃ k : Nat, k ≤ 16 ∧ vi = .int .i64 (k : Int) ∧ Hid (Mem w [(g8, 34, A), (g7, 29, M), (g6, 29, S), (g5, 29, tab 16 (part2 k (smallF x S M) (fun _ => 0))), (g4, 34, zr 6), (g3, 29, zr 16), (g2, 32, l), (g1, 30, x)] wr)) (fun vi _ => 16 - (intOf vi).toNat)
  case atStart => exact ⟨0, by omega, rfl, Lib.hid (by rw [part2_none, tab_zero]; exact HM.out)⟩
  case round =>
    clear HM
    obtain ⟨k, hk, rfl, HM⟩ := hrel
    by_cases hlt : k < 16
    · have k16 : (k : Int) < 16 := by omega
      have SS := Lib.hid (part2_set (n := 16) (k := k) (smallF x S M) (fun _ => 0))
      have KS := Lib.hid (fun h => part2_skip (n := 16) (k := k) (f := smallF x S M) (g := fun _ => 0) h)
      have HS := Lib.hid (smallF_is x S M k)
      have hm := HB.out k hlt
      have hs := HG.out k hlt
      have hv := HX.out k
      have c6 := HM.out.cell (.tail _ (.tail _ (.head _))) (k := k) (by rw [L1.out]; exact hlt)
      have H1 := Lib.hid (fun (u : World) (hu : Mem w [(g7, 29, M), (g6, 29, S), (g1, 30, x)] u) => hu.cell (.tail _ (.tail _ (.head _))) (k := k) (by rw [LX.out]; exact hlt))
      have H2 := Lib.hid (fun (u : World) (hu : Mem w [(g7, 29, M), (g6, 29, S), (g1, 30, x)] u) => hu.cell (.tail _ (.head _)) (k := k) (by rw [L1.out]; exact hlt))
      have H3 := Lib.hid (fun (u : World) (hu : Mem w [(g7, 29, M), (g6, 29, S), (g1, 30, x)] u) => hu.cell (.head _) (k := k) (by rw [L2.out]; exact hlt))
      generalize x.getD k 0 = v at H1 hv HS
      generalize S.getD k 0 = s at H2 hs c6 HS
      generalize M.getD k 0 = m at H3 hm HS
      obtain ⟨m1, m2⟩ := hm
      by_cases hpos : 0 < s
      · have HD := Lib.hid (fun u => rdiv_any v s u (by omega) (by omega))
        rw [show divV v s = .tuple #[.int .i64 (divI v s), .int .i64 0] by unfold divV; rw [if_neg (by omega)]] at HD
        rw [if_pos hpos] at HS
        rw [HS.out] at SS
        generalize divI v s = d at HD SS
        have hn : IntKind.i64.wrap (-m) = -m := i64_w (by omega) (by omega)
        clear KS HS hs hv
        go_wp2
        refine wp_region_held_drew (S := Mem w [(g7, 29, M), (g6, 29, S), (g1, 30, x)]) (by kernel_rfl) (HM.out.drew.sub (by exact subOf)) (fun hHeld => ?_)
        have HM2 := Lib.hid HM.out.drew
        clear HM c6
        have HM := HM2
        clear HM2
        generalize World.drew _ = wd at HM hHeld ⊢
        (refine wa_take (i := 0) rfl (by kernel_rfl) (by kernel_rfl) (by kernel_rfl) (fun _ _ _ h => h) (yi_free rfl (fun u => rfl)) hHeld rfl ?_; (try simp only [Act.put, List.setIfInBounds_toArray, List.set_cons_zero, List.set_cons_succ]))
        (refine wa_take (i := 1) (v := .pointer (some ⟨g1, k, none⟩)) rfl (by kernel_rfl) (by kernel_rfl) (by kernel_rfl) (fun _ _ _ h => h) (yi_free rfl (fun u => by go_simp)) hHeld rfl ?_; (try simp only [Act.put, List.setIfInBounds_toArray, List.set_cons_zero, List.set_cons_succ]))
        (refine wa_take (i := 2) rfl (by kernel_rfl) (by kernel_rfl) (by kernel_rfl) (fun _ _ _ h => h) (yi_cell rfl _ rfl rfl (H1).out) hHeld rfl ?_; (try simp only [Act.put, List.setIfInBounds_toArray, List.set_cons_zero, List.set_cons_succ]))
        (refine wa_take (i := 3) rfl (by kernel_rfl) (by kernel_rfl) (by kernel_rfl) (fun _ _ _ h => h) (yi_free rfl (fun u => rfl)) hHeld rfl ?_; (try simp only [Act.put, List.setIfInBounds_toArray, List.set_cons_zero, List.set_cons_succ]))
        (refine wa_take (i := 4) (v := .pointer (some ⟨g6, k, none⟩)) rfl (by kernel_rfl) (by kernel_rfl) (by kernel_rfl) (fun _ _ _ h => h) (yi_free rfl (fun u => by go_simp)) hHeld rfl ?_; (try simp only [Act.put, List.setIfInBounds_toArray, List.set_cons_zero, List.set_cons_succ]))
        (refine wa_take (i := 5) rfl (by kernel_rfl) (by kernel_rfl) (by kernel_rfl) (fun _ _ _ h => h) (yi_cell rfl _ rfl rfl (H2).out) hHeld rfl ?_; (try simp only [Act.put, List.setIfInBounds_toArray, List.set_cons_zero, List.set_cons_succ]))
        refine wpAnyH_ready (rs := [6]) (by kernel_rfl) (by simp) ?_; refine AllReadyH.cons rfl (fun K hK => ?_) (AllReadyH.nil)
        rw [if_pos (by rfl)]; go_simp
        refine (HD.out _).mono ?_
        rintro e wb ⟨rfl, rfl⟩
        clear hHeld
        go_wp2_with fail; refine hK.out _ _ (HM.out.sub (by exact subOf)) (fun hHeld => ?_); clear hK K; (try simp only [Act.put, List.setIfInBounds_toArray, List.set_cons_zero, List.set_cons_succ])
        (refine wa_take (i := 7) rfl (by kernel_rfl) (by kernel_rfl) (by kernel_rfl) (fun _ _ _ h => h) (yi_free rfl (fun u => rfl)) hHeld rfl ?_; (try simp only [Act.put, List.setIfInBounds_toArray, List.set_cons_zero, List.set_cons_succ]))
        (refine wa_take (i := 8) rfl (by kernel_rfl) (by kernel_rfl) (by kernel_rfl) (fun _ _ _ h => h) (yi_free rfl (fun u => rfl)) hHeld rfl ?_; (try simp only [Act.put, List.setIfInBounds_toArray, List.set_cons_zero, List.set_cons_succ]))
        (refine wa_take (i := 9) rfl (by kernel_rfl) (by kernel_rfl) (by kernel_rfl) (fun _ _ _ h => h) (yi_free rfl (fun u => rfl)) hHeld rfl ?_; (try simp only [Act.put, List.setIfInBounds_toArray, List.set_cons_zero, List.set_cons_succ]))
        (refine wa_take (i := 10) rfl (by kernel_rfl) (by kernel_rfl) (by kernel_rfl) (fun _ _ _ h => h) (yi_free rfl (fun u => rfl)) hHeld rfl ?_; (try simp only [Act.put, List.setIfInBounds_toArray, List.set_cons_zero, List.set_cons_succ]))
        (refine wa_take (i := 11) rfl (by kernel_rfl) (by kernel_rfl) (by kernel_rfl) (fun _ _ _ h => h) (yi_free rfl (fun u => rfl)) hHeld rfl ?_; (try simp only [Act.put, List.setIfInBounds_toArray, List.set_cons_zero, List.set_cons_succ]))
        refine wpAnyH_done (by kernel_rfl) ?_ _
        go_wp2
        refine wp_region_held_drew (S := Mem w [(g7, 29, M), (g6, 29, S), (g1, 30, x)]) (by kernel_rfl) (HM.out.drew.sub (by exact subOf)) (fun hHeld => ?_)
        have HM2 := Lib.hid HM.out.drew
        clear HM
        have HM := HM2
        clear HM2
        generalize World.drew _ = wd at HM hHeld ⊢
        (refine wa_take (i := 0) rfl (by kernel_rfl) (by kernel_rfl) (by kernel_rfl) (fun _ _ _ h => h) (yi_free rfl (fun u => rfl)) hHeld rfl ?_; (try simp only [Act.put, List.setIfInBounds_toArray, List.set_cons_zero, List.set_cons_succ]))
        (refine wa_take (i := 1) rfl (by kernel_rfl) (by kernel_rfl) (by kernel_rfl) (fun _ _ _ h => h) (yi_free rfl (fun u => rfl)) hHeld rfl ?_; (try simp only [Act.put, List.setIfInBounds_toArray, List.set_cons_zero, List.set_cons_succ]))
        (refine wa_take (i := 2) rfl (by kernel_rfl) (by kernel_rfl) (by kernel_rfl) (fun _ _ _ h => h) (yi_free rfl (fun u => rfl)) hHeld rfl ?_; (try simp only [Act.put, List.setIfInBounds_toArray, List.set_cons_zero, List.set_cons_succ]))
        (refine wa_take (i := 3) (v := .pointer (some ⟨g7, k, none⟩)) rfl (by kernel_rfl) (by kernel_rfl) (by kernel_rfl) (fun _ _ _ h => h) (yi_free rfl (fun u => by go_simp)) hHeld rfl ?_; (try simp only [Act.put, List.setIfInBounds_toArray, List.set_cons_zero, List.set_cons_succ]))
        (refine wa_take (i := 4) rfl (by kernel_rfl) (by kernel_rfl) (by kernel_rfl) (fun _ _ _ h => h) (yi_cell rfl _ rfl rfl (H3).out) hHeld rfl ?_; (try simp only [Act.put, List.setIfInBounds_toArray, List.set_cons_zero, List.set_cons_succ]))
        (refine wa_take (i := 5) (v := .int .i64 (-m)) rfl (by kernel_rfl) (by kernel_rfl) (by kernel_rfl) (fun _ _ _ h => h) (yi_free rfl (fun u => by go_simp)) hHeld rfl ?_; (try simp only [Act.put, List.setIfInBounds_toArray, List.set_cons_zero, List.set_cons_succ]))
        (refine wa_take (i := 6) (v := .int .i64 (max d (-m))) rfl (by kernel_rfl) (by kernel_rfl) (by kernel_rfl) (fun _ _ _ h => h) (yi_free rfl (fun u => by go_simp)) hHeld rfl ?_; (try simp only [Act.put, List.setIfInBounds_toArray, List.set_cons_zero, List.set_cons_succ]))
        (refine wa_take (i := 7) rfl (by kernel_rfl) (by kernel_rfl) (by kernel_rfl) (fun _ _ _ h => h) (yi_free rfl (fun u => rfl)) hHeld rfl ?_; (try simp only [Act.put, List.setIfInBounds_toArray, List.set_cons_zero, List.set_cons_succ]))
        (refine wa_take (i := 8) (v := .pointer (some ⟨g7, k, none⟩)) rfl (by kernel_rfl) (by kernel_rfl) (by kernel_rfl) (fun _ _ _ h => h) (yi_free rfl (fun u => by go_simp)) hHeld rfl ?_; (try simp only [Act.put, List.setIfInBounds_toArray, List.set_cons_zero, List.set_cons_succ]))
        (refine wa_take (i := 9) rfl (by kernel_rfl) (by kernel_rfl) (by kernel_rfl) (fun _ _ _ h => h) (yi_cell rfl _ rfl rfl (H3).out) hHeld rfl ?_; (try simp only [Act.put, List.setIfInBounds_toArray, List.set_cons_zero, List.set_cons_succ]))
        (refine wa_take (i := 10) (v := .int .i64 (min (max d (-m)) m)) rfl (by kernel_rfl) (by kernel_rfl) (by kernel_rfl) (fun _ _ _ h => h) (yi_free rfl (fun u => by go_simp)) hHeld rfl ?_; (try simp only [Act.put, List.setIfInBounds_toArray, List.set_cons_zero, List.set_cons_succ]))
        generalize min (max d (-m)) m = z at SS ⊢
        (refine wa_take (i := 11) (v := .pointer (some ⟨g5, k, none⟩)) rfl (by kernel_rfl) (by kernel_rfl) (by kernel_rfl) (fun _ _ _ h => h) (yi_free rfl (fun u => by go_simp)) hHeld rfl ?_; (try simp only [Act.put, List.setIfInBounds_toArray, List.set_cons_zero, List.set_cons_succ]))
        have c1 := HM.out.cell (.tail _ (.tail _ (.tail _ (.head _)))) (k := k) (by rw [tab_length]; exact hlt)
        have f1 := HM.out.free (.tail _ (.tail _ (.tail _ (.head _)))) k
        generalize List.getD (tab 16 (part2 k (smallF x S M) _)) k 0 = o at c1
        refine wpAnyH_ready (rs := [12]) (by kernel_rfl) (by simp) ?_; refine AllReadyH.cons rfl (fun K hK => ?_) (AllReadyH.nil)
        rw [if_pos (by rfl)]; go_simp
        have HM3 := Lib.hid (HM.out.put 3 rfl k z)
        simp only [List.set_cons_zero, List.set_cons_succ] at HM3
        rw [SS.out] at HM3
        clear HM c1 f1 hHeld
        have HM := HM3
        clear HM3
        go_wp2_with fail; refine hK.out _ _ (HM.out.sub (by exact subOf)) (fun hHeld => ?_); clear hK K; (try simp only [Act.put, List.setIfInBounds_toArray, List.set_cons_zero, List.set_cons_succ])
        refine wpAnyH_done (by kernel_rfl) ?_ _
        clear H1 H2 H3
        go_wp2
        go_roundw
        case rel => exact ⟨k + 1, by omega, by go_num, HM⟩
        case measure => simp [intOf]; omega
      · have hd : decide (0 < s) = false := decide_eq_false hpos
        rw [if_neg hpos] at HS
        rw [KS.out HS.out] at HM
        clear KS HS SS hs hv H1 H2 H3
        go_wp2
        go_roundw
        case rel => exact ⟨k + 1, by omega, by go_num, HM⟩
        case measure => simp [intOf]; omega
    · obtain rfl : k = 16 := by omega
      rw [part2_all, ← HV.out] at HM
      have L5 := Lib.hid (show V.length = 16 by rw [HV.out]; exact tab_length _ _)
      go_wp2_with (first | ((first | refine wl_box rfl _ _ rfl rfl HM ?_ | refine wl_alloc rfl _ rfl (by exact arrOf) HM ?_); first | (have q : dL HM = 0 := rfl; clear q HM; intro g1 u1 HM) | (have q : dL HM = 1 := rfl; clear q HM; intro g2 u2 HM) | (have q : dL HM = 2 := rfl; clear q HM; intro g3 u3 HM) | (have q : dL HM = 3 := rfl; clear q HM; intro g4 u4 HM) | (have q : dL HM = 4 := rfl; clear q HM; intro g5 u5 HM) | (have q : dL HM = 5 := rfl; clear q HM; intro g6 u6 HM) | (have q : dL HM = 6 := rfl; clear q HM; intro g7 u7 HM) | (have q : dL HM = 7 := rfl; clear q HM; intro g8 u8 HM) | (have q : dL HM = 8 := rfl; clear q HM; intro g9 u9 HM) | (have q : dL HM = 9 := rfl; clear q HM; intro g10 u10 HM) | (have q : dL HM = 10 := rfl; clear q HM; intro g11 u11 HM) | (have q : dL HM = 11 := rfl; clear q HM; intro g12 u12 HM) | (have q : dL HM = 12 := rfl; clear q HM; intro g13 u13 HM) | (have q : dL HM = 13 := rfl; clear q HM; intro g14 u14 HM)) | (refine wl_load rfl _ _ rfl rfl (by exact arrOf) HM (by exact memOf) (by exact lenOf) ?_) | (refine wl_storeM rfl _ _ _ rfl rfl rfl (by exact arrOf) HM (by exact idxOf) (by exact lenOf) (by exact lenOf) ?_; clear HM; intro us HM; dsimp only [List.set] at HM) | (refine wl_zero rfl _ rfl (by exact arrOf) (by kernel_rfl) ?_))
      refine wp_region_held_drew (S := Mem w [(g8, 34, A), (g5, 29, V)]) (by kernel_rfl) (HM.out.drew.sub (by exact subOf)) (fun hHeld => ?_)
      have HM2 := Lib.hid HM.out.drew
      clear HM
      have HM := HM2
      clear HM2
      (refine wa_take (i := 0) rfl (by kernel_rfl) (by kernel_rfl) (by kernel_rfl) (fun _ _ _ h => h) (yi_load rfl _ _ rfl rfl (by exact arrOf) (fun u hu => hu) (by exact memOf) (by exact lenOf)) hHeld rfl ?_; (try simp only [Act.put, List.setIfInBounds_toArray, List.set_cons_zero, List.set_cons_succ]))
      (refine wa_take (i := 1) rfl (by kernel_rfl) (by kernel_rfl) (by kernel_rfl) (fun _ _ _ h => h) (yi_load rfl _ _ rfl rfl (by exact arrOf) (fun u hu => hu) (by exact memOf) (by exact lenOf)) hHeld rfl ?_; (try simp only [Act.put, List.setIfInBounds_toArray, List.set_cons_zero, List.set_cons_succ]))
      (refine wpAnyH_ready (rs := [2]) (by kernel_rfl) (by simp) ?_; refine AllReadyH.cons rfl (fun K hK => ?_) AllReadyH.nil; rw [if_pos (by rfl)]; refine ow_store _ _ _ rfl rfl rfl (by exact arrOf) HM 5 rfl (by exact lenOf) (by exact lenOf) rfl ?_; clear HM; intro us HM; simp only [List.set_cons_zero, List.set_cons_succ] at HM; refine hK.out _ _ (HM.out.sub (by exact subOf)) (fun hHeld => ?_); clear hK K; (try simp only [Act.put]))
      (refine wpAnyH_ready (rs := [3]) (by kernel_rfl) (by simp) ?_; refine AllReadyH.cons rfl (fun K hK => ?_) AllReadyH.nil; rw [if_pos (by rfl)]; refine ow_store _ _ _ rfl rfl rfl (by exact arrOf) HM 4 rfl (by exact lenOf) (by exact lenOf) rfl ?_; clear HM; intro us HM; simp only [List.set_cons_zero, List.set_cons_succ] at HM; refine hK.out _ _ (HM.out.sub (by exact subOf)) (fun hHeld => ?_); clear hK K; (try simp only [Act.put]))
      (refine wa_take (i := 4) rfl (by kernel_rfl) (by kernel_rfl) (by kernel_rfl) (fun _ _ _ h => h) (yi_free rfl (fun u => rfl)) hHeld rfl ?_; (try simp only [Act.put, List.setIfInBounds_toArray, List.set_cons_zero, List.set_cons_succ]))
      refine wpAnyH_done (by kernel_rfl) ?_ _
      go_wp2
      refine bodyPost_ret (v := .tuple #[.agg (icells V), .agg (icells A), .int .i64 0]) (res_three rfl _ rfl rfl rfl arrHop arrAll HM (by exact memOf) (by exact memOf) L5 L3) rfl ⟨rfl, HM.out.1⟩
theorem rsmall_any (x l : List Int) (w : World) (lx : x.length = 16) (ll : l.length = 6) :
    Calls Tryd.prog 17 #[.agg (icells x), .agg (icells l)] w (ValQ w (smallV x l)) := by
  unfold smallV
  by_cases h : chkL l = true ∧ okX x = true
  · rw [if_pos h]; exact rsmall_good x l w lx ll h.1 h.2
  · rw [if_neg h]; exact rsmall_bad x l w lx ll h
end Go.Proofs.YtcnckamocbaceaaDoor.Lp
/- Qe -/
namespace Go.Proofs.YtcnckamocbaceaaDoor.Lp
open Go.RowKit Go.Proofs.YtcnckamocbaceaaDoor.Fx Go.Proofs.YtcnckamocbaceaaDoor.Fq Go.Proofs.YtcnckamocbaceaaDoor.Tb
/-- one seed's next -/
def nextS (t : Int) : Int := (1664525 * t + 1013904223) % 4294967296
def seedN (t : Int) : Nat → Int
  | 0 => t
  | k + 1 => nextS (seedN t k)
theorem seedN_succ (t : Int) (k : Nat) : seedN t (k + 1) = nextS (seedN t k) := rfl
theorem nextS_bd (t : Int) : 0 ≤ nextS t ∧ nextS t < 4294967296 := by unfold nextS; omega
theorem seedN_bd {t : Int} (h : 0 ≤ t ∧ t < 4294967296) : ∀ k, 0 ≤ seedN t k ∧ seedN t k < 4294967296
  | 0 => h
  | _ + 1 => nextS_bd _
/-- a seed's number, times a peak, and what is kept of it -/
def noiseR (t : Int) (p : Nat) : Int := roundI ((t / 65536 - 32768) * (p : Int)) 18
def noiseF (t : Int) (l : List Int) (n : Nat) : Int := if 0 < l.getD (bnd n) 0 then clampI (noiseR (seedN t (n + 1)) (peakN (l.getD (bnd n) 0).toNat)) 67108864 else 0
theorem noiseF_is (t : Int) (l : List Int) (n : Nat) : noiseF t l n = if 0 < l.getD (bnd n) 0 then min (max (noiseR (seedN t (n + 1)) (peakN (l.getD (bnd n) 0).toNat)) (-67108864)) 67108864 else 0 := rfl
def noiseL (t : Int) (l : List Int) : List Int := tab 16 (noiseF t l)
def noiseV (t : Int) (l : List Int) : Value := if chkL l = true then .tuple #[.agg (icells (noiseL t l)), .int .u32 (seedN t 16), .int .i64 0] else .tuple #[.agg (icells (zr 16)), .int .u32 0, .int .i64 1]
theorem res_css {fn : Func} {p u v : Tmp} {ty : TypeId} (h : fn.results = #[.cell p ty, .tmp u, .tmp v]) (tmps : Array Value) {w w0 : World} {L : List (Nat × TypeId × List Int)} {g n : Nat} {xs : List Int} {a b : Value}
    (hp : tmps.getD p undef = .pointer (some ⟨g, 0, none⟩)) (hu : tmps.getD u undef = a) (hv : tmps.getD v undef = b) (ha : Arr ty n) (hm : Hid (Mem w0 L w)) (hin : (g, ty, xs) ∈ L) (hl : Hid (xs.length = n)) :
    (results fn tmps).run Tryd.prog w = .ok (.tuple #[.agg (icells xs), a, b]) w := by
  have hp' : tmps[p]?.getD undef = .pointer (some ⟨g, 0, none⟩) := by simpa using hp
  have hu' : tmps[u]?.getD undef = a := by simpa using hu
  have hv' : tmps[v]?.getD undef = b := by simpa using hv
  simp [results, h, hp', hu', hv', asAddr, Result.andThen, run_load_mem ha hm.out hin hl.out]
set_option maxRecDepth 100000 in
set_option maxHeartbeats 4000000 in
theorem rnoise_bad (t : Int) (l : List Int) (w : World) (ll : l.length = 6) (hc : chkL l = false) :
    Calls Tryd.prog 21 #[.int .u32 t, .agg (icells l)] w (ValQ w (.tuple #[.agg (icells (zr 16)), .int .u32 0, .int .i64 1])) := by
  have LL := Lib.hid ll
  have LY := Lib.hid (zr_length 16)
  have HM := Lib.hid (Mem.start w)
  have HC := Lib.hid (fun u => rbcheck_any l false 1 u ll hc rfl)
  clear ll hc
  go_enter Tryd.func21, Tryd.ntmps21
  go_wp2_with (first | ((first | refine wl_box rfl _ _ rfl rfl HM ?_ | refine wl_alloc rfl _ rfl (by exact arrOf) HM ?_); first | (have q : dL HM = 0 := rfl; clear q HM; intro g1 u1 HM) | (have q : dL HM = 1 := rfl; clear q HM; intro g2 u2 HM) | (have q : dL HM = 2 := rfl; clear q HM; intro g3 u3 HM) | (have q : dL HM = 3 := rfl; clear q HM; intro g4 u4 HM) | (have q : dL HM = 4 := rfl; clear q HM; intro g5 u5 HM) | (have q : dL HM = 5 := rfl; clear q HM; intro g6 u6 HM) | (have q : dL HM = 6 := rfl; clear q HM; intro g7 u7 HM) | (have q : dL HM = 7 := rfl; clear q HM; intro g8 u8 HM) | (have q : dL HM = 8 := rfl; clear q HM; intro g9 u9 HM) | (have q : dL HM = 9 := rfl; clear q HM; intro g10 u10 HM) | (have q : dL HM = 10 := rfl; clear q HM; intro g11 u11 HM) | (have q : dL HM = 11 := rfl; clear q HM; intro g12 u12 HM) | (have q : dL HM = 12 := rfl; clear q HM; intro g13 u13 HM) | (have q : dL HM = 13 := rfl; clear q HM; intro g14 u14 HM)) | (refine wl_load rfl _ _ rfl rfl (by exact arrOf) HM (by exact memOf) (by exact lenOf) ?_) | (refine wl_storeM rfl _ _ _ rfl rfl rfl (by exact arrOf) HM (by exact idxOf) (by exact lenOf) (by exact lenOf) ?_; clear HM; intro us HM; dsimp only [List.set] at HM) | (refine wl_zero rfl _ rfl (by exact arrOf) (by kernel_rfl) ?_))
  refine (HC.out _).mono ?_
  rintro e w2 ⟨rfl, h1⟩
  have HM2 := Lib.hid (HM.out.below h1)
  clear h1 HM HC
  have HM := HM2
  clear HM2
  go_wp2_with (first | ((first | refine wl_box rfl _ _ rfl rfl HM ?_ | refine wl_alloc rfl _ rfl (by exact arrOf) HM ?_); first | (have q : dL HM = 0 := rfl; clear q HM; intro g1 u1 HM) | (have q : dL HM = 1 := rfl; clear q HM; intro g2 u2 HM) | (have q : dL HM = 2 := rfl; clear q HM; intro g3 u3 HM) | (have q : dL HM = 3 := rfl; clear q HM; intro g4 u4 HM) | (have q : dL HM = 4 := rfl; clear q HM; intro g5 u5 HM) | (have q : dL HM = 5 := rfl; clear q HM; intro g6 u6 HM) | (have q : dL HM = 6 := rfl; clear q HM; intro g7 u7 HM) | (have q : dL HM = 7 := rfl; clear q HM; intro g8 u8 HM) | (have q : dL HM = 8 := rfl; clear q HM; intro g9 u9 HM) | (have q : dL HM = 9 := rfl; clear q HM; intro g10 u10 HM) | (have q : dL HM = 10 := rfl; clear q HM; intro g11 u11 HM) | (have q : dL HM = 11 := rfl; clear q HM; intro g12 u12 HM) | (have q : dL HM = 12 := rfl; clear q HM; intro g13 u13 HM) | (have q : dL HM = 13 := rfl; clear q HM; intro g14 u14 HM)) | (refine wl_load rfl _ _ rfl rfl (by exact arrOf) HM (by exact memOf) (by exact lenOf) ?_) | (refine wl_storeM rfl _ _ _ rfl rfl rfl (by exact arrOf) HM (by exact idxOf) (by exact lenOf) (by exact lenOf) ?_; clear HM; intro us HM; dsimp only [List.set] at HM) | (refine wl_zero rfl _ rfl (by exact arrOf) (by kernel_rfl) ?_))
  refine bodyPost_ret (v := .tuple #[.agg (icells (zr 16)), .int .u32 0, .int .i64 1]) (res_css rfl _ rfl rfl rfl arrSpec HM (by exact memOf) LY) rfl ⟨rfl, HM.out.1⟩
set_option maxRecDepth 100000 in
set_option maxHeartbeats 8000000 in
theorem rnoise_good (t : Int) (l : List Int) (w : World) (ht : 0 ≤ t ∧ t < 4294967296) (ll : l.length = 6) (hc : chkL l = true) :
    Calls Tryd.prog 21 #[.int .u32 t, .agg (icells l)] w (ValQ w (.tuple #[.agg (icells (noiseL t l)), .int .u32 (seedN t 16), .int .i64 0])) := by
  have LL := Lib.hid ll
  have LY := Lib.hid (zr_length 16)
  have HM := Lib.hid (Mem.start w)
  have HC := Lib.hid (fun u => rbcheck_any l true 0 u ll hc rfl)
  have HL := Lib.hid (fun k => inR_bd hc (by omega) (by omega) k)
  have HT := Lib.hid (seedN_bd ht)
  have HV := Lib.hid (show noiseL t l = tab 16 (noiseF t l) from rfl)
  generalize noiseL t l = V at HV
  clear ll hc ht
  go_enter Tryd.func21, Tryd.ntmps21
  go_wp2_with (first | ((first | refine wl_box rfl _ _ rfl rfl HM ?_ | refine wl_alloc rfl _ rfl (by exact arrOf) HM ?_); first | (have q : dL HM = 0 := rfl; clear q HM; intro g1 u1 HM) | (have q : dL HM = 1 := rfl; clear q HM; intro g2 u2 HM) | (have q : dL HM = 2 := rfl; clear q HM; intro g3 u3 HM) | (have q : dL HM = 3 := rfl; clear q HM; intro g4 u4 HM) | (have q : dL HM = 4 := rfl; clear q HM; intro g5 u5 HM) | (have q : dL HM = 5 := rfl; clear q HM; intro g6 u6 HM) | (have q : dL HM = 6 := rfl; clear q HM; intro g7 u7 HM) | (have q : dL HM = 7 := rfl; clear q HM; intro g8 u8 HM) | (have q : dL HM = 8 := rfl; clear q HM; intro g9 u9 HM) | (have q : dL HM = 9 := rfl; clear q HM; intro g10 u10 HM) | (have q : dL HM = 10 := rfl; clear q HM; intro g11 u11 HM) | (have q : dL HM = 11 := rfl; clear q HM; intro g12 u12 HM) | (have q : dL HM = 12 := rfl; clear q HM; intro g13 u13 HM) | (have q : dL HM = 13 := rfl; clear q HM; intro g14 u14 HM)) | (refine wl_load rfl _ _ rfl rfl (by exact arrOf) HM (by exact memOf) (by exact lenOf) ?_) | (refine wl_storeM rfl _ _ _ rfl rfl rfl (by exact arrOf) HM (by exact idxOf) (by exact lenOf) (by exact lenOf) ?_; clear HM; intro us HM; dsimp only [List.set] at HM) | (refine wl_zero rfl _ rfl (by exact arrOf) (by kernel_rfl) ?_))
  refine (HC.out _).mono ?_
  rintro e w2 ⟨rfl, h1⟩
  have HM2 := Lib.hid (HM.out.below h1)
  clear h1 HM HC
  have HM := HM2
  clear HM2
  go_wp2_with (first | ((first | refine wl_box rfl _ _ rfl rfl HM ?_ | refine wl_alloc rfl _ rfl (by exact arrOf) HM ?_); first | (have q : dL HM = 0 := rfl; clear q HM; intro g1 u1 HM) | (have q : dL HM = 1 := rfl; clear q HM; intro g2 u2 HM) | (have q : dL HM = 2 := rfl; clear q HM; intro g3 u3 HM) | (have q : dL HM = 3 := rfl; clear q HM; intro g4 u4 HM) | (have q : dL HM = 4 := rfl; clear q HM; intro g5 u5 HM) | (have q : dL HM = 5 := rfl; clear q HM; intro g6 u6 HM) | (have q : dL HM = 6 := rfl; clear q HM; intro g7 u7 HM) | (have q : dL HM = 7 := rfl; clear q HM; intro g8 u8 HM) | (have q : dL HM = 8 := rfl; clear q HM; intro g9 u9 HM) | (have q : dL HM = 9 := rfl; clear q HM; intro g10 u10 HM) | (have q : dL HM = 10 := rfl; clear q HM; intro g11 u11 HM) | (have q : dL HM = 11 := rfl; clear q HM; intro g12 u12 HM) | (have q : dL HM = 12 := rfl; clear q HM; intro g13 u13 HM) | (have q : dL HM = 13 := rfl; clear q HM; intro g14 u14 HM)) | (refine wl_load rfl _ _ rfl rfl (by exact arrOf) HM (by exact memOf) (by exact lenOf) ?_) | (refine wl_storeM rfl _ _ _ rfl rfl rfl (by exact arrOf) HM (by exact idxOf) (by exact lenOf) (by exact lenOf) ?_; clear HM; intro us HM; dsimp only [List.set] at HM) | (refine wl_zero rfl _ rfl (by exact arrOf) (by kernel_rfl) ?_))
  go_loopw [0, 17] (fun vs vi wr => ∃ k : Nat, k ≤ 16 ∧ vi = .int .i64 (k : Int) ∧ vs = .int .u32 (seedN t k) ∧ Hid (Mem w [(g3, 30, tab 16 (part2 k (noiseF t l) (fun _ => 0))), (g2, 30, zr 16), (g1, 32, l)] wr)) (fun _ vi _ => 16 - (intOf vi).toNat)
  case atStart => exact ⟨0, by omega, rfl, rfl, Lib.hid (by rw [part2_none, tab_zero]; exact HM.out)⟩
  case round =>
    clear HM
    obtain ⟨k, hk, rfl, rfl, HM⟩ := hrel
    by_cases hlt : k < 16
    · have k16 : (k : Int) < 16 := by omega
      have SS := Lib.hid (part2_set (n := 16) (k := k) (noiseF t l) (fun _ => 0))
      have KS := Lib.hid (fun h => part2_skip (n := 16) (k := k) (f := noiseF t l) (g := fun _ => 0) h)
      have HS := Lib.hid (noiseF_is t l k)
      have HO := Lib.hid (fun u => rof_good k u hlt)
      have hb6 := (bnd_all k hlt).1
      have t1 := HT.out k
      have t2 := HT.out (k + 1)
      have t3 := Lib.hid (seedN_succ t k)
      obtain ⟨t', ht'⟩ : ∃ x, seedN t (k + 1) = x := ⟨_, rfl⟩
      rw [ht'] at t2 t3 HS
      have HT' := Lib.hid ht'
      clear ht'
      generalize seedN t k = t0 at t1 t3
      obtain ⟨b, hb⟩ : ∃ b, bnd k = b := ⟨_, rfl⟩
      rw [hb] at HO hb6 HS
      clear hb
      have hl := HL.out b
      have c1 := HM.out.cell (.tail _ (.tail _ (.head _))) (k := b) (by rw [LL.out]; exact hb6)
      have b6 : (b : Int) < 6 := by omega
      obtain ⟨y, hy⟩ : ∃ y : Nat, l.getD b 0 = (y : Int) := ⟨(l.getD b 0).toNat, by omega⟩
      rw [hy] at c1 hl HS
      have hy2 : y < 256 := by omega
      have e1 : IntKind.u32.wrap (1664525 * t0) = (1664525 * t0) % 4294967296 := rfl
      have e2 : IntKind.u32.wrap ((1664525 * t0) % 4294967296 + 1013904223) = t' := by
        have h : IntKind.u32.wrap ((1664525 * t0) % 4294967296 + 1013904223) = ((1664525 * t0) % 4294967296 + 1013904223) % 4294967296 := rfl
        rw [h, t3.out]; unfold nextS; omega
      by_cases hpos : 0 < (y : Int)
      · have HP := Lib.hid (fun u => rpeak_good y u hy2)
        have hp := peakN_bd y hy2
        rw [if_pos hpos, show ((y : Int)).toNat = y from rfl] at HS
        rw [HS.out] at SS
        generalize peakN y = p at HP hp SS
        have hv := mulq_bd (a := t' / 65536 - 32768) (b := (p : Int)) (m := 32768) (n := 4026531841) (by omega) (by omega) (by omega) (by omega) (by decide)
        have HN := Lib.hid (show noiseR t' p = roundI ((t' / 65536 - 32768) * (p : Int)) 18 from rfl)
        obtain ⟨v, ev⟩ : ∃ v, (t' / 65536 - 32768) * (p : Int) = v := ⟨_, rfl⟩
        rw [ev] at hv HN
        have hw : IntKind.i64.wrap ((t' / 65536 - 32768) * (p : Int)) = v := by rw [ev]; exact i64_w (by omega) (by omega)
        have HR := Lib.hid (fun u => rround_any v 18 u (by omega))
        rw [HN.out] at SS
        generalize roundI v 18 = r at SS HR
        clear HN ev hv
        clear KS HS hl hy hy2
        obtain ⟨t21, t22⟩ := t2
        go_wp2_with fail
        refine (HO.out _).mono ?_
        rintro e wb ⟨rfl, rfl⟩
        go_wp2_with fail
        refine (HP.out _).mono ?_
        rintro e wb ⟨rfl, rfl⟩
        clear c1 e1 e2
        go_wp2_with fail
        refine (HR.out _).mono ?_
        rintro e wb ⟨rfl, rfl⟩
        clear hw
        have c1 := HM.out.cell (.head _) (k := k) (by rw [tab_length]; exact hlt)
        have f1 := HM.out.free (.head _) k
        generalize List.getD (tab 16 (part2 k (noiseF t l) _)) k 0 = o at c1
        go_wp2_with fail
        have HM3 := Lib.hid (HM.out.put 0 rfl k (min (max r (-67108864)) 67108864))
        simp only [List.set_cons_zero] at HM3
        rw [SS.out] at HM3
        clear HM c1 f1
        go_roundw
        case rel => exact ⟨k + 1, by omega, by go_num, by rw [HT'.out], HM3⟩
        case measure => simp [intOf]; omega
      · have hd : decide (0 < (y : Int)) = false := decide_eq_false hpos
        rw [if_neg hpos] at HS
        rw [KS.out HS.out] at HM
        clear KS HS SS hl hy hy2
        go_wp2_with fail
        refine (HO.out _).mono ?_
        rintro e wb ⟨rfl, rfl⟩
        go_wp2_with fail
        clear c1 e1 e2
        go_roundw
        case rel => exact ⟨k + 1, by omega, by go_num, by rw [HT'.out], HM⟩
        case measure => simp [intOf]; omega
    · obtain rfl : k = 16 := by omega
      rw [part2_all, ← HV.out] at HM
      have L5 := Lib.hid (show V.length = 16 by rw [HV.out]; exact tab_length _ _)
      go_wp2_with (first | ((first | refine wl_box rfl _ _ rfl rfl HM ?_ | refine wl_alloc rfl _ rfl (by exact arrOf) HM ?_); first | (have q : dL HM = 0 := rfl; clear q HM; intro g1 u1 HM) | (have q : dL HM = 1 := rfl; clear q HM; intro g2 u2 HM) | (have q : dL HM = 2 := rfl; clear q HM; intro g3 u3 HM) | (have q : dL HM = 3 := rfl; clear q HM; intro g4 u4 HM) | (have q : dL HM = 4 := rfl; clear q HM; intro g5 u5 HM) | (have q : dL HM = 5 := rfl; clear q HM; intro g6 u6 HM) | (have q : dL HM = 6 := rfl; clear q HM; intro g7 u7 HM) | (have q : dL HM = 7 := rfl; clear q HM; intro g8 u8 HM) | (have q : dL HM = 8 := rfl; clear q HM; intro g9 u9 HM) | (have q : dL HM = 9 := rfl; clear q HM; intro g10 u10 HM) | (have q : dL HM = 10 := rfl; clear q HM; intro g11 u11 HM) | (have q : dL HM = 11 := rfl; clear q HM; intro g12 u12 HM) | (have q : dL HM = 12 := rfl; clear q HM; intro g13 u13 HM) | (have q : dL HM = 13 := rfl; clear q HM; intro g14 u14 HM)) | (refine wl_load rfl _ _ rfl rfl (by exact arrOf) HM (by exact memOf) (by exact lenOf) ?_) | (refine wl_storeM rfl _ _ _ rfl rfl rfl (by exact arrOf) HM (by exact idxOf) (by exact lenOf) (by exact lenOf) ?_; clear HM; intro us HM; dsimp only [List.set] at HM) | (refine wl_zero rfl _ rfl (by exact arrOf) (by kernel_rfl) ?_))
      refine bodyPost_ret (v := .tuple #[.agg (icells V), .int .u32 (seedN t 16), .int .i64 0]) (res_css rfl _ rfl rfl rfl arrSpec HM (by exact memOf) L5) rfl ⟨rfl, HM.out.1⟩
theorem rnoise_any (t : Int) (l : List Int) (w : World) (ht : 0 ≤ t ∧ t < 4294967296) (ll : l.length = 6) :
    Calls Tryd.prog 21 #[.int .u32 t, .agg (icells l)] w (ValQ w (noiseV t l)) := by
  unfold noiseV
  cases h : chkL l with
  | true => rw [if_pos rfl]; exact rnoise_good t l w ht ll h
  | false => rw [if_neg Bool.false_ne_true]; exact rnoise_bad t l w ll h
end Go.Proofs.YtcnckamocbaceaaDoor.Lp
