/-
  Own texts, laid together: Ib.
-/
import Derived.Test.YtgelgbfnioagbaaIa
import Derived.Test.YtgelgbfnioagbaaGp
/- Ib -/
namespace Go.Proofs.Ytgelgbfnioagbaa.Cd
open Go.RowKit
/-- the loop of Next: so many steps are left -/
def RnR (l : List Bool) (fin : De) (gk : Nat) (q : De) : Prop :=
  widD gk l q = fin ∧ Ok q.low q.high ∧ q.low ≤ q.code ∧ q.code ≤ q.high ∧ 4294967296 < (q.high - q.low + 1) * 2 ^ (gk + 1) ∧ q.at_ + gk ≤ 1000000
theorem RnR.step {l : List Bool} {fin q : De} {m : Nat} (h : RnR l fin (m + 1) q) (hk : kind q.low q.high ≠ 3) : RnR l fin m (stepD l q) := by
  obtain ⟨hf, hok, h1, h2, hw, ha⟩ := h
  obtain ⟨_, b1, b2, b3, b4, b5⟩ := stepD_facts (l := l) hok hk h1 h2
  refine ⟨?_, ⟨b5, b3⟩, b1, b2, ?_, ?_⟩
  · unfold widD at hf; rwa [if_neg hk] at hf
  · rw [b4]
    rw [Nat.pow_succ 2 (m + 1)] at hw
    rw [Nat.mul_comm 2 (q.high - q.low + 1), Nat.mul_assoc, Nat.mul_comm 2]
    exact hw
  · show q.at_ + 1 + m ≤ 1000000; omega
theorem int_eq {k : IntKind} {a b : Int} (h : a = b) : Value.int k a = .int k b := by rw [h]
theorem rfind_lit (A : Option Addr) (n c k : Nat) (zs : List Int) (x y : Int) (w : World) (hr : Hid (Fq.RdI w A n zs)) (hok : Hid (Fq.okF zs = true)) (hk : Hid (Fq.IsSym zs x k)) (h0 : 0 ≤ x) (hy : Hid (Fq.totF true zs = y)) (h1 : x < y) (h2 : y ≤ 16384) :
    Calls Try.prog 53 #[.agg #[.slice A n c], .int .i64 x] w fun e w' => e = .returned (.tuple #[.int .i64 (k : Int), .int .i64 0]) ∧ Below w.heap.size w w' := Fq.rfind_yes A n c k zs x y w hr hok hk h0 hy h1 h2
/-- as Next, and the bytes are the answer's own -/
def NOutF (w : World) (lo hi co : Nat) (At N K E : Int) (bs : List Nat) (e : Ending) (w' : World) : Prop :=
  ∃ A n c, e = .returned (.tuple #[decV lo hi co A n c N At, .int .i64 K, .int .i64 E]) ∧ Below w.heap.size w w' ∧ Rd w' A n bs ∧ ∀ ad, A = some ad → 0 < n → w.heap.size ≤ ad.block
set_option maxRecDepth 100000 in
set_option maxHeartbeats 8000000 in
theorem rnext_okF (d : De) (A : Option Addr) (n c L : Nat) (l : List Bool) (C : Option Addr) (m dd : Nat) (xs : List Int) (fin : De) (w : World) (hI : Hid (IsB w (.agg #[.slice A n c, .int .i64 (L : Int)]) l)) (hd : Hid (FineD d)) (h32 : 32 ≤ d.at_) (hat : d.at_ ≤ 65600) (ha : d.at_ ≤ L + 32) (hx : Hid (Fq.RdI w C m xs)) (hm : Hid (m ≤ maxLen)) (hok : Hid (Fq.okF xs = true)) (hfin : Hid (nxE l d xs = fin)) :
    Calls Try.prog 22 #[decV d.low d.high d.code A n c (L : Int) (d.at_ : Int), .agg #[.slice C m dd]] w (NOutF w fin.low fin.high fin.code (fin.at_ : Int) (L : Int) (nxK d xs : Int) 0 (pack l)) := by
  obtain ⟨hn, hN, hr, hl⟩ := isB_parts hI.out
  have HOK := Lib.hid (show okD d.low d.high d.code (pack l) (L : Int) (d.at_ : Int) = true by rw [hN]; exact okD_mk hd.out hl h32 hat)
  have HR := Lib.hid hr
  have hn2 : n ≤ 8192 := by rw [hn, pack_length]; omega
  obtain ⟨T, hT⟩ : ∃ T, T = spT xs := ⟨_, rfl⟩
  obtain ⟨X, hX⟩ : ∃ X, X = symX d T := ⟨_, rfl⟩
  obtain ⟨K, hK⟩ : ∃ K, K = nxK d xs := ⟨_, rfl⟩
  rw [← hK]
  obtain ⟨t1, t2, t3⟩ := okF_tot hok.out
  obtain ⟨y1, y2, y3, y4, y5⟩ := next_sym hd.out hok.out
  have hxl := symX_lt hd.out (T := T) (by omega)
  rw [← hT] at t1 t2 t3 y1 y3 y4
  rw [← hX] at hxl y1 y3 y4
  obtain ⟨a, hav⟩ : ∃ a, a = spA (nxQ d xs) := ⟨_, rfl⟩
  obtain ⟨b, hbv⟩ : ∃ b, b = spB (nxQ d xs) := ⟨_, rfl⟩
  have HSY := Lib.hid (show symP xs (K : Int) a b T from by have := symP_of y2; rw [hav, hbv, hT, hK]; exact this)
  have HY1 := Lib.hid (show Fq.IsSym xs (X : Int) K by rw [hK]; exact y1)
  rw [← hav] at y3
  rw [← hbv] at y4
  obtain ⟨n1, n2, n3, n4⟩ := narD_in hd.out HSY.out.2.2.2 (show a ≤ symX d T by rw [← hX]; exact y3) (show symX d T < b by rw [← hX]; exact y4)
  obtain ⟨lo, hlo⟩ : ∃ lo, lo = d.low + (d.high - d.low + 1) * a / T := ⟨_, rfl⟩
  obtain ⟨hi, hhi⟩ : ∃ hi, hi = d.low + (d.high - d.low + 1) * b / T - 1 := ⟨_, rfl⟩
  have HN1 := Lib.hid (show lo ≤ d.code ∧ d.code ≤ hi ∧ lo ≤ hi ∧ hi < 4294967296 by rw [hlo, hhi]; exact ⟨n1, n2, n3.1, n3.2⟩)
  have HRN := Lib.hid (show RnR l fin 40 ⟨lo, hi, d.code, d.at_⟩ from by
    refine ⟨?_, ⟨HN1.out.2.2.1, HN1.out.2.2.2⟩, HN1.out.1, HN1.out.2.1, by rw [pow41]; omega, by show d.at_ + 40 ≤ 1000000; omega⟩
    rw [← hfin.out]
    unfold nxE nxD narD
    rw [← hav, ← hbv, ← hT, ← hlo, ← hhi])
  have HLO := Lib.hid hlo
  have HHI := Lib.hid hhi
  have HB1 := Lib.hid n4
  obtain ⟨S1, S2, S3⟩ := HSY.out.2.2.2
  obtain ⟨o1, o2⟩ := hd.out.1
  have k1 := hd.out.2.2.1
  have k2 := hd.out.2.2.2
  obtain ⟨w1', w2'⟩ := fineD_wid hd.out
  obtain ⟨W0, hW0⟩ : ∃ W0, W0 = d.high - d.low := ⟨_, rfl⟩
  obtain ⟨W, hW⟩ : ∃ W, W = W0 + 1 := ⟨_, rfl⟩
  obtain ⟨c1, hc1⟩ : ∃ c1, c1 = d.code - d.low := ⟨_, rfl⟩
  obtain ⟨c2, hc2⟩ : ∃ c2, c2 = c1 + 1 := ⟨_, rfl⟩
  obtain ⟨pr, hpr⟩ : ∃ pr, pr = c2 * T := ⟨_, rfl⟩
  obtain ⟨pq, hpq⟩ : ∃ pq, pq = pr - 1 := ⟨_, rfl⟩
  have c2b : c2 ≤ 4294967296 := by omega
  have prb : pr ≤ 70368744177664 := by rw [hpr]; exact Nat.le_trans (Nat.mul_le_mul c2b t2) (by omega)
  have pr1 : 1 ≤ pr := by rw [hpr]; exact Nat.mul_pos (by omega) (by omega)
  have hXq : X = pq / W := by rw [hX, hpq, hpr, hc2, hc1, hW, hW0]; rfl
  have E1 := Lib.hid (show (d.code : Int) - (d.low : Int) = (c1 : Int) by omega)
  have E2 := Lib.hid (show (c1 : Int) + 1 = (c2 : Int) by omega)
  have E3 := Lib.hid (show (c2 : Int) * (T : Int) = (pr : Int) by rw [hpr]; simp)
  have E4 := Lib.hid (show (pr : Int) - 1 = (pq : Int) by omega)
  have E5 := Lib.hid (show (pq : Int) / (W : Int) = (X : Int) by rw [hXq]; simp)
  have E6 := Lib.hid (show (d.high : Int) - (d.low : Int) = (W0 : Int) by omega)
  have E7 := Lib.hid (show (W0 : Int) + 1 = (W : Int) by omega)
  have c1b : c1 < 4294967296 := by omega
  have Wb : W ≤ 4294967296 := by omega
  have W0b : W0 < 4294967296 := by omega
  have X2 : X < 16384 := by omega
  have XT : X < T := hxl
  have K2 : K ≤ 300 := by have := HY1.out.1; have := (Fq.okF_parts hok.out).2.1; omega
  have pqb : pq ≤ 70368744177664 := by omega
  have Z1 : ¬ (W : Int) = 0 := by omega
  have Z2 : ((W : Int) == 0) = false := by simp; omega
  have Z3 : ¬ W = 0 := by omega
  have Z4 : (W == 0) = false := by simp; omega
  have Lb : L ≤ 65536 := by omega
  obtain ⟨L3, hL3⟩ : ∃ L3, L3 = L + 32 := ⟨_, rfl⟩
  have EL := Lib.hid (show (L : Int) + 32 = (L3 : Int) by omega)
  have dd1 : decide (L3 < d.at_) = false := by simp; omega
  have HT := Lib.hid t3
  clear hn hN hr hl hL3 hT hX hK y1 y2 y3 y4 y5 hav hbv hlo hhi n1 n2 n3 n4 hW hW0 hc1 hc2 hpr hpq hXq t3 hxl
  have HS0 := Lib.hid (nes_start w #[.int .u32 (d.low : Int), .int .u32 (d.high : Int), .int .u32 (d.code : Int), .slice A n c, .int .i64 (L : Int), .int .i64 (d.at_ : Int)] C m dd xs hx.out)
  unfold decV
  go_enter Try.func22, Try.ntmps22
  go_wp2_with fail
  generalize ((w.alloc (.cells #[.int .u32 (d.low : Int), .int .u32 (d.high : Int), .int .u32 (d.code : Int), .slice A n c, .int .i64 (L : Int), .int .i64 (d.at_ : Int)] 45)).alloc (.cells #[.slice C m dd] 30)).alloc (.cells #[.int .u32 0, .int .u32 0, .int .u32 0, .slice none 0 0, .int .i64 0, .int .i64 0] 45) = w0 at HS0 ⊢
  obtain ⟨bb, hbb⟩ : ∃ bb, bb = w.heap.size := ⟨_, rfl⟩
  rw [← hbb] at HS0 ⊢
  have HB := Lib.hid (show w.heap.size ≤ bb by omega)
  clear hbb
  refine (rcheckDec_any d.low d.high d.code A n c (L : Int) (d.at_ : Int) (pack l) true w0 (by omega) (by omega) (by omega) (Lib.hid (HR.out.below HS0.out.blw)) HOK).mono ?_
  rintro e w2 ⟨rfl, hb2⟩
  have HS2 := Lib.hid (HS0.out.next hb2)
  clear hb2 HS0
  have x3 := Fq.blk0 HS2.out.fr
  go_wp2_with fail
  refine (Fq.rcheck_any C m dd xs true w2 (Lib.hid HS2.out.rd) hm.out hok.out).mono ?_
  rintro e w3 ⟨rfl, hb3⟩
  have HS3 := Lib.hid (HS2.out.next hb3)
  clear hb3 HS2 x3
  rw [show Fq.errN true = 0 from rfl]
  obtain ⟨x1, x2, x3, x4, x5, x6⟩ := blk6 HS3.out.box
  have x7 := Fq.blk0 HS3.out.fr
  have eL := EL.out
  go_wp2_with fail
  clear eL x1 x2 x3 x4 x5 x6 x7
  refine (Fq.rtotal_any C m dd xs true (T : Int) w3 (Lib.hid HS3.out.rd) hm.out hok.out HT.out).mono ?_
  rintro e w4 ⟨rfl, hb4⟩
  have HS4 := Lib.hid (HS3.out.next hb4)
  clear hb4 HS3
  have x7 := Fq.blk0 HS4.out.fr
  go_wp2_with fail
  have e1 := E1.out
  have e2 := E2.out
  have e3 := E3.out
  have e4 := E4.out
  have e5 := E5.out
  have e6 := E6.out
  have e7 := E7.out
  have e8 : Int.tdiv (pq : Int) (W : Int) = (X : Int) := by rw [Int.tdiv_eq_ediv_of_nonneg (by omega)]; exact e5
  have v1 : IntKind.u64.wrap (c1 : Int) = (c1 : Int) := IntWalk.u64_in _ (by omega)
  have v2 : IntKind.u64.wrap (c2 : Int) = (c2 : Int) := IntWalk.u64_in _ (by omega)
  have v3 : IntKind.u64.wrap (T : Int) = (T : Int) := IntWalk.u64_in _ (by omega)
  have v4 : IntKind.u64.wrap (pr : Int) = (pr : Int) := IntWalk.u64_in _ (by omega)
  have v5 : IntKind.u64.wrap (pq : Int) = (pq : Int) := IntWalk.u64_in _ (by omega)
  have v6 : IntKind.u64.wrap (W0 : Int) = (W0 : Int) := IntWalk.u64_in _ (by omega)
  have v7 : IntKind.u64.wrap (W : Int) = (W : Int) := IntWalk.u64_in _ (by omega)
  have v8 : IntKind.u64.wrap (X : Int) = (X : Int) := IntWalk.u64_in _ (by omega)
  have v9 : IntKind.i64.wrap (X : Int) = (X : Int) := IntWalk.i64_in _ (by omega)
  go_region_with (go_at_call 53; refine (rfind_lit C m dd K xs (X : Int) (T : Int) w4.drew (Lib.hid HS4.out.rd) hok HY1 (by omega) HT (by omega) (by omega)).mono ?_; rintro e w5 ⟨rfl, hb5⟩)
  have HS5 := Lib.hid (HS4.out.next (show Below w4.heap.size w4 w5 from ⟨hb5.os, hb5.tape, hb5.output, hb5.size, hb5.block⟩))
  clear hb5 HS4 x7 e1 e2 e3 e4 e5 e6 e7 e8 v1 v2 v3 v4 v5 v6 v7 v8 v9
  have x7 := Fq.blk0 HS5.out.fr
  go_wp2_with fail
  have hcon := Fq.rspan_any C m dd xs (K : Int) w5 (Lib.hid HS5.out.rd) hm.out
  rw [HSY.out.1] at hcon
  refine hcon.mono ?_
  clear hcon
  rintro e w6 ⟨rfl, hb6⟩
  have HS6 := Lib.hid (HS5.out.next hb6)
  clear hb6 HS5 x7
  unfold Fq.spanT
  go_wp2_with fail
  refine (rnarrow_any d.low d.high a b T lo hi w6 o1 o2 (by omega) (by omega) (by omega) S3 HLO HHI HB1).mono ?_
  rintro e w7 ⟨rfl, q7, rfl⟩
  have HS7 := Lib.hid (HS6.out.drewN q7)
  generalize w6.drewN q7 = w7 at HS7 ⊢
  clear HS6
  obtain ⟨-, -, -, -, -, x6⟩ := blk6 HS7.out.box
  go_wp2
  clear x6
  go_loopg [7, 8, 9, 16] 40 (fun gk v7 v8 v9 v16 wr => ∃ q : De, v7 = .int .u64 (q.low : Int) ∧ v8 = .int .u64 (q.high : Int) ∧ v9 = .int .u64 (q.code : Int) ∧ v16 = .int .i64 (q.at_ : Int) ∧ Hid (RnR l fin gk q ∧ NeS w bb #[.int .u32 (d.low : Int), .int .u32 (d.high : Int), .int .u32 (d.code : Int), .slice A n c, .int .i64 (L : Int), .int .i64 (d.at_ : Int)] C m dd xs wr))
  case atStart => exact ⟨⟨lo, hi, d.code, d.at_⟩, rfl, rfl, rfl, rfl, Lib.hid ⟨HRN.out, HS7.out⟩⟩
  case round =>
    obtain ⟨q, rfl, rfl, rfl, rfl, HZ⟩ := hrel
    clear HRN HS7
    obtain ⟨⟨hf, ⟨g1, g2⟩, g3, g4, hw, g5⟩, hne⟩ := HZ.out
    have HF := Lib.hid hf
    have HW := Lib.hid hw
    have HNE := Lib.hid hne
    clear hf hw hne
    have g5' : q.at_ ≤ 1000000 := by omega
    obtain ⟨t, ht⟩ : ∃ t, t = (bitF l q.at_).toNat := ⟨_, rfl⟩
    have ht2 : t < 2 := by have := toNat_le (bitF l q.at_); omega
    have HTB := Lib.hid ht
    clear ht
    obtain ⟨-, -, -, x4, x5, -⟩ := blk6 HNE.out.box
    rcases kind_cases q.low q.high with ⟨hk, k1⟩ | ⟨hk, k1, k2⟩ | ⟨hk, k1, k2, k3, k4⟩ | ⟨hk, k1, k2, k3⟩
    · have HKK := Lib.hid hk
      have d1 : decide ((q.high : Int) < 2147483648) = true := by simp; omega
      clear hk
      cases gk with
      | zero => exact absurd (widS_zero ⟨g1, g2⟩ HW.out) (by rw [HKK.out]; decide)
      | succ p =>
        go_wp2_with fail
        refine (rbitAt_any A n c q.at_ t (L : Int) l _ (Lib.hid (hI.out.below HNE.out.blw)) HTB ht2 g5').mono ?_
        rintro e w8 ⟨rfl, hb8⟩
        have HN8 := Lib.hid (HNE.out.next hb8)
        have HSD := Lib.hid (show stepD l q = ⟨2 * (q.low - 0), 2 * (q.high - 0) + 1, 2 * (q.code - 0) + t, q.at_ + 1⟩ by unfold stepD; rw [HKK.out, HTB.out]; rfl)
        have HRS := Lib.hid (RnR.step HZ.out.1 (by rw [HKK.out]; decide))
        rw [HSD.out] at HRS
        clear hb8 HNE x4 x5
        go_wp2
        go_roundg p
        case rel => exact ⟨⟨2 * (q.low - 0), 2 * (q.high - 0) + 1, 2 * (q.code - 0) + t, q.at_ + 1⟩, int_eq (by dsimp only; omega), int_eq (by dsimp only; omega), int_eq (by dsimp only; omega), int_eq (by dsimp only; omega), Lib.hid ⟨HRS.out, HN8.out⟩⟩
        case measure => omega
    · have HKK := Lib.hid hk
      have d1 : decide ((q.high : Int) < 2147483648) = false := by simp; omega
      have d2 : decide (2147483648 ≤ (q.low : Int)) = true := by simp; omega
      clear hk
      cases gk with
      | zero => exact absurd (widS_zero ⟨g1, g2⟩ HW.out) (by rw [HKK.out]; decide)
      | succ p =>
        go_wp2_with fail
        refine (rbitAt_any A n c q.at_ t (L : Int) l _ (Lib.hid (hI.out.below HNE.out.blw)) HTB ht2 g5').mono ?_
        rintro e w8 ⟨rfl, hb8⟩
        have HN8 := Lib.hid (HNE.out.next hb8)
        have HSD := Lib.hid (show stepD l q = ⟨2 * (q.low - 2147483648), 2 * (q.high - 2147483648) + 1, 2 * (q.code - 2147483648) + t, q.at_ + 1⟩ by unfold stepD; rw [HKK.out, HTB.out]; rfl)
        have HRS := Lib.hid (RnR.step HZ.out.1 (by rw [HKK.out]; decide))
        rw [HSD.out] at HRS
        clear hb8 HNE x4 x5
        go_wp2
        go_roundg p
        case rel => exact ⟨⟨2 * (q.low - 2147483648), 2 * (q.high - 2147483648) + 1, 2 * (q.code - 2147483648) + t, q.at_ + 1⟩, int_eq (by dsimp only; omega), int_eq (by dsimp only; omega), int_eq (by dsimp only; omega), int_eq (by dsimp only; omega), Lib.hid ⟨HRS.out, HN8.out⟩⟩
        case measure => omega
    · have HKK := Lib.hid hk
      have d1 : decide ((q.high : Int) < 2147483648) = false := by simp; omega
      have d2 : decide (2147483648 ≤ (q.low : Int)) = false := by simp; omega
      have d3 : decide (1073741824 ≤ (q.low : Int)) = true := by simp; omega
      have d4 : decide ((q.high : Int) < 3221225472) = true := by simp; omega
      clear hk
      cases gk with
      | zero => exact absurd (widS_zero ⟨g1, g2⟩ HW.out) (by rw [HKK.out]; decide)
      | succ p =>
        go_wp2_with fail
        refine (rbitAt_any A n c q.at_ t (L : Int) l _ (Lib.hid (hI.out.below HNE.out.blw)) HTB ht2 g5').mono ?_
        rintro e w8 ⟨rfl, hb8⟩
        have HN8 := Lib.hid (HNE.out.next hb8)
        have HSD := Lib.hid (show stepD l q = ⟨2 * (q.low - 1073741824), 2 * (q.high - 1073741824) + 1, 2 * (q.code - 1073741824) + t, q.at_ + 1⟩ by unfold stepD; rw [HKK.out, HTB.out]; rfl)
        have HRS := Lib.hid (RnR.step HZ.out.1 (by rw [HKK.out]; decide))
        rw [HSD.out] at HRS
        clear hb8 HNE x4 x5
        go_wp2
        go_roundg p
        case rel => exact ⟨⟨2 * (q.low - 1073741824), 2 * (q.high - 1073741824) + 1, 2 * (q.code - 1073741824) + t, q.at_ + 1⟩, int_eq (by dsimp only; omega), int_eq (by dsimp only; omega), int_eq (by dsimp only; omega), int_eq (by dsimp only; omega), Lib.hid ⟨HRS.out, HN8.out⟩⟩
        case measure => omega
    · have HKK := Lib.hid hk
      have HE := Lib.hid (show q = fin from by
        have := HF.out
        cases gk with
        | zero => exact this
        | succ p => unfold widD at this; rwa [if_pos hk] at this)
      have d1 : decide ((q.high : Int) < 2147483648) = false := by simp; omega
      have d2 : decide (2147483648 ≤ (q.low : Int)) = false := by simp; omega
      clear hk
      have u1 : (q.low : Int) < 4294967296 := by omega
      have u2 : (q.high : Int) < 4294967296 := by omega
      have u3 : (q.code : Int) < 4294967296 := by omega
      by_cases h3 : 1073741824 ≤ q.low
      · have d3 : decide (1073741824 ≤ (q.low : Int)) = true := by simp; omega
        have d4 : decide ((q.high : Int) < 3221225472) = false := by simp; omega
        go_wp2_with fail
        refine (rcopy_any A n c (L : Int) (pack l) _ (HR.out.below HNE.out.blw) (by omega)).mono ?_
        rintro e w8 ⟨A8, n8, c8, rfl, ho8, hb8⟩
        have HN8 := Lib.hid (HNE.out.next hb8)
        have HI8 := Lib.hid (copy_isB (isB_parts hI.out).2.2.2 ho8)
        have HO8 := Lib.hid ho8
        have HLT := Lib.hid (show bb + 1 + 1 < wr.heap.size from HNE.out.res.lt)
        clear hb8 ho8 x4 x5
        obtain ⟨y1, y2, y3, y4, y5, y6⟩ := blk6 HN8.out.res
        obtain ⟨z1, z2, z3, z4, z5, z6⟩ := frz6 HN8.out.res
        go_wp2
        have hfar : ∀ ad, A8 = some ad → 0 < n8 → ad.block ≠ bb + 1 + 1 := fun ad ha _ => by
          have h1 := own_block HO8.out ad ha
          have h2 := HLT.out
          omega
        obtain ⟨-, -, q3, -⟩ := isB_parts HI8.out
        refine bodyPost_ret (v := .tuple #[decV q.low q.high q.code A8 n8 c8 (L : Int) (q.at_ : Int), .int .i64 (K : Int), .int .i64 0]) (by simp [results, Try.results22, go_sem, decV, y1, y2, y3, y4, y5, y6]) rfl ⟨A8, n8, c8, by rw [HE.out], below6 HN8.out.blw (by have := HB.out; omega) _ _ _ _ _ _, ?_, fun ad ha _ => by have h1 := own_block HO8.out ad ha; have h2 := HLT.out; have h3 := HB.out; omega⟩
        exact rd_far (rd_far (rd_far (rd_far (rd_far (rd_far q3 hfar _ _) hfar _ _) hfar _ _) hfar _ _) hfar _ _) hfar _ _
      · have d3 : decide (1073741824 ≤ (q.low : Int)) = false := by simp; omega
        go_wp2_with fail
        refine (rcopy_any A n c (L : Int) (pack l) _ (HR.out.below HNE.out.blw) (by omega)).mono ?_
        rintro e w8 ⟨A8, n8, c8, rfl, ho8, hb8⟩
        have HN8 := Lib.hid (HNE.out.next hb8)
        have HI8 := Lib.hid (copy_isB (isB_parts hI.out).2.2.2 ho8)
        have HO8 := Lib.hid ho8
        have HLT := Lib.hid (show bb + 1 + 1 < wr.heap.size from HNE.out.res.lt)
        clear hb8 ho8 x4 x5
        obtain ⟨y1, y2, y3, y4, y5, y6⟩ := blk6 HN8.out.res
        obtain ⟨z1, z2, z3, z4, z5, z6⟩ := frz6 HN8.out.res
        go_wp2
        have hfar : ∀ ad, A8 = some ad → 0 < n8 → ad.block ≠ bb + 1 + 1 := fun ad ha _ => by
          have h1 := own_block HO8.out ad ha
          have h2 := HLT.out
          omega
        obtain ⟨-, -, q3, -⟩ := isB_parts HI8.out
        refine bodyPost_ret (v := .tuple #[decV q.low q.high q.code A8 n8 c8 (L : Int) (q.at_ : Int), .int .i64 (K : Int), .int .i64 0]) (by simp [results, Try.results22, go_sem, decV, y1, y2, y3, y4, y5, y6]) rfl ⟨A8, n8, c8, by rw [HE.out], below6 HN8.out.blw (by have := HB.out; omega) _ _ _ _ _ _, ?_, fun ad ha _ => by have h1 := own_block HO8.out ad ha; have h2 := HLT.out; have h3 := HB.out; omega⟩
        exact rd_far (rd_far (rd_far (rd_far (rd_far (rd_far q3 hfar _ _) hfar _ _) hfar _ _) hfar _ _) hfar _ _) hfar _ _
theorem rnext_ok (d : De) (A : Option Addr) (n c L : Nat) (l : List Bool) (C : Option Addr) (m dd : Nat) (xs : List Int) (fin : De) (w : World) (hI : Hid (IsB w (.agg #[.slice A n c, .int .i64 (L : Int)]) l)) (hd : Hid (FineD d)) (h32 : 32 ≤ d.at_) (hat : d.at_ ≤ 65600) (ha : d.at_ ≤ L + 32) (hx : Hid (Fq.RdI w C m xs)) (hm : Hid (m ≤ maxLen)) (hok : Hid (Fq.okF xs = true)) (hfin : Hid (nxE l d xs = fin)) :
    Calls Try.prog 22 #[decV d.low d.high d.code A n c (L : Int) (d.at_ : Int), .agg #[.slice C m dd]] w (NOut w fin.low fin.high fin.code (fin.at_ : Int) (L : Int) (nxK d xs : Int) 0 (pack l)) :=
  (rnext_okF d A n c L l C m dd xs fin w hI hd h32 hat ha hx hm hok hfin).mono fun _ _ ⟨A', n', c', h1, h2, h3, _⟩ => ⟨A', n', c', h1, h2, h3⟩
end Go.Proofs.Ytgelgbfnioagbaa.Cd
