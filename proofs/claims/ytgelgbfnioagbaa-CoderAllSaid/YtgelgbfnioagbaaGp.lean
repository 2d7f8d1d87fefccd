/-
  Own texts, laid together: Gp.
-/
import Derived.Test.YtgelgbfnioagbaaGo
/- Gp -/
namespace Go.Proofs.Ytgelgbfnioagbaa.Cd
open Go.RowKit
def NxP (w : World) (p : Nat) (k : Nat) (fin : De) (A : Option Addr) (n c : Nat) (N : Int) (e : Ending) (w' : World) : Prop :=
  e = .returned (.tuple #[.int .i64 (k : Int), .int .i64 0]) ∧ RdS w' p fin A n c N ∧ w.grownBy w' (some p)
set_option maxRecDepth 100000 in
set_option maxHeartbeats 4000000 in
theorem next_ok (p : Nat) (d : De) (A : Option Addr) (n c L : Nat) (l : List Bool) (C : Option Addr) (m dd : Nat) (xs : List Int) (w : World) (hs : Hid (RdS w p d A n c (L : Int))) (hI : Hid (IsB w (.agg #[.slice A n c, .int .i64 (L : Int)]) l)) (hA : Hid (∀ ad, A = some ad → 0 < n → ad.block ≠ p)) (hL : L ≤ 65536) (hd : Hid (FineD d)) (ha : d.at_ ≤ L + 32) (hx : Hid (Fq.RdI w C m xs)) (hm : Hid (m ≤ maxLen)) (hok : Hid (Fq.okF xs = true)) :
    Calls Try.prog 49 #[.pointer (some ⟨p, 0, none⟩), .agg #[.slice C m dd]] w (NxP w p (nxK d xs) (nxE l d xs) A n c (L : Int)) := by
  obtain ⟨T, hT⟩ : ∃ T, T = spT xs := ⟨_, rfl⟩
  obtain ⟨X, hX⟩ : ∃ X, X = symX d T := ⟨_, rfl⟩
  obtain ⟨K, hK⟩ : ∃ K, K = nxK d xs := ⟨_, rfl⟩
  obtain ⟨t1, t2, t3⟩ := okF_tot hok.out
  obtain ⟨y1, y2, y3, y4, y5⟩ := next_sym hd.out hok.out
  have hxl := symX_lt hd.out (T := T) (by omega)
  rw [← hT] at t1 t2 t3 y1 y3 y4
  rw [← hX] at hxl y1 y3 y4
  obtain ⟨a, hav⟩ : ∃ a, a = spA (nxQ d xs) := ⟨_, rfl⟩
  obtain ⟨b, hbv⟩ : ∃ b, b = spB (nxQ d xs) := ⟨_, rfl⟩
  have HSY := Lib.hid (show symP xs (K : Int) a b T from by have := symP_of y2; rw [hav, hbv, hT, hK]; exact this)
  have HY1 := Lib.hid (show Fq.IsSym xs (X : Int) K by rw [hK]; exact y1)
  rw [← hav] at y3
  rw [← hbv] at y4
  obtain ⟨n1, n2, n3, n4⟩ := narD_in hd.out HSY.out.2.2.2 (show a ≤ symX d T by rw [← hX]; exact y3) (show symX d T < b by rw [← hX]; exact y4)
  have HFIN := Lib.hid (show nxE l d xs = nxD l d a b T by unfold nxE; rw [hav, hbv, hT])
  have HKK := Lib.hid hK
  obtain ⟨lo, hlo⟩ : ∃ lo, lo = d.low + (d.high - d.low + 1) * a / T := ⟨_, rfl⟩
  obtain ⟨hi, hhi⟩ : ∃ hi, hi = d.low + (d.high - d.low + 1) * b / T - 1 := ⟨_, rfl⟩
  have HN1 := Lib.hid (show lo ≤ d.code ∧ d.code ≤ hi ∧ lo ≤ hi ∧ hi < 4294967296 by rw [hlo, hhi]; exact ⟨n1, n2, n3.1, n3.2⟩)
  have HND := Lib.hid (show narD d a b T = ⟨lo, hi, d.code, d.at_⟩ by unfold narD; rw [hlo, hhi])
  have HLO := Lib.hid hlo
  have HHI := Lib.hid hhi
  have HB1 := Lib.hid n4
  obtain ⟨o1, o2⟩ := hd.out.1
  have k1 := hd.out.2.2.1
  have k2 := hd.out.2.2.2
  obtain ⟨w1', w2'⟩ := fineD_wid hd.out
  -- letters
  obtain ⟨W, hW⟩ : ∃ W, W = d.high - d.low + 1 := ⟨_, rfl⟩
  rw [← hW] at w1' w2'
  have HWW := Lib.hid hW
  obtain ⟨c1, hc1⟩ : ∃ c1, c1 = d.code - d.low := ⟨_, rfl⟩
  obtain ⟨c2, hc2⟩ : ∃ c2, c2 = c1 + 1 := ⟨_, rfl⟩
  obtain ⟨pr, hpr⟩ : ∃ pr, pr = c2 * T := ⟨_, rfl⟩
  obtain ⟨pq, hpq⟩ : ∃ pq, pq = pr - 1 := ⟨_, rfl⟩
  have c2b : c2 ≤ 4294967296 := by omega
  have prb : pr ≤ 70368744177664 := by rw [hpr]; exact Nat.le_trans (Nat.mul_le_mul c2b t2) (by omega)
  have pr1 : 1 ≤ pr := by rw [hpr]; exact Nat.mul_pos (by omega) (by omega)
  have hXq : X = pq / W := by rw [hX, hpq, hpr, hc2, hc1, hW]; rfl
  have E1 := Lib.hid (show (d.code : Int) - (d.low : Int) = (c1 : Int) by omega)
  have E2 := Lib.hid (show (c1 : Int) + 1 = (c2 : Int) by omega)
  have E3 := Lib.hid (show (c2 : Int) * (T : Int) = (pr : Int) by rw [hpr]; simp)
  have E4 := Lib.hid (show (pr : Int) - 1 = (pq : Int) by omega)
  have E5 := Lib.hid (show (pq : Int) / (W : Int) = (X : Int) by rw [hXq]; simp)
  have c1b : c1 < 4294967296 := by omega
  have X2 : X < 16384 := by omega
  have K2 : K ≤ 300 := by have := HY1.out.1; have := (Fq.okF_parts hok.out).2.1; omega
  have W0 : ¬ (W : Int) = 0 := by omega
  have W0' : ((W : Int) == 0) = false := by simp; omega
  have W1' : ¬ W = 0 := by omega
  have W2' : (W == 0) = false := by simp; omega
  obtain ⟨L3, hL3⟩ : ∃ L3, L3 = L + 32 := ⟨_, rfl⟩
  have EL := Lib.hid (show (L : Int) + 32 = (L3 : Int) by omega)
  have VL := Lib.hid (show IntKind.i64.wrap (L3 : Int) = (L3 : Int) from IntWalk.i64_in _ (by omega))
  have dd1 : decide (L3 < d.at_) = false := by simp; omega
  have dd2 : decide ((L3 : Int) < (d.at_ : Int)) = false := by simp; omega
  have pqb : pq ≤ 70368744177664 := by omega
  have HT := Lib.hid t3
  have XT : X < T := hxl
  clear hT hX hK y1 y2 y3 y4 y5 hav hbv hlo hhi n1 n2 n3 n4 hW hc1 hc2 hpr hpq hXq hL3 t3 hxl
  have H0 := Lib.hid (nxs_start (dd := dd) hs.out hx.out)
  go_enter Try.func49, Try.ntmps49
  go_wp2_with fail
  generalize w.alloc (.cells #[.slice C m dd] 30) = w0 at H0 ⊢
  obtain ⟨bf, hbf⟩ : ∃ bf, bf = w.heap.size := ⟨_, rfl⟩
  rw [← hbf] at H0 ⊢
  clear hbf
  refine (Fq.check_any C m dd xs true w0 (Lib.hid H0.out.2.2.1) hm.out hok.out).mono ?_
  rintro e w1 ⟨rfl, hb1⟩
  have H1 := Lib.hid (H0.out.next hb1)
  clear hb1 H0
  rw [show Fq.errN true = 0 from rfl]
  obtain ⟨-, -, -, -, x4, x5⟩ := H1.out.1.six
  have eL := EL.out
  have v1 := VL.out
  go_wp2_with fail
  go_quiet (fail)
  clear x4 x5 eL v1
  have H2 := Lib.hid (H1.out.drewN nq)
  generalize w1.drewN nq = w2 at H2 ⊢
  clear H1
  obtain ⟨x0, -, x2, -, -, -⟩ := H2.out.1.six
  have e1 := E1.out
  have e2 := E2.out
  have v1 : IntKind.u32.wrap (c1 : Int) = (c1 : Int) := IntWalk.u32_in _ (by omega)
  have v2 : IntKind.u64.wrap (c1 : Int) = (c1 : Int) := IntWalk.u64_in _ (by omega)
  have v3 : IntKind.u64.wrap (c2 : Int) = (c2 : Int) := IntWalk.u64_in _ (by omega)
  go_wp2_with fail
  go_quiet (fail)
  clear x0 x2 e1 e2 v1 v2 v3
  have H3 := Lib.hid (H2.out.drewN nq)
  generalize w2.drewN nq = w3 at H3 ⊢
  clear H2
  go_wp2_with fail
  obtain ⟨x0, x1, -, -, -, -⟩ := H3.out.1.six
  have x3 := Fq.blk0 H3.out.2.1
  have v1 : IntKind.u64.wrap (T : Int) = (T : Int) := IntWalk.u64_in _ (by omega)
  have v2 : IntKind.u64.wrap (pr : Int) = (pr : Int) := IntWalk.u64_in _ (by omega)
  have v3 : IntKind.u64.wrap (pq : Int) = (pq : Int) := IntWalk.u64_in _ (by omega)
  have v4 : IntKind.u64.wrap (X : Int) = (X : Int) := IntWalk.u64_in _ (by omega)
  have e3 := E3.out
  have e4 := E4.out
  have e5 := E5.out
  have e6 : Int.tdiv (pq : Int) (W : Int) = (X : Int) := by rw [Int.tdiv_eq_ediv_of_nonneg (by omega)]; exact e5
  have C1 := Lib.hid (show ∀ u, NxS w p bf d A n c (L : Int) C m dd xs u → Calls Try.prog 35 #[.agg #[.slice C m dd]] u (fun e w' => e = .returned (.int .i64 (T : Int)) ∧ NxS w p bf d A n c (L : Int) C m dd xs w') from fun u h =>
    (Fq.total_any C m dd xs true (T : Int) u (Lib.hid h.2.2.1) hm.out hok.out HT.out).mono fun e w' ⟨h1, h2⟩ => ⟨h1, h.next h2⟩)
  have C2 := Lib.hid (show ∀ u, NxS w p bf d A n c (L : Int) C m dd xs u → Calls Try.prog 71 #[.agg #[.int .u32 (d.low : Int), .int .u32 (d.high : Int)]] u (fun e w' => e = .returned (.int .u64 (W : Int)) ∧ NxS w p bf d A n c (L : Int) C m dd xs w') from fun u h =>
    (size_any d.low d.high W u o1 o2 HWW).mono fun e w' ⟨h1, h2⟩ => ⟨h1, h.next h2⟩)
  go_region_held3 (fun w' => w'.cell? ⟨p, 0, none⟩ = some (.int .u32 (d.low : Int)) ∧ w'.cell? ⟨p, 1, none⟩ = some (.int .u32 (d.high : Int)) ∧ w'.cell? ⟨bf, 0, none⟩ = some (.slice C m dd) ∧ NxS w p bf d A n c (L : Int) C m dd xs w') (first | exact ⟨hQ.1.six.1, hQ.1.six.2.1, Fq.blk0 hQ.2.1, hQ⟩ | exact ⟨x0, x1, x3, H3.out⟩ | exact ⟨x0, x1, x3, H3.out.drew⟩) (first
    | (go_at_call 35; refine (C1.out _ (by first | exact hQ | exact H3.out | exact H3.out.drew)).mono ?_; rintro e w6 ⟨rfl, hQ⟩)
    | (go_at_call 71; refine (C2.out _ (by first | exact hQ | exact H3.out | exact H3.out.drew)).mono ?_; rintro e w6 ⟨rfl, hQ⟩))
  all_goals
    have HQ := Lib.hid hQ
    clear hQ x0 x1 x3 v1 v2 v3 v4 e3 e4 e5 e6 C1 C2
    go_wp2_with fail
    refine (Fq.find_yes C m dd K xs (X : Int) (T : Int) w6 (Lib.hid HQ.out.2.2.1) hok HY1 (by omega) HT (by omega) (by omega)).mono ?_
    rintro e w7 ⟨rfl, hb7⟩
    have H7 := Lib.hid (HQ.out.next hb7)
    clear hb7 HQ H3
    unfold Fq.findT
    have x3 := Fq.blk0 H7.out.2.1
    go_wp2_with fail
    go_region_with (go_at_call 66; refine (narrow_ok p d.low d.high a b T lo hi C m dd xs (K : Int) w7.drew o1 o2 (Lib.hid H7.out.drew.2.2.1) hm HSY (Lib.hid (RdS.two H7.out.drew.1)) HLO HHI HB1 HN1.out.2.2.1 HN1.out.2.2.2).mono ?_; rintro e w8 ⟨rfl, w9, hb9, rfl⟩)
    have HS9 := Lib.hid (RdS.iv' (H7.out.drew.1.next hb9) lo hi)
    have HG9 := Lib.hid (only_setCell (only_setCell (only_of_below (H7.out.drew.2.2.2.trans (hb9.mono H7.out.drew.2.2.2.size)) (some p)) (p := ⟨p, 1, none⟩) (.inl rfl) (.int .u32 (hi : Int))) (p := ⟨p, 0, none⟩) (.inl rfl) (.int .u32 (lo : Int)))
    clear hb9 x3 H7
    generalize (w9.setCell ⟨p, 1, none⟩ (.int .u32 (hi : Int))).setCell ⟨p, 0, none⟩ (.int .u32 (lo : Int)) = w10 at HS9 HG9 ⊢
    have HWD := Lib.hid (show WidS w p A n c (L : Int) l (nxD l d a b T) 40 w10 from by
      refine ⟨⟨lo, hi, d.code, d.at_⟩, HS9.out, by unfold nxD; rw [HND.out], ⟨HN1.out.2.2.1, HN1.out.2.2.2⟩, HN1.out.1, HN1.out.2.1, ?_, ?_, HG9.out⟩
      · rw [pow41]; omega
      · show d.at_ + 40 ≤ 1000000; omega)
    clear HS9 HG9
    go_wp2_with fail
    with_reducible refine (widen_r w p 40 A n c (L : Int) l (nxD l d a b T) w10 HWD hI hA).mono ?_
    rintro e w11 ⟨rfl, hs11, hg11⟩
    have HS11 := Lib.hid hs11
    have HG11 := Lib.hid hg11
    clear hs11 hg11 HWD
    go_wp2
    go_ret2
    exact ⟨by rw [← HKK.out]; rfl, by rw [HFIN.out]; exact HS11.out, HG11.out⟩
end Go.Proofs.Ytgelgbfnioagbaa.Cd
