/-
  Own texts, laid together: Qp, Qs, Qt, Qu, Qv, Qx, Qg, Qh.
-/
import Derived.Test.YtcnckamocbaceaaDoorMQ
import Derived.Test.YtcnckamocbaceaaDoorMX
/- Qp -/
namespace Go.Proofs.YtcnckamocbaceaaDoor.Lp
open Go.RowKit Go.Proofs.YtcnckamocbaceaaDoor.Fx Go.Proofs.YtcnckamocbaceaaDoor.Fq Go.Proofs.YtcnckamocbaceaaDoor.Tb
theorem valq_same {e : Ending} {w w' : World} {v : Value} (h : e = .returned v ∧ w = w') : ValQ w v e w' := ⟨h.1, by rw [← h.2]; exact (Mem.start w).1⟩
theorem qmost_is (v : Int) (w : World) : Calls Tryd.prog 14 #[.int .i64 v] w fun e w' => e = .returned (.int .i64 (mostV v : Int)) ∧ w = w' := by
  obtain ⟨c, hc⟩ : ∃ c : Nat, max 0 (min v 7) = (c : Int) := ⟨(max 0 (min v 7)).toNat, by omega⟩
  have c7 : c ≤ 7 := by omega
  have hV : mostV v = mostN c := by unfold mostV; congr 1; omega
  obtain ⟨P, hP⟩ : ∃ P, 2 ^ c = P := ⟨_, rfl⟩
  have hp := pow_cast c
  have HV := Lib.hid (show (mostV v : Int) = (P : Int) - 1 by
    have := Nat.two_pow_pos c
    rw [hV]; unfold mostN; omega)
  have p1 : 1 ≤ P := by rw [← hP]; exact Nat.two_pow_pos c
  have p2 : P ≤ 128 := by rw [← hP]; exact Nat.pow_le_pow_right (n := 2) (i := c) (j := 7) (by omega) c7
  rw [hP] at hp
  clear hP hV
  go_enter Tryd.func14, Tryd.ntmps14
  go_wp2
  go_ret
  exact ⟨ri (by rw [HV.out]), rfl⟩
theorem qmost_any (k : Int) (w : World) : Calls Tryd.prog 14 #[.int .i64 k] w (ValQ w (.int .i64 (mostV k : Int))) :=
  (qmost_is k w).mono fun _ _ h => valq_same h
theorem qpeak_good (l : Nat) (w : World) (hl : l < 256) : Calls Tryd.prog 10 #[.int .i64 (l : Int)] w fun e w' => e = .returned (.tuple #[.int .i64 (peakN l : Int), .int .i64 0]) ∧ w = w' := by
  have HP := Lib.hid (show peakN l = (8 + l % 8) * 2 ^ (l / 8) / 8 + 1 from rfl)
  obtain ⟨r, hr⟩ : ∃ r, l % 8 = r := ⟨_, rfl⟩
  obtain ⟨a, ha⟩ : ∃ a, l / 8 = a := ⟨_, rfl⟩
  rw [hr, ha] at HP
  have hri : (l : Int) % 8 = (r : Int) := by omega
  have hai : (l : Int) / 8 = (a : Int) := by omega
  have r8 : r < 8 := by omega
  have a31 : a ≤ 31 := by omega
  have l255 : (l : Int) ≤ 255 := by omega
  generalize peakN l = P at HP
  obtain ⟨T, hT⟩ : ∃ T, 2 ^ a = T := ⟨_, rfl⟩
  have hp := pow_cast a
  have t1 : T ≤ 2147483648 := by rw [← hT]; exact two_pow_le31 a31
  rw [hT] at hp HP
  obtain ⟨z, hz⟩ : ∃ z, (8 + r) * T = z := ⟨_, rfl⟩
  have z1 : z ≤ 15 * 2147483648 := by rw [← hz]; exact Nat.mul_le_mul (by omega) t1
  have hzi : (8 + (r : Int)) * (T : Int) = (z : Int) := by rw [← hz, Int.natCast_mul]; rfl
  have hzw : IntKind.i64.wrap ((8 + (r : Int)) * (T : Int)) = (z : Int) := by rw [hzi]; exact i64_w (by omega) (by omega)
  rw [hz] at HP
  clear hr ha hl hT hz t1
  go_enter Tryd.func10, Tryd.ntmps10
  go_wp2
  go_ret2
  refine ⟨?_, rfl⟩
  have e : (P : Int) = (z : Int) / 8 + 1 := by have := HP.out; omega
  rw [e]; rfl
theorem qpeak_bad (l : Int) (w : World) (hl : l < 0 ∨ 255 < l) : Calls Tryd.prog 10 #[.int .i64 l] w fun e w' => e = .returned (.tuple #[.int .i64 0, .int .i64 1]) ∧ w = w' := by
  rcases hl with h | h
  · go_enter Tryd.func10, Tryd.ntmps10
    go_wp2
    go_ret2
    exact ⟨rfl, rfl⟩
  · have h0 : 0 ≤ l := by omega
    go_enter Tryd.func10, Tryd.ntmps10
    go_wp2
    go_ret2
    exact ⟨rfl, rfl⟩
theorem qpeak_is (l : Int) (w : World) : Calls Tryd.prog 10 #[.int .i64 l] w fun e w' => e = .returned (peakV l) ∧ w = w' := by
  unfold peakV
  by_cases h : 0 ≤ l ∧ l ≤ 255
  · rw [if_pos h]
    obtain ⟨n, rfl⟩ : ∃ n : Nat, l = (n : Int) := ⟨l.toNat, by omega⟩
    exact qpeak_good n w (by omega)
  · rw [if_neg h]; exact qpeak_bad l w (by omega)
theorem qpeak_any (l : Int) (w : World) : Calls Tryd.prog 10 #[.int .i64 l] w (ValQ w (peakV l)) :=
  (qpeak_is l w).mono fun _ _ h => valq_same h
theorem qstep_good (l k : Nat) (w : World) (hl : l < 256) (h1 : 1 ≤ k) (h7 : k ≤ 7) : Calls Tryd.prog 12 #[.int .i64 (l : Int), .int .i64 (k : Int)] w fun e w' => e = .returned (.tuple #[.int .i64 (stepN l k : Int), .int .i64 0]) ∧ w = w' := by
  have HP := Lib.hid (fun u => qpeak_good l u hl)
  have HQ := Lib.hid (fun u => qmost_is (k : Int) u)
  rw [show mostV (k : Int) = mostN k by unfold mostV; congr 1; omega] at HQ
  have HS := Lib.hid (show stepN l k = (peakN l + mostN k - 1) / mostN k from rfl)
  have p1 := peakN_bd l hl
  have m1 := mostN_pos h1
  have m7 := mostN_bd k h7
  generalize peakN l = P at HP HS p1
  generalize mostN k = m at HQ HS m1 m7
  generalize stepN l k = s at HS
  have k1 : 1 ≤ (k : Int) := by omega
  have k7 : (k : Int) ≤ 7 := by omega
  have m1i : 1 ≤ (m : Int) := by omega
  have hs0 : ((P : Int) + (m : Int) - 1) / (m : Int) = (s : Int) := by
    rw [HS.out, Int.natCast_ediv]
    congr 1
    omega
  have hsb : s ≤ P + m := by rw [HS.out]; exact Nat.le_trans (Nat.div_le_self _ _) (by omega)
  have hd : IntKind.i64.wrap (((P : Int) + (m : Int) - 1).tdiv (m : Int)) = (s : Int) := by
    rw [Int.tdiv_eq_ediv_of_nonneg (by omega), hs0]
    exact i64_w (by omega) (by omega)
  have HD0 := Lib.hid hs0
  clear hl h1 h7 hs0
  go_enter Tryd.func12, Tryd.ntmps12
  go_wp2_with fail
  refine (HP.out _).mono ?_
  rintro e wb ⟨rfl, rfl⟩
  go_wp2_with fail
  refine (HQ.out _).mono ?_
  rintro e wb ⟨rfl, rfl⟩
  go_wp2_with fail
  go_ret2
  exact ⟨rfl, rfl⟩
theorem qstep_bad1 (l k : Int) (w : World) (hl : ¬ (0 ≤ l ∧ l ≤ 255)) : Calls Tryd.prog 12 #[.int .i64 l, .int .i64 k] w fun e w' => e = .returned (.tuple #[.int .i64 0, .int .i64 1]) ∧ w = w' := by
  have HP := Lib.hid (fun u => qpeak_bad l u (by omega))
  clear hl
  go_enter Tryd.func12, Tryd.ntmps12
  go_wp2_with fail
  refine (HP.out _).mono ?_
  rintro e wb ⟨rfl, rfl⟩
  go_wp2_with fail
  go_ret2
  exact ⟨rfl, rfl⟩
theorem qstep_bad2 (l : Nat) (k : Int) (w : World) (hl : l < 256) (hk : ¬ (1 ≤ k ∧ k ≤ 7)) : Calls Tryd.prog 12 #[.int .i64 (l : Int), .int .i64 k] w fun e w' => e = .returned (.tuple #[.int .i64 0, .int .i64 1]) ∧ w = w' := by
  have HP := Lib.hid (fun u => qpeak_good l u hl)
  generalize peakN l = P at HP
  clear hl
  by_cases h1 : 1 ≤ k
  · have h7 : 7 < k := by omega
    clear hk
    go_enter Tryd.func12, Tryd.ntmps12
    go_wp2_with fail
    refine (HP.out _).mono ?_
    rintro e wb ⟨rfl, rfl⟩
    go_wp2_with fail
    go_ret2
    exact ⟨rfl, rfl⟩
  · have h7 : k < 1 := by omega
    clear hk h1
    go_enter Tryd.func12, Tryd.ntmps12
    go_wp2_with fail
    refine (HP.out _).mono ?_
    rintro e wb ⟨rfl, rfl⟩
    go_wp2_with fail
    go_ret2
    exact ⟨rfl, rfl⟩
theorem qstep_is (l k : Int) (w : World) : Calls Tryd.prog 12 #[.int .i64 l, .int .i64 k] w fun e w' => e = .returned (stepV l k) ∧ w = w' := by
  unfold stepV
  by_cases h : 0 ≤ l ∧ l ≤ 255
  · obtain ⟨n, rfl⟩ : ∃ n : Nat, l = (n : Int) := ⟨l.toNat, by omega⟩
    by_cases hk : 1 ≤ k ∧ k ≤ 7
    · rw [if_pos ⟨h, hk⟩]
      obtain ⟨m, rfl⟩ : ∃ m : Nat, k = (m : Int) := ⟨k.toNat, by omega⟩
      exact qstep_good n m w (by omega) (by omega) (by omega)
    · rw [if_neg (fun x => hk x.2)]
      exact qstep_bad2 n k w (by omega) hk
  · rw [if_neg (fun x => h x.1)]; exact qstep_bad1 l k w h
theorem qstep_any (l k : Int) (w : World) : Calls Tryd.prog 12 #[.int .i64 l, .int .i64 k] w (ValQ w (stepV l k)) :=
  (qstep_is l k w).mono fun _ _ h => valq_same h
theorem qnext_any (t : Int) (w : World) : Calls Tryd.prog 41 #[.int .u32 t] w fun e w' => e = .returned (.int .u32 (nextS t)) ∧ w = w' := by
  have e1 : IntKind.u32.wrap (t * 1664525) = (t * 1664525) % 4294967296 := rfl
  obtain ⟨t', ht⟩ : ∃ x, nextS t = x := ⟨_, rfl⟩
  have e2 : IntKind.u32.wrap ((t * 1664525) % 4294967296 + 1013904223) = t' := by
    have h : IntKind.u32.wrap ((t * 1664525) % 4294967296 + 1013904223) = ((t * 1664525) % 4294967296 + 1013904223) % 4294967296 := rfl
    rw [h, ← ht]; unfold nextS; omega
  rw [ht]
  clear ht
  go_enter Tryd.func41, Tryd.ntmps41
  go_wp2
  go_ret
  exact ⟨rfl, rfl⟩
theorem qswing_any (t : Int) (w : World) (h1 : 0 ≤ t) (h2 : t < 4294967296) : Calls Tryd.prog 43 #[.int .u32 t] w fun e w' => e = .returned (.int .i64 (t / 65536 - 32768)) ∧ w = w' := by
  go_enter Tryd.func43, Tryd.ntmps43
  go_wp2
  go_ret
  exact ⟨rfl, rfl⟩
theorem arrSix : Arr 31 6 := ⟨⟨.array 6 3, by kernel_rfl, rfl⟩, by kernel_rfl⟩
/-- what each band has, at the place of each of its numbers -/
def spreadL (e : List Int) : List Int := tab 16 (fun n => e.getD (bnd n) 0)
theorem spread_tab {f g : Nat → Int} (h : ∀ n, n < 16 → f (bnd n) = g n) : spreadL (tab 6 f) = tab 16 g := tab_congr fun n hn => by
  show (tab 6 f).getD (bnd n) 0 = g n
  rw [tab_getD f (bnd_all n hn).1, h n hn]
set_option maxRecDepth 100000 in
set_option maxHeartbeats 4000000 in
theorem qspread_any (e : List Int) (w : World) (le : e.length = 6) (he : Edg w) :
    Calls Tryd.prog 53 #[.agg (icells e)] w (ValQ w (.agg (icells (spreadL e)))) := by
  have LE := Lib.hid le
  have HE := Lib.hid he
  have HM := Lib.hid (Mem.start w)
  have HV := Lib.hid (show spreadL e = tab 16 (fun n => e.getD (bnd n) 0) from rfl)
  generalize spreadL e = V at HV
  clear le he
  go_enter Tryd.func53, Tryd.ntmps53
  go_wp2_with (first | ((first | refine wl_box rfl _ _ rfl rfl HM ?_ | refine wl_alloc rfl _ rfl (by exact arrOf) HM ?_); first | (have q : dL HM = 0 := rfl; clear q HM; intro g1 u1 HM) | (have q : dL HM = 1 := rfl; clear q HM; intro g2 u2 HM) | (have q : dL HM = 2 := rfl; clear q HM; intro g3 u3 HM) | (have q : dL HM = 3 := rfl; clear q HM; intro g4 u4 HM) | (have q : dL HM = 4 := rfl; clear q HM; intro g5 u5 HM) | (have q : dL HM = 5 := rfl; clear q HM; intro g6 u6 HM) | (have q : dL HM = 6 := rfl; clear q HM; intro g7 u7 HM) | (have q : dL HM = 7 := rfl; clear q HM; intro g8 u8 HM) | (have q : dL HM = 8 := rfl; clear q HM; intro g9 u9 HM) | (have q : dL HM = 9 := rfl; clear q HM; intro g10 u10 HM) | (have q : dL HM = 10 := rfl; clear q HM; intro g11 u11 HM) | (have q : dL HM = 11 := rfl; clear q HM; intro g12 u12 HM) | (have q : dL HM = 12 := rfl; clear q HM; intro g13 u13 HM) | (have q : dL HM = 13 := rfl; clear q HM; intro g14 u14 HM)) | (refine wl_load rfl _ _ rfl rfl (by exact arrOf) HM (by exact memOf) (by exact lenOf) ?_) | (refine wl_storeM rfl _ _ _ rfl rfl rfl (by exact arrOf) HM (by exact idxOf) (by exact lenOf) (by exact lenOf) ?_; clear HM; intro us HM; dsimp only [List.set] at HM) | (refine wl_zero rfl _ rfl (by exact arrOf) (by kernel_rfl) ?_))
  go_loopw [7] (fun vi wr => ∃ k : Nat, k ≤ 16 ∧ vi = .int .i64 (k : Int) ∧ Hid (Mem w [(g3, 29, tab 16 (part2 k (fun n => e.getD (bnd n) 0) (fun _ => 0))), (g2, 29, zr 16), (g1, 31, e)] wr)) (fun vi _ => 16 - (intOf vi).toNat)
  case atStart => exact ⟨0, by omega, rfl, Lib.hid (by rw [part2_none, tab_zero]; exact HM.out)⟩
  case round =>
    clear HM
    obtain ⟨k, hk, rfl, HM⟩ := hrel
    by_cases hlt : k < 16
    · have k16 : (k : Int) < 16 := by omega
      have SS := Lib.hid (part2_set (n := 16) (k := k) (fun n => e.getD (bnd n) 0) (fun _ => 0))
      have HO := Lib.hid (fun u (hu : Edg u) => of_good k u hlt hu)
      have hb6 := (bnd_all k hlt).1
      obtain ⟨b, hb⟩ : ∃ b, bnd k = b := ⟨_, rfl⟩
      simp only [hb] at SS
      rw [hb] at HO hb6
      clear hb
      have b6 : (b : Int) < 6 := by omega
      go_wp2_with fail
      refine (HO.out _ (HE.out.mem HM.out)).mono ?_
      rintro e wb ⟨rfl, rfl⟩
      have c1 := HM.out.cell (.tail _ (.tail _ (.head _))) (k := b) (by rw [LE.out]; exact hb6)
      have c3 := HM.out.cell (.head _) (k := k) (by rw [tab_length]; exact hlt)
      have f3 := HM.out.free (.head _) k
      generalize List.getD (tab 16 _) k 0 = o at c3
      generalize e.getD b 0 = v at c1 SS
      go_wp2_with fail
      have HM3 := Lib.hid (HM.out.put 0 rfl k v)
      simp only [List.set_cons_zero] at HM3
      rw [SS.out] at HM3
      clear HM c1 c3 f3
      go_roundw
      case rel => exact ⟨k + 1, by omega, by go_num, HM3⟩
      case measure => simp [intOf]; omega
    · obtain rfl : k = 16 := by omega
      rw [part2_all, ← HV.out] at HM
      have L5 := Lib.hid (show V.length = 16 by rw [HV.out]; exact tab_length _ _)
      go_wp2_with (first | ((first | refine wl_box rfl _ _ rfl rfl HM ?_ | refine wl_alloc rfl _ rfl (by exact arrOf) HM ?_); first | (have q : dL HM = 0 := rfl; clear q HM; intro g1 u1 HM) | (have q : dL HM = 1 := rfl; clear q HM; intro g2 u2 HM) | (have q : dL HM = 2 := rfl; clear q HM; intro g3 u3 HM) | (have q : dL HM = 3 := rfl; clear q HM; intro g4 u4 HM) | (have q : dL HM = 4 := rfl; clear q HM; intro g5 u5 HM) | (have q : dL HM = 5 := rfl; clear q HM; intro g6 u6 HM) | (have q : dL HM = 6 := rfl; clear q HM; intro g7 u7 HM) | (have q : dL HM = 7 := rfl; clear q HM; intro g8 u8 HM) | (have q : dL HM = 8 := rfl; clear q HM; intro g9 u9 HM) | (have q : dL HM = 9 := rfl; clear q HM; intro g10 u10 HM) | (have q : dL HM = 10 := rfl; clear q HM; intro g11 u11 HM) | (have q : dL HM = 11 := rfl; clear q HM; intro g12 u12 HM) | (have q : dL HM = 12 := rfl; clear q HM; intro g13 u13 HM) | (have q : dL HM = 13 := rfl; clear q HM; intro g14 u14 HM)) | (refine wl_load rfl _ _ rfl rfl (by exact arrOf) HM (by exact memOf) (by exact lenOf) ?_) | (refine wl_storeM rfl _ _ _ rfl rfl rfl (by exact arrOf) HM (by exact idxOf) (by exact lenOf) (by exact lenOf) ?_; clear HM; intro us HM; dsimp only [List.set] at HM) | (refine wl_zero rfl _ rfl (by exact arrOf) (by kernel_rfl) ?_))
      refine bodyPost_ret (v := .agg (icells V)) (res_one rfl _ rfl arrHop HM (by exact memOf) L5) rfl ⟨rfl, HM.out.1⟩
end Go.Proofs.YtcnckamocbaceaaDoor.Lp
/- Qs -/
namespace Go.Proofs.YtcnckamocbaceaaDoor.Lp
open Go.RowKit Go.Proofs.YtcnckamocbaceaaDoor.Fx Go.Proofs.YtcnckamocbaceaaDoor.Fq Go.Proofs.YtcnckamocbaceaaDoor.Tb
def stB (l a : List Int) (b : Nat) : Int := if 0 < a.getD b 0 then (stepN (l.getD b 0).toNat (a.getD b 0).toNat : Int) else 0
def moB (a : List Int) (b : Nat) : Int := (mostV (a.getD b 0) : Int)
def pkB (l : List Int) (b : Nat) : Int := if 0 < l.getD b 0 then (peakN (l.getD b 0).toNat : Int) else 0
theorem stB_is (l a : List Int) (b : Nat) : stB l a b = if 0 < a.getD b 0 then (stepN (l.getD b 0).toNat (a.getD b 0).toNat : Int) else 0 := rfl
theorem moB_is (a : List Int) (b : Nat) : moB a b = (mostV (a.getD b 0) : Int) := rfl
theorem pkB_is (l : List Int) (b : Nat) : pkB l b = if 0 < l.getD b 0 then (peakN (l.getD b 0).toNat : Int) else 0 := rfl
def pkL (l : List Int) : List Int := tab 16 (fun n => pkB l (bnd n))
theorem st_spread (l a : List Int) : spreadL (tab 6 (stB l a)) = stL l a := spread_tab fun _ _ => rfl
theorem mo_spread {a : List Int} (ha : OkA a) : spreadL (tab 6 (moB a)) = moL a := spread_tab fun n hn => by
  have h := ha.2 (bnd n) (bnd_all n hn).1
  unfold moB moF mostV
  generalize a.getD (bnd n) 0 = z at h
  by_cases e : 0 < z
  · rw [if_pos e]; congr 2; omega
  · rw [if_neg e, show z = 0 by omega]; decide
theorem pk_spread (l : List Int) : spreadL (tab 6 (pkB l)) = pkL l := spread_tab fun _ _ => rfl
set_option maxRecDepth 100000 in
set_option maxHeartbeats 4000000 in
theorem qmosts_any (a : List Int) (w : World) (ha : OkA a) (he : Edg w) :
    Calls Tryd.prog 35 #[.agg (icells a)] w (ValQ w (.agg (icells (moL a)))) := by
  have LA := Lib.hid ha.1
  have HE := Lib.hid he
  have HM := Lib.hid (Mem.start w)
  have L6 := Lib.hid (tab_length 6 (moB a))
  have HC := Lib.hid (fun u (hu : Edg u) => qspread_any (tab 6 (moB a)) u (tab_length 6 (moB a)) hu)
  rw [mo_spread ha] at HC
  have LV := Lib.hid (show (moL a).length = 16 from tab_length _ _)
  generalize moL a = V at HC LV
  clear ha he
  go_enter Tryd.func35, Tryd.ntmps35
  go_wp2_with (first | ((first | refine wl_box rfl _ _ rfl rfl HM ?_ | refine wl_alloc rfl _ rfl (by exact arrOf) HM ?_); first | (have q : dL HM = 0 := rfl; clear q HM; intro g1 u1 HM) | (have q : dL HM = 1 := rfl; clear q HM; intro g2 u2 HM) | (have q : dL HM = 2 := rfl; clear q HM; intro g3 u3 HM) | (have q : dL HM = 3 := rfl; clear q HM; intro g4 u4 HM) | (have q : dL HM = 4 := rfl; clear q HM; intro g5 u5 HM) | (have q : dL HM = 5 := rfl; clear q HM; intro g6 u6 HM) | (have q : dL HM = 6 := rfl; clear q HM; intro g7 u7 HM) | (have q : dL HM = 7 := rfl; clear q HM; intro g8 u8 HM) | (have q : dL HM = 8 := rfl; clear q HM; intro g9 u9 HM) | (have q : dL HM = 9 := rfl; clear q HM; intro g10 u10 HM) | (have q : dL HM = 10 := rfl; clear q HM; intro g11 u11 HM) | (have q : dL HM = 11 := rfl; clear q HM; intro g12 u12 HM) | (have q : dL HM = 12 := rfl; clear q HM; intro g13 u13 HM) | (have q : dL HM = 13 := rfl; clear q HM; intro g14 u14 HM)) | (refine wl_load rfl _ _ rfl rfl (by exact arrOf) HM (by exact memOf) (by exact lenOf) ?_) | (refine wl_storeM rfl _ _ _ rfl rfl rfl (by exact arrOf) HM (by exact idxOf) (by exact lenOf) (by exact lenOf) ?_; clear HM; intro us HM; dsimp only [List.set] at HM) | (refine wl_zero rfl _ rfl (by exact arrOf) (by kernel_rfl) ?_))
  go_loopw [7] (fun vi wr => ∃ k : Nat, k ≤ 6 ∧ vi = .int .i64 (k : Int) ∧ Hid (Mem w [(g3, 31, tab 6 (part2 k (moB a) (fun _ => 0))), (g2, 29, zr 16), (g1, 34, a)] wr)) (fun vi _ => 6 - (intOf vi).toNat)
  case atStart => exact ⟨0, by omega, rfl, Lib.hid (by rw [part2_none, tab_zero]; exact HM.out)⟩
  case round =>
    clear HM
    obtain ⟨k, hk, rfl, HM⟩ := hrel
    by_cases hlt : k < 6
    · have k6 : (k : Int) < 6 := by omega
      have SS := Lib.hid (part2_set (n := 6) (k := k) (moB a) (fun _ => 0))
      have hix := run_index 34 (n := 6) (by kernel_rfl) a LA.out k hlt
      rw [moB_is] at SS
      generalize a.getD k 0 = z at hix SS
      have HQ := Lib.hid (fun u => qmost_is z u)
      generalize mostV z = m at HQ SS
      go_wp2_with fail
      refine (HQ.out _).mono ?_
      rintro e wb ⟨rfl, rfl⟩
      clear hix
      have c3 := HM.out.cell (.head _) (k := k) (by rw [tab_length]; exact hlt)
      have f3 := HM.out.free (.head _) k
      generalize List.getD (tab 6 _) k 0 = o at c3
      go_wp2_with fail
      have HM3 := Lib.hid (HM.out.put 0 rfl k m)
      simp only [List.set_cons_zero] at HM3
      rw [SS.out] at HM3
      clear HM c3 f3
      go_roundw
      case rel => exact ⟨k + 1, by omega, by go_num, HM3⟩
      case measure => simp [intOf]; omega
    · obtain rfl : k = 6 := by omega
      rw [part2_all] at HM
      go_wp2_with (first | ((first | refine wl_box rfl _ _ rfl rfl HM ?_ | refine wl_alloc rfl _ rfl (by exact arrOf) HM ?_); first | (have q : dL HM = 0 := rfl; clear q HM; intro g1 u1 HM) | (have q : dL HM = 1 := rfl; clear q HM; intro g2 u2 HM) | (have q : dL HM = 2 := rfl; clear q HM; intro g3 u3 HM) | (have q : dL HM = 3 := rfl; clear q HM; intro g4 u4 HM) | (have q : dL HM = 4 := rfl; clear q HM; intro g5 u5 HM) | (have q : dL HM = 5 := rfl; clear q HM; intro g6 u6 HM) | (have q : dL HM = 6 := rfl; clear q HM; intro g7 u7 HM) | (have q : dL HM = 7 := rfl; clear q HM; intro g8 u8 HM) | (have q : dL HM = 8 := rfl; clear q HM; intro g9 u9 HM) | (have q : dL HM = 9 := rfl; clear q HM; intro g10 u10 HM) | (have q : dL HM = 10 := rfl; clear q HM; intro g11 u11 HM) | (have q : dL HM = 11 := rfl; clear q HM; intro g12 u12 HM) | (have q : dL HM = 12 := rfl; clear q HM; intro g13 u13 HM) | (have q : dL HM = 13 := rfl; clear q HM; intro g14 u14 HM)) | (refine wl_load rfl _ _ rfl rfl (by exact arrOf) HM (by exact memOf) (by exact lenOf) ?_) | (refine wl_storeM rfl _ _ _ rfl rfl rfl (by exact arrOf) HM (by exact idxOf) (by exact lenOf) (by exact lenOf) ?_; clear HM; intro us HM; dsimp only [List.set] at HM) | (refine wl_zero rfl _ rfl (by exact arrOf) (by kernel_rfl) ?_))
      refine (HC.out _ (HE.out.mem HM.out)).mono ?_
      rintro e w2 ⟨rfl, h1⟩
      have HM2 := Lib.hid (HM.out.below h1)
      clear h1 HM HC
      have HM := HM2
      clear HM2
      go_wp2_with (first | ((first | refine wl_box rfl _ _ rfl rfl HM ?_ | refine wl_alloc rfl _ rfl (by exact arrOf) HM ?_); first | (have q : dL HM = 0 := rfl; clear q HM; intro g1 u1 HM) | (have q : dL HM = 1 := rfl; clear q HM; intro g2 u2 HM) | (have q : dL HM = 2 := rfl; clear q HM; intro g3 u3 HM) | (have q : dL HM = 3 := rfl; clear q HM; intro g4 u4 HM) | (have q : dL HM = 4 := rfl; clear q HM; intro g5 u5 HM) | (have q : dL HM = 5 := rfl; clear q HM; intro g6 u6 HM) | (have q : dL HM = 6 := rfl; clear q HM; intro g7 u7 HM) | (have q : dL HM = 7 := rfl; clear q HM; intro g8 u8 HM) | (have q : dL HM = 8 := rfl; clear q HM; intro g9 u9 HM) | (have q : dL HM = 9 := rfl; clear q HM; intro g10 u10 HM) | (have q : dL HM = 10 := rfl; clear q HM; intro g11 u11 HM) | (have q : dL HM = 11 := rfl; clear q HM; intro g12 u12 HM) | (have q : dL HM = 12 := rfl; clear q HM; intro g13 u13 HM) | (have q : dL HM = 13 := rfl; clear q HM; intro g14 u14 HM)) | (refine wl_load rfl _ _ rfl rfl (by exact arrOf) HM (by exact memOf) (by exact lenOf) ?_) | (refine wl_storeM rfl _ _ _ rfl rfl rfl (by exact arrOf) HM (by exact idxOf) (by exact lenOf) (by exact lenOf) ?_; clear HM; intro us HM; dsimp only [List.set] at HM) | (refine wl_zero rfl _ rfl (by exact arrOf) (by kernel_rfl) ?_))
      refine bodyPost_ret (v := .agg (icells V)) (res_one rfl _ rfl arrHop HM (by exact memOf) LV) rfl ⟨rfl, HM.out.1⟩
set_option maxRecDepth 100000 in
set_option maxHeartbeats 4000000 in
theorem qpeaks_any (l : List Int) (w : World) (ll : l.length = 6) (hl : ∀ k, 0 ≤ l.getD k 0 ∧ l.getD k 0 ≤ 255) (he : Edg w) :
    Calls Tryd.prog 40 #[.agg (icells l)] w (ValQ w (.agg (icells (pkL l)))) := by
  have LA := Lib.hid ll
  have HL := Lib.hid hl
  have HE := Lib.hid he
  have HM := Lib.hid (Mem.start w)
  have L6 := Lib.hid (tab_length 6 (pkB l))
  have HC := Lib.hid (fun u (hu : Edg u) => qspread_any (tab 6 (pkB l)) u (tab_length 6 (pkB l)) hu)
  rw [pk_spread l] at HC
  have LV := Lib.hid (show (pkL l).length = 16 from tab_length _ _)
  generalize pkL l = V at HC LV
  clear ll hl he
  go_enter Tryd.func40, Tryd.ntmps40
  go_wp2_with (first | ((first | refine wl_box rfl _ _ rfl rfl HM ?_ | refine wl_alloc rfl _ rfl (by exact arrOf) HM ?_); first | (have q : dL HM = 0 := rfl; clear q HM; intro g1 u1 HM) | (have q : dL HM = 1 := rfl; clear q HM; intro g2 u2 HM) | (have q : dL HM = 2 := rfl; clear q HM; intro g3 u3 HM) | (have q : dL HM = 3 := rfl; clear q HM; intro g4 u4 HM) | (have q : dL HM = 4 := rfl; clear q HM; intro g5 u5 HM) | (have q : dL HM = 5 := rfl; clear q HM; intro g6 u6 HM) | (have q : dL HM = 6 := rfl; clear q HM; intro g7 u7 HM) | (have q : dL HM = 7 := rfl; clear q HM; intro g8 u8 HM) | (have q : dL HM = 8 := rfl; clear q HM; intro g9 u9 HM) | (have q : dL HM = 9 := rfl; clear q HM; intro g10 u10 HM) | (have q : dL HM = 10 := rfl; clear q HM; intro g11 u11 HM) | (have q : dL HM = 11 := rfl; clear q HM; intro g12 u12 HM) | (have q : dL HM = 12 := rfl; clear q HM; intro g13 u13 HM) | (have q : dL HM = 13 := rfl; clear q HM; intro g14 u14 HM)) | (refine wl_load rfl _ _ rfl rfl (by exact arrOf) HM (by exact memOf) (by exact lenOf) ?_) | (refine wl_storeM rfl _ _ _ rfl rfl rfl (by exact arrOf) HM (by exact idxOf) (by exact lenOf) (by exact lenOf) ?_; clear HM; intro us HM; dsimp only [List.set] at HM) | (refine wl_zero rfl _ rfl (by exact arrOf) (by kernel_rfl) ?_))
  go_loopw [7] (fun vi wr => ∃ k : Nat, k ≤ 6 ∧ vi = .int .i64 (k : Int) ∧ Hid (Mem w [(g3, 31, tab 6 (part2 k (pkB l) (fun _ => 0))), (g2, 29, zr 16), (g1, 32, l)] wr)) (fun vi _ => 6 - (intOf vi).toNat)
  case atStart => exact ⟨0, by omega, rfl, Lib.hid (by rw [part2_none, tab_zero]; exact HM.out)⟩
  case round =>
    clear HM
    obtain ⟨k, hk, rfl, HM⟩ := hrel
    by_cases hlt : k < 6
    · have k6 : (k : Int) < 6 := by omega
      have SS := Lib.hid (part2_set (n := 6) (k := k) (pkB l) (fun _ => 0))
      have KS := Lib.hid (fun h => part2_skip (n := 6) (k := k) (f := pkB l) (g := fun _ => 0) h)
      have HS := Lib.hid (pkB_is l k)
      have hix := run_index 32 (n := 6) (by kernel_rfl) l LA.out k hlt
      have hl := HL.out k
      obtain ⟨y, hy⟩ : ∃ y : Nat, l.getD k 0 = (y : Int) := ⟨(l.getD k 0).toNat, by omega⟩
      rw [hy] at hix hl HS
      have hy2 : y < 256 := by omega
      clear hy hl
      by_cases hpos : 0 < (y : Int)
      · have HQ := Lib.hid (fun u => qpeak_good y u hy2)
        rw [if_pos hpos, show ((y : Int)).toNat = y from rfl] at HS
        rw [HS.out] at SS
        generalize peakN y = m at HQ SS
        clear KS HS hy2
        go_wp2_with fail
        refine (HQ.out _).mono ?_
        rintro e wb ⟨rfl, rfl⟩
        clear hix
        have c3 := HM.out.cell (.head _) (k := k) (by rw [tab_length]; exact hlt)
        have f3 := HM.out.free (.head _) k
        generalize List.getD (tab 6 _) k 0 = o at c3
        go_wp2_with fail
        have HM3 := Lib.hid (HM.out.put 0 rfl k m)
        simp only [List.set_cons_zero] at HM3
        rw [SS.out] at HM3
        clear HM c3 f3
        go_roundw
        case rel => exact ⟨k + 1, by omega, by go_num, HM3⟩
        case measure => simp [intOf]; omega
      · have hd : decide (0 < (y : Int)) = false := decide_eq_false hpos
        rw [if_neg hpos] at HS
        rw [KS.out HS.out] at HM
        clear KS HS SS hy2
        go_wp2_with fail
        go_roundw
        case rel => exact ⟨k + 1, by omega, by go_num, HM⟩
        case measure => simp [intOf]; omega
    · obtain rfl : k = 6 := by omega
      rw [part2_all] at HM
      go_wp2_with (first | ((first | refine wl_box rfl _ _ rfl rfl HM ?_ | refine wl_alloc rfl _ rfl (by exact arrOf) HM ?_); first | (have q : dL HM = 0 := rfl; clear q HM; intro g1 u1 HM) | (have q : dL HM = 1 := rfl; clear q HM; intro g2 u2 HM) | (have q : dL HM = 2 := rfl; clear q HM; intro g3 u3 HM) | (have q : dL HM = 3 := rfl; clear q HM; intro g4 u4 HM) | (have q : dL HM = 4 := rfl; clear q HM; intro g5 u5 HM) | (have q : dL HM = 5 := rfl; clear q HM; intro g6 u6 HM) | (have q : dL HM = 6 := rfl; clear q HM; intro g7 u7 HM) | (have q : dL HM = 7 := rfl; clear q HM; intro g8 u8 HM) | (have q : dL HM = 8 := rfl; clear q HM; intro g9 u9 HM) | (have q : dL HM = 9 := rfl; clear q HM; intro g10 u10 HM) | (have q : dL HM = 10 := rfl; clear q HM; intro g11 u11 HM) | (have q : dL HM = 11 := rfl; clear q HM; intro g12 u12 HM) | (have q : dL HM = 12 := rfl; clear q HM; intro g13 u13 HM) | (have q : dL HM = 13 := rfl; clear q HM; intro g14 u14 HM)) | (refine wl_load rfl _ _ rfl rfl (by exact arrOf) HM (by exact memOf) (by exact lenOf) ?_) | (refine wl_storeM rfl _ _ _ rfl rfl rfl (by exact arrOf) HM (by exact idxOf) (by exact lenOf) (by exact lenOf) ?_; clear HM; intro us HM; dsimp only [List.set] at HM) | (refine wl_zero rfl _ rfl (by exact arrOf) (by kernel_rfl) ?_))
      refine (HC.out _ (HE.out.mem HM.out)).mono ?_
      rintro e w2 ⟨rfl, h1⟩
      have HM2 := Lib.hid (HM.out.below h1)
      clear h1 HM HC
      have HM := HM2
      clear HM2
      go_wp2_with (first | ((first | refine wl_box rfl _ _ rfl rfl HM ?_ | refine wl_alloc rfl _ rfl (by exact arrOf) HM ?_); first | (have q : dL HM = 0 := rfl; clear q HM; intro g1 u1 HM) | (have q : dL HM = 1 := rfl; clear q HM; intro g2 u2 HM) | (have q : dL HM = 2 := rfl; clear q HM; intro g3 u3 HM) | (have q : dL HM = 3 := rfl; clear q HM; intro g4 u4 HM) | (have q : dL HM = 4 := rfl; clear q HM; intro g5 u5 HM) | (have q : dL HM = 5 := rfl; clear q HM; intro g6 u6 HM) | (have q : dL HM = 6 := rfl; clear q HM; intro g7 u7 HM) | (have q : dL HM = 7 := rfl; clear q HM; intro g8 u8 HM) | (have q : dL HM = 8 := rfl; clear q HM; intro g9 u9 HM) | (have q : dL HM = 9 := rfl; clear q HM; intro g10 u10 HM) | (have q : dL HM = 10 := rfl; clear q HM; intro g11 u11 HM) | (have q : dL HM = 11 := rfl; clear q HM; intro g12 u12 HM) | (have q : dL HM = 12 := rfl; clear q HM; intro g13 u13 HM) | (have q : dL HM = 13 := rfl; clear q HM; intro g14 u14 HM)) | (refine wl_load rfl _ _ rfl rfl (by exact arrOf) HM (by exact memOf) (by exact lenOf) ?_) | (refine wl_storeM rfl _ _ _ rfl rfl rfl (by exact arrOf) HM (by exact idxOf) (by exact lenOf) (by exact lenOf) ?_; clear HM; intro us HM; dsimp only [List.set] at HM) | (refine wl_zero rfl _ rfl (by exact arrOf) (by kernel_rfl) ?_))
      refine bodyPost_ret (v := .agg (icells V)) (res_one rfl _ rfl arrHop HM (by exact memOf) LV) rfl ⟨rfl, HM.out.1⟩
set_option maxRecDepth 100000 in
set_option maxHeartbeats 4000000 in
theorem qsteps_any (l a : List Int) (w : World) (ll : l.length = 6) (hl : ∀ k, 0 ≤ l.getD k 0 ∧ l.getD k 0 ≤ 255) (ha : OkA a) (he : Edg w) :
    Calls Tryd.prog 32 #[.agg (icells l), .agg (icells a)] w (ValQ w (.agg (icells (stL l a)))) := by
  have LL := Lib.hid ll
  have HL := Lib.hid hl
  have LA := Lib.hid ha.1
  have HA := Lib.hid ha.2
  have HE := Lib.hid he
  have HM := Lib.hid (Mem.start w)
  have L6 := Lib.hid (tab_length 6 (stB l a))
  have HC := Lib.hid (fun u (hu : Edg u) => qspread_any (tab 6 (stB l a)) u (tab_length 6 (stB l a)) hu)
  rw [st_spread l a] at HC
  have LV := Lib.hid (show (stL l a).length = 16 from tab_length _ _)
  generalize stL l a = V at HC LV
  clear ll hl ha he
  go_enter Tryd.func32, Tryd.ntmps32
  go_wp2_with (first | ((first | refine wl_box rfl _ _ rfl rfl HM ?_ | refine wl_alloc rfl _ rfl (by exact arrOf) HM ?_); first | (have q : dL HM = 0 := rfl; clear q HM; intro g1 u1 HM) | (have q : dL HM = 1 := rfl; clear q HM; intro g2 u2 HM) | (have q : dL HM = 2 := rfl; clear q HM; intro g3 u3 HM) | (have q : dL HM = 3 := rfl; clear q HM; intro g4 u4 HM) | (have q : dL HM = 4 := rfl; clear q HM; intro g5 u5 HM) | (have q : dL HM = 5 := rfl; clear q HM; intro g6 u6 HM) | (have q : dL HM = 6 := rfl; clear q HM; intro g7 u7 HM) | (have q : dL HM = 7 := rfl; clear q HM; intro g8 u8 HM) | (have q : dL HM = 8 := rfl; clear q HM; intro g9 u9 HM) | (have q : dL HM = 9 := rfl; clear q HM; intro g10 u10 HM) | (have q : dL HM = 10 := rfl; clear q HM; intro g11 u11 HM) | (have q : dL HM = 11 := rfl; clear q HM; intro g12 u12 HM) | (have q : dL HM = 12 := rfl; clear q HM; intro g13 u13 HM) | (have q : dL HM = 13 := rfl; clear q HM; intro g14 u14 HM)) | (refine wl_load rfl _ _ rfl rfl (by exact arrOf) HM (by exact memOf) (by exact lenOf) ?_) | (refine wl_storeM rfl _ _ _ rfl rfl rfl (by exact arrOf) HM (by exact idxOf) (by exact lenOf) (by exact lenOf) ?_; clear HM; intro us HM; dsimp only [List.set] at HM) | (refine wl_zero rfl _ rfl (by exact arrOf) (by kernel_rfl) ?_))
  go_loopw [9] (fun vi wr => ∃ k : Nat, k ≤ 6 ∧ vi = .int .i64 (k : Int) ∧ Hid (Mem w [(g4, 31, tab 6 (part2 k (stB l a) (fun _ => 0))), (g3, 29, zr 16), (g2, 34, a), (g1, 32, l)] wr)) (fun vi _ => 6 - (intOf vi).toNat)
  case atStart => exact ⟨0, by omega, rfl, Lib.hid (by rw [part2_none, tab_zero]; exact HM.out)⟩
  case round =>
    clear HM
    obtain ⟨k, hk, rfl, HM⟩ := hrel
    by_cases hlt : k < 6
    · have k6 : (k : Int) < 6 := by omega
      have SS := Lib.hid (part2_set (n := 6) (k := k) (stB l a) (fun _ => 0))
      have KS := Lib.hid (fun h => part2_skip (n := 6) (k := k) (f := stB l a) (g := fun _ => 0) h)
      have HS := Lib.hid (stB_is l a k)
      have hix := run_index 34 (n := 6) (by kernel_rfl) a LA.out k hlt
      have c1 := HM.out.cell (.tail _ (.tail _ (.tail _ (.head _)))) (k := k) (by rw [LL.out]; exact hlt)
      have hl := HL.out k
      have ha := HA.out k hlt
      obtain ⟨y, hy⟩ : ∃ y : Nat, l.getD k 0 = (y : Int) := ⟨(l.getD k 0).toNat, by omega⟩
      obtain ⟨z, hz⟩ : ∃ z : Nat, a.getD k 0 = (z : Int) := ⟨(a.getD k 0).toNat, by omega⟩
      rw [hy] at c1 hl HS
      rw [hz] at hix ha HS
      have hy2 : y < 256 := by omega
      have hz2 : z ≤ 7 := by omega
      clear hy hl hz ha
      by_cases hpos : 0 < (z : Int)
      · have HQ := Lib.hid (fun u => qstep_good y z u hy2 (by omega) hz2)
        rw [if_pos hpos, show ((y : Int)).toNat = y from rfl, show ((z : Int)).toNat = z from rfl] at HS
        rw [HS.out] at SS
        generalize stepN y z = m at HQ SS
        clear KS HS hy2 hz2
        go_wp2_with fail
        refine (HQ.out _).mono ?_
        rintro e wb ⟨rfl, rfl⟩
        clear hix c1
        have c3 := HM.out.cell (.head _) (k := k) (by rw [tab_length]; exact hlt)
        have f3 := HM.out.free (.head _) k
        generalize List.getD (tab 6 _) k 0 = o at c3
        go_wp2_with fail
        have HM3 := Lib.hid (HM.out.put 0 rfl k m)
        simp only [List.set_cons_zero] at HM3
        rw [SS.out] at HM3
        clear HM c3 f3
        go_roundw
        case rel => exact ⟨k + 1, by omega, by go_num, HM3⟩
        case measure => simp [intOf]; omega
      · have hd : decide (0 < (z : Int)) = false := decide_eq_false hpos
        rw [if_neg hpos] at HS
        rw [KS.out HS.out] at HM
        clear KS HS SS hy2 hz2 c1
        go_wp2_with fail
        go_roundw
        case rel => exact ⟨k + 1, by omega, by go_num, HM⟩
        case measure => simp [intOf]; omega
    · obtain rfl : k = 6 := by omega
      rw [part2_all] at HM
      go_wp2_with (first | ((first | refine wl_box rfl _ _ rfl rfl HM ?_ | refine wl_alloc rfl _ rfl (by exact arrOf) HM ?_); first | (have q : dL HM = 0 := rfl; clear q HM; intro g1 u1 HM) | (have q : dL HM = 1 := rfl; clear q HM; intro g2 u2 HM) | (have q : dL HM = 2 := rfl; clear q HM; intro g3 u3 HM) | (have q : dL HM = 3 := rfl; clear q HM; intro g4 u4 HM) | (have q : dL HM = 4 := rfl; clear q HM; intro g5 u5 HM) | (have q : dL HM = 5 := rfl; clear q HM; intro g6 u6 HM) | (have q : dL HM = 6 := rfl; clear q HM; intro g7 u7 HM) | (have q : dL HM = 7 := rfl; clear q HM; intro g8 u8 HM) | (have q : dL HM = 8 := rfl; clear q HM; intro g9 u9 HM) | (have q : dL HM = 9 := rfl; clear q HM; intro g10 u10 HM) | (have q : dL HM = 10 := rfl; clear q HM; intro g11 u11 HM) | (have q : dL HM = 11 := rfl; clear q HM; intro g12 u12 HM) | (have q : dL HM = 12 := rfl; clear q HM; intro g13 u13 HM) | (have q : dL HM = 13 := rfl; clear q HM; intro g14 u14 HM)) | (refine wl_load rfl _ _ rfl rfl (by exact arrOf) HM (by exact memOf) (by exact lenOf) ?_) | (refine wl_storeM rfl _ _ _ rfl rfl rfl (by exact arrOf) HM (by exact idxOf) (by exact lenOf) (by exact lenOf) ?_; clear HM; intro us HM; dsimp only [List.set] at HM) | (refine wl_zero rfl _ rfl (by exact arrOf) (by kernel_rfl) ?_))
      refine (HC.out _ (HE.out.mem HM.out)).mono ?_
      rintro e w2 ⟨rfl, h1⟩
      have HM2 := Lib.hid (HM.out.below h1)
      clear h1 HM HC
      have HM := HM2
      clear HM2
      go_wp2_with (first | ((first | refine wl_box rfl _ _ rfl rfl HM ?_ | refine wl_alloc rfl _ rfl (by exact arrOf) HM ?_); first | (have q : dL HM = 0 := rfl; clear q HM; intro g1 u1 HM) | (have q : dL HM = 1 := rfl; clear q HM; intro g2 u2 HM) | (have q : dL HM = 2 := rfl; clear q HM; intro g3 u3 HM) | (have q : dL HM = 3 := rfl; clear q HM; intro g4 u4 HM) | (have q : dL HM = 4 := rfl; clear q HM; intro g5 u5 HM) | (have q : dL HM = 5 := rfl; clear q HM; intro g6 u6 HM) | (have q : dL HM = 6 := rfl; clear q HM; intro g7 u7 HM) | (have q : dL HM = 7 := rfl; clear q HM; intro g8 u8 HM) | (have q : dL HM = 8 := rfl; clear q HM; intro g9 u9 HM) | (have q : dL HM = 9 := rfl; clear q HM; intro g10 u10 HM) | (have q : dL HM = 10 := rfl; clear q HM; intro g11 u11 HM) | (have q : dL HM = 11 := rfl; clear q HM; intro g12 u12 HM) | (have q : dL HM = 12 := rfl; clear q HM; intro g13 u13 HM) | (have q : dL HM = 13 := rfl; clear q HM; intro g14 u14 HM)) | (refine wl_load rfl _ _ rfl rfl (by exact arrOf) HM (by exact memOf) (by exact lenOf) ?_) | (refine wl_storeM rfl _ _ _ rfl rfl rfl (by exact arrOf) HM (by exact idxOf) (by exact lenOf) (by exact lenOf) ?_; clear HM; intro us HM; dsimp only [List.set] at HM) | (refine wl_zero rfl _ rfl (by exact arrOf) (by kernel_rfl) ?_))
      refine bodyPost_ret (v := .agg (icells V)) (res_one rfl _ rfl arrHop HM (by exact memOf) LV) rfl ⟨rfl, HM.out.1⟩
end Go.Proofs.YtcnckamocbaceaaDoor.Lp
/- Qt -/
namespace Go.Proofs.YtcnckamocbaceaaDoor.Lp
open Go.RowKit Go.Proofs.YtcnckamocbaceaaDoor.Fx Go.Proofs.YtcnckamocbaceaaDoor.Fq Go.Proofs.YtcnckamocbaceaaDoor.Tb
/-- each number held to its most -/
def hcF (v m : List Int) (n : Nat) : Int := clampI (v.getD n 0) (m.getD n 0)
theorem hcF_is {v m : List Int} {n : Nat} (h : 0 ≤ m.getD n 0) : hcF v m n = max (-(m.getD n 0)) (min (v.getD n 0) (m.getD n 0)) := by
  unfold hcF clampI; omega
def hcL (v m : List Int) : List Int := tab 16 (hcF v m)
theorem hcL_length (v m : List Int) : (hcL v m).length = 16 := tab_length _ _
theorem part2_now {n k : Nat} (f g : Nat → Int) (h : k < n) : (tab n (part2 k f g)).getD k 0 = g k := by
  rw [tab_getD _ h]; unfold part2; rw [if_neg (by omega)]
theorem mayN_of {q m : List Int} : ∀ n, (∀ k, k < n → -(m.getD k 0) ≤ q.getD k 0 ∧ q.getD k 0 ≤ m.getD k 0) → mayN q m n = true
  | 0, _ => rfl
  | n + 1, h => by
    have h1 := mayN_of n fun k hk => h k (by omega)
    have h2 := h n (by omega)
    rw [mayN_succ, h1, decide_eq_true h2.1, decide_eq_true h2.2]; rfl
theorem hcL_iff {q m : List Int} (lq : q.length = 16) (hm : ∀ k, k < 16 → 0 ≤ m.getD k 0) : hcL q m = q ↔ mayN q m 16 = true := by
  constructor
  · intro h
    refine mayN_of 16 fun k hk => ?_
    have h1 : (hcL q m).getD k 0 = q.getD k 0 := by rw [h]
    have h2 := hm k hk
    unfold hcL at h1
    rw [tab_getD _ hk, hcF_is h2] at h1
    omega
  · intro h
    refine (tab_congr (g := fun i => q.getD i 0) fun k hk => ?_).trans (tab_self lq)
    have h1 := mayN_at 16 k hk h
    have h2 := hm k hk
    rw [hcF_is h2]
    omega
set_option maxRecDepth 100000 in
set_option maxHeartbeats 4000000 in
theorem qheld_any (v m : List Int) (w : World) (lv : v.length = 16) (lm : m.length = 16) (hm : ∀ k, k < 16 → 0 ≤ m.getD k 0 ∧ m.getD k 0 ≤ 67108864) :
    Calls Tryd.prog 34 #[.agg (icells v), .agg (icells m)] w (ValQ w (.agg (icells (hcL v m)))) := by
  have LV := Lib.hid lv
  have LM := Lib.hid lm
  have HB := Lib.hid hm
  have HM := Lib.hid (Mem.start w)
  have HV := Lib.hid (show hcL v m = tab 16 (hcF v m) from rfl)
  generalize hcL v m = V at HV
  clear lv lm hm
  go_enter Tryd.func34, Tryd.ntmps34
  go_wp2_with (first | ((first | refine wl_box rfl _ _ rfl rfl HM ?_ | refine wl_alloc rfl _ rfl (by exact arrOf) HM ?_); first | (have q : dL HM = 0 := rfl; clear q HM; intro g1 u1 HM) | (have q : dL HM = 1 := rfl; clear q HM; intro g2 u2 HM) | (have q : dL HM = 2 := rfl; clear q HM; intro g3 u3 HM) | (have q : dL HM = 3 := rfl; clear q HM; intro g4 u4 HM) | (have q : dL HM = 4 := rfl; clear q HM; intro g5 u5 HM) | (have q : dL HM = 5 := rfl; clear q HM; intro g6 u6 HM) | (have q : dL HM = 6 := rfl; clear q HM; intro g7 u7 HM) | (have q : dL HM = 7 := rfl; clear q HM; intro g8 u8 HM) | (have q : dL HM = 8 := rfl; clear q HM; intro g9 u9 HM) | (have q : dL HM = 9 := rfl; clear q HM; intro g10 u10 HM) | (have q : dL HM = 10 := rfl; clear q HM; intro g11 u11 HM) | (have q : dL HM = 11 := rfl; clear q HM; intro g12 u12 HM) | (have q : dL HM = 12 := rfl; clear q HM; intro g13 u13 HM) | (have q : dL HM = 13 := rfl; clear q HM; intro g14 u14 HM)) | (refine wl_load rfl _ _ rfl rfl (by exact arrOf) HM (by exact memOf) (by exact lenOf) ?_) | (refine wl_storeM rfl _ _ _ rfl rfl rfl (by exact arrOf) HM (by exact idxOf) (by exact lenOf) (by exact lenOf) ?_; clear HM; intro us HM; dsimp only [List.set] at HM) | (refine wl_zero rfl _ rfl (by exact arrOf) (by kernel_rfl) ?_))
  go_loopw [8] (fun vi wr => ∃ k : Nat, k ≤ 16 ∧ vi = .int .i64 (k : Int) ∧ Hid (Mem w [(g3, 29, zr 16), (g2, 29, m), (g1, 29, tab 16 (part2 k (hcF v m) (fun n => v.getD n 0)))] wr)) (fun vi _ => 16 - (intOf vi).toNat)
  case atStart => exact ⟨0, by omega, rfl, Lib.hid (by rw [part2_none, tab_self LV.out]; exact HM.out)⟩
  case round =>
    clear HM
    obtain ⟨k, hk, rfl, HM⟩ := hrel
    by_cases hlt : k < 16
    · have k16 : (k : Int) < 16 := by omega
      have SS := Lib.hid (part2_set (n := 16) (k := k) (hcF v m) (fun n => v.getD n 0))
      have hb := HB.out k hlt
      rw [hcF_is hb.1] at SS
      have hix := run_index 29 (n := 16) (by kernel_rfl) m LM.out k hlt
      have c1 := HM.out.cell (.tail _ (.tail _ (.head _))) (k := k) (by rw [tab_length]; exact hlt)
      have f1 := HM.out.free (.tail _ (.tail _ (.head _))) k
      rw [part2_now _ _ hlt] at c1
      generalize v.getD k 0 = x at c1 SS
      generalize m.getD k 0 = y at hix SS hb
      obtain ⟨y1, y2⟩ := hb
      have hn : IntKind.i64.wrap (-y) = -y := i64_w (by omega) (by omega)
      clear y1 y2
      go_wp2_with fail
      have HM3 := Lib.hid (HM.out.put 2 rfl k (max (-y) (min x y)))
      simp only [List.set_cons_zero, List.set_cons_succ] at HM3
      rw [SS.out] at HM3
      clear HM c1 f1
      go_roundw
      case rel => exact ⟨k + 1, by omega, by go_num, HM3⟩
      case measure => simp [intOf]; omega
    · obtain rfl : k = 16 := by omega
      rw [part2_all, ← HV.out] at HM
      have L5 := Lib.hid (show V.length = 16 by rw [HV.out]; exact tab_length _ _)
      go_wp2_with (first | ((first | refine wl_box rfl _ _ rfl rfl HM ?_ | refine wl_alloc rfl _ rfl (by exact arrOf) HM ?_); first | (have q : dL HM = 0 := rfl; clear q HM; intro g1 u1 HM) | (have q : dL HM = 1 := rfl; clear q HM; intro g2 u2 HM) | (have q : dL HM = 2 := rfl; clear q HM; intro g3 u3 HM) | (have q : dL HM = 3 := rfl; clear q HM; intro g4 u4 HM) | (have q : dL HM = 4 := rfl; clear q HM; intro g5 u5 HM) | (have q : dL HM = 5 := rfl; clear q HM; intro g6 u6 HM) | (have q : dL HM = 6 := rfl; clear q HM; intro g7 u7 HM) | (have q : dL HM = 7 := rfl; clear q HM; intro g8 u8 HM) | (have q : dL HM = 8 := rfl; clear q HM; intro g9 u9 HM) | (have q : dL HM = 9 := rfl; clear q HM; intro g10 u10 HM) | (have q : dL HM = 10 := rfl; clear q HM; intro g11 u11 HM) | (have q : dL HM = 11 := rfl; clear q HM; intro g12 u12 HM) | (have q : dL HM = 12 := rfl; clear q HM; intro g13 u13 HM) | (have q : dL HM = 13 := rfl; clear q HM; intro g14 u14 HM)) | (refine wl_load rfl _ _ rfl rfl (by exact arrOf) HM (by exact memOf) (by exact lenOf) ?_) | (refine wl_storeM rfl _ _ _ rfl rfl rfl (by exact arrOf) HM (by exact idxOf) (by exact lenOf) (by exact lenOf) ?_; clear HM; intro us HM; dsimp only [List.set] at HM) | (refine wl_zero rfl _ rfl (by exact arrOf) (by kernel_rfl) ?_))
      refine bodyPost_ret (v := .agg (icells V)) (res_one rfl _ rfl arrHop HM (by exact memOf) L5) rfl ⟨rfl, HM.out.1⟩
/-- each number held within 2^26 -/
def bdL (x : List Int) : List Int := tab 16 (fun n => clampI (x.getD n 0) 67108864)
theorem bdL_length (x : List Int) : (bdL x).length = 16 := tab_length _ _
theorem bd_hc (x : List Int) : hcL x (tab 16 fun _ => 67108864) = bdL x := tab_congr fun n hn => by
  unfold hcF; rw [tab_getD _ hn]
set_option maxRecDepth 100000 in
set_option maxHeartbeats 4000000 in
theorem qbounded_any (x : List Int) (w : World) (lx : x.length = 16) :
    Calls Tryd.prog 31 #[.agg (icells x)] w (ValQ w (.agg (icells (bdL x)))) := by
  have LX := Lib.hid lx
  have HM := Lib.hid (Mem.start w)
  have L6 := Lib.hid (tab_length 16 (fun _ => 67108864))
  have HC := Lib.hid (fun u => qheld_any x (tab 16 fun _ => 67108864) u lx (tab_length _ _) (fun k hk => by rw [tab_getD _ hk]; omega))
  rw [bd_hc x] at HC
  have LV := Lib.hid (bdL_length x)
  generalize bdL x = V at HC LV
  clear lx
  go_enter Tryd.func31, Tryd.ntmps31
  go_wp2_with (first | ((first | refine wl_box rfl _ _ rfl rfl HM ?_ | refine wl_alloc rfl _ rfl (by exact arrOf) HM ?_); first | (have q : dL HM = 0 := rfl; clear q HM; intro g1 u1 HM) | (have q : dL HM = 1 := rfl; clear q HM; intro g2 u2 HM) | (have q : dL HM = 2 := rfl; clear q HM; intro g3 u3 HM) | (have q : dL HM = 3 := rfl; clear q HM; intro g4 u4 HM) | (have q : dL HM = 4 := rfl; clear q HM; intro g5 u5 HM) | (have q : dL HM = 5 := rfl; clear q HM; intro g6 u6 HM) | (have q : dL HM = 6 := rfl; clear q HM; intro g7 u7 HM) | (have q : dL HM = 7 := rfl; clear q HM; intro g8 u8 HM) | (have q : dL HM = 8 := rfl; clear q HM; intro g9 u9 HM) | (have q : dL HM = 9 := rfl; clear q HM; intro g10 u10 HM) | (have q : dL HM = 10 := rfl; clear q HM; intro g11 u11 HM) | (have q : dL HM = 11 := rfl; clear q HM; intro g12 u12 HM) | (have q : dL HM = 12 := rfl; clear q HM; intro g13 u13 HM) | (have q : dL HM = 13 := rfl; clear q HM; intro g14 u14 HM)) | (refine wl_load rfl _ _ rfl rfl (by exact arrOf) HM (by exact memOf) (by exact lenOf) ?_) | (refine wl_storeM rfl _ _ _ rfl rfl rfl (by exact arrOf) HM (by exact idxOf) (by exact lenOf) (by exact lenOf) ?_; clear HM; intro us HM; dsimp only [List.set] at HM) | (refine wl_zero rfl _ rfl (by exact arrOf) (by kernel_rfl) ?_))
  go_loopw [5] (fun vi wr => ∃ k : Nat, k ≤ 16 ∧ vi = .int .i64 (k : Int) ∧ Hid (Mem w [(g3, 29, tab 16 (part2 k (fun _ => 67108864) (fun _ => 0))), (g2, 30, zr 16), (g1, 30, x)] wr)) (fun vi _ => 16 - (intOf vi).toNat)
  case atStart => exact ⟨0, by omega, rfl, Lib.hid (by rw [part2_none, tab_zero]; exact HM.out)⟩
  case round =>
    clear HM
    obtain ⟨k, hk, rfl, HM⟩ := hrel
    by_cases hlt : k < 16
    · have k16 : (k : Int) < 16 := by omega
      have SS := Lib.hid (part2_set (n := 16) (k := k) (fun _ => 67108864) (fun _ => 0))
      have c3 := HM.out.cell (.head _) (k := k) (by rw [tab_length]; exact hlt)
      have f3 := HM.out.free (.head _) k
      generalize List.getD (tab 16 _) k 0 = o at c3
      go_wp2_with fail
      have HM3 := Lib.hid (HM.out.put 0 rfl k 67108864)
      simp only [List.set_cons_zero] at HM3
      rw [SS.out] at HM3
      clear HM c3 f3
      go_roundw
      case rel => exact ⟨k + 1, by omega, by go_num, HM3⟩
      case measure => simp [intOf]; omega
    · obtain rfl : k = 16 := by omega
      rw [part2_all] at HM
      go_wp2_with (first | ((first | refine wl_box rfl _ _ rfl rfl HM ?_ | refine wl_alloc rfl _ rfl (by exact arrOf) HM ?_); first | (have q : dL HM = 0 := rfl; clear q HM; intro g1 u1 HM) | (have q : dL HM = 1 := rfl; clear q HM; intro g2 u2 HM) | (have q : dL HM = 2 := rfl; clear q HM; intro g3 u3 HM) | (have q : dL HM = 3 := rfl; clear q HM; intro g4 u4 HM) | (have q : dL HM = 4 := rfl; clear q HM; intro g5 u5 HM) | (have q : dL HM = 5 := rfl; clear q HM; intro g6 u6 HM) | (have q : dL HM = 6 := rfl; clear q HM; intro g7 u7 HM) | (have q : dL HM = 7 := rfl; clear q HM; intro g8 u8 HM) | (have q : dL HM = 8 := rfl; clear q HM; intro g9 u9 HM) | (have q : dL HM = 9 := rfl; clear q HM; intro g10 u10 HM) | (have q : dL HM = 10 := rfl; clear q HM; intro g11 u11 HM) | (have q : dL HM = 11 := rfl; clear q HM; intro g12 u12 HM) | (have q : dL HM = 12 := rfl; clear q HM; intro g13 u13 HM) | (have q : dL HM = 13 := rfl; clear q HM; intro g14 u14 HM)) | (refine wl_load rfl _ _ rfl rfl (by exact arrOf) HM (by exact memOf) (by exact lenOf) ?_) | (refine wl_storeM rfl _ _ _ rfl rfl rfl (by exact arrOf) HM (by exact idxOf) (by exact lenOf) (by exact lenOf) ?_; clear HM; intro us HM; dsimp only [List.set] at HM) | (refine wl_zero rfl _ rfl (by exact arrOf) (by kernel_rfl) ?_))
      refine (HC.out _).mono ?_
      rintro e w2 ⟨rfl, h1⟩
      have HM2 := Lib.hid (HM.out.below h1)
      clear h1 HM HC
      have HM := HM2
      clear HM2
      go_wp2_with (first | ((first | refine wl_box rfl _ _ rfl rfl HM ?_ | refine wl_alloc rfl _ rfl (by exact arrOf) HM ?_); first | (have q : dL HM = 0 := rfl; clear q HM; intro g1 u1 HM) | (have q : dL HM = 1 := rfl; clear q HM; intro g2 u2 HM) | (have q : dL HM = 2 := rfl; clear q HM; intro g3 u3 HM) | (have q : dL HM = 3 := rfl; clear q HM; intro g4 u4 HM) | (have q : dL HM = 4 := rfl; clear q HM; intro g5 u5 HM) | (have q : dL HM = 5 := rfl; clear q HM; intro g6 u6 HM) | (have q : dL HM = 6 := rfl; clear q HM; intro g7 u7 HM) | (have q : dL HM = 7 := rfl; clear q HM; intro g8 u8 HM) | (have q : dL HM = 8 := rfl; clear q HM; intro g9 u9 HM) | (have q : dL HM = 9 := rfl; clear q HM; intro g10 u10 HM) | (have q : dL HM = 10 := rfl; clear q HM; intro g11 u11 HM) | (have q : dL HM = 11 := rfl; clear q HM; intro g12 u12 HM) | (have q : dL HM = 12 := rfl; clear q HM; intro g13 u13 HM) | (have q : dL HM = 13 := rfl; clear q HM; intro g14 u14 HM)) | (refine wl_load rfl _ _ rfl rfl (by exact arrOf) HM (by exact memOf) (by exact lenOf) ?_) | (refine wl_storeM rfl _ _ _ rfl rfl rfl (by exact arrOf) HM (by exact idxOf) (by exact lenOf) (by exact lenOf) ?_; clear HM; intro us HM; dsimp only [List.set] at HM) | (refine wl_zero rfl _ rfl (by exact arrOf) (by kernel_rfl) ?_))
      refine bodyPost_ret (v := .agg (icells V)) (res_one rfl _ rfl arrSpec HM (by exact memOf) LV) rfl ⟨rfl, HM.out.1⟩
theorem grdHopQ : Tryd.prog.eqGuardType Tryd.prog.depth 29 = false := by kernel_rfl
theorem moL_length (a : List Int) : (moL a).length = 16 := tab_length _ _
theorem moL_bd {a : List Int} (ha : OkA a) (k : Nat) (hk : k < 16) : 0 ≤ (moL a).getD k 0 ∧ (moL a).getD k 0 ≤ 67108864 := by
  unfold moL
  rw [tab_getD _ hk]
  unfold moF
  have h := ha.2 (bnd k) (bnd_all k hk).1
  split
  · have := mostN_bd (a.getD (bnd k) 0).toNat (by omega)
    omega
  · omega
set_option maxRecDepth 100000 in
set_option maxHeartbeats 4000000 in
theorem qfits_any (q a : List Int) (b : Bool) (w : World) (lq : q.length = 16) (ha : OkA a) (he : Edg w) (hb : mayN q (moL a) 16 = b) :
    Calls Tryd.prog 38 #[.agg (icells q), .agg (icells a)] w (ValQ w (.bool b)) := by
  have LQ := Lib.hid lq
  have LA := Lib.hid ha.1
  have HE := Lib.hid he
  have HM := Lib.hid (Mem.start w)
  have HO := Lib.hid (fun u (hu : Edg u) => qmosts_any a u ha hu)
  have HH := Lib.hid (fun u => qheld_any q (moL a) u lq (moL_length a) (moL_bd ha))
  have L1 := Lib.hid (moL_length a)
  have L2 := Lib.hid (hcL_length q (moL a))
  have hi := hcL_iff (m := moL a) lq fun k hk => (moL_bd ha k hk).1
  have hgd := grdHopQ
  cases b with
  | true =>
    have heq := fun u => run_equalIn_same 29 (n := 16) (by kernel_rfl) q lq u
    rw [hi.2 hb] at HH L2
    generalize moL a = M at HO HH L1
    clear lq ha he hi hb
    go_enter Tryd.func38, Tryd.ntmps38
    go_wp2_with (first | ((first | refine wl_box rfl _ _ rfl rfl HM ?_ | refine wl_alloc rfl _ rfl (by exact arrOf) HM ?_); first | (have q : dL HM = 0 := rfl; clear q HM; intro g1 u1 HM) | (have q : dL HM = 1 := rfl; clear q HM; intro g2 u2 HM) | (have q : dL HM = 2 := rfl; clear q HM; intro g3 u3 HM) | (have q : dL HM = 3 := rfl; clear q HM; intro g4 u4 HM) | (have q : dL HM = 4 := rfl; clear q HM; intro g5 u5 HM) | (have q : dL HM = 5 := rfl; clear q HM; intro g6 u6 HM) | (have q : dL HM = 6 := rfl; clear q HM; intro g7 u7 HM) | (have q : dL HM = 7 := rfl; clear q HM; intro g8 u8 HM) | (have q : dL HM = 8 := rfl; clear q HM; intro g9 u9 HM) | (have q : dL HM = 9 := rfl; clear q HM; intro g10 u10 HM) | (have q : dL HM = 10 := rfl; clear q HM; intro g11 u11 HM) | (have q : dL HM = 11 := rfl; clear q HM; intro g12 u12 HM) | (have q : dL HM = 12 := rfl; clear q HM; intro g13 u13 HM) | (have q : dL HM = 13 := rfl; clear q HM; intro g14 u14 HM)) | (refine wl_load rfl _ _ rfl rfl (by exact arrOf) HM (by exact memOf) (by exact lenOf) ?_) | (refine wl_storeM rfl _ _ _ rfl rfl rfl (by exact arrOf) HM (by exact idxOf) (by exact lenOf) (by exact lenOf) ?_; clear HM; intro us HM; dsimp only [List.set] at HM) | (refine wl_zero rfl _ rfl (by exact arrOf) (by kernel_rfl) ?_))
    refine wp_region_held_drew (S := Mem w [(g2, 34, a), (g1, 29, q)]) (by kernel_rfl) (HM.out.drew.sub (by exact subOf)) (fun hHeld => ?_)
    have HMd := Lib.hid HM.out.drew
    clear HM
    have HM := HMd
    clear HMd
    generalize World.drew _ = wd at HM hHeld ⊢
    (refine wa_take (i := 0) rfl (by kernel_rfl) (by kernel_rfl) (by kernel_rfl) (fun _ _ _ h => h) (yi_load rfl _ _ rfl rfl (by exact arrOf) (fun u hu => hu) (by exact memOf) (by exact lenOf)) hHeld rfl ?_; (try simp only [Act.put, List.setIfInBounds_toArray, List.set_cons_zero, List.set_cons_succ]))
    (refine wa_take (i := 1) rfl (by kernel_rfl) (by kernel_rfl) (by kernel_rfl) (fun _ _ _ h => h) (yi_load rfl _ _ rfl rfl (by exact arrOf) (fun u hu => hu) (by exact memOf) (by exact lenOf)) hHeld rfl ?_; (try simp only [Act.put, List.setIfInBounds_toArray, List.set_cons_zero, List.set_cons_succ]))
    (refine wa_take (i := 4) rfl (by kernel_rfl) (by kernel_rfl) (by kernel_rfl) (fun _ _ _ h => h) (yi_load rfl _ _ rfl rfl (by exact arrOf) (fun u hu => hu) (by exact memOf) (by exact lenOf)) hHeld rfl ?_; (try simp only [Act.put, List.setIfInBounds_toArray, List.set_cons_zero, List.set_cons_succ]))
    refine wpAnyH_ready (rs := [2]) (by kernel_rfl) (by simp) ?_; refine AllReadyH.cons rfl (fun K hK => ?_) (AllReadyH.nil)
    rw [if_pos (by rfl)]; go_simp
    refine (HO.out _ (HE.out.mem HM.out)).mono ?_
    rintro e wb ⟨rfl, h1⟩
    have HM2 := Lib.hid (HM.out.below h1)
    clear h1 HM HO hHeld
    have HM := HM2
    clear HM2
    go_wp2_with fail; refine hK.out _ _ (HM.out.sub (by exact subOf)) (fun hHeld => ?_); clear hK K; (try simp only [Act.put, List.setIfInBounds_toArray, List.set_cons_zero, List.set_cons_succ])
    refine wpAnyH_ready (rs := [3]) (by kernel_rfl) (by simp) ?_; refine AllReadyH.cons rfl (fun K hK => ?_) (AllReadyH.nil)
    rw [if_pos (by rfl)]; go_simp
    refine (HH.out _).mono ?_
    rintro e wb ⟨rfl, h1⟩
    have HM2 := Lib.hid (HM.out.below h1)
    clear h1 HM HH hHeld
    have HM := HM2
    clear HM2
    go_wp2_with fail; refine hK.out _ _ (HM.out.sub (by exact subOf)) (fun hHeld => ?_); clear hK K; (try simp only [Act.put, List.setIfInBounds_toArray, List.set_cons_zero, List.set_cons_succ])
    (refine wa_take (i := 5) (v := .bool true) rfl (by kernel_rfl) (by kernel_rfl) (by kernel_rfl) (fun _ _ _ h => h) (yi_free rfl (fun u => by go_simp)) hHeld rfl ?_; (try simp only [Act.put, List.setIfInBounds_toArray, List.set_cons_zero, List.set_cons_succ]))
    (refine wa_take (i := 6) rfl (by kernel_rfl) (by kernel_rfl) (by kernel_rfl) (fun _ _ _ h => h) (yi_free rfl (fun u => rfl)) hHeld rfl ?_; (try simp only [Act.put, List.setIfInBounds_toArray, List.set_cons_zero, List.set_cons_succ]))
    refine wpAnyH_done (by kernel_rfl) ?_ _
    go_wp2
    go_ret
    exact ⟨rfl, HM.out.1⟩
  | false =>
    have heq := fun u => run_equalIn_diff 29 (n := 16) (by kernel_rfl) (hcL q (moL a)) q L2.out lq (fun e => by rw [hi.1 e] at hb; cases hb) u
    generalize hcL q (moL a) = H at HH L2 heq
    generalize moL a = M at HO HH L1
    clear lq ha he hi hb
    go_enter Tryd.func38, Tryd.ntmps38
    go_wp2_with (first | ((first | refine wl_box rfl _ _ rfl rfl HM ?_ | refine wl_alloc rfl _ rfl (by exact arrOf) HM ?_); first | (have q : dL HM = 0 := rfl; clear q HM; intro g1 u1 HM) | (have q : dL HM = 1 := rfl; clear q HM; intro g2 u2 HM) | (have q : dL HM = 2 := rfl; clear q HM; intro g3 u3 HM) | (have q : dL HM = 3 := rfl; clear q HM; intro g4 u4 HM) | (have q : dL HM = 4 := rfl; clear q HM; intro g5 u5 HM) | (have q : dL HM = 5 := rfl; clear q HM; intro g6 u6 HM) | (have q : dL HM = 6 := rfl; clear q HM; intro g7 u7 HM) | (have q : dL HM = 7 := rfl; clear q HM; intro g8 u8 HM) | (have q : dL HM = 8 := rfl; clear q HM; intro g9 u9 HM) | (have q : dL HM = 9 := rfl; clear q HM; intro g10 u10 HM) | (have q : dL HM = 10 := rfl; clear q HM; intro g11 u11 HM) | (have q : dL HM = 11 := rfl; clear q HM; intro g12 u12 HM) | (have q : dL HM = 12 := rfl; clear q HM; intro g13 u13 HM) | (have q : dL HM = 13 := rfl; clear q HM; intro g14 u14 HM)) | (refine wl_load rfl _ _ rfl rfl (by exact arrOf) HM (by exact memOf) (by exact lenOf) ?_) | (refine wl_storeM rfl _ _ _ rfl rfl rfl (by exact arrOf) HM (by exact idxOf) (by exact lenOf) (by exact lenOf) ?_; clear HM; intro us HM; dsimp only [List.set] at HM) | (refine wl_zero rfl _ rfl (by exact arrOf) (by kernel_rfl) ?_))
    refine wp_region_held_drew (S := Mem w [(g2, 34, a), (g1, 29, q)]) (by kernel_rfl) (HM.out.drew.sub (by exact subOf)) (fun hHeld => ?_)
    have HMd := Lib.hid HM.out.drew
    clear HM
    have HM := HMd
    clear HMd
    generalize World.drew _ = wd at HM hHeld ⊢
    (refine wa_take (i := 0) rfl (by kernel_rfl) (by kernel_rfl) (by kernel_rfl) (fun _ _ _ h => h) (yi_load rfl _ _ rfl rfl (by exact arrOf) (fun u hu => hu) (by exact memOf) (by exact lenOf)) hHeld rfl ?_; (try simp only [Act.put, List.setIfInBounds_toArray, List.set_cons_zero, List.set_cons_succ]))
    (refine wa_take (i := 1) rfl (by kernel_rfl) (by kernel_rfl) (by kernel_rfl) (fun _ _ _ h => h) (yi_load rfl _ _ rfl rfl (by exact arrOf) (fun u hu => hu) (by exact memOf) (by exact lenOf)) hHeld rfl ?_; (try simp only [Act.put, List.setIfInBounds_toArray, List.set_cons_zero, List.set_cons_succ]))
    (refine wa_take (i := 4) rfl (by kernel_rfl) (by kernel_rfl) (by kernel_rfl) (fun _ _ _ h => h) (yi_load rfl _ _ rfl rfl (by exact arrOf) (fun u hu => hu) (by exact memOf) (by exact lenOf)) hHeld rfl ?_; (try simp only [Act.put, List.setIfInBounds_toArray, List.set_cons_zero, List.set_cons_succ]))
    refine wpAnyH_ready (rs := [2]) (by kernel_rfl) (by simp) ?_; refine AllReadyH.cons rfl (fun K hK => ?_) (AllReadyH.nil)
    rw [if_pos (by rfl)]; go_simp
    refine (HO.out _ (HE.out.mem HM.out)).mono ?_
    rintro e wb ⟨rfl, h1⟩
    have HM2 := Lib.hid (HM.out.below h1)
    clear h1 HM HO hHeld
    have HM := HM2
    clear HM2
    go_wp2_with fail; refine hK.out _ _ (HM.out.sub (by exact subOf)) (fun hHeld => ?_); clear hK K; (try simp only [Act.put, List.setIfInBounds_toArray, List.set_cons_zero, List.set_cons_succ])
    refine wpAnyH_ready (rs := [3]) (by kernel_rfl) (by simp) ?_; refine AllReadyH.cons rfl (fun K hK => ?_) (AllReadyH.nil)
    rw [if_pos (by rfl)]; go_simp
    refine (HH.out _).mono ?_
    rintro e wb ⟨rfl, h1⟩
    have HM2 := Lib.hid (HM.out.below h1)
    clear h1 HM HH hHeld
    have HM := HM2
    clear HM2
    go_wp2_with fail; refine hK.out _ _ (HM.out.sub (by exact subOf)) (fun hHeld => ?_); clear hK K; (try simp only [Act.put, List.setIfInBounds_toArray, List.set_cons_zero, List.set_cons_succ])
    (refine wa_take (i := 5) (v := .bool false) rfl (by kernel_rfl) (by kernel_rfl) (by kernel_rfl) (fun _ _ _ h => h) (yi_free rfl (fun u => by go_simp)) hHeld rfl ?_; (try simp only [Act.put, List.setIfInBounds_toArray, List.set_cons_zero, List.set_cons_succ]))
    (refine wa_take (i := 6) rfl (by kernel_rfl) (by kernel_rfl) (by kernel_rfl) (fun _ _ _ h => h) (yi_free rfl (fun u => rfl)) hHeld rfl ?_; (try simp only [Act.put, List.setIfInBounds_toArray, List.set_cons_zero, List.set_cons_succ]))
    refine wpAnyH_done (by kernel_rfl) ?_ _
    go_wp2
    go_ret
    exact ⟨rfl, HM.out.1⟩
theorem share_v (l : List Int) (h : chkL l = true) : shareV l 120 = .tuple #[.agg (icells (shareL l 120)), .int .i64 0] := by
  unfold shareV; rw [if_pos ⟨h, by decide⟩]
theorem share_vno (l : List Int) (h : chkL l = false) : shareV l 120 = .tuple #[.agg (icells (zr 6)), .int .i64 1] := by
  unfold shareV; rw [if_neg (fun k => by rw [h] at k; exact Bool.false_ne_true k.1)]
theorem ms_is {l : List Int} (h : chkL l = true) : msL l = moL (shareL l 120) := by unfold msL; rw [if_pos h]
theorem ss_is {l : List Int} (h : chkL l = true) : ssL l = stL l (shareL l 120) := by unfold ssL; rw [if_pos h]
theorem as_is {l : List Int} (h : chkL l = true) : asL l = shareL l 120 := by unfold asL; rw [if_pos h]
set_option maxRecDepth 100000 in
set_option maxHeartbeats 4000000 in
theorem qmay_any (q l : List Int) (w : World) (lq : q.length = 16) (ll : l.length = 6) (he : Edg w) :
    Calls Tryd.prog 22 #[.agg (icells q), .agg (icells l)] w (ValQ w (.bool (mayB q l))) := by
  have LQ := Lib.hid lq
  have LL := Lib.hid ll
  have HE := Lib.hid he
  have LZ := Lib.hid (zr_length 6)
  have HM := Lib.hid (Mem.start w)
  have HC := Lib.hid (fun u (hu : Edg u) => bshare_any l 120 u ll hu)
  cases hc : chkL l with
  | true =>
    rw [share_v l hc] at HC
    have HV : mayB q l = mayN q (moL (shareL l 120)) 16 := by unfold mayB; rw [hc, ms_is hc, Bool.true_and]
    have hok := (share_ok l (B := 120) (by decide)).1
    have LA := Lib.hid hok.1
    have HF := Lib.hid (fun u (hu : Edg u) => qfits_any q (shareL l 120) (mayB q l) u lq hok hu HV.symm)
    generalize mayB q l = V at HF HV
    generalize shareL l 120 = A at HC HF LA
    clear lq ll he hc HV hok
    go_enter Tryd.func22, Tryd.ntmps22
    go_wp2_with (first | ((first | refine wl_box rfl _ _ rfl rfl HM ?_ | refine wl_alloc rfl _ rfl (by exact arrOf) HM ?_); first | (have q : dL HM = 0 := rfl; clear q HM; intro g1 u1 HM) | (have q : dL HM = 1 := rfl; clear q HM; intro g2 u2 HM) | (have q : dL HM = 2 := rfl; clear q HM; intro g3 u3 HM) | (have q : dL HM = 3 := rfl; clear q HM; intro g4 u4 HM) | (have q : dL HM = 4 := rfl; clear q HM; intro g5 u5 HM) | (have q : dL HM = 5 := rfl; clear q HM; intro g6 u6 HM) | (have q : dL HM = 6 := rfl; clear q HM; intro g7 u7 HM) | (have q : dL HM = 7 := rfl; clear q HM; intro g8 u8 HM) | (have q : dL HM = 8 := rfl; clear q HM; intro g9 u9 HM) | (have q : dL HM = 9 := rfl; clear q HM; intro g10 u10 HM) | (have q : dL HM = 10 := rfl; clear q HM; intro g11 u11 HM) | (have q : dL HM = 11 := rfl; clear q HM; intro g12 u12 HM) | (have q : dL HM = 12 := rfl; clear q HM; intro g13 u13 HM) | (have q : dL HM = 13 := rfl; clear q HM; intro g14 u14 HM)) | (refine wl_load rfl _ _ rfl rfl (by exact arrOf) HM (by exact memOf) (by exact lenOf) ?_) | (refine wl_storeM rfl _ _ _ rfl rfl rfl (by exact arrOf) HM (by exact idxOf) (by exact lenOf) (by exact lenOf) ?_; clear HM; intro us HM; dsimp only [List.set] at HM) | (refine wl_zero rfl _ rfl (by exact arrOf) (by kernel_rfl) ?_))
    refine (HC.out _ (HE.out.mem HM.out)).mono ?_
    rintro e w2 ⟨rfl, h1⟩
    have HM2 := Lib.hid (HM.out.below h1)
    clear h1 HM HC
    have HM := HM2
    clear HM2
    go_wp2_with (first | ((first | refine wl_box rfl _ _ rfl rfl HM ?_ | refine wl_alloc rfl _ rfl (by exact arrOf) HM ?_); first | (have q : dL HM = 0 := rfl; clear q HM; intro g1 u1 HM) | (have q : dL HM = 1 := rfl; clear q HM; intro g2 u2 HM) | (have q : dL HM = 2 := rfl; clear q HM; intro g3 u3 HM) | (have q : dL HM = 3 := rfl; clear q HM; intro g4 u4 HM) | (have q : dL HM = 4 := rfl; clear q HM; intro g5 u5 HM) | (have q : dL HM = 5 := rfl; clear q HM; intro g6 u6 HM) | (have q : dL HM = 6 := rfl; clear q HM; intro g7 u7 HM) | (have q : dL HM = 7 := rfl; clear q HM; intro g8 u8 HM) | (have q : dL HM = 8 := rfl; clear q HM; intro g9 u9 HM) | (have q : dL HM = 9 := rfl; clear q HM; intro g10 u10 HM) | (have q : dL HM = 10 := rfl; clear q HM; intro g11 u11 HM) | (have q : dL HM = 11 := rfl; clear q HM; intro g12 u12 HM) | (have q : dL HM = 12 := rfl; clear q HM; intro g13 u13 HM) | (have q : dL HM = 13 := rfl; clear q HM; intro g14 u14 HM)) | (refine wl_load rfl _ _ rfl rfl (by exact arrOf) HM (by exact memOf) (by exact lenOf) ?_) | (refine wl_storeM rfl _ _ _ rfl rfl rfl (by exact arrOf) HM (by exact idxOf) (by exact lenOf) (by exact lenOf) ?_; clear HM; intro us HM; dsimp only [List.set] at HM) | (refine wl_zero rfl _ rfl (by exact arrOf) (by kernel_rfl) ?_))
    refine (HF.out _ (HE.out.mem HM.out)).mono ?_
    rintro e w2 ⟨rfl, h1⟩
    have HM2 := Lib.hid (HM.out.below h1)
    clear h1 HM HF
    have HM := HM2
    clear HM2
    go_wp2_with (first | ((first | refine wl_box rfl _ _ rfl rfl HM ?_ | refine wl_alloc rfl _ rfl (by exact arrOf) HM ?_); first | (have q : dL HM = 0 := rfl; clear q HM; intro g1 u1 HM) | (have q : dL HM = 1 := rfl; clear q HM; intro g2 u2 HM) | (have q : dL HM = 2 := rfl; clear q HM; intro g3 u3 HM) | (have q : dL HM = 3 := rfl; clear q HM; intro g4 u4 HM) | (have q : dL HM = 4 := rfl; clear q HM; intro g5 u5 HM) | (have q : dL HM = 5 := rfl; clear q HM; intro g6 u6 HM) | (have q : dL HM = 6 := rfl; clear q HM; intro g7 u7 HM) | (have q : dL HM = 7 := rfl; clear q HM; intro g8 u8 HM) | (have q : dL HM = 8 := rfl; clear q HM; intro g9 u9 HM) | (have q : dL HM = 9 := rfl; clear q HM; intro g10 u10 HM) | (have q : dL HM = 10 := rfl; clear q HM; intro g11 u11 HM) | (have q : dL HM = 11 := rfl; clear q HM; intro g12 u12 HM) | (have q : dL HM = 12 := rfl; clear q HM; intro g13 u13 HM) | (have q : dL HM = 13 := rfl; clear q HM; intro g14 u14 HM)) | (refine wl_load rfl _ _ rfl rfl (by exact arrOf) HM (by exact memOf) (by exact lenOf) ?_) | (refine wl_storeM rfl _ _ _ rfl rfl rfl (by exact arrOf) HM (by exact idxOf) (by exact lenOf) (by exact lenOf) ?_; clear HM; intro us HM; dsimp only [List.set] at HM) | (refine wl_zero rfl _ rfl (by exact arrOf) (by kernel_rfl) ?_))
    go_ret
    exact ⟨rfl, HM.out.1⟩
  | false =>
    rw [share_vno l hc] at HC
    have HV : mayB q l = false := by unfold mayB; rw [hc, Bool.false_and]
    rw [HV]
    clear lq ll he hc HV
    go_enter Tryd.func22, Tryd.ntmps22
    go_wp2_with (first | ((first | refine wl_box rfl _ _ rfl rfl HM ?_ | refine wl_alloc rfl _ rfl (by exact arrOf) HM ?_); first | (have q : dL HM = 0 := rfl; clear q HM; intro g1 u1 HM) | (have q : dL HM = 1 := rfl; clear q HM; intro g2 u2 HM) | (have q : dL HM = 2 := rfl; clear q HM; intro g3 u3 HM) | (have q : dL HM = 3 := rfl; clear q HM; intro g4 u4 HM) | (have q : dL HM = 4 := rfl; clear q HM; intro g5 u5 HM) | (have q : dL HM = 5 := rfl; clear q HM; intro g6 u6 HM) | (have q : dL HM = 6 := rfl; clear q HM; intro g7 u7 HM) | (have q : dL HM = 7 := rfl; clear q HM; intro g8 u8 HM) | (have q : dL HM = 8 := rfl; clear q HM; intro g9 u9 HM) | (have q : dL HM = 9 := rfl; clear q HM; intro g10 u10 HM) | (have q : dL HM = 10 := rfl; clear q HM; intro g11 u11 HM) | (have q : dL HM = 11 := rfl; clear q HM; intro g12 u12 HM) | (have q : dL HM = 12 := rfl; clear q HM; intro g13 u13 HM) | (have q : dL HM = 13 := rfl; clear q HM; intro g14 u14 HM)) | (refine wl_load rfl _ _ rfl rfl (by exact arrOf) HM (by exact memOf) (by exact lenOf) ?_) | (refine wl_storeM rfl _ _ _ rfl rfl rfl (by exact arrOf) HM (by exact idxOf) (by exact lenOf) (by exact lenOf) ?_; clear HM; intro us HM; dsimp only [List.set] at HM) | (refine wl_zero rfl _ rfl (by exact arrOf) (by kernel_rfl) ?_))
    refine (HC.out _ (HE.out.mem HM.out)).mono ?_
    rintro e w2 ⟨rfl, h1⟩
    have HM2 := Lib.hid (HM.out.below h1)
    clear h1 HM HC
    have HM := HM2
    clear HM2
    go_wp2_with (first | ((first | refine wl_box rfl _ _ rfl rfl HM ?_ | refine wl_alloc rfl _ rfl (by exact arrOf) HM ?_); first | (have q : dL HM = 0 := rfl; clear q HM; intro g1 u1 HM) | (have q : dL HM = 1 := rfl; clear q HM; intro g2 u2 HM) | (have q : dL HM = 2 := rfl; clear q HM; intro g3 u3 HM) | (have q : dL HM = 3 := rfl; clear q HM; intro g4 u4 HM) | (have q : dL HM = 4 := rfl; clear q HM; intro g5 u5 HM) | (have q : dL HM = 5 := rfl; clear q HM; intro g6 u6 HM) | (have q : dL HM = 6 := rfl; clear q HM; intro g7 u7 HM) | (have q : dL HM = 7 := rfl; clear q HM; intro g8 u8 HM) | (have q : dL HM = 8 := rfl; clear q HM; intro g9 u9 HM) | (have q : dL HM = 9 := rfl; clear q HM; intro g10 u10 HM) | (have q : dL HM = 10 := rfl; clear q HM; intro g11 u11 HM) | (have q : dL HM = 11 := rfl; clear q HM; intro g12 u12 HM) | (have q : dL HM = 12 := rfl; clear q HM; intro g13 u13 HM) | (have q : dL HM = 13 := rfl; clear q HM; intro g14 u14 HM)) | (refine wl_load rfl _ _ rfl rfl (by exact arrOf) HM (by exact memOf) (by exact lenOf) ?_) | (refine wl_storeM rfl _ _ _ rfl rfl rfl (by exact arrOf) HM (by exact idxOf) (by exact lenOf) (by exact lenOf) ?_; clear HM; intro us HM; dsimp only [List.set] at HM) | (refine wl_zero rfl _ rfl (by exact arrOf) (by kernel_rfl) ?_))
    go_ret
    exact ⟨rfl, HM.out.1⟩
end Go.Proofs.YtcnckamocbaceaaDoor.Lp
/- Qu -/
namespace Go.Proofs.YtcnckamocbaceaaDoor.Lp
open Go.RowKit Go.Proofs.YtcnckamocbaceaaDoor.Fx Go.Proofs.YtcnckamocbaceaaDoor.Fq Go.Proofs.YtcnckamocbaceaaDoor.Tb
set_option maxRecDepth 100000 in
set_option maxHeartbeats 4000000 in
theorem qgreat_bad (q l : List Int) (w : World) (lq : q.length = 16) (ll : l.length = 6) (he : Edg w) (hb : mayB q l = false) :
    Calls Tryd.prog 18 #[.agg (icells q), .agg (icells l)] w (ValQ w (.tuple #[.agg (icells (zr 16)), .int .i64 1])) := by
  have LQ := Lib.hid lq
  have LL := Lib.hid ll
  have HE := Lib.hid he
  have LZ := Lib.hid (zr_length 6)
  have LY := Lib.hid (zr_length 16)
  have HM := Lib.hid (Mem.start w)
  have HC := Lib.hid (fun u (hu : Edg u) => bshare_any l 120 u ll hu)
  cases hc : chkL l with
  | true =>
    rw [share_v l hc] at HC
    have HV : mayN q (moL (shareL l 120)) 16 = false := by unfold mayB at hb; rw [hc, ms_is hc, Bool.true_and] at hb; exact hb
    have hok := (share_ok l (B := 120) (by decide)).1
    have LA := Lib.hid hok.1
    have HF := Lib.hid (fun u (hu : Edg u) => qfits_any q (shareL l 120) false u lq hok hu HV)
    clear HV hok
    generalize shareL l 120 = A at HC HF LA
    clear lq ll he hc hb
    go_enter Tryd.func18, Tryd.ntmps18
    go_wp2_with (first | ((first | refine wl_box rfl _ _ rfl rfl HM ?_ | refine wl_alloc rfl _ rfl (by exact arrOf) HM ?_); first | (have q : dL HM = 0 := rfl; clear q HM; intro g1 u1 HM) | (have q : dL HM = 1 := rfl; clear q HM; intro g2 u2 HM) | (have q : dL HM = 2 := rfl; clear q HM; intro g3 u3 HM) | (have q : dL HM = 3 := rfl; clear q HM; intro g4 u4 HM) | (have q : dL HM = 4 := rfl; clear q HM; intro g5 u5 HM) | (have q : dL HM = 5 := rfl; clear q HM; intro g6 u6 HM) | (have q : dL HM = 6 := rfl; clear q HM; intro g7 u7 HM) | (have q : dL HM = 7 := rfl; clear q HM; intro g8 u8 HM) | (have q : dL HM = 8 := rfl; clear q HM; intro g9 u9 HM) | (have q : dL HM = 9 := rfl; clear q HM; intro g10 u10 HM) | (have q : dL HM = 10 := rfl; clear q HM; intro g11 u11 HM) | (have q : dL HM = 11 := rfl; clear q HM; intro g12 u12 HM) | (have q : dL HM = 12 := rfl; clear q HM; intro g13 u13 HM) | (have q : dL HM = 13 := rfl; clear q HM; intro g14 u14 HM)) | (refine wl_load rfl _ _ rfl rfl (by exact arrOf) HM (by exact memOf) (by exact lenOf) ?_) | (refine wl_storeM rfl _ _ _ rfl rfl rfl (by exact arrOf) HM (by exact idxOf) (by exact lenOf) (by exact lenOf) ?_; clear HM; intro us HM; dsimp only [List.set] at HM) | (refine wl_zero rfl _ rfl (by exact arrOf) (by kernel_rfl) ?_))
    refine (HC.out _ (HE.out.mem HM.out)).mono ?_
    rintro e w2 ⟨rfl, h1⟩
    have HM2 := Lib.hid (HM.out.below h1)
    clear h1 HM HC
    have HM := HM2
    clear HM2
    go_wp2_with (first | ((first | refine wl_box rfl _ _ rfl rfl HM ?_ | refine wl_alloc rfl _ rfl (by exact arrOf) HM ?_); first | (have q : dL HM = 0 := rfl; clear q HM; intro g1 u1 HM) | (have q : dL HM = 1 := rfl; clear q HM; intro g2 u2 HM) | (have q : dL HM = 2 := rfl; clear q HM; intro g3 u3 HM) | (have q : dL HM = 3 := rfl; clear q HM; intro g4 u4 HM) | (have q : dL HM = 4 := rfl; clear q HM; intro g5 u5 HM) | (have q : dL HM = 5 := rfl; clear q HM; intro g6 u6 HM) | (have q : dL HM = 6 := rfl; clear q HM; intro g7 u7 HM) | (have q : dL HM = 7 := rfl; clear q HM; intro g8 u8 HM) | (have q : dL HM = 8 := rfl; clear q HM; intro g9 u9 HM) | (have q : dL HM = 9 := rfl; clear q HM; intro g10 u10 HM) | (have q : dL HM = 10 := rfl; clear q HM; intro g11 u11 HM) | (have q : dL HM = 11 := rfl; clear q HM; intro g12 u12 HM) | (have q : dL HM = 12 := rfl; clear q HM; intro g13 u13 HM) | (have q : dL HM = 13 := rfl; clear q HM; intro g14 u14 HM)) | (refine wl_load rfl _ _ rfl rfl (by exact arrOf) HM (by exact memOf) (by exact lenOf) ?_) | (refine wl_storeM rfl _ _ _ rfl rfl rfl (by exact arrOf) HM (by exact idxOf) (by exact lenOf) (by exact lenOf) ?_; clear HM; intro us HM; dsimp only [List.set] at HM) | (refine wl_zero rfl _ rfl (by exact arrOf) (by kernel_rfl) ?_))
    refine (HF.out _ (HE.out.mem HM.out)).mono ?_
    rintro e w2 ⟨rfl, h1⟩
    have HM2 := Lib.hid (HM.out.below h1)
    clear h1 HM HF
    have HM := HM2
    clear HM2
    go_wp2_with (first | ((first | refine wl_box rfl _ _ rfl rfl HM ?_ | refine wl_alloc rfl _ rfl (by exact arrOf) HM ?_); first | (have q : dL HM = 0 := rfl; clear q HM; intro g1 u1 HM) | (have q : dL HM = 1 := rfl; clear q HM; intro g2 u2 HM) | (have q : dL HM = 2 := rfl; clear q HM; intro g3 u3 HM) | (have q : dL HM = 3 := rfl; clear q HM; intro g4 u4 HM) | (have q : dL HM = 4 := rfl; clear q HM; intro g5 u5 HM) | (have q : dL HM = 5 := rfl; clear q HM; intro g6 u6 HM) | (have q : dL HM = 6 := rfl; clear q HM; intro g7 u7 HM) | (have q : dL HM = 7 := rfl; clear q HM; intro g8 u8 HM) | (have q : dL HM = 8 := rfl; clear q HM; intro g9 u9 HM) | (have q : dL HM = 9 := rfl; clear q HM; intro g10 u10 HM) | (have q : dL HM = 10 := rfl; clear q HM; intro g11 u11 HM) | (have q : dL HM = 11 := rfl; clear q HM; intro g12 u12 HM) | (have q : dL HM = 12 := rfl; clear q HM; intro g13 u13 HM) | (have q : dL HM = 13 := rfl; clear q HM; intro g14 u14 HM)) | (refine wl_load rfl _ _ rfl rfl (by exact arrOf) HM (by exact memOf) (by exact lenOf) ?_) | (refine wl_storeM rfl _ _ _ rfl rfl rfl (by exact arrOf) HM (by exact idxOf) (by exact lenOf) (by exact lenOf) ?_; clear HM; intro us HM; dsimp only [List.set] at HM) | (refine wl_zero rfl _ rfl (by exact arrOf) (by kernel_rfl) ?_))
    refine bodyPost_ret (v := .tuple #[.agg (icells (zr 16)), .int .i64 1]) (res_two rfl _ rfl rfl arrSpec HM (by exact memOf) LY) rfl ⟨rfl, HM.out.1⟩
  | false =>
    rw [share_vno l hc] at HC
    clear lq ll he hc hb
    go_enter Tryd.func18, Tryd.ntmps18
    go_wp2_with (first | ((first | refine wl_box rfl _ _ rfl rfl HM ?_ | refine wl_alloc rfl _ rfl (by exact arrOf) HM ?_); first | (have q : dL HM = 0 := rfl; clear q HM; intro g1 u1 HM) | (have q : dL HM = 1 := rfl; clear q HM; intro g2 u2 HM) | (have q : dL HM = 2 := rfl; clear q HM; intro g3 u3 HM) | (have q : dL HM = 3 := rfl; clear q HM; intro g4 u4 HM) | (have q : dL HM = 4 := rfl; clear q HM; intro g5 u5 HM) | (have q : dL HM = 5 := rfl; clear q HM; intro g6 u6 HM) | (have q : dL HM = 6 := rfl; clear q HM; intro g7 u7 HM) | (have q : dL HM = 7 := rfl; clear q HM; intro g8 u8 HM) | (have q : dL HM = 8 := rfl; clear q HM; intro g9 u9 HM) | (have q : dL HM = 9 := rfl; clear q HM; intro g10 u10 HM) | (have q : dL HM = 10 := rfl; clear q HM; intro g11 u11 HM) | (have q : dL HM = 11 := rfl; clear q HM; intro g12 u12 HM) | (have q : dL HM = 12 := rfl; clear q HM; intro g13 u13 HM) | (have q : dL HM = 13 := rfl; clear q HM; intro g14 u14 HM)) | (refine wl_load rfl _ _ rfl rfl (by exact arrOf) HM (by exact memOf) (by exact lenOf) ?_) | (refine wl_storeM rfl _ _ _ rfl rfl rfl (by exact arrOf) HM (by exact idxOf) (by exact lenOf) (by exact lenOf) ?_; clear HM; intro us HM; dsimp only [List.set] at HM) | (refine wl_zero rfl _ rfl (by exact arrOf) (by kernel_rfl) ?_))
    refine (HC.out _ (HE.out.mem HM.out)).mono ?_
    rintro e w2 ⟨rfl, h1⟩
    have HM2 := Lib.hid (HM.out.below h1)
    clear h1 HM HC
    have HM := HM2
    clear HM2
    go_wp2_with (first | ((first | refine wl_box rfl _ _ rfl rfl HM ?_ | refine wl_alloc rfl _ rfl (by exact arrOf) HM ?_); first | (have q : dL HM = 0 := rfl; clear q HM; intro g1 u1 HM) | (have q : dL HM = 1 := rfl; clear q HM; intro g2 u2 HM) | (have q : dL HM = 2 := rfl; clear q HM; intro g3 u3 HM) | (have q : dL HM = 3 := rfl; clear q HM; intro g4 u4 HM) | (have q : dL HM = 4 := rfl; clear q HM; intro g5 u5 HM) | (have q : dL HM = 5 := rfl; clear q HM; intro g6 u6 HM) | (have q : dL HM = 6 := rfl; clear q HM; intro g7 u7 HM) | (have q : dL HM = 7 := rfl; clear q HM; intro g8 u8 HM) | (have q : dL HM = 8 := rfl; clear q HM; intro g9 u9 HM) | (have q : dL HM = 9 := rfl; clear q HM; intro g10 u10 HM) | (have q : dL HM = 10 := rfl; clear q HM; intro g11 u11 HM) | (have q : dL HM = 11 := rfl; clear q HM; intro g12 u12 HM) | (have q : dL HM = 12 := rfl; clear q HM; intro g13 u13 HM) | (have q : dL HM = 13 := rfl; clear q HM; intro g14 u14 HM)) | (refine wl_load rfl _ _ rfl rfl (by exact arrOf) HM (by exact memOf) (by exact lenOf) ?_) | (refine wl_storeM rfl _ _ _ rfl rfl rfl (by exact arrOf) HM (by exact idxOf) (by exact lenOf) (by exact lenOf) ?_; clear HM; intro us HM; dsimp only [List.set] at HM) | (refine wl_zero rfl _ rfl (by exact arrOf) (by kernel_rfl) ?_))
    refine bodyPost_ret (v := .tuple #[.agg (icells (zr 16)), .int .i64 1]) (res_two rfl _ rfl rfl arrSpec HM (by exact memOf) LY) rfl ⟨rfl, HM.out.1⟩
/-- the products, ahead of the hold -/
def prF (q s : List Int) (n : Nat) : Int := q.getD n 0 * s.getD n 0
theorem bd_pr (q s : List Int) : bdL (tab 16 (prF q s)) = tab 16 (greatF q s) := tab_congr fun n hn => by
  show clampI ((tab 16 (prF q s)).getD n 0) 67108864 = greatF q s n
  rw [tab_getD _ hn]; rfl
set_option maxRecDepth 100000 in
set_option maxHeartbeats 4000000 in
theorem qgreat_good (q l : List Int) (w : World) (lq : q.length = 16) (ll : l.length = 6) (he : Edg w) (hb : mayB q l = true) :
    Calls Tryd.prog 18 #[.agg (icells q), .agg (icells l)] w (ValQ w (.tuple #[.agg (icells (greatL q l)), .int .i64 0])) := by
  have LQ := Lib.hid lq
  have LL := Lib.hid ll
  have HE := Lib.hid he
  have LZ := Lib.hid (zr_length 6)
  have LY := Lib.hid (zr_length 16)
  have HM := Lib.hid (Mem.start w)
  have hc : chkL l = true := by
    unfold mayB at hb
    rw [Bool.and_eq_true] at hb
    exact hb.1
  have HC := Lib.hid (fun u (hu : Edg u) => bshare_any l 120 u ll hu)
  rw [share_v l hc] at HC
  have HV : mayN q (moL (shareL l 120)) 16 = true := by unfold mayB at hb; rw [hc, ms_is hc, Bool.true_and] at hb; exact hb
  have hok := (share_ok l (B := 120) (by decide)).1
  have LA := Lib.hid hok.1
  have HF := Lib.hid (fun u (hu : Edg u) => qfits_any q (shareL l 120) true u lq hok hu HV)
  have HT := Lib.hid (fun u (hu : Edg u) => qsteps_any l (shareL l 120) u ll (fun k => inR_bd hc (by omega) (by omega) k) hok hu)
  have HB := Lib.hid (fun (k : Nat) (hk : k < 16) => (show -(127 * 4026531967) ≤ q.getD k 0 * (ssL l).getD k 0 ∧ q.getD k 0 * (ssL l).getD k 0 ≤ 127 * 4026531967 from by
    have h1 := mayN_at 16 k hk HV
    rw [← ms_is hc] at h1
    have h2 := msL_bd l hk
    have h3 := ssL_bd l hk
    exact mulq_bd (by omega) (by omega) h3.1 h3.2 (by decide)))
  have L1 := Lib.hid (ssL_length l)
  have HG := Lib.hid (fun u => qbounded_any (tab 16 (prF q (ssL l))) u (tab_length _ _))
  rw [bd_pr, show tab 16 (greatF q (ssL l)) = greatL q l from rfl] at HG
  have L5 := Lib.hid (show (greatL q l).length = 16 from tab_length _ _)
  rw [← ss_is hc] at HT
  generalize greatL q l = V at HG L5
  generalize shareL l 120 = A at HC HF HT LA
  generalize ssL l = S at HT HB HG L1
  have L6 := Lib.hid (tab_length 16 (prF q S))
  clear lq ll he hc hb HV hok
  go_enter Tryd.func18, Tryd.ntmps18
  go_wp2_with (first | ((first | refine wl_box rfl _ _ rfl rfl HM ?_ | refine wl_alloc rfl _ rfl (by exact arrOf) HM ?_); first | (have q : dL HM = 0 := rfl; clear q HM; intro g1 u1 HM) | (have q : dL HM = 1 := rfl; clear q HM; intro g2 u2 HM) | (have q : dL HM = 2 := rfl; clear q HM; intro g3 u3 HM) | (have q : dL HM = 3 := rfl; clear q HM; intro g4 u4 HM) | (have q : dL HM = 4 := rfl; clear q HM; intro g5 u5 HM) | (have q : dL HM = 5 := rfl; clear q HM; intro g6 u6 HM) | (have q : dL HM = 6 := rfl; clear q HM; intro g7 u7 HM) | (have q : dL HM = 7 := rfl; clear q HM; intro g8 u8 HM) | (have q : dL HM = 8 := rfl; clear q HM; intro g9 u9 HM) | (have q : dL HM = 9 := rfl; clear q HM; intro g10 u10 HM) | (have q : dL HM = 10 := rfl; clear q HM; intro g11 u11 HM) | (have q : dL HM = 11 := rfl; clear q HM; intro g12 u12 HM) | (have q : dL HM = 12 := rfl; clear q HM; intro g13 u13 HM) | (have q : dL HM = 13 := rfl; clear q HM; intro g14 u14 HM)) | (refine wl_load rfl _ _ rfl rfl (by exact arrOf) HM (by exact memOf) (by exact lenOf) ?_) | (refine wl_storeM rfl _ _ _ rfl rfl rfl (by exact arrOf) HM (by exact idxOf) (by exact lenOf) (by exact lenOf) ?_; clear HM; intro us HM; dsimp only [List.set] at HM) | (refine wl_zero rfl _ rfl (by exact arrOf) (by kernel_rfl) ?_))
  refine (HC.out _ (HE.out.mem HM.out)).mono ?_
  rintro e w2 ⟨rfl, h1⟩
  have HM2 := Lib.hid (HM.out.below h1)
  clear h1 HM HC
  have HM := HM2
  clear HM2
  go_wp2_with (first | ((first | refine wl_box rfl _ _ rfl rfl HM ?_ | refine wl_alloc rfl _ rfl (by exact arrOf) HM ?_); first | (have q : dL HM = 0 := rfl; clear q HM; intro g1 u1 HM) | (have q : dL HM = 1 := rfl; clear q HM; intro g2 u2 HM) | (have q : dL HM = 2 := rfl; clear q HM; intro g3 u3 HM) | (have q : dL HM = 3 := rfl; clear q HM; intro g4 u4 HM) | (have q : dL HM = 4 := rfl; clear q HM; intro g5 u5 HM) | (have q : dL HM = 5 := rfl; clear q HM; intro g6 u6 HM) | (have q : dL HM = 6 := rfl; clear q HM; intro g7 u7 HM) | (have q : dL HM = 7 := rfl; clear q HM; intro g8 u8 HM) | (have q : dL HM = 8 := rfl; clear q HM; intro g9 u9 HM) | (have q : dL HM = 9 := rfl; clear q HM; intro g10 u10 HM) | (have q : dL HM = 10 := rfl; clear q HM; intro g11 u11 HM) | (have q : dL HM = 11 := rfl; clear q HM; intro g12 u12 HM) | (have q : dL HM = 12 := rfl; clear q HM; intro g13 u13 HM) | (have q : dL HM = 13 := rfl; clear q HM; intro g14 u14 HM)) | (refine wl_load rfl _ _ rfl rfl (by exact arrOf) HM (by exact memOf) (by exact lenOf) ?_) | (refine wl_storeM rfl _ _ _ rfl rfl rfl (by exact arrOf) HM (by exact idxOf) (by exact lenOf) (by exact lenOf) ?_; clear HM; intro us HM; dsimp only [List.set] at HM) | (refine wl_zero rfl _ rfl (by exact arrOf) (by kernel_rfl) ?_))
  refine (HF.out _ (HE.out.mem HM.out)).mono ?_
  rintro e w2 ⟨rfl, h1⟩
  have HM2 := Lib.hid (HM.out.below h1)
  clear h1 HM HF
  have HM := HM2
  clear HM2
  go_wp2_with (first | ((first | refine wl_box rfl _ _ rfl rfl HM ?_ | refine wl_alloc rfl _ rfl (by exact arrOf) HM ?_); first | (have q : dL HM = 0 := rfl; clear q HM; intro g1 u1 HM) | (have q : dL HM = 1 := rfl; clear q HM; intro g2 u2 HM) | (have q : dL HM = 2 := rfl; clear q HM; intro g3 u3 HM) | (have q : dL HM = 3 := rfl; clear q HM; intro g4 u4 HM) | (have q : dL HM = 4 := rfl; clear q HM; intro g5 u5 HM) | (have q : dL HM = 5 := rfl; clear q HM; intro g6 u6 HM) | (have q : dL HM = 6 := rfl; clear q HM; intro g7 u7 HM) | (have q : dL HM = 7 := rfl; clear q HM; intro g8 u8 HM) | (have q : dL HM = 8 := rfl; clear q HM; intro g9 u9 HM) | (have q : dL HM = 9 := rfl; clear q HM; intro g10 u10 HM) | (have q : dL HM = 10 := rfl; clear q HM; intro g11 u11 HM) | (have q : dL HM = 11 := rfl; clear q HM; intro g12 u12 HM) | (have q : dL HM = 12 := rfl; clear q HM; intro g13 u13 HM) | (have q : dL HM = 13 := rfl; clear q HM; intro g14 u14 HM)) | (refine wl_load rfl _ _ rfl rfl (by exact arrOf) HM (by exact memOf) (by exact lenOf) ?_) | (refine wl_storeM rfl _ _ _ rfl rfl rfl (by exact arrOf) HM (by exact idxOf) (by exact lenOf) (by exact lenOf) ?_; clear HM; intro us HM; dsimp only [List.set] at HM) | (refine wl_zero rfl _ rfl (by exact arrOf) (by kernel_rfl) ?_))
  refine (HT.out _ (HE.out.mem HM.out)).mono ?_
  rintro e w2 ⟨rfl, h1⟩
  have HM2 := Lib.hid (HM.out.below h1)
  clear h1 HM HT
  have HM := HM2
  clear HM2
  go_wp2_with (first | ((first | refine wl_box rfl _ _ rfl rfl HM ?_ | refine wl_alloc rfl _ rfl (by exact arrOf) HM ?_); first | (have q : dL HM = 0 := rfl; clear q HM; intro g1 u1 HM) | (have q : dL HM = 1 := rfl; clear q HM; intro g2 u2 HM) | (have q : dL HM = 2 := rfl; clear q HM; intro g3 u3 HM) | (have q : dL HM = 3 := rfl; clear q HM; intro g4 u4 HM) | (have q : dL HM = 4 := rfl; clear q HM; intro g5 u5 HM) | (have q : dL HM = 5 := rfl; clear q HM; intro g6 u6 HM) | (have q : dL HM = 6 := rfl; clear q HM; intro g7 u7 HM) | (have q : dL HM = 7 := rfl; clear q HM; intro g8 u8 HM) | (have q : dL HM = 8 := rfl; clear q HM; intro g9 u9 HM) | (have q : dL HM = 9 := rfl; clear q HM; intro g10 u10 HM) | (have q : dL HM = 10 := rfl; clear q HM; intro g11 u11 HM) | (have q : dL HM = 11 := rfl; clear q HM; intro g12 u12 HM) | (have q : dL HM = 12 := rfl; clear q HM; intro g13 u13 HM) | (have q : dL HM = 13 := rfl; clear q HM; intro g14 u14 HM)) | (refine wl_load rfl _ _ rfl rfl (by exact arrOf) HM (by exact memOf) (by exact lenOf) ?_) | (refine wl_storeM rfl _ _ _ rfl rfl rfl (by exact arrOf) HM (by exact idxOf) (by exact lenOf) (by exact lenOf) ?_; clear HM; intro us HM; dsimp only [List.set] at HM) | (refine wl_zero rfl _ rfl (by exact arrOf) (by kernel_rfl) ?_))
  go_loopw [28] (fun vi wr => ∃ k : Nat, k ≤ 16 ∧ vi = .int .i64 (k : Int) ∧ Hid (Mem w [(g5, 30, tab 16 (part2 k (prF q S) (fun _ => 0))), (g4, 34, A), (g3, 30, zr 16), (g2, 32, l), (g1, 29, q)] wr)) (fun vi _ => 16 - (intOf vi).toNat)
  case atStart => exact ⟨0, by omega, rfl, Lib.hid (by rw [part2_none, tab_zero]; exact HM.out)⟩
  case round =>
    clear HM
    obtain ⟨k, hk, rfl, HM⟩ := hrel
    by_cases hlt : k < 16
    · have k16 : (k : Int) < 16 := by omega
      have SS := Lib.hid (part2_set (n := 16) (k := k) (prF q S) (fun _ => 0))
      rw [show prF q S k = q.getD k 0 * S.getD k 0 from rfl] at SS
      have hb := HB.out k hlt
      have hix := run_index 29 (n := 16) (by kernel_rfl) S L1.out k hlt
      have c1 := HM.out.cell (.tail _ (.tail _ (.tail _ (.tail _ (.head _))))) (k := k) (by rw [LQ.out]; exact hlt)
      have c5 := HM.out.cell (.head _) (k := k) (by rw [tab_length]; exact hlt)
      have f5 := HM.out.free (.head _) k
      generalize List.getD (tab 16 _) k 0 = o at c5
      generalize q.getD k 0 = x at c1 hb SS
      generalize S.getD k 0 = s at hix hb SS
      have hw : IntKind.i64.wrap (x * s) = x * s := i64_w (by omega) (by omega)
      clear hb
      go_wp2_with fail
      have HM3 := Lib.hid (HM.out.put 0 rfl k (x * s))
      simp only [List.set_cons_zero] at HM3
      rw [SS.out] at HM3
      clear HM c1 c5 f5 hix
      go_roundw
      case rel => exact ⟨k + 1, by omega, by go_num, HM3⟩
      case measure => simp [intOf]; omega
    · obtain rfl : k = 16 := by omega
      rw [part2_all] at HM
      go_wp2_with (first | ((first | refine wl_box rfl _ _ rfl rfl HM ?_ | refine wl_alloc rfl _ rfl (by exact arrOf) HM ?_); first | (have q : dL HM = 0 := rfl; clear q HM; intro g1 u1 HM) | (have q : dL HM = 1 := rfl; clear q HM; intro g2 u2 HM) | (have q : dL HM = 2 := rfl; clear q HM; intro g3 u3 HM) | (have q : dL HM = 3 := rfl; clear q HM; intro g4 u4 HM) | (have q : dL HM = 4 := rfl; clear q HM; intro g5 u5 HM) | (have q : dL HM = 5 := rfl; clear q HM; intro g6 u6 HM) | (have q : dL HM = 6 := rfl; clear q HM; intro g7 u7 HM) | (have q : dL HM = 7 := rfl; clear q HM; intro g8 u8 HM) | (have q : dL HM = 8 := rfl; clear q HM; intro g9 u9 HM) | (have q : dL HM = 9 := rfl; clear q HM; intro g10 u10 HM) | (have q : dL HM = 10 := rfl; clear q HM; intro g11 u11 HM) | (have q : dL HM = 11 := rfl; clear q HM; intro g12 u12 HM) | (have q : dL HM = 12 := rfl; clear q HM; intro g13 u13 HM) | (have q : dL HM = 13 := rfl; clear q HM; intro g14 u14 HM)) | (refine wl_load rfl _ _ rfl rfl (by exact arrOf) HM (by exact memOf) (by exact lenOf) ?_) | (refine wl_storeM rfl _ _ _ rfl rfl rfl (by exact arrOf) HM (by exact idxOf) (by exact lenOf) (by exact lenOf) ?_; clear HM; intro us HM; dsimp only [List.set] at HM) | (refine wl_zero rfl _ rfl (by exact arrOf) (by kernel_rfl) ?_))
      refine (HG.out _).mono ?_
      rintro e w2 ⟨rfl, h1⟩
      have HM2 := Lib.hid (HM.out.below h1)
      clear h1 HM HG
      have HM := HM2
      clear HM2
      go_wp2_with (first | ((first | refine wl_box rfl _ _ rfl rfl HM ?_ | refine wl_alloc rfl _ rfl (by exact arrOf) HM ?_); first | (have q : dL HM = 0 := rfl; clear q HM; intro g1 u1 HM) | (have q : dL HM = 1 := rfl; clear q HM; intro g2 u2 HM) | (have q : dL HM = 2 := rfl; clear q HM; intro g3 u3 HM) | (have q : dL HM = 3 := rfl; clear q HM; intro g4 u4 HM) | (have q : dL HM = 4 := rfl; clear q HM; intro g5 u5 HM) | (have q : dL HM = 5 := rfl; clear q HM; intro g6 u6 HM) | (have q : dL HM = 6 := rfl; clear q HM; intro g7 u7 HM) | (have q : dL HM = 7 := rfl; clear q HM; intro g8 u8 HM) | (have q : dL HM = 8 := rfl; clear q HM; intro g9 u9 HM) | (have q : dL HM = 9 := rfl; clear q HM; intro g10 u10 HM) | (have q : dL HM = 10 := rfl; clear q HM; intro g11 u11 HM) | (have q : dL HM = 11 := rfl; clear q HM; intro g12 u12 HM) | (have q : dL HM = 12 := rfl; clear q HM; intro g13 u13 HM) | (have q : dL HM = 13 := rfl; clear q HM; intro g14 u14 HM)) | (refine wl_load rfl _ _ rfl rfl (by exact arrOf) HM (by exact memOf) (by exact lenOf) ?_) | (refine wl_storeM rfl _ _ _ rfl rfl rfl (by exact arrOf) HM (by exact idxOf) (by exact lenOf) (by exact lenOf) ?_; clear HM; intro us HM; dsimp only [List.set] at HM) | (refine wl_zero rfl _ rfl (by exact arrOf) (by kernel_rfl) ?_))
      refine bodyPost_ret (v := .tuple #[.agg (icells V), .int .i64 0]) (res_two rfl _ rfl rfl arrSpec HM (by exact memOf) L5) rfl ⟨rfl, HM.out.1⟩
theorem qgreat_any (q l : List Int) (w : World) (lq : q.length = 16) (ll : l.length = 6) (he : Edg w) :
    Calls Tryd.prog 18 #[.agg (icells q), .agg (icells l)] w (ValQ w (greatV q l)) := by
  unfold greatV
  cases h : mayB q l with
  | true => rw [if_pos rfl]; exact qgreat_good q l w lq ll he h
  | false => rw [if_neg Bool.false_ne_true]; exact qgreat_bad q l w lq ll he h
end Go.Proofs.YtcnckamocbaceaaDoor.Lp
/- Qv -/
namespace Go.Proofs.YtcnckamocbaceaaDoor.Lp
open Go.RowKit Go.Proofs.YtcnckamocbaceaaDoor.Fx Go.Proofs.YtcnckamocbaceaaDoor.Fq Go.Proofs.YtcnckamocbaceaaDoor.Tb
/-- a number of the noise, ahead of the hold -/
def nrF (t : Int) (l : List Int) (n : Nat) : Int := roundI ((seedN t (n + 1) / 65536 - 32768) * (pkL l).getD n 0) 18
theorem nr_is (t : Int) (l : List Int) {n : Nat} (h : n < 16) : nrF t l n = roundI ((seedN t (n + 1) / 65536 - 32768) * pkB l (bnd n)) 18 := by
  unfold nrF pkL; rw [tab_getD _ h]
theorem bd_nr (t : Int) (l : List Int) : bdL (tab 16 (nrF t l)) = noiseL t l := tab_congr fun n hn => by
  show clampI ((tab 16 (nrF t l)).getD n 0) 67108864 = noiseF t l n
  rw [tab_getD _ hn, nr_is t l hn]
  unfold noiseF pkB noiseR
  split
  · rfl
  · rw [Int.mul_zero]; decide
theorem pk_bd {l : List Int} (h : chkL l = true) (k : Nat) (hk : k < 16) : 0 ≤ (pkL l).getD k 0 ∧ (pkL l).getD k 0 ≤ 4026531841 := by
  unfold pkL
  rw [tab_getD _ hk]
  unfold pkB
  have hl := inR_bd h (by omega) (by omega) (bnd k)
  split
  · have := peakN_bd (l.getD (bnd k) 0).toNat (by omega)
    omega
  · omega
set_option maxRecDepth 100000 in
set_option maxHeartbeats 4000000 in
theorem qnoise_bad (t : Int) (l : List Int) (w : World) (ll : l.length = 6) (hc : chkL l = false) :
    Calls Tryd.prog 20 #[.int .u32 t, .agg (icells l)] w (ValQ w (.tuple #[.agg (icells (zr 16)), .int .u32 0, .int .i64 1])) := by
  have LL := Lib.hid ll
  have LY := Lib.hid (zr_length 16)
  have HM := Lib.hid (Mem.start w)
  have HC := Lib.hid (fun u => bcheck_any l false 1 u ll hc rfl)
  clear ll hc
  go_enter Tryd.func20, Tryd.ntmps20
  go_wp2_with (first | ((first | refine wl_box rfl _ _ rfl rfl HM ?_ | refine wl_alloc rfl _ rfl (by exact arrOf) HM ?_); first | (have q : dL HM = 0 := rfl; clear q HM; intro g1 u1 HM) | (have q : dL HM = 1 := rfl; clear q HM; intro g2 u2 HM) | (have q : dL HM = 2 := rfl; clear q HM; intro g3 u3 HM) | (have q : dL HM = 3 := rfl; clear q HM; intro g4 u4 HM) | (have q : dL HM = 4 := rfl; clear q HM; intro g5 u5 HM) | (have q : dL HM = 5 := rfl; clear q HM; intro g6 u6 HM) | (have q : dL HM = 6 := rfl; clear q HM; intro g7 u7 HM) | (have q : dL HM = 7 := rfl; clear q HM; intro g8 u8 HM) | (have q : dL HM = 8 := rfl; clear q HM; intro g9 u9 HM) | (have q : dL HM = 9 := rfl; clear q HM; intro g10 u10 HM) | (have q : dL HM = 10 := rfl; clear q HM; intro g11 u11 HM) | (have q : dL HM = 11 := rfl; clear q HM; intro g12 u12 HM) | (have q : dL HM = 12 := rfl; clear q HM; intro g13 u13 HM) | (have q : dL HM = 13 := rfl; clear q HM; intro g14 u14 HM)) | (refine wl_load rfl _ _ rfl rfl (by exact arrOf) HM (by exact memOf) (by exact lenOf) ?_) | (refine wl_storeM rfl _ _ _ rfl rfl rfl (by exact arrOf) HM (by exact idxOf) (by exact lenOf) (by exact lenOf) ?_; clear HM; intro us HM; dsimp only [List.set] at HM) | (refine wl_zero rfl _ rfl (by exact arrOf) (by kernel_rfl) ?_))
  refine (HC.out _).mono ?_
  rintro e w2 ⟨rfl, h1⟩
  have HM2 := Lib.hid (HM.out.below h1)
  clear h1 HM HC
  have HM := HM2
  clear HM2
  go_wp2_with (first | ((first | refine wl_box rfl _ _ rfl rfl HM ?_ | refine wl_alloc rfl _ rfl (by exact arrOf) HM ?_); first | (have q : dL HM = 0 := rfl; clear q HM; intro g1 u1 HM) | (have q : dL HM = 1 := rfl; clear q HM; intro g2 u2 HM) | (have q : dL HM = 2 := rfl; clear q HM; intro g3 u3 HM) | (have q : dL HM = 3 := rfl; clear q HM; intro g4 u4 HM) | (have q : dL HM = 4 := rfl; clear q HM; intro g5 u5 HM) | (have q : dL HM = 5 := rfl; clear q HM; intro g6 u6 HM) | (have q : dL HM = 6 := rfl; clear q HM; intro g7 u7 HM) | (have q : dL HM = 7 := rfl; clear q HM; intro g8 u8 HM) | (have q : dL HM = 8 := rfl; clear q HM; intro g9 u9 HM) | (have q : dL HM = 9 := rfl; clear q HM; intro g10 u10 HM) | (have q : dL HM = 10 := rfl; clear q HM; intro g11 u11 HM) | (have q : dL HM = 11 := rfl; clear q HM; intro g12 u12 HM) | (have q : dL HM = 12 := rfl; clear q HM; intro g13 u13 HM) | (have q : dL HM = 13 := rfl; clear q HM; intro g14 u14 HM)) | (refine wl_load rfl _ _ rfl rfl (by exact arrOf) HM (by exact memOf) (by exact lenOf) ?_) | (refine wl_storeM rfl _ _ _ rfl rfl rfl (by exact arrOf) HM (by exact idxOf) (by exact lenOf) (by exact lenOf) ?_; clear HM; intro us HM; dsimp only [List.set] at HM) | (refine wl_zero rfl _ rfl (by exact arrOf) (by kernel_rfl) ?_))
  refine bodyPost_ret (v := .tuple #[.agg (icells (zr 16)), .int .u32 0, .int .i64 1]) (res_css rfl _ rfl rfl rfl arrSpec HM (by exact memOf) LY) rfl ⟨rfl, HM.out.1⟩
set_option maxRecDepth 100000 in
set_option maxHeartbeats 8000000 in
theorem qnoise_good (t : Int) (l : List Int) (w : World) (ht : 0 ≤ t ∧ t < 4294967296) (ll : l.length = 6) (hc : chkL l = true) (he : Edg w) :
    Calls Tryd.prog 20 #[.int .u32 t, .agg (icells l)] w (ValQ w (.tuple #[.agg (icells (noiseL t l)), .int .u32 (seedN t 16), .int .i64 0])) := by
  have LL := Lib.hid ll
  have HE := Lib.hid he
  have LY := Lib.hid (zr_length 16)
  have HM := Lib.hid (Mem.start w)
  have HC := Lib.hid (fun u => bcheck_any l true 0 u ll hc rfl)
  have HP := Lib.hid (fun u (hu : Edg u) => qpeaks_any l u ll (fun k => inR_bd hc (by omega) (by omega) k) hu)
  have HB := Lib.hid (pk_bd hc)
  have LP := Lib.hid (show (pkL l).length = 16 from tab_length _ _)
  have HT := Lib.hid (seedN_bd ht)
  have HG := Lib.hid (fun u => qbounded_any (tab 16 (nrF t l)) u (tab_length _ _))
  rw [bd_nr] at HG
  have HN := Lib.hid (fun n => (show nrF t l n = roundI ((seedN t (n + 1) / 65536 - 32768) * (pkL l).getD n 0) 18 from rfl))
  have L5 := Lib.hid (show (noiseL t l).length = 16 from tab_length _ _)
  have L6 := Lib.hid (tab_length 16 (nrF t l))
  generalize noiseL t l = V at HG L5
  generalize pkL l = P at HP HB LP HN
  clear ll hc ht he
  go_enter Tryd.func20, Tryd.ntmps20
  go_wp2_with (first | ((first | refine wl_box rfl _ _ rfl rfl HM ?_ | refine wl_alloc rfl _ rfl (by exact arrOf) HM ?_); first | (have q : dL HM = 0 := rfl; clear q HM; intro g1 u1 HM) | (have q : dL HM = 1 := rfl; clear q HM; intro g2 u2 HM) | (have q : dL HM = 2 := rfl; clear q HM; intro g3 u3 HM) | (have q : dL HM = 3 := rfl; clear q HM; intro g4 u4 HM) | (have q : dL HM = 4 := rfl; clear q HM; intro g5 u5 HM) | (have q : dL HM = 5 := rfl; clear q HM; intro g6 u6 HM) | (have q : dL HM = 6 := rfl; clear q HM; intro g7 u7 HM) | (have q : dL HM = 7 := rfl; clear q HM; intro g8 u8 HM) | (have q : dL HM = 8 := rfl; clear q HM; intro g9 u9 HM) | (have q : dL HM = 9 := rfl; clear q HM; intro g10 u10 HM) | (have q : dL HM = 10 := rfl; clear q HM; intro g11 u11 HM) | (have q : dL HM = 11 := rfl; clear q HM; intro g12 u12 HM) | (have q : dL HM = 12 := rfl; clear q HM; intro g13 u13 HM) | (have q : dL HM = 13 := rfl; clear q HM; intro g14 u14 HM)) | (refine wl_load rfl _ _ rfl rfl (by exact arrOf) HM (by exact memOf) (by exact lenOf) ?_) | (refine wl_storeM rfl _ _ _ rfl rfl rfl (by exact arrOf) HM (by exact idxOf) (by exact lenOf) (by exact lenOf) ?_; clear HM; intro us HM; dsimp only [List.set] at HM) | (refine wl_zero rfl _ rfl (by exact arrOf) (by kernel_rfl) ?_))
  refine (HC.out _).mono ?_
  rintro e w2 ⟨rfl, h1⟩
  have HM2 := Lib.hid (HM.out.below h1)
  clear h1 HM HC
  have HM := HM2
  clear HM2
  go_wp2_with (first | ((first | refine wl_box rfl _ _ rfl rfl HM ?_ | refine wl_alloc rfl _ rfl (by exact arrOf) HM ?_); first | (have q : dL HM = 0 := rfl; clear q HM; intro g1 u1 HM) | (have q : dL HM = 1 := rfl; clear q HM; intro g2 u2 HM) | (have q : dL HM = 2 := rfl; clear q HM; intro g3 u3 HM) | (have q : dL HM = 3 := rfl; clear q HM; intro g4 u4 HM) | (have q : dL HM = 4 := rfl; clear q HM; intro g5 u5 HM) | (have q : dL HM = 5 := rfl; clear q HM; intro g6 u6 HM) | (have q : dL HM = 6 := rfl; clear q HM; intro g7 u7 HM) | (have q : dL HM = 7 := rfl; clear q HM; intro g8 u8 HM) | (have q : dL HM = 8 := rfl; clear q HM; intro g9 u9 HM) | (have q : dL HM = 9 := rfl; clear q HM; intro g10 u10 HM) | (have q : dL HM = 10 := rfl; clear q HM; intro g11 u11 HM) | (have q : dL HM = 11 := rfl; clear q HM; intro g12 u12 HM) | (have q : dL HM = 12 := rfl; clear q HM; intro g13 u13 HM) | (have q : dL HM = 13 := rfl; clear q HM; intro g14 u14 HM)) | (refine wl_load rfl _ _ rfl rfl (by exact arrOf) HM (by exact memOf) (by exact lenOf) ?_) | (refine wl_storeM rfl _ _ _ rfl rfl rfl (by exact arrOf) HM (by exact idxOf) (by exact lenOf) (by exact lenOf) ?_; clear HM; intro us HM; dsimp only [List.set] at HM) | (refine wl_zero rfl _ rfl (by exact arrOf) (by kernel_rfl) ?_))
  refine (HP.out _ (HE.out.mem HM.out)).mono ?_
  rintro e w2 ⟨rfl, h1⟩
  have HM2 := Lib.hid (HM.out.below h1)
  clear h1 HM HP
  have HM := HM2
  clear HM2
  go_wp2_with (first | ((first | refine wl_box rfl _ _ rfl rfl HM ?_ | refine wl_alloc rfl _ rfl (by exact arrOf) HM ?_); first | (have q : dL HM = 0 := rfl; clear q HM; intro g1 u1 HM) | (have q : dL HM = 1 := rfl; clear q HM; intro g2 u2 HM) | (have q : dL HM = 2 := rfl; clear q HM; intro g3 u3 HM) | (have q : dL HM = 3 := rfl; clear q HM; intro g4 u4 HM) | (have q : dL HM = 4 := rfl; clear q HM; intro g5 u5 HM) | (have q : dL HM = 5 := rfl; clear q HM; intro g6 u6 HM) | (have q : dL HM = 6 := rfl; clear q HM; intro g7 u7 HM) | (have q : dL HM = 7 := rfl; clear q HM; intro g8 u8 HM) | (have q : dL HM = 8 := rfl; clear q HM; intro g9 u9 HM) | (have q : dL HM = 9 := rfl; clear q HM; intro g10 u10 HM) | (have q : dL HM = 10 := rfl; clear q HM; intro g11 u11 HM) | (have q : dL HM = 11 := rfl; clear q HM; intro g12 u12 HM) | (have q : dL HM = 12 := rfl; clear q HM; intro g13 u13 HM) | (have q : dL HM = 13 := rfl; clear q HM; intro g14 u14 HM)) | (refine wl_load rfl _ _ rfl rfl (by exact arrOf) HM (by exact memOf) (by exact lenOf) ?_) | (refine wl_storeM rfl _ _ _ rfl rfl rfl (by exact arrOf) HM (by exact idxOf) (by exact lenOf) (by exact lenOf) ?_; clear HM; intro us HM; dsimp only [List.set] at HM) | (refine wl_zero rfl _ rfl (by exact arrOf) (by kernel_rfl) ?_))
  go_loopw [0, 16] (fun vs vi wr => ∃ k : Nat, k ≤ 16 ∧ vi = .int .i64 (k : Int) ∧ vs = .int .u32 (seedN t k) ∧ Hid (Mem w [(g3, 30, tab 16 (part2 k (nrF t l) (fun _ => 0))), (g2, 30, zr 16), (g1, 32, l)] wr)) (fun _ vi _ => 16 - (intOf vi).toNat)
  case atStart => exact ⟨0, by omega, rfl, rfl, Lib.hid (by rw [part2_none, tab_zero]; exact HM.out)⟩
  case round =>
    clear HM
    obtain ⟨k, hk, rfl, rfl, HM⟩ := hrel
    by_cases hlt : k < 16
    · have k16 : (k : Int) < 16 := by omega
      have SS := Lib.hid (part2_set (n := 16) (k := k) (nrF t l) (fun _ => 0))
      have hb := HB.out k hlt
      have hix := run_index 29 (n := 16) (by kernel_rfl) P LP.out k hlt
      rw [HN.out k] at SS
      have t2 := HT.out (k + 1)
      have HX := Lib.hid (fun u => qnext_any (seedN t k) u)
      rw [← seedN_succ t k] at HX
      obtain ⟨t', ht'⟩ : ∃ x, seedN t (k + 1) = x := ⟨_, rfl⟩
      rw [ht'] at t2 SS HX
      have HT' := Lib.hid ht'
      clear ht'
      generalize seedN t k = t0 at HX
      generalize P.getD k 0 = p at hix hb SS
      obtain ⟨t21, t22⟩ := t2
      have hv := mulq_bd (a := t' / 65536 - 32768) (b := p) (m := 32768) (n := 4026531841) (by omega) (by omega) hb.1 hb.2 (by decide)
      have HS := Lib.hid (fun u => qswing_any t' u t21 t22)
      have hw : IntKind.i64.wrap ((t' / 65536 - 32768) * p) = (t' / 65536 - 32768) * p := i64_w (by omega) (by omega)
      have HR := Lib.hid (fun u => round_any ((t' / 65536 - 32768) * p) 18 u (by omega))
      generalize t' / 65536 - 32768 = y at HS hw HR SS
      generalize roundI (y * p) 18 = r at SS HR
      clear hv hb t21 t22
      have c3 := HM.out.cell (.head _) (k := k) (by rw [tab_length]; exact hlt)
      have f3 := HM.out.free (.head _) k
      generalize List.getD (tab 16 _) k 0 = o at c3
      go_wp2_with fail
      refine (HX.out _).mono ?_
      rintro e wb ⟨rfl, rfl⟩
      go_wp2_with fail
      refine (HS.out _).mono ?_
      rintro e wb ⟨rfl, rfl⟩
      go_wp2_with fail
      refine (HR.out _).mono ?_
      rintro e wb ⟨rfl, rfl⟩
      clear hw hix
      go_wp2_with fail
      have HM3 := Lib.hid (HM.out.put 0 rfl k r)
      simp only [List.set_cons_zero] at HM3
      rw [SS.out] at HM3
      clear HM c3 f3
      go_roundw
      case rel => exact ⟨k + 1, by omega, by go_num, by rw [HT'.out], HM3⟩
      case measure => simp [intOf]; omega
    · obtain rfl : k = 16 := by omega
      rw [part2_all] at HM
      go_wp2_with (first | ((first | refine wl_box rfl _ _ rfl rfl HM ?_ | refine wl_alloc rfl _ rfl (by exact arrOf) HM ?_); first | (have q : dL HM = 0 := rfl; clear q HM; intro g1 u1 HM) | (have q : dL HM = 1 := rfl; clear q HM; intro g2 u2 HM) | (have q : dL HM = 2 := rfl; clear q HM; intro g3 u3 HM) | (have q : dL HM = 3 := rfl; clear q HM; intro g4 u4 HM) | (have q : dL HM = 4 := rfl; clear q HM; intro g5 u5 HM) | (have q : dL HM = 5 := rfl; clear q HM; intro g6 u6 HM) | (have q : dL HM = 6 := rfl; clear q HM; intro g7 u7 HM) | (have q : dL HM = 7 := rfl; clear q HM; intro g8 u8 HM) | (have q : dL HM = 8 := rfl; clear q HM; intro g9 u9 HM) | (have q : dL HM = 9 := rfl; clear q HM; intro g10 u10 HM) | (have q : dL HM = 10 := rfl; clear q HM; intro g11 u11 HM) | (have q : dL HM = 11 := rfl; clear q HM; intro g12 u12 HM) | (have q : dL HM = 12 := rfl; clear q HM; intro g13 u13 HM) | (have q : dL HM = 13 := rfl; clear q HM; intro g14 u14 HM)) | (refine wl_load rfl _ _ rfl rfl (by exact arrOf) HM (by exact memOf) (by exact lenOf) ?_) | (refine wl_storeM rfl _ _ _ rfl rfl rfl (by exact arrOf) HM (by exact idxOf) (by exact lenOf) (by exact lenOf) ?_; clear HM; intro us HM; dsimp only [List.set] at HM) | (refine wl_zero rfl _ rfl (by exact arrOf) (by kernel_rfl) ?_))
      refine (HG.out _).mono ?_
      rintro e w2 ⟨rfl, h1⟩
      have HM2 := Lib.hid (HM.out.below h1)
      clear h1 HM HG
      have HM := HM2
      clear HM2
      go_wp2_with (first | ((first | refine wl_box rfl _ _ rfl rfl HM ?_ | refine wl_alloc rfl _ rfl (by exact arrOf) HM ?_); first | (have q : dL HM = 0 := rfl; clear q HM; intro g1 u1 HM) | (have q : dL HM = 1 := rfl; clear q HM; intro g2 u2 HM) | (have q : dL HM = 2 := rfl; clear q HM; intro g3 u3 HM) | (have q : dL HM = 3 := rfl; clear q HM; intro g4 u4 HM) | (have q : dL HM = 4 := rfl; clear q HM; intro g5 u5 HM) | (have q : dL HM = 5 := rfl; clear q HM; intro g6 u6 HM) | (have q : dL HM = 6 := rfl; clear q HM; intro g7 u7 HM) | (have q : dL HM = 7 := rfl; clear q HM; intro g8 u8 HM) | (have q : dL HM = 8 := rfl; clear q HM; intro g9 u9 HM) | (have q : dL HM = 9 := rfl; clear q HM; intro g10 u10 HM) | (have q : dL HM = 10 := rfl; clear q HM; intro g11 u11 HM) | (have q : dL HM = 11 := rfl; clear q HM; intro g12 u12 HM) | (have q : dL HM = 12 := rfl; clear q HM; intro g13 u13 HM) | (have q : dL HM = 13 := rfl; clear q HM; intro g14 u14 HM)) | (refine wl_load rfl _ _ rfl rfl (by exact arrOf) HM (by exact memOf) (by exact lenOf) ?_) | (refine wl_storeM rfl _ _ _ rfl rfl rfl (by exact arrOf) HM (by exact idxOf) (by exact lenOf) (by exact lenOf) ?_; clear HM; intro us HM; dsimp only [List.set] at HM) | (refine wl_zero rfl _ rfl (by exact arrOf) (by kernel_rfl) ?_))
      refine bodyPost_ret (v := .tuple #[.agg (icells V), .int .u32 (seedN t 16), .int .i64 0]) (res_css rfl _ rfl rfl rfl arrSpec HM (by exact memOf) L5) rfl ⟨rfl, HM.out.1⟩
theorem qnoise_any (t : Int) (l : List Int) (w : World) (ht : 0 ≤ t ∧ t < 4294967296) (ll : l.length = 6) (he : Edg w) :
    Calls Tryd.prog 20 #[.int .u32 t, .agg (icells l)] w (ValQ w (noiseV t l)) := by
  unfold noiseV
  cases h : chkL l with
  | true => rw [if_pos rfl]; exact qnoise_good t l w ht ll h he
  | false => rw [if_neg Bool.false_ne_true]; exact qnoise_bad t l w ll h
end Go.Proofs.YtcnckamocbaceaaDoor.Lp
/- Qx -/
namespace Go.Proofs.YtcnckamocbaceaaDoor.Lp
open Go.RowKit Go.Proofs.YtcnckamocbaceaaDoor.Fx Go.Proofs.YtcnckamocbaceaaDoor.Fq Go.Proofs.YtcnckamocbaceaaDoor.Tb
theorem bdL_iff {x : List Int} (lx : x.length = 16) : bdL x = x ↔ okX x = true := by
  constructor
  · intro h
    refine (inR_iff lx).2 fun k hk => ?_
    have h1 : (bdL x).getD k 0 = x.getD k 0 := by rw [h]
    unfold bdL at h1
    rw [tab_getD _ hk] at h1
    unfold clampI at h1
    omega
  · intro h
    refine (tab_congr (g := fun i => x.getD i 0) fun k hk => ?_).trans (tab_self lx)
    have h1 := inR_bd h (by omega) (by omega) k
    unfold clampI
    omega
/-- the quotients, ahead of the hold -/
def dvF (x s : List Int) (n : Nat) : Int := if 0 < s.getD n 0 then divI (x.getD n 0) (s.getD n 0) else 0
theorem dvF_is (x s : List Int) (n : Nat) : dvF x s n = if 0 < s.getD n 0 then divI (x.getD n 0) (s.getD n 0) else 0 := rfl
theorem hc_dv {x s m : List Int} (hm : ∀ k, k < 16 → 0 ≤ m.getD k 0) : hcL (tab 16 (dvF x s)) m = tab 16 (smallF x s m) := tab_congr fun n hn => by
  have h := hm n hn
  unfold hcF
  rw [tab_getD _ hn, dvF_is, smallF_is]
  unfold clampI
  split
  · rfl
  · omega
set_option maxRecDepth 100000 in
set_option maxHeartbeats 4000000 in
theorem qsmall_bad1 (x l : List Int) (w : World) (lx : x.length = 16) (ll : l.length = 6) (he : Edg w) (hc : chkL l = false) :
    Calls Tryd.prog 16 #[.agg (icells x), .agg (icells l)] w (ValQ w (.tuple #[.agg (icells (zr 16)), .agg (icells (zr 6)), .int .i64 1])) := by
  have LX := Lib.hid lx
  have LL := Lib.hid ll
  have HE := Lib.hid he
  have LZ := Lib.hid (zr_length 6)
  have LY := Lib.hid (zr_length 16)
  have HM := Lib.hid (Mem.start w)
  have HC := Lib.hid (fun u (hu : Edg u) => bshare_any l 120 u ll hu)
  rw [share_vno l hc] at HC
  clear lx ll he hc
  go_enter Tryd.func16, Tryd.ntmps16
  go_wp2_with (first | ((first | refine wl_box rfl _ _ rfl rfl HM ?_ | refine wl_alloc rfl _ rfl (by exact arrOf) HM ?_); first | (have q : dL HM = 0 := rfl; clear q HM; intro g1 u1 HM) | (have q : dL HM = 1 := rfl; clear q HM; intro g2 u2 HM) | (have q : dL HM = 2 := rfl; clear q HM; intro g3 u3 HM) | (have q : dL HM = 3 := rfl; clear q HM; intro g4 u4 HM) | (have q : dL HM = 4 := rfl; clear q HM; intro g5 u5 HM) | (have q : dL HM = 5 := rfl; clear q HM; intro g6 u6 HM) | (have q : dL HM = 6 := rfl; clear q HM; intro g7 u7 HM) | (have q : dL HM = 7 := rfl; clear q HM; intro g8 u8 HM) | (have q : dL HM = 8 := rfl; clear q HM; intro g9 u9 HM) | (have q : dL HM = 9 := rfl; clear q HM; intro g10 u10 HM) | (have q : dL HM = 10 := rfl; clear q HM; intro g11 u11 HM) | (have q : dL HM = 11 := rfl; clear q HM; intro g12 u12 HM) | (have q : dL HM = 12 := rfl; clear q HM; intro g13 u13 HM) | (have q : dL HM = 13 := rfl; clear q HM; intro g14 u14 HM)) | (refine wl_load rfl _ _ rfl rfl (by exact arrOf) HM (by exact memOf) (by exact lenOf) ?_) | (refine wl_storeM rfl _ _ _ rfl rfl rfl (by exact arrOf) HM (by exact idxOf) (by exact lenOf) (by exact lenOf) ?_; clear HM; intro us HM; dsimp only [List.set] at HM) | (refine wl_zero rfl _ rfl (by exact arrOf) (by kernel_rfl) ?_))
  refine (HC.out _ (HE.out.mem HM.out)).mono ?_
  rintro e w2 ⟨rfl, h1⟩
  have HM2 := Lib.hid (HM.out.below h1)
  clear h1 HM HC
  have HM := HM2
  clear HM2
  go_wp2_with (first | ((first | refine wl_box rfl _ _ rfl rfl HM ?_ | refine wl_alloc rfl _ rfl (by exact arrOf) HM ?_); first | (have q : dL HM = 0 := rfl; clear q HM; intro g1 u1 HM) | (have q : dL HM = 1 := rfl; clear q HM; intro g2 u2 HM) | (have q : dL HM = 2 := rfl; clear q HM; intro g3 u3 HM) | (have q : dL HM = 3 := rfl; clear q HM; intro g4 u4 HM) | (have q : dL HM = 4 := rfl; clear q HM; intro g5 u5 HM) | (have q : dL HM = 5 := rfl; clear q HM; intro g6 u6 HM) | (have q : dL HM = 6 := rfl; clear q HM; intro g7 u7 HM) | (have q : dL HM = 7 := rfl; clear q HM; intro g8 u8 HM) | (have q : dL HM = 8 := rfl; clear q HM; intro g9 u9 HM) | (have q : dL HM = 9 := rfl; clear q HM; intro g10 u10 HM) | (have q : dL HM = 10 := rfl; clear q HM; intro g11 u11 HM) | (have q : dL HM = 11 := rfl; clear q HM; intro g12 u12 HM) | (have q : dL HM = 12 := rfl; clear q HM; intro g13 u13 HM) | (have q : dL HM = 13 := rfl; clear q HM; intro g14 u14 HM)) | (refine wl_load rfl _ _ rfl rfl (by exact arrOf) HM (by exact memOf) (by exact lenOf) ?_) | (refine wl_storeM rfl _ _ _ rfl rfl rfl (by exact arrOf) HM (by exact idxOf) (by exact lenOf) (by exact lenOf) ?_; clear HM; intro us HM; dsimp only [List.set] at HM) | (refine wl_zero rfl _ rfl (by exact arrOf) (by kernel_rfl) ?_))
  go_quiet (fail)
  have HM2 := Lib.hid (HM.out.drewN nq)
  clear HM
  have HM := HM2
  clear HM2
  generalize World.drewN _ _ = wd at HM ⊢
  go_wp2_with (first | ((first | refine wl_box rfl _ _ rfl rfl HM ?_ | refine wl_alloc rfl _ rfl (by exact arrOf) HM ?_); first | (have q : dL HM = 0 := rfl; clear q HM; intro g1 u1 HM) | (have q : dL HM = 1 := rfl; clear q HM; intro g2 u2 HM) | (have q : dL HM = 2 := rfl; clear q HM; intro g3 u3 HM) | (have q : dL HM = 3 := rfl; clear q HM; intro g4 u4 HM) | (have q : dL HM = 4 := rfl; clear q HM; intro g5 u5 HM) | (have q : dL HM = 5 := rfl; clear q HM; intro g6 u6 HM) | (have q : dL HM = 6 := rfl; clear q HM; intro g7 u7 HM) | (have q : dL HM = 7 := rfl; clear q HM; intro g8 u8 HM) | (have q : dL HM = 8 := rfl; clear q HM; intro g9 u9 HM) | (have q : dL HM = 9 := rfl; clear q HM; intro g10 u10 HM) | (have q : dL HM = 10 := rfl; clear q HM; intro g11 u11 HM) | (have q : dL HM = 11 := rfl; clear q HM; intro g12 u12 HM) | (have q : dL HM = 12 := rfl; clear q HM; intro g13 u13 HM) | (have q : dL HM = 13 := rfl; clear q HM; intro g14 u14 HM)) | (refine wl_load rfl _ _ rfl rfl (by exact arrOf) HM (by exact memOf) (by exact lenOf) ?_) | (refine wl_storeM rfl _ _ _ rfl rfl rfl (by exact arrOf) HM (by exact idxOf) (by exact lenOf) (by exact lenOf) ?_; clear HM; intro us HM; dsimp only [List.set] at HM) | (refine wl_zero rfl _ rfl (by exact arrOf) (by kernel_rfl) ?_))
  refine bodyPost_ret (v := .tuple #[.agg (icells (zr 16)), .agg (icells (zr 6)), .int .i64 1]) (res_three rfl _ rfl rfl rfl arrHop arrAll HM (by exact memOf) (by exact memOf) LY LZ) rfl ⟨rfl, HM.out.1⟩
set_option maxRecDepth 100000 in
set_option maxHeartbeats 4000000 in
theorem qsmall_bad2 (x l : List Int) (w : World) (lx : x.length = 16) (ll : l.length = 6) (he : Edg w) (hc : chkL l = true) (hx : okX x = false) :
    Calls Tryd.prog 16 #[.agg (icells x), .agg (icells l)] w (ValQ w (.tuple #[.agg (icells (zr 16)), .agg (icells (zr 6)), .int .i64 1])) := by
  have LX := Lib.hid lx
  have LL := Lib.hid ll
  have HE := Lib.hid he
  have LZ := Lib.hid (zr_length 6)
  have LY := Lib.hid (zr_length 16)
  have HM := Lib.hid (Mem.start w)
  have HC := Lib.hid (fun u (hu : Edg u) => bshare_any l 120 u ll hu)
  rw [share_v l hc] at HC
  have LA := Lib.hid (share_ok l (B := 120) (by decide)).1.1
  generalize shareL l 120 = A at HC LA
  have HG := Lib.hid (fun u => qbounded_any x u lx)
  have L7 := Lib.hid (bdL_length x)
  have hgd := grdSpec
  have heq := fun u => run_equalIn_diff 30 (n := 16) (by kernel_rfl) (bdL x) x L7.out lx (fun e => by rw [(bdL_iff lx).1 e] at hx; cases hx) u
  generalize bdL x = X at HG L7 heq
  clear lx ll he hc hx
  go_enter Tryd.func16, Tryd.ntmps16
  go_wp2_with (first | ((first | refine wl_box rfl _ _ rfl rfl HM ?_ | refine wl_alloc rfl _ rfl (by exact arrOf) HM ?_); first | (have q : dL HM = 0 := rfl; clear q HM; intro g1 u1 HM) | (have q : dL HM = 1 := rfl; clear q HM; intro g2 u2 HM) | (have q : dL HM = 2 := rfl; clear q HM; intro g3 u3 HM) | (have q : dL HM = 3 := rfl; clear q HM; intro g4 u4 HM) | (have q : dL HM = 4 := rfl; clear q HM; intro g5 u5 HM) | (have q : dL HM = 5 := rfl; clear q HM; intro g6 u6 HM) | (have q : dL HM = 6 := rfl; clear q HM; intro g7 u7 HM) | (have q : dL HM = 7 := rfl; clear q HM; intro g8 u8 HM) | (have q : dL HM = 8 := rfl; clear q HM; intro g9 u9 HM) | (have q : dL HM = 9 := rfl; clear q HM; intro g10 u10 HM) | (have q : dL HM = 10 := rfl; clear q HM; intro g11 u11 HM) | (have q : dL HM = 11 := rfl; clear q HM; intro g12 u12 HM) | (have q : dL HM = 12 := rfl; clear q HM; intro g13 u13 HM) | (have q : dL HM = 13 := rfl; clear q HM; intro g14 u14 HM)) | (refine wl_load rfl _ _ rfl rfl (by exact arrOf) HM (by exact memOf) (by exact lenOf) ?_) | (refine wl_storeM rfl _ _ _ rfl rfl rfl (by exact arrOf) HM (by exact idxOf) (by exact lenOf) (by exact lenOf) ?_; clear HM; intro us HM; dsimp only [List.set] at HM) | (refine wl_zero rfl _ rfl (by exact arrOf) (by kernel_rfl) ?_))
  refine (HC.out _ (HE.out.mem HM.out)).mono ?_
  rintro e w2 ⟨rfl, h1⟩
  have HM2 := Lib.hid (HM.out.below h1)
  clear h1 HM HC
  have HM := HM2
  clear HM2
  go_wp2_with (first | ((first | refine wl_box rfl _ _ rfl rfl HM ?_ | refine wl_alloc rfl _ rfl (by exact arrOf) HM ?_); first | (have q : dL HM = 0 := rfl; clear q HM; intro g1 u1 HM) | (have q : dL HM = 1 := rfl; clear q HM; intro g2 u2 HM) | (have q : dL HM = 2 := rfl; clear q HM; intro g3 u3 HM) | (have q : dL HM = 3 := rfl; clear q HM; intro g4 u4 HM) | (have q : dL HM = 4 := rfl; clear q HM; intro g5 u5 HM) | (have q : dL HM = 5 := rfl; clear q HM; intro g6 u6 HM) | (have q : dL HM = 6 := rfl; clear q HM; intro g7 u7 HM) | (have q : dL HM = 7 := rfl; clear q HM; intro g8 u8 HM) | (have q : dL HM = 8 := rfl; clear q HM; intro g9 u9 HM) | (have q : dL HM = 9 := rfl; clear q HM; intro g10 u10 HM) | (have q : dL HM = 10 := rfl; clear q HM; intro g11 u11 HM) | (have q : dL HM = 11 := rfl; clear q HM; intro g12 u12 HM) | (have q : dL HM = 12 := rfl; clear q HM; intro g13 u13 HM) | (have q : dL HM = 13 := rfl; clear q HM; intro g14 u14 HM)) | (refine wl_load rfl _ _ rfl rfl (by exact arrOf) HM (by exact memOf) (by exact lenOf) ?_) | (refine wl_storeM rfl _ _ _ rfl rfl rfl (by exact arrOf) HM (by exact idxOf) (by exact lenOf) (by exact lenOf) ?_; clear HM; intro us HM; dsimp only [List.set] at HM) | (refine wl_zero rfl _ rfl (by exact arrOf) (by kernel_rfl) ?_))
  refine wp_region_held_drew (S := Mem w [(g2, 32, l), (g1, 30, x)]) (by kernel_rfl) (HM.out.drew.sub (by exact subOf)) (fun hHeld => ?_)
  have HMd := Lib.hid HM.out.drew
  clear HM
  have HM := HMd
  clear HMd
  generalize World.drew _ = wd at HM hHeld ⊢
  (refine wa_take (i := 0) rfl (by kernel_rfl) (by kernel_rfl) (by kernel_rfl) (fun _ _ _ h => h) (yi_free rfl (fun u => rfl)) hHeld rfl ?_; (try simp only [Act.put, List.setIfInBounds_toArray, List.set_cons_zero, List.set_cons_succ]))
  (refine wa_take (i := 1) (v := .bool false) rfl (by kernel_rfl) (by kernel_rfl) (by kernel_rfl) (fun _ _ _ h => h) (yi_free rfl (fun u => by go_simp)) hHeld rfl ?_; (try simp only [Act.put, List.setIfInBounds_toArray, List.set_cons_zero, List.set_cons_succ]))
  (refine wa_take (i := 2) (v := .bool false) rfl (by kernel_rfl) (by kernel_rfl) (by kernel_rfl) (fun _ _ _ h => h) (yi_free rfl (fun u => rfl)) hHeld rfl ?_; (try simp only [Act.put, List.setIfInBounds_toArray, List.set_cons_zero, List.set_cons_succ]))
  (refine wa_take (i := 3) rfl (by kernel_rfl) (by kernel_rfl) (by kernel_rfl) (fun _ _ _ h => h) (yi_load rfl _ _ rfl rfl (by exact arrOf) (fun u hu => hu) (by exact memOf) (by exact lenOf)) hHeld rfl ?_; (try simp only [Act.put, List.setIfInBounds_toArray, List.set_cons_zero, List.set_cons_succ]))
  (refine wa_take (i := 5) rfl (by kernel_rfl) (by kernel_rfl) (by kernel_rfl) (fun _ _ _ h => h) (yi_load rfl _ _ rfl rfl (by exact arrOf) (fun u hu => hu) (by exact memOf) (by exact lenOf)) hHeld rfl ?_; (try simp only [Act.put, List.setIfInBounds_toArray, List.set_cons_zero, List.set_cons_succ]))
  refine wpAnyH_ready (rs := [4]) (by kernel_rfl) (by simp) ?_; refine AllReadyH.cons rfl (fun K hK => ?_) (AllReadyH.nil)
  rw [if_pos (by rfl)]; go_simp
  refine (HG.out _).mono ?_
  rintro e wb ⟨rfl, h1⟩
  have HM2 := Lib.hid (HM.out.below h1)
  clear h1 HM HG hHeld
  have HM := HM2
  clear HM2
  go_wp2_with fail; refine hK.out _ _ (HM.out.sub (by exact subOf)) (fun hHeld => ?_); clear hK K; (try simp only [Act.put, List.setIfInBounds_toArray, List.set_cons_zero, List.set_cons_succ])
  (refine wa_take (i := 6) (v := .bool true) rfl (by kernel_rfl) (by kernel_rfl) (by kernel_rfl) (fun _ _ _ h => h) (yi_free rfl (fun u => by go_simp)) hHeld rfl ?_; (try simp only [Act.put, List.setIfInBounds_toArray, List.set_cons_zero, List.set_cons_succ]))
  (refine wa_take (i := 7) (v := .bool true) rfl (by kernel_rfl) (by kernel_rfl) (by kernel_rfl) (fun _ _ _ h => h) (yi_free rfl (fun u => by go_simp)) hHeld rfl ?_; (try simp only [Act.put, List.setIfInBounds_toArray, List.set_cons_zero, List.set_cons_succ]))
  refine wpAnyH_done (by kernel_rfl) ?_ _
  go_wp2_with (first | ((first | refine wl_box rfl _ _ rfl rfl HM ?_ | refine wl_alloc rfl _ rfl (by exact arrOf) HM ?_); first | (have q : dL HM = 0 := rfl; clear q HM; intro g1 u1 HM) | (have q : dL HM = 1 := rfl; clear q HM; intro g2 u2 HM) | (have q : dL HM = 2 := rfl; clear q HM; intro g3 u3 HM) | (have q : dL HM = 3 := rfl; clear q HM; intro g4 u4 HM) | (have q : dL HM = 4 := rfl; clear q HM; intro g5 u5 HM) | (have q : dL HM = 5 := rfl; clear q HM; intro g6 u6 HM) | (have q : dL HM = 6 := rfl; clear q HM; intro g7 u7 HM) | (have q : dL HM = 7 := rfl; clear q HM; intro g8 u8 HM) | (have q : dL HM = 8 := rfl; clear q HM; intro g9 u9 HM) | (have q : dL HM = 9 := rfl; clear q HM; intro g10 u10 HM) | (have q : dL HM = 10 := rfl; clear q HM; intro g11 u11 HM) | (have q : dL HM = 11 := rfl; clear q HM; intro g12 u12 HM) | (have q : dL HM = 12 := rfl; clear q HM; intro g13 u13 HM) | (have q : dL HM = 13 := rfl; clear q HM; intro g14 u14 HM)) | (refine wl_load rfl _ _ rfl rfl (by exact arrOf) HM (by exact memOf) (by exact lenOf) ?_) | (refine wl_storeM rfl _ _ _ rfl rfl rfl (by exact arrOf) HM (by exact idxOf) (by exact lenOf) (by exact lenOf) ?_; clear HM; intro us HM; dsimp only [List.set] at HM) | (refine wl_zero rfl _ rfl (by exact arrOf) (by kernel_rfl) ?_))
  refine bodyPost_ret (v := .tuple #[.agg (icells (zr 16)), .agg (icells (zr 6)), .int .i64 1]) (res_three rfl _ rfl rfl rfl arrHop arrAll HM (by exact memOf) (by exact memOf) LY LZ) rfl ⟨rfl, HM.out.1⟩
set_option maxRecDepth 100000 in
set_option maxHeartbeats 8000000 in
theorem qsmall_good (x l : List Int) (w : World) (lx : x.length = 16) (ll : l.length = 6) (he : Edg w) (hc : chkL l = true) (hx : okX x = true) :
    Calls Tryd.prog 16 #[.agg (icells x), .agg (icells l)] w (ValQ w (.tuple #[.agg (icells (smallL x l)), .agg (icells (asL l)), .int .i64 0])) := by
  have LX := Lib.hid lx
  have LL := Lib.hid ll
  have HE := Lib.hid he
  have LZ := Lib.hid (zr_length 6)
  have LY := Lib.hid (zr_length 16)
  have HM := Lib.hid (Mem.start w)
  have HC := Lib.hid (fun u (hu : Edg u) => bshare_any l 120 u ll hu)
  rw [share_v l hc] at HC
  have hok := (share_ok l (B := 120) (by decide)).1
  have LA := Lib.hid hok.1
  have HG := Lib.hid (fun u => qbounded_any x u lx)
  rw [(bdL_iff lx).2 hx] at HG
  have hgd := grdSpec
  have heq := fun u => run_equalIn_same 30 (n := 16) (by kernel_rfl) x lx u
  have HT := Lib.hid (fun u (hu : Edg u) => qsteps_any l (shareL l 120) u ll (fun k => inR_bd hc (by omega) (by omega) k) hok hu)
  have HO := Lib.hid (fun u (hu : Edg u) => qmosts_any (shareL l 120) u hok hu)
  have hmb := moL_bd hok
  have HH := Lib.hid (fun u => qheld_any (tab 16 (dvF x (ssL l))) (moL (shareL l 120)) u (tab_length _ _) (moL_length _) hmb)
  rw [hc_dv fun k hk => (hmb k hk).1] at HH
  have L2 := Lib.hid (moL_length (shareL l 120))
  rw [← ms_is hc] at HH HO L2
  rw [show tab 16 (smallF x (ssL l) (msL l)) = smallL x l from rfl] at HH
  rw [← ss_is hc] at HT
  rw [as_is hc]
  have HX := Lib.hid (fun k => inR_bd hx (by omega) (by omega) k)
  have HQ := Lib.hid (fun (k : Nat) (hk : k < 16) => ssL_bd l hk)
  have L1 := Lib.hid (ssL_length l)
  have L5 := Lib.hid (show (smallL x l).length = 16 from tab_length _ _)
  clear hmb hok
  generalize smallL x l = V at HH L5
  generalize shareL l 120 = A at HC HT HO LA
  generalize ssL l = S at HT HH HQ L1
  generalize msL l = M at HO HH L2
  have L6 := Lib.hid (tab_length 16 (dvF x S))
  clear lx ll he hc hx
  go_enter Tryd.func16, Tryd.ntmps16
  go_wp2_with (first | ((first | refine wl_box rfl _ _ rfl rfl HM ?_ | refine wl_alloc rfl _ rfl (by exact arrOf) HM ?_); first | (have q : dL HM = 0 := rfl; clear q HM; intro g1 u1 HM) | (have q : dL HM = 1 := rfl; clear q HM; intro g2 u2 HM) | (have q : dL HM = 2 := rfl; clear q HM; intro g3 u3 HM) | (have q : dL HM = 3 := rfl; clear q HM; intro g4 u4 HM) | (have q : dL HM = 4 := rfl; clear q HM; intro g5 u5 HM) | (have q : dL HM = 5 := rfl; clear q HM; intro g6 u6 HM) | (have q : dL HM = 6 := rfl; clear q HM; intro g7 u7 HM) | (have q : dL HM = 7 := rfl; clear q HM; intro g8 u8 HM) | (have q : dL HM = 8 := rfl; clear q HM; intro g9 u9 HM) | (have q : dL HM = 9 := rfl; clear q HM; intro g10 u10 HM) | (have q : dL HM = 10 := rfl; clear q HM; intro g11 u11 HM) | (have q : dL HM = 11 := rfl; clear q HM; intro g12 u12 HM) | (have q : dL HM = 12 := rfl; clear q HM; intro g13 u13 HM) | (have q : dL HM = 13 := rfl; clear q HM; intro g14 u14 HM)) | (refine wl_load rfl _ _ rfl rfl (by exact arrOf) HM (by exact memOf) (by exact lenOf) ?_) | (refine wl_storeM rfl _ _ _ rfl rfl rfl (by exact arrOf) HM (by exact idxOf) (by exact lenOf) (by exact lenOf) ?_; clear HM; intro us HM; dsimp only [List.set] at HM) | (refine wl_zero rfl _ rfl (by exact arrOf) (by kernel_rfl) ?_))
  refine (HC.out _ (HE.out.mem HM.out)).mono ?_
  rintro e w2 ⟨rfl, h1⟩
  have HM2 := Lib.hid (HM.out.below h1)
  clear h1 HM HC
  have HM := HM2
  clear HM2
  go_wp2_with (first | ((first | refine wl_box rfl _ _ rfl rfl HM ?_ | refine wl_alloc rfl _ rfl (by exact arrOf) HM ?_); first | (have q : dL HM = 0 := rfl; clear q HM; intro g1 u1 HM) | (have q : dL HM = 1 := rfl; clear q HM; intro g2 u2 HM) | (have q : dL HM = 2 := rfl; clear q HM; intro g3 u3 HM) | (have q : dL HM = 3 := rfl; clear q HM; intro g4 u4 HM) | (have q : dL HM = 4 := rfl; clear q HM; intro g5 u5 HM) | (have q : dL HM = 5 := rfl; clear q HM; intro g6 u6 HM) | (have q : dL HM = 6 := rfl; clear q HM; intro g7 u7 HM) | (have q : dL HM = 7 := rfl; clear q HM; intro g8 u8 HM) | (have q : dL HM = 8 := rfl; clear q HM; intro g9 u9 HM) | (have q : dL HM = 9 := rfl; clear q HM; intro g10 u10 HM) | (have q : dL HM = 10 := rfl; clear q HM; intro g11 u11 HM) | (have q : dL HM = 11 := rfl; clear q HM; intro g12 u12 HM) | (have q : dL HM = 12 := rfl; clear q HM; intro g13 u13 HM) | (have q : dL HM = 13 := rfl; clear q HM; intro g14 u14 HM)) | (refine wl_load rfl _ _ rfl rfl (by exact arrOf) HM (by exact memOf) (by exact lenOf) ?_) | (refine wl_storeM rfl _ _ _ rfl rfl rfl (by exact arrOf) HM (by exact idxOf) (by exact lenOf) (by exact lenOf) ?_; clear HM; intro us HM; dsimp only [List.set] at HM) | (refine wl_zero rfl _ rfl (by exact arrOf) (by kernel_rfl) ?_))
  refine wp_region_held_drew (S := Mem w [(g2, 32, l), (g1, 30, x)]) (by kernel_rfl) (HM.out.drew.sub (by exact subOf)) (fun hHeld => ?_)
  have HMd := Lib.hid HM.out.drew
  clear HM
  have HM := HMd
  clear HMd
  generalize World.drew _ = wd at HM hHeld ⊢
  (refine wa_take (i := 0) rfl (by kernel_rfl) (by kernel_rfl) (by kernel_rfl) (fun _ _ _ h => h) (yi_free rfl (fun u => rfl)) hHeld rfl ?_; (try simp only [Act.put, List.setIfInBounds_toArray, List.set_cons_zero, List.set_cons_succ]))
  (refine wa_take (i := 1) (v := .bool false) rfl (by kernel_rfl) (by kernel_rfl) (by kernel_rfl) (fun _ _ _ h => h) (yi_free rfl (fun u => by go_simp)) hHeld rfl ?_; (try simp only [Act.put, List.setIfInBounds_toArray, List.set_cons_zero, List.set_cons_succ]))
  (refine wa_take (i := 2) (v := .bool false) rfl (by kernel_rfl) (by kernel_rfl) (by kernel_rfl) (fun _ _ _ h => h) (yi_free rfl (fun u => rfl)) hHeld rfl ?_; (try simp only [Act.put, List.setIfInBounds_toArray, List.set_cons_zero, List.set_cons_succ]))
  (refine wa_take (i := 3) rfl (by kernel_rfl) (by kernel_rfl) (by kernel_rfl) (fun _ _ _ h => h) (yi_load rfl _ _ rfl rfl (by exact arrOf) (fun u hu => hu) (by exact memOf) (by exact lenOf)) hHeld rfl ?_; (try simp only [Act.put, List.setIfInBounds_toArray, List.set_cons_zero, List.set_cons_succ]))
  (refine wa_take (i := 5) rfl (by kernel_rfl) (by kernel_rfl) (by kernel_rfl) (fun _ _ _ h => h) (yi_load rfl _ _ rfl rfl (by exact arrOf) (fun u hu => hu) (by exact memOf) (by exact lenOf)) hHeld rfl ?_; (try simp only [Act.put, List.setIfInBounds_toArray, List.set_cons_zero, List.set_cons_succ]))
  refine wpAnyH_ready (rs := [4]) (by kernel_rfl) (by simp) ?_; refine AllReadyH.cons rfl (fun K hK => ?_) (AllReadyH.nil)
  rw [if_pos (by rfl)]; go_simp
  refine (HG.out _).mono ?_
  rintro e wb ⟨rfl, h1⟩
  have HM2 := Lib.hid (HM.out.below h1)
  clear h1 HM HG hHeld
  have HM := HM2
  clear HM2
  go_wp2_with fail; refine hK.out _ _ (HM.out.sub (by exact subOf)) (fun hHeld => ?_); clear hK K; (try simp only [Act.put, List.setIfInBounds_toArray, List.set_cons_zero, List.set_cons_succ])
  (refine wa_take (i := 6) (v := .bool false) rfl (by kernel_rfl) (by kernel_rfl) (by kernel_rfl) (fun _ _ _ h => h) (yi_free rfl (fun u => by go_simp)) hHeld rfl ?_; (try simp only [Act.put, List.setIfInBounds_toArray, List.set_cons_zero, List.set_cons_succ]))
  (refine wa_take (i := 7) (v := .bool false) rfl (by kernel_rfl) (by kernel_rfl) (by kernel_rfl) (fun _ _ _ h => h) (yi_free rfl (fun u => by go_simp)) hHeld rfl ?_; (try simp only [Act.put, List.setIfInBounds_toArray, List.set_cons_zero, List.set_cons_succ]))
  refine wpAnyH_done (by kernel_rfl) ?_ _
  clear heq hgd
  go_wp2_with (first | ((first | refine wl_box rfl _ _ rfl rfl HM ?_ | refine wl_alloc rfl _ rfl (by exact arrOf) HM ?_); first | (have q : dL HM = 0 := rfl; clear q HM; intro g1 u1 HM) | (have q : dL HM = 1 := rfl; clear q HM; intro g2 u2 HM) | (have q : dL HM = 2 := rfl; clear q HM; intro g3 u3 HM) | (have q : dL HM = 3 := rfl; clear q HM; intro g4 u4 HM) | (have q : dL HM = 4 := rfl; clear q HM; intro g5 u5 HM) | (have q : dL HM = 5 := rfl; clear q HM; intro g6 u6 HM) | (have q : dL HM = 6 := rfl; clear q HM; intro g7 u7 HM) | (have q : dL HM = 7 := rfl; clear q HM; intro g8 u8 HM) | (have q : dL HM = 8 := rfl; clear q HM; intro g9 u9 HM) | (have q : dL HM = 9 := rfl; clear q HM; intro g10 u10 HM) | (have q : dL HM = 10 := rfl; clear q HM; intro g11 u11 HM) | (have q : dL HM = 11 := rfl; clear q HM; intro g12 u12 HM) | (have q : dL HM = 12 := rfl; clear q HM; intro g13 u13 HM) | (have q : dL HM = 13 := rfl; clear q HM; intro g14 u14 HM)) | (refine wl_load rfl _ _ rfl rfl (by exact arrOf) HM (by exact memOf) (by exact lenOf) ?_) | (refine wl_storeM rfl _ _ _ rfl rfl rfl (by exact arrOf) HM (by exact idxOf) (by exact lenOf) (by exact lenOf) ?_; clear HM; intro us HM; dsimp only [List.set] at HM) | (refine wl_zero rfl _ rfl (by exact arrOf) (by kernel_rfl) ?_))
  refine (HT.out _ (HE.out.mem HM.out)).mono ?_
  rintro e w2 ⟨rfl, h1⟩
  have HM2 := Lib.hid (HM.out.below h1)
  clear h1 HM HT
  have HM := HM2
  clear HM2
  go_wp2_with (first | ((first | refine wl_box rfl _ _ rfl rfl HM ?_ | refine wl_alloc rfl _ rfl (by exact arrOf) HM ?_); first | (have q : dL HM = 0 := rfl; clear q HM; intro g1 u1 HM) | (have q : dL HM = 1 := rfl; clear q HM; intro g2 u2 HM) | (have q : dL HM = 2 := rfl; clear q HM; intro g3 u3 HM) | (have q : dL HM = 3 := rfl; clear q HM; intro g4 u4 HM) | (have q : dL HM = 4 := rfl; clear q HM; intro g5 u5 HM) | (have q : dL HM = 5 := rfl; clear q HM; intro g6 u6 HM) | (have q : dL HM = 6 := rfl; clear q HM; intro g7 u7 HM) | (have q : dL HM = 7 := rfl; clear q HM; intro g8 u8 HM) | (have q : dL HM = 8 := rfl; clear q HM; intro g9 u9 HM) | (have q : dL HM = 9 := rfl; clear q HM; intro g10 u10 HM) | (have q : dL HM = 10 := rfl; clear q HM; intro g11 u11 HM) | (have q : dL HM = 11 := rfl; clear q HM; intro g12 u12 HM) | (have q : dL HM = 12 := rfl; clear q HM; intro g13 u13 HM) | (have q : dL HM = 13 := rfl; clear q HM; intro g14 u14 HM)) | (refine wl_load rfl _ _ rfl rfl (by exact arrOf) HM (by exact memOf) (by exact lenOf) ?_) | (refine wl_storeM rfl _ _ _ rfl rfl rfl (by exact arrOf) HM (by exact idxOf) (by exact lenOf) (by exact lenOf) ?_; clear HM; intro us HM; dsimp only [List.set] at HM) | (refine wl_zero rfl _ rfl (by exact arrOf) (by kernel_rfl) ?_))
  go_loopw [30] (fun vi wr => ∃ k : Nat, k ≤ 16 ∧ vi = .int .i64 (k : Int) ∧ Hid (Mem w [(g6, 29, tab 16 (part2 k (dvF x S) (fun _ => 0))), (g5, 34, A), (g4, 34, zr 6), (g3, 29, zr 16), (g2, 32, l), (g1, 30, x)] wr)) (fun vi _ => 16 - (intOf vi).toNat)
  case atStart => exact ⟨0, by omega, rfl, Lib.hid (by rw [part2_none, tab_zero]; exact HM.out)⟩
  case round =>
    clear HM
    obtain ⟨k, hk, rfl, HM⟩ := hrel
    by_cases hlt : k < 16
    · have k16 : (k : Int) < 16 := by omega
      have SS := Lib.hid (part2_set (n := 16) (k := k) (dvF x S) (fun _ => 0))
      have KS := Lib.hid (fun h => part2_skip (n := 16) (k := k) (f := dvF x S) (g := fun _ => 0) h)
      have HS := Lib.hid (dvF_is x S k)
      have hs := HQ.out k hlt
      have hv := HX.out k
      have hix := run_index 29 (n := 16) (by kernel_rfl) S L1.out k hlt
      have c1 := HM.out.cell (.tail _ (.tail _ (.tail _ (.tail _ (.tail _ (.head _)))))) (k := k) (by rw [LX.out]; exact hlt)
      generalize x.getD k 0 = v at c1 hv HS
      generalize S.getD k 0 = s at hix hs HS
      by_cases hpos : 0 < s
      · have HD := Lib.hid (fun u => div_any v s u (by omega) (by omega))
        rw [show divV v s = .tuple #[.int .i64 (divI v s), .int .i64 0] by unfold divV; rw [if_neg (by omega)]] at HD
        rw [if_pos hpos] at HS
        rw [HS.out] at SS
        generalize divI v s = d at HD SS
        clear KS HS hs hv
        go_wp2_with fail
        refine (HD.out _).mono ?_
        rintro e wb ⟨rfl, qn, rfl⟩
        have HM2 := Lib.hid (HM.out.drewN qn)
        clear HM c1 hix
        have HM := HM2
        clear HM2
        generalize World.drewN _ _ = wd at HM ⊢
        have c6 := HM.out.cell (.head _) (k := k) (by rw [tab_length]; exact hlt)
        have f6 := HM.out.free (.head _) k
        generalize List.getD (tab 16 _) k 0 = o at c6
        go_wp2_with fail
        have HM3 := Lib.hid (HM.out.put 0 rfl k d)
        simp only [List.set_cons_zero] at HM3
        rw [SS.out] at HM3
        clear HM c6 f6
        go_roundw
        case rel => exact ⟨k + 1, by omega, by go_num, HM3⟩
        case measure => simp [intOf]; omega
      · have hd : decide (0 < s) = false := decide_eq_false hpos
        rw [if_neg hpos] at HS
        rw [KS.out HS.out] at HM
        clear KS HS SS hs hv c1
        go_wp2_with fail
        go_roundw
        case rel => exact ⟨k + 1, by omega, by go_num, HM⟩
        case measure => simp [intOf]; omega
    · obtain rfl : k = 16 := by omega
      rw [part2_all] at HM
      go_wp2_with (first | ((first | refine wl_box rfl _ _ rfl rfl HM ?_ | refine wl_alloc rfl _ rfl (by exact arrOf) HM ?_); first | (have q : dL HM = 0 := rfl; clear q HM; intro g1 u1 HM) | (have q : dL HM = 1 := rfl; clear q HM; intro g2 u2 HM) | (have q : dL HM = 2 := rfl; clear q HM; intro g3 u3 HM) | (have q : dL HM = 3 := rfl; clear q HM; intro g4 u4 HM) | (have q : dL HM = 4 := rfl; clear q HM; intro g5 u5 HM) | (have q : dL HM = 5 := rfl; clear q HM; intro g6 u6 HM) | (have q : dL HM = 6 := rfl; clear q HM; intro g7 u7 HM) | (have q : dL HM = 7 := rfl; clear q HM; intro g8 u8 HM) | (have q : dL HM = 8 := rfl; clear q HM; intro g9 u9 HM) | (have q : dL HM = 9 := rfl; clear q HM; intro g10 u10 HM) | (have q : dL HM = 10 := rfl; clear q HM; intro g11 u11 HM) | (have q : dL HM = 11 := rfl; clear q HM; intro g12 u12 HM) | (have q : dL HM = 12 := rfl; clear q HM; intro g13 u13 HM) | (have q : dL HM = 13 := rfl; clear q HM; intro g14 u14 HM)) | (refine wl_load rfl _ _ rfl rfl (by exact arrOf) HM (by exact memOf) (by exact lenOf) ?_) | (refine wl_storeM rfl _ _ _ rfl rfl rfl (by exact arrOf) HM (by exact idxOf) (by exact lenOf) (by exact lenOf) ?_; clear HM; intro us HM; dsimp only [List.set] at HM) | (refine wl_zero rfl _ rfl (by exact arrOf) (by kernel_rfl) ?_))
      refine wp_region_held_drew (S := Mem w [(g6, 29, tab 16 (dvF x S)), (g5, 34, A)]) (by kernel_rfl) (HM.out.drew.sub (by exact subOf)) (fun hHeld => ?_)
      have HMd := Lib.hid HM.out.drew
      clear HM
      have HM := HMd
      clear HMd
      generalize World.drew _ = wd at HM hHeld ⊢
      (refine wa_take (i := 0) rfl (by kernel_rfl) (by kernel_rfl) (by kernel_rfl) (fun _ _ _ h => h) (yi_load rfl _ _ rfl rfl (by exact arrOf) (fun u hu => hu) (by exact memOf) (by exact lenOf)) hHeld rfl ?_; (try simp only [Act.put, List.setIfInBounds_toArray, List.set_cons_zero, List.set_cons_succ]))
      (refine wa_take (i := 1) rfl (by kernel_rfl) (by kernel_rfl) (by kernel_rfl) (fun _ _ _ h => h) (yi_load rfl _ _ rfl rfl (by exact arrOf) (fun u hu => hu) (by exact memOf) (by exact lenOf)) hHeld rfl ?_; (try simp only [Act.put, List.setIfInBounds_toArray, List.set_cons_zero, List.set_cons_succ]))
      (refine wa_take (i := 4) rfl (by kernel_rfl) (by kernel_rfl) (by kernel_rfl) (fun _ _ _ h => h) (yi_load rfl _ _ rfl rfl (by exact arrOf) (fun u hu => hu) (by exact memOf) (by exact lenOf)) hHeld rfl ?_; (try simp only [Act.put, List.setIfInBounds_toArray, List.set_cons_zero, List.set_cons_succ]))
      refine wpAnyH_ready (rs := [2]) (by kernel_rfl) (by simp) ?_; refine AllReadyH.cons rfl (fun K hK => ?_) (AllReadyH.nil)
      rw [if_pos (by rfl)]; go_simp
      refine (HO.out _ (HE.out.mem HM.out)).mono ?_
      rintro e wb ⟨rfl, h1⟩
      have HM2 := Lib.hid (HM.out.below h1)
      clear h1 HM HO hHeld
      have HM := HM2
      clear HM2
      go_wp2_with fail; refine hK.out _ _ (HM.out.sub (by exact subOf)) (fun hHeld => ?_); clear hK K; (try simp only [Act.put, List.setIfInBounds_toArray, List.set_cons_zero, List.set_cons_succ])
      refine wpAnyH_ready (rs := [3]) (by kernel_rfl) (by simp) ?_; refine AllReadyH.cons rfl (fun K hK => ?_) (AllReadyH.nil)
      rw [if_pos (by rfl)]; go_simp
      refine (HH.out _).mono ?_
      rintro e wb ⟨rfl, h1⟩
      have HM2 := Lib.hid (HM.out.below h1)
      clear h1 HM HH hHeld
      have HM := HM2
      clear HM2
      go_wp2_with fail; refine hK.out _ _ (HM.out.sub (by exact subOf)) (fun hHeld => ?_); clear hK K; (try simp only [Act.put, List.setIfInBounds_toArray, List.set_cons_zero, List.set_cons_succ])
      (refine wpAnyH_ready (rs := [5]) (by kernel_rfl) (by simp) ?_; refine AllReadyH.cons rfl (fun K hK => ?_) AllReadyH.nil; rw [if_pos (by rfl)]; refine ow_store _ _ _ rfl rfl rfl (by exact arrOf) HM 3 rfl (by exact lenOf) (by exact lenOf) rfl ?_; clear HM; intro us HM; simp only [List.set_cons_zero, List.set_cons_succ] at HM; refine hK.out _ _ (HM.out.sub (by exact subOf)) (fun hHeld => ?_); clear hK K; (try simp only [Act.put]))
      (refine wpAnyH_ready (rs := [6]) (by kernel_rfl) (by simp) ?_; refine AllReadyH.cons rfl (fun K hK => ?_) AllReadyH.nil; rw [if_pos (by rfl)]; refine ow_store _ _ _ rfl rfl rfl (by exact arrOf) HM 2 rfl (by exact lenOf) (by exact lenOf) rfl ?_; clear HM; intro us HM; simp only [List.set_cons_zero, List.set_cons_succ] at HM; refine hK.out _ _ (HM.out.sub (by exact subOf)) (fun hHeld => ?_); clear hK K; (try simp only [Act.put]))
      (refine wa_take (i := 7) rfl (by kernel_rfl) (by kernel_rfl) (by kernel_rfl) (fun _ _ _ h => h) (yi_free rfl (fun u => rfl)) hHeld rfl ?_; (try simp only [Act.put, List.setIfInBounds_toArray, List.set_cons_zero, List.set_cons_succ]))
      refine wpAnyH_done (by kernel_rfl) ?_ _
      go_wp2
      refine bodyPost_ret (v := .tuple #[.agg (icells V), .agg (icells A), .int .i64 0]) (res_three rfl _ rfl rfl rfl arrHop arrAll HM (by exact memOf) (by exact memOf) L5 LA) rfl ⟨rfl, HM.out.1⟩
theorem qsmall_any (x l : List Int) (w : World) (lx : x.length = 16) (ll : l.length = 6) (he : Edg w) :
    Calls Tryd.prog 16 #[.agg (icells x), .agg (icells l)] w (ValQ w (smallV x l)) := by
  unfold smallV
  by_cases h : chkL l = true ∧ okX x = true
  · rw [if_pos h]; exact qsmall_good x l w lx ll he h.1 h.2
  · rw [if_neg h]
    cases hc : chkL l with
    | false => exact qsmall_bad1 x l w lx ll he hc
    | true =>
      refine qsmall_bad2 x l w lx ll he hc ?_
      cases hx : okX x with
      | false => rfl
      | true => exact absurd ⟨hc, hx⟩ h
end Go.Proofs.YtcnckamocbaceaaDoor.Lp
/- Qg -/
/- Qh -/
namespace Go.Proofs.YtcnckamocbaceaaDoor.Lp
open Go.RowKit Go.Proofs.YtcnckamocbaceaaDoor.Fx Go.Proofs.YtcnckamocbaceaaDoor.Fq Go.Proofs.YtcnckamocbaceaaDoor.Tb
theorem small_x2 : (smallL x2 m2).getD 0 0 = 0 ∧ 100 < (smallL x2 m2).getD 1 0 := by decide +kernel
theorem smallL_length (x l : List Int) : (smallL x l).length = 16 := tab_length _ _
theorem greatL_length (q l : List Int) : (greatL q l).length = 16 := tab_length _ _
theorem noiseL_length (t : Int) (l : List Int) : (noiseL t l).length = 16 := tab_length _ _
/-- a load of one element, of an array that is known -/
theorem wl_cellM {ops : Array Oper} {rest : List Oper} {o : Oper} {a : Act} {w w0 : World} {Q : Exit → Act → World → Prop} {L : List (Nat × TypeId × List Int)} (hgd : Region.wanted o (yielded ops a.tmps) = true) (x : Operand) (ho : o.op = .load 3 x) {g k : Nat}
    (hx : a.eval x = .pointer (some ⟨g, k, none⟩)) (hm : Hid (Mem w0 L w)) {T : TypeId} {xs : List Int} (hin : (g, T, xs) ∈ L) (hk : k < xs.length) {v : Int} (hv : xs.getD k 0 = v)
    (h : wpList Tryd.prog ops Q rest (a.put o.dst (.int .i64 v)) w) : wpList Tryd.prog ops Q (o :: rest) a w :=
  wl_step hgd fun K hK => by
    have := hK _ _ h
    have hg : (isAgg 3).run Tryd.prog w = .ok false w := by kernel_rfl
    have hc := hm.out.cell hin hk
    rw [hv] at hc
    unfold Oper.wp execOp
    simp only [ho, hx, Instr.loadAt, Instr.sureAddr, Sem.run_bind, Sem.run_pure, Result.andThen_ok, loadVar, hg, run_load, hc, Bool.false_eq_true, if_false]
    exact this
set_option maxRecDepth 100000 in
set_option maxHeartbeats 4000000 in
theorem qlive_any (w : World) (he : Edg w) : Calls Tryd.prog 9 #[] w fun e w' => e = .returned (.bool true) ∧ Below w.heap.size w w' := by
  have HE := Lib.hid he
  have HM := Lib.hid (Mem.start w)
  have F1 := Lib.hid (fun u => qpeak_any 12 u)
  rw [show peakV 12 = .tuple #[.int .i64 4, .int .i64 0] by unfold peakV; rw [if_pos (by decide)]; rfl] at F1
  have F2 := Lib.hid (fun u => qstep_any 160 7 u)
  rw [show stepV 160 7 = .tuple #[.int .i64 8257, .int .i64 0] by unfold stepV; rw [if_pos (by decide)]; rfl] at F2
  have F3 := Lib.hid (fun u (hu : Edg u) => qsmall_any x2 m2 u x2_length rfl hu)
  rw [show smallV x2 m2 = .tuple #[.agg (icells (smallL x2 m2)), .agg (icells (asL m2)), .int .i64 0] by unfold smallV; rw [if_pos ⟨chk_m2, okX_x2⟩]] at F3
  have L2 := Lib.hid (smallL_length x2 m2)
  have L3 := Lib.hid (asL_length m2)
  have L4 := Lib.hid (zr_length 16)
  have L5 := Lib.hid (zr_length 6)
  obtain ⟨q0, q1⟩ := small_x2
  generalize smallL x2 m2 = Q at F3 L2 q0 q1
  generalize asL m2 = A at F3 L3
  have HQ0 := Lib.hid q0
  obtain ⟨z, hz⟩ : ∃ z, Q.getD 1 0 = z := ⟨_, rfl⟩
  have HQ1 := Lib.hid hz
  rw [hz] at q1
  clear q0 hz
  clear he
  go_enter Tryd.func9, Tryd.ntmps9
  go_wp2_with (first | ((first | refine wl_box rfl _ _ rfl rfl HM ?_ | refine wl_alloc rfl _ rfl (by exact arrOf) HM ?_); first | (have q : dL HM = 0 := rfl; clear q HM; intro g1 u1 HM) | (have q : dL HM = 1 := rfl; clear q HM; intro g2 u2 HM) | (have q : dL HM = 2 := rfl; clear q HM; intro g3 u3 HM) | (have q : dL HM = 3 := rfl; clear q HM; intro g4 u4 HM) | (have q : dL HM = 4 := rfl; clear q HM; intro g5 u5 HM) | (have q : dL HM = 5 := rfl; clear q HM; intro g6 u6 HM) | (have q : dL HM = 6 := rfl; clear q HM; intro g7 u7 HM) | (have q : dL HM = 7 := rfl; clear q HM; intro g8 u8 HM) | (have q : dL HM = 8 := rfl; clear q HM; intro g9 u9 HM) | (have q : dL HM = 9 := rfl; clear q HM; intro g10 u10 HM) | (have q : dL HM = 10 := rfl; clear q HM; intro g11 u11 HM) | (have q : dL HM = 11 := rfl; clear q HM; intro g12 u12 HM) | (have q : dL HM = 12 := rfl; clear q HM; intro g13 u13 HM) | (have q : dL HM = 13 := rfl; clear q HM; intro g14 u14 HM)) | (refine wl_load rfl _ _ rfl rfl (by exact arrOf) HM (by exact memOf) (by exact lenOf) ?_) | (refine wl_storeM rfl _ _ _ rfl rfl rfl (by exact arrOf) HM (by exact idxOf) (by exact lenOf) (by exact lenOf) ?_; clear HM; intro us HM; dsimp only [List.set] at HM) | (refine wl_zero rfl _ rfl (by exact arrOf) (by kernel_rfl) ?_))
  refine (F1.out _).mono ?_
  rintro e w2 ⟨rfl, h1⟩
  have HM2 := Lib.hid (HM.out.below h1)
  clear h1 HM F1
  have HM := HM2
  clear HM2
  go_wp2_with (first | ((first | refine wl_box rfl _ _ rfl rfl HM ?_ | refine wl_alloc rfl _ rfl (by exact arrOf) HM ?_); first | (have q : dL HM = 0 := rfl; clear q HM; intro g1 u1 HM) | (have q : dL HM = 1 := rfl; clear q HM; intro g2 u2 HM) | (have q : dL HM = 2 := rfl; clear q HM; intro g3 u3 HM) | (have q : dL HM = 3 := rfl; clear q HM; intro g4 u4 HM) | (have q : dL HM = 4 := rfl; clear q HM; intro g5 u5 HM) | (have q : dL HM = 5 := rfl; clear q HM; intro g6 u6 HM) | (have q : dL HM = 6 := rfl; clear q HM; intro g7 u7 HM) | (have q : dL HM = 7 := rfl; clear q HM; intro g8 u8 HM) | (have q : dL HM = 8 := rfl; clear q HM; intro g9 u9 HM) | (have q : dL HM = 9 := rfl; clear q HM; intro g10 u10 HM) | (have q : dL HM = 10 := rfl; clear q HM; intro g11 u11 HM) | (have q : dL HM = 11 := rfl; clear q HM; intro g12 u12 HM) | (have q : dL HM = 12 := rfl; clear q HM; intro g13 u13 HM) | (have q : dL HM = 13 := rfl; clear q HM; intro g14 u14 HM)) | (refine wl_load rfl _ _ rfl rfl (by exact arrOf) HM (by exact memOf) (by exact lenOf) ?_) | (refine wl_storeM rfl _ _ _ rfl rfl rfl (by exact arrOf) HM (by exact idxOf) (by exact lenOf) (by exact lenOf) ?_; clear HM; intro us HM; dsimp only [List.set] at HM) | (refine wl_zero rfl _ rfl (by exact arrOf) (by kernel_rfl) ?_))
  refine (F2.out _).mono ?_
  rintro e w3 ⟨rfl, h1⟩
  have HM2 := Lib.hid (HM.out.below h1)
  clear h1 HM F2
  have HM := HM2
  clear HM2
  go_wp2_with (first | (first | ((first | refine wl_box rfl _ _ rfl rfl HM ?_ | refine wl_alloc rfl _ rfl (by exact arrOf) HM ?_); first | (have q : dL HM = 0 := rfl; clear q HM; intro g1 u1 HM) | (have q : dL HM = 1 := rfl; clear q HM; intro g2 u2 HM) | (have q : dL HM = 2 := rfl; clear q HM; intro g3 u3 HM) | (have q : dL HM = 3 := rfl; clear q HM; intro g4 u4 HM) | (have q : dL HM = 4 := rfl; clear q HM; intro g5 u5 HM) | (have q : dL HM = 5 := rfl; clear q HM; intro g6 u6 HM) | (have q : dL HM = 6 := rfl; clear q HM; intro g7 u7 HM) | (have q : dL HM = 7 := rfl; clear q HM; intro g8 u8 HM) | (have q : dL HM = 8 := rfl; clear q HM; intro g9 u9 HM) | (have q : dL HM = 9 := rfl; clear q HM; intro g10 u10 HM) | (have q : dL HM = 10 := rfl; clear q HM; intro g11 u11 HM) | (have q : dL HM = 11 := rfl; clear q HM; intro g12 u12 HM) | (have q : dL HM = 12 := rfl; clear q HM; intro g13 u13 HM) | (have q : dL HM = 13 := rfl; clear q HM; intro g14 u14 HM)) | (refine wl_load rfl _ _ rfl rfl (by exact arrOf) HM (by exact memOf) (by exact lenOf) ?_) | (refine wl_storeM rfl _ _ _ rfl rfl rfl (by exact arrOf) HM (by exact idxOf) (by exact lenOf) (by exact lenOf) ?_; clear HM; intro us HM; dsimp only [List.set] at HM) | (refine wl_zero rfl _ rfl (by exact arrOf) (by kernel_rfl) ?_)) | (refine wl_built rfl 30 _ rfl x2 (by kernel_rfl) ?_) | (refine wl_built rfl 32 _ rfl m2 (by kernel_rfl) ?_))
  refine (F3.out _ (HE.out.mem HM.out)).mono ?_
  rintro e w4 ⟨rfl, h1⟩
  have HM2 := Lib.hid (HM.out.below h1)
  clear h1 HM F3
  have HM := HM2
  clear HM2
  go_wp2_with (first | (first | ((first | refine wl_box rfl _ _ rfl rfl HM ?_ | refine wl_alloc rfl _ rfl (by exact arrOf) HM ?_); first | (have q : dL HM = 0 := rfl; clear q HM; intro g1 u1 HM) | (have q : dL HM = 1 := rfl; clear q HM; intro g2 u2 HM) | (have q : dL HM = 2 := rfl; clear q HM; intro g3 u3 HM) | (have q : dL HM = 3 := rfl; clear q HM; intro g4 u4 HM) | (have q : dL HM = 4 := rfl; clear q HM; intro g5 u5 HM) | (have q : dL HM = 5 := rfl; clear q HM; intro g6 u6 HM) | (have q : dL HM = 6 := rfl; clear q HM; intro g7 u7 HM) | (have q : dL HM = 7 := rfl; clear q HM; intro g8 u8 HM) | (have q : dL HM = 8 := rfl; clear q HM; intro g9 u9 HM) | (have q : dL HM = 9 := rfl; clear q HM; intro g10 u10 HM) | (have q : dL HM = 10 := rfl; clear q HM; intro g11 u11 HM) | (have q : dL HM = 11 := rfl; clear q HM; intro g12 u12 HM) | (have q : dL HM = 12 := rfl; clear q HM; intro g13 u13 HM) | (have q : dL HM = 13 := rfl; clear q HM; intro g14 u14 HM)) | (refine wl_load rfl _ _ rfl rfl (by exact arrOf) HM (by exact memOf) (by exact lenOf) ?_) | (refine wl_storeM rfl _ _ _ rfl rfl rfl (by exact arrOf) HM (by exact idxOf) (by exact lenOf) (by exact lenOf) ?_; clear HM; intro us HM; dsimp only [List.set] at HM) | (refine wl_zero rfl _ rfl (by exact arrOf) (by kernel_rfl) ?_)) | (refine wl_cellM rfl _ rfl rfl HM (.tail _ (.head _)) (by rw [L2.out]; decide) HQ1.out ?_) | (refine wl_cellM rfl _ rfl rfl HM (.tail _ (.head _)) (by rw [L2.out]; decide) HQ0.out ?_))
  go_ret
  exact ⟨rfl, HM.out.1⟩
end Go.Proofs.YtcnckamocbaceaaDoor.Lp
