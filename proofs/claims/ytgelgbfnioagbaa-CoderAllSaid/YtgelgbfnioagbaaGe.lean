/-
  Own texts, laid together: Ge.
-/
import Derived.Test.YtgelgbfnioagbaaGd
import Derived.Deep.LoopGhost
/- Ge -/
namespace Go.Proofs.Ytgelgbfnioagbaa.Cd
open Go.RowKit
theorem emit_eq (out : List Bool) (x : Bool) (n : Nat) : emit out x n = (out ++ List.replicate 1 x) ++ List.replicate n (!x) := by simp [emit]
theorem lay_n (w0 : Bs) (p low high wait N n M : Nat) (ni : Int) (x : Bool) (t : Nat) (out out2 : List Bool) (w : World) (h : Hid (WSm w0 p low high wait N out w)) (ht : Hid (t = x.toNat)) (ht1 : t ≤ 1) (hni : ni = (n : Int)) (hn : n ≤ 100000) (ho : out.length ≤ 200000) (hN : N ≤ 300000) (hM : Hid (M = N + n)) (ho2 : Hid (out2 = out ++ List.replicate n x)) :
    Calls Try.prog 82 #[.pointer (some ⟨p, 0, none⟩), .int .u64 (t : Int), .int .i64 ni] w fun e w' => e = .returned (.tuple #[]) ∧ WSm w0 p low high wait M out2 w' := by
  subst hni
  exact lay_w w0 p low high wait N n M x t out out2 w h ht ht1 hn ho hN hM ho2
set_option maxHeartbeats 1000000 in
theorem send_w (w0 : Bs) (p low high wait N M : Nat) (x : Bool) (t : Nat) (out out2 : List Bool) (w : World) (h : Hid (WSm w0 p low high wait N out w)) (ht : Hid (t = x.toNat)) (ht1 : t ≤ 1) (hw : wait ≤ 100000) (hN : Hid (N = out.length)) (ho : out.length ≤ 190000) (hM : Hid (M = out2.length)) (ho2 : Hid (out2 = emit out x wait)) :
    Calls Try.prog 70 #[.pointer (some ⟨p, 0, none⟩), .int .u64 (t : Int)] w fun e w' => e = .returned (.tuple #[]) ∧ WSm w0 p low high 0 M out2 w' := by
  obtain ⟨t', ht'⟩ : ∃ t' : Nat, t' = (!x).toNat := ⟨_, rfl⟩
  have et : (1 : Int) - (t : Int) = (t' : Int) := by rw [ht', ht.out]; cases x <;> rfl
  have ht2 : t' ≤ 1 := by omega
  have HT' := Lib.hid ht'
  clear ht'
  have hl1 : (out ++ List.replicate 1 x).length = out.length + 1 := by simp
  have HM2 := Lib.hid (show M = (N + 1) + wait by rw [hM.out, ho2.out, emit_length, hN.out]; omega)
  have HL1 := Lib.hid hl1
  clear hl1
  have HN2 : N ≤ 190000 := by have := hN.out; omega
  go_enter Try.func70, Try.ntmps70
  go_wp2_with fail
  with_reducible refine (lay_n w0 p low high wait N 1 (N + 1) 1 x t out (out ++ List.replicate 1 x) w h ht ht1 rfl (by omega) (by omega) (by omega) (Lib.hid rfl) (Lib.hid rfl)).mono ?_
  rintro e w1 ⟨rfl, h1⟩
  have H1 := Lib.hid h1
  clear h1
  obtain ⟨c2, f2⟩ := H1.out.wait_
  go_wp2_with fail
  clear c2 f2
  with_reducible refine (lay_w w0 p low high wait (N + 1) wait M (!x) t' (out ++ List.replicate 1 x) out2 w1 H1 HT' ht2 (by omega) (by have := HL1.out; omega) (by omega) HM2 (Lib.hid (by rw [ho2.out, emit_eq]))).mono ?_
  rintro e w2 ⟨rfl, h2⟩
  have H2 := Lib.hid h2
  clear h2
  obtain ⟨c2, f2⟩ := H2.out.wait_
  go_wp2
  go_end0
  exact ⟨rfl, H2.out.setWait 0⟩
theorem send_n (w0 : Bs) (p low high wait N M : Nat) (ti : Int) (x : Bool) (t : Nat) (out out2 : List Bool) (w : World) (h : Hid (WSm w0 p low high wait N out w)) (hti : ti = (t : Int)) (ht : Hid (t = x.toNat)) (ht1 : t ≤ 1) (hw : wait ≤ 100000) (hN : Hid (N = out.length)) (ho : out.length ≤ 190000) (hM : Hid (M = out2.length)) (ho2 : Hid (out2 = emit out x wait)) :
    Calls Try.prog 70 #[.pointer (some ⟨p, 0, none⟩), .int .u64 ti] w fun e w' => e = .returned (.tuple #[]) ∧ WSm w0 p low high 0 M out2 w' := by
  subst hti
  exact send_w w0 p low high wait N M x t out out2 w h ht ht1 hw hN ho hM ho2
theorem double_n (p low high t lo hi : Nat) (ti : Int) (w : World) (hti : ti = (t : Int)) (h1 : t ≤ low) (h2 : t ≤ high) (h3 : lo = 2 * (low - t)) (h4 : hi = 2 * (high - t) + 1) (h5 : lo < 4294967296) (h6 : hi < 4294967296) (hlow : low < 4294967296) (hhigh : high < 4294967296) (h2c : Two w p low high) :
    Calls Try.prog 80 #[.pointer (some ⟨p, 0, none⟩), .int .u32 ti] w fun e w' => e = .returned (.tuple #[]) ∧ (w.setCell ⟨p, 0, none⟩ (.int .u32 (lo : Int))).setCell ⟨p, 1, none⟩ (.int .u32 (hi : Int)) = w' := by
  subst hti
  exact double_any p low high t lo hi w h1 h2 h3 h4 h5 h6 hlow hhigh h2c.1 h2c.2.1 h2c.2.2.1 h2c.2.2.2
/-- so many steps of widening are left -/
def WidR (w0 : Bs) (p : Nat) (fin : En) (m : Nat) (wr : World) : Prop := ∃ e : En, WS w0 p e wr ∧ widE m e = fin ∧ Ok e.low e.high ∧ 4294967296 < wid e * 2 ^ (m + 1) ∧ len e + m ≤ 140000 ∧ e.wait + m ≤ 70000
theorem widR_zero {e : En} (hok : Ok e.low e.high) (h : 4294967296 < wid e * 2 ^ (0 + 1)) : kind e.low e.high = 3 := by
  by_cases hk : kind e.low e.high = 3
  · exact hk
  · have := wid_small hok hk
    simp at h
    omega
theorem stepE_wait {e : En} (h : kind e.low e.high ≠ 3) : (stepE e).wait ≤ e.wait + 1 := by
  rcases kind_cases e.low e.high with ⟨hk, _⟩ | ⟨hk, _⟩ | ⟨hk, _⟩ | ⟨hk, _⟩
  · rw [stepE_0 hk]; exact Nat.zero_le _
  · rw [stepE_1 hk]; exact Nat.zero_le _
  · rw [stepE_2 hk]; exact Nat.le_refl _
  · exact absurd hk h
theorem WidR.step {w0 : Bs} {wr : World} {p m : Nat} {fin e : En} (hok : Ok e.low e.high) (hk : kind e.low e.high ≠ 3) (hf : widE (m + 1) e = fin) (hw : 4294967296 < wid e * 2 ^ (m + 1 + 1)) (h1 : len e + (m + 1) ≤ 140000) (h2 : e.wait + (m + 1) ≤ 70000) (hs : WS w0 p (stepE e) wr) : WidR w0 p fin m wr := by
  refine ⟨stepE e, hs, ?_, (stepE_low hok hk).2.2, ?_, ?_, ?_⟩
  · unfold widE at hf; rwa [if_neg hk] at hf
  · rw [stepE_wid hok hk]
    rw [Nat.pow_succ 2 (m + 1)] at hw
    rw [Nat.mul_comm 2 (wid e), Nat.mul_assoc, Nat.mul_comm 2]
    exact hw
  · rw [(stepE_off hk).2]; omega
  · have := stepE_wait hk; omega
set_option maxRecDepth 100000 in
set_option maxHeartbeats 2000000 in
theorem widen_w (w0 : Bs) (p m : Nat) (fin : En) (w : World) (h : Hid (WidR w0 p fin m w)) :
    Calls Try.prog 67 #[.pointer (some ⟨p, 0, none⟩)] w fun e w' => e = .returned (.tuple #[]) ∧ WS w0 p fin w' := by
  go_enter Try.func67, Try.ntmps67
  go_wp2_with fail
  go_loopg [2] m (fun k _ wr => Hid (WidR w0 p fin k wr))
  case atStart => exact h
  case round =>
    have HR := hrel
    clear hrel h
    obtain ⟨e, hs, hf, hok, hw, hb1, hb2⟩ := HR.out
    obtain ⟨c0, c1, -, -⟩ := WSm.two hs
    have HS := Lib.hid hs
    have HF := Lib.hid hf
    have HOK := Lib.hid hok
    have HW := Lib.hid hw
    have HB1 := Lib.hid hb1
    have HB2 := Lib.hid hb2
    clear hs hf hok hw hb1 hb2 HR
    go_wp2_with fail
    obtain ⟨kk, hkk⟩ : ∃ kk, kind e.low e.high = kk := ⟨_, rfl⟩
    refine (excess_any e.low e.high kk _ hkk).mono ?_
    rintro ee w1 ⟨rfl, hb⟩
    have H1 := Lib.hid (WSm.next HS.out hb)
    clear hb HS c0 c1
    rcases kind_cases e.low e.high with ⟨hk, k1⟩ | ⟨hk, k1, k2⟩ | ⟨hk, k1, k2, k3, k4⟩ | ⟨hk, k1, k2, k3⟩
    · obtain rfl : kk = 0 := by omega
      rw [excT_0]
      cases gk with
      | zero => exact absurd (widR_zero HOK.out HW.out) (by omega)
      | succ q =>
        obtain ⟨lo, hlo⟩ : ∃ lo, lo = 2 * (e.low - 0) := ⟨_, rfl⟩
        obtain ⟨hi, hhi⟩ : ∃ hi, hi = 2 * (e.high - 0) + 1 := ⟨_, rfl⟩
        have ok1 := HOK.out.1
        have ok2 := HOK.out.2
        have bw : e.wait ≤ 70000 := by have := HB2.out; omega
        have bo : e.out.length ≤ 140000 := by have := HB1.out; unfold len at this; omega
        have HK := Lib.hid hk
        have HLO := Lib.hid hlo
        have HHI := Lib.hid hhi
        have l1 : lo < 4294967296 := by omega
        have l2 : hi < 4294967296 := by omega
        clear hk hkk hlo hhi
        go_wp2_with fail
        with_reducible refine (send_n w0 p e.low e.high e.wait e.out.length (emit e.out false e.wait).length 0 false 0 e.out (emit e.out false e.wait) w1 H1 rfl (Lib.hid rfl) (by omega) (by omega) (Lib.hid rfl) (by omega) (Lib.hid rfl) (Lib.hid rfl)).mono ?_
        rintro ee w2 ⟨rfl, h2⟩
        have H2 := Lib.hid h2
        clear h2
        go_wp2_with fail
        with_reducible refine (double_n p e.low e.high 0 lo hi 0 w2 rfl (by omega) (by omega) HLO.out HHI.out l1 l2 (by omega) ok2 (WSm.two H2.out)).mono ?_
        rintro ee w3 ⟨rfl, rfl⟩
        have H3 := Lib.hid (WSm.setIv' H2.out lo hi)
        generalize ((w2.setCell ⟨p, 0, none⟩ (.int .u32 (lo : Int))).setCell ⟨p, 1, none⟩ (.int .u32 (hi : Int))) = w3 at H3 ⊢
        go_wp2
        go_roundg q
        case rel =>
          refine Lib.hid (WidR.step HOK.out (by rw [HK.out]; decide) HF.out HW.out HB1.out HB2.out ?_)
          rw [stepE_0 HK.out]
          have h3 := H3.out
          rw [HLO.out, HHI.out] at h3
          exact h3
        case measure => omega
    · obtain rfl : kk = 1 := by omega
      rw [excT_1]
      cases gk with
      | zero => exact absurd (widR_zero HOK.out HW.out) (by omega)
      | succ q =>
        obtain ⟨lo, hlo⟩ : ∃ lo, lo = 2 * (e.low - 2147483648) := ⟨_, rfl⟩
        obtain ⟨hi, hhi⟩ : ∃ hi, hi = 2 * (e.high - 2147483648) + 1 := ⟨_, rfl⟩
        have ok1 := HOK.out.1
        have ok2 := HOK.out.2
        have bw : e.wait ≤ 70000 := by have := HB2.out; omega
        have bo : e.out.length ≤ 140000 := by have := HB1.out; unfold len at this; omega
        have HK := Lib.hid hk
        have HLO := Lib.hid hlo
        have HHI := Lib.hid hhi
        have l1 : lo < 4294967296 := by omega
        have l2 : hi < 4294967296 := by omega
        clear hk hkk hlo hhi
        go_wp2_with fail
        with_reducible refine (send_n w0 p e.low e.high e.wait e.out.length (emit e.out true e.wait).length 1 true 1 e.out (emit e.out true e.wait) w1 H1 rfl (Lib.hid rfl) (by omega) (by omega) (Lib.hid rfl) (by omega) (Lib.hid rfl) (Lib.hid rfl)).mono ?_
        rintro ee w2 ⟨rfl, h2⟩
        have H2 := Lib.hid h2
        clear h2
        go_wp2_with fail
        with_reducible refine (double_n p e.low e.high 2147483648 lo hi 2147483648 w2 rfl (by omega) (by omega) HLO.out HHI.out l1 l2 (by omega) ok2 (WSm.two H2.out)).mono ?_
        rintro ee w3 ⟨rfl, rfl⟩
        have H3 := Lib.hid (WSm.setIv' H2.out lo hi)
        generalize ((w2.setCell ⟨p, 0, none⟩ (.int .u32 (lo : Int))).setCell ⟨p, 1, none⟩ (.int .u32 (hi : Int))) = w3 at H3 ⊢
        go_wp2
        go_roundg q
        case rel =>
          refine Lib.hid (WidR.step HOK.out (by rw [HK.out]; decide) HF.out HW.out HB1.out HB2.out ?_)
          rw [stepE_1 HK.out]
          have h3 := H3.out
          rw [HLO.out, HHI.out] at h3
          exact h3
        case measure => omega
    · obtain rfl : kk = 2 := by omega
      rw [excT_2]
      cases gk with
      | zero => exact absurd (widR_zero HOK.out HW.out) (by omega)
      | succ q =>
        obtain ⟨lo, hlo⟩ : ∃ lo, lo = 2 * (e.low - 1073741824) := ⟨_, rfl⟩
        obtain ⟨hi, hhi⟩ : ∃ hi, hi = 2 * (e.high - 1073741824) + 1 := ⟨_, rfl⟩
        have ok1 := HOK.out.1
        have ok2 := HOK.out.2
        have bw : e.wait ≤ 70000 := by have := HB2.out; omega
        have bo : e.out.length ≤ 140000 := by have := HB1.out; unfold len at this; omega
        have HK := Lib.hid hk
        have HLO := Lib.hid hlo
        have HHI := Lib.hid hhi
        have l1 : lo < 4294967296 := by omega
        have l2 : hi < 4294967296 := by omega
        clear hk hkk hlo hhi
        obtain ⟨c2, f2⟩ := WSm.wait_ H1.out
        go_wp2_with fail
        clear c2 f2
        have H2 := Lib.hid (WSm.setWait H1.out (e.wait + 1))
        have ew : (e.wait : Int) + 1 = ((e.wait + 1 : Nat) : Int) := by omega
        rw [ew]
        clear ew
        generalize w1.setCell ⟨p, 2, none⟩ (.int .i64 ((e.wait + 1 : Nat) : Int)) = w2 at H2 ⊢
        with_reducible refine (double_n p e.low e.high 1073741824 lo hi 1073741824 w2 rfl (by omega) (by omega) HLO.out HHI.out l1 l2 (by omega) ok2 (WSm.two H2.out)).mono ?_
        rintro ee w3 ⟨rfl, rfl⟩
        have H3 := Lib.hid (WSm.setIv' H2.out lo hi)
        generalize ((w2.setCell ⟨p, 0, none⟩ (.int .u32 (lo : Int))).setCell ⟨p, 1, none⟩ (.int .u32 (hi : Int))) = w3 at H3 ⊢
        go_wp2
        go_roundg q
        case rel =>
          refine Lib.hid (WidR.step HOK.out (by rw [HK.out]; decide) HF.out HW.out HB1.out HB2.out ?_)
          rw [stepE_2 HK.out]
          have h3 := H3.out
          rw [HLO.out, HHI.out] at h3
          exact h3
        case measure => omega
    · obtain rfl : kk = 3 := by omega
      rw [excT_3]
      have HE := Lib.hid (show e = fin from by
        have := HF.out
        cases gk with
        | zero => exact this
        | succ q => unfold widE at this; rwa [if_pos hk] at this)
      clear hk hkk
      go_wp2
      exact bodyPost_ret (v := .tuple #[]) (by simp [results, Try.results67, go_sem]) rfl ⟨rfl, by rw [← HE.out]; exact H1.out⟩
end Go.Proofs.Ytgelgbfnioagbaa.Cd
