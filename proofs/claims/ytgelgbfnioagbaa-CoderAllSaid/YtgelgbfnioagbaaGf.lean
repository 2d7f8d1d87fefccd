/-
  Own texts, laid together: Gf.
-/
import Derived.Test.YtgelgbfnioagbaaGe
import Derived.Deep.RegionWith
/- Gf -/
namespace Go.Proofs.Ytgelgbfnioagbaa.Cd
open Go.RowKit
/-- whether a state is too long -/
def putC (e : En) : Int := if e.out.length ≤ 65536 ∧ e.wait ≤ 65536 then 0 else 2
theorem widR_start {w0 : Bs} {w1 : World} {p : Nat} {e : En} {a b T : Nat} (h : WSm w0 p e.low e.high e.wait e.out.length e.out w1) (hok : Ok e.low e.high) (hk : kind e.low e.high = 3) (hS : Sp a b T) (ho : e.out.length ≤ 65536) (hw : e.wait ≤ 65536) {lo hi : Nat} (hlo : lo = e.low + (e.high - e.low + 1) * a / T) (hhi : hi = e.low + (e.high - e.low + 1) * b / T - 1) :
    WidR w0 p (putE e a b T) 40 ((w1.setCell ⟨p, 1, none⟩ (.int .u32 (hi : Int))).setCell ⟨p, 0, none⟩ (.int .u32 (lo : Int))) := by
  obtain ⟨n1, _, _, _, n5⟩ := nar_ok hok hk hS
  have hs := WSm.setIv h lo hi
  subst hlo hhi
  refine ⟨nar e a b T, hs, rfl, n1, ?_, ?_, ?_⟩
  · rw [pow41]; omega
  · show e.out.length + e.wait + 40 ≤ 140000; omega
  · show e.wait + 40 ≤ 70000; omega
set_option maxRecDepth 100000 in
set_option maxHeartbeats 2000000 in
theorem put_w (w0 : Bs) (p : Nat) (e fin : En) (cd : Int) (C : Option Addr) (m d : Nat) (xs : List Int) (s : Int) (a b T : Nat) (w : World) (h : Hid (WS w0 p e w)) (hok : Hid (Ok e.low e.high)) (hk : Hid (kind e.low e.high = 3)) (ho : e.out.length ≤ 65536) (hw : e.wait ≤ 65536) (hx : Hid (Fq.RdI w C m xs)) (hm : Hid (m ≤ maxLen)) (hsym : Hid (symP xs s a b T)) (hfin : Hid (putE e a b T = fin)) (hcd : Hid (putC fin = cd)) :
    Calls Try.prog 39 #[.pointer (some ⟨p, 0, none⟩), .agg #[.slice C m d], .int .i64 s] w fun r w' => r = .returned (.int .i64 cd) ∧ WS w0 p fin w' := by
  obtain ⟨n1, -, n3, -, n5⟩ := nar_ok hok.out hk.out hsym.out.2.2.2
  obtain ⟨lo, hlo⟩ : ∃ lo, lo = e.low + (e.high - e.low + 1) * a / T := ⟨_, rfl⟩
  obtain ⟨hi, hhi⟩ : ∃ hi, hi = e.low + (e.high - e.low + 1) * b / T - 1 := ⟨_, rfl⟩
  have hb1 : 1 ≤ (e.high - e.low + 1) * b / T := by
    have hw := wide_wid hok.out hk.out
    have hw1 : 1073741824 ≤ e.high - e.low + 1 := hw.1
    exact Nat.lt_of_le_of_lt (Nat.zero_le _) (nar_parts hsym.out.2.2.2 (W := e.high - e.low + 1) (by omega)).1
  have l1 : lo ≤ hi := by rw [hlo, hhi]; exact n1.1
  have l2 : hi < 4294967296 := by rw [hhi]; exact n1.2
  have o1 := hok.out.1
  have o2 := hok.out.2
  have HLO := Lib.hid hlo
  have HHI := Lib.hid hhi
  have HB1 := Lib.hid hb1
  clear hlo hhi hb1 n1 n3 n5
  have HS0 := Lib.hid (nrs_start (d := d) hx.out)
  have HW0 := Lib.hid (WSm.next h.out ((Below.refl w.heap.size w).alloc (Nat.le_refl _) (.cells #[.slice C m d] 30)))
  go_enter Try.func39, Try.ntmps39
  go_wp2_with fail
  generalize w.alloc (.cells #[.slice C m d] 30) = w1 at HS0 HW0 ⊢
  obtain ⟨bf, hbf⟩ : ∃ bf, bf = w.heap.size := ⟨_, rfl⟩
  rw [← hbf] at HS0 ⊢
  clear hbf
  have c0 := Fq.blk0 HS0.out.1
  go_region_with (go_at_call 66; refine (narrow_ok p e.low e.high a b T lo hi C m d xs s _ o1 o2 (Lib.hid HS0.out.2.1.drew) hm hsym (Lib.hid (WSm.two HW0.out).drew) HLO HHI HB1 l1 l2).mono ?_; rintro r w2 ⟨rfl, w3, hb3, rfl⟩)
  have H3 := Lib.hid (WSm.next HW0.out (show Below w1.heap.size w1 w3 from ⟨hb3.os, hb3.tape, hb3.output, hb3.size, hb3.block⟩))
  have H4 := Lib.hid (widR_start H3.out hok.out hk.out hsym.out.2.2.2 ho hw HLO.out HHI.out)
  generalize (w3.setCell ⟨p, 1, none⟩ (.int .u32 (hi : Int))).setCell ⟨p, 0, none⟩ (.int .u32 (lo : Int)) = w4 at H4 ⊢
  clear hb3 c0 H3 HW0 HS0
  go_wp2_with fail
  rw [hfin.out] at H4
  with_reducible refine (widen_w w0 p 40 fin w4 H4).mono ?_
  rintro r w5 ⟨rfl, h5⟩
  have H5 := Lib.hid h5
  clear h5
  obtain ⟨c4, -⟩ := WSm.n_ H5.out
  obtain ⟨c2, -⟩ := WSm.wait_ H5.out
  by_cases q1 : fin.out.length ≤ 65536
  · have d1 : decide ((65536 : Int) < (fin.out.length : Int)) = false := by simp; omega
    by_cases q2 : fin.wait ≤ 65536
    · have d2 : decide ((65536 : Int) < (fin.wait : Int)) = false := by simp; omega
      have HC := Lib.hid (show cd = 0 by rw [← hcd.out, putC, if_pos ⟨q1, q2⟩])
      go_wp2
      go_ret
      exact ⟨by rw [HC.out]; rfl, H5.out⟩
    · have d2 : decide ((65536 : Int) < (fin.wait : Int)) = true := by simp; omega
      have HC := Lib.hid (show cd = 2 by rw [← hcd.out, putC, if_neg (fun h => q2 h.2)])
      go_wp2
      go_ret
      exact ⟨by rw [HC.out]; rfl, H5.out⟩
  · have d1 : decide ((65536 : Int) < (fin.out.length : Int)) = true := by simp; omega
    have HC := Lib.hid (show cd = 2 by rw [← hcd.out, putC, if_neg (fun h => q1 h.1)])
    go_wp2
    go_ret
    exact ⟨by rw [HC.out]; rfl, H5.out⟩
set_option maxHeartbeats 1000000 in
theorem put_no (w0 : Bs) (p low high wait N : Nat) (out : List Bool) (C : Option Addr) (m d : Nat) (xs : List Int) (s : Int) (w : World) (h : Hid (WSm w0 p low high wait N out w)) (hx : Hid (Fq.RdI w C m xs)) (hm : Hid (m ≤ maxLen)) (hsym : Hid (Fq.symB xs s = false)) :
    Calls Try.prog 39 #[.pointer (some ⟨p, 0, none⟩), .agg #[.slice C m d], .int .i64 s] w fun r w' => r = .returned (.int .i64 1) ∧ WSm w0 p low high wait N out w' := by
  have HS0 := Lib.hid (nrs_start (d := d) hx.out)
  have HW0 := Lib.hid (WSm.next h.out ((Below.refl w.heap.size w).alloc (Nat.le_refl _) (.cells #[.slice C m d] 30)))
  go_enter Try.func39, Try.ntmps39
  go_wp2_with fail
  generalize w.alloc (.cells #[.slice C m d] 30) = w1 at HS0 HW0 ⊢
  obtain ⟨bf, hbf⟩ : ∃ bf, bf = w.heap.size := ⟨_, rfl⟩
  rw [← hbf] at HS0 ⊢
  clear hbf
  have c0 := Fq.blk0 HS0.out.1
  go_region_with (go_at_call 66; refine (narrow_no p C m d xs s _ (Lib.hid HS0.out.2.1.drew) hm hsym).mono ?_; rintro r w3 ⟨rfl, hb3⟩)
  have H3 := Lib.hid (WSm.next HW0.out (show Below w1.heap.size w1 w3 from ⟨hb3.os, hb3.tape, hb3.output, hb3.size, hb3.block⟩))
  clear hb3 c0
  go_wp2
  go_ret
  exact ⟨rfl, H3.out⟩
end Go.Proofs.Ytgelgbfnioagbaa.Cd
