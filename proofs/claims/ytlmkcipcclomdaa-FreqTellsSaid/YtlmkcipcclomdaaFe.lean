/-
  What the document's Check, and Total, the program's and the document's, answer.
-/
import Derived.Test.YtlmkcipcclomdaaFd
namespace Go.Proofs.Ytlmkcipcclomdaa.Fq
open Go.RowKit

set_option maxRecDepth 100000 in
set_option maxHeartbeats 1000000 in
theorem rcheck_size (A : Option Addr) (n c : Nat) (w : World) (hn : n < 2 ∨ 257 < n) (hb : n ≤ maxLen) :
    Calls Try.prog 14 #[frV A n c] w fun e w' => e = .returned (.int .i64 1) ∧ Below w.heap.size w w' := by
  unfold maxLen at hb
  unfold frV
  go_enter Try.func14, Try.ntmps14
  rcases hn with hn | hn
  all_goals
    go_wp2
    go_ret
    exact ⟨rfl, (Below.refl w.heap.size w).alloc (Nat.le_refl _) _⟩
set_option maxRecDepth 100000 in
set_option maxHeartbeats 1000000 in
theorem rcheck_first (A : Option Addr) (m c : Nat) (zs : List Int) (x : Int) (w : World) (hr : Hid (RdI w A (m + 1) zs)) (h1 : 1 ≤ m) (h2 : m ≤ 256) (hx : Hid (zs.getD 0 0 = x)) (h0 : ¬ x = 0) :
    Calls Try.prog 14 #[frV A (m + 1) c] w fun e w' => e = .returned (.int .i64 1) ∧ Below w.heap.size w w' := by
  obtain ⟨ad, rfl, hK, hW, hR⟩ := open_freq (c := c) hr.out
  have HK := Lib.hid hK
  have HW := Lib.hid hW
  have HR := Lib.hid hR
  clear hK hW hR
  have hc0 := HR.out.cell0 (by omega)
  rw [hx.out] at hc0
  have hne : (x != 0) = true := by simp [h0]
  unfold frV
  go_enter Try.func14, Try.ntmps14
  go_wp2
  go_ret
  exact ⟨rfl, HW.out⟩
set_option maxRecDepth 100000 in
set_option maxHeartbeats 1000000 in
theorem rcheck_last (A : Option Addr) (m c : Nat) (zs : List Int) (y : Int) (w : World) (hr : Hid (RdI w A (m + 1) zs)) (h1 : 1 ≤ m) (h2 : m ≤ 256) (hx : Hid (zs.getD 0 0 = 0)) (hy : Hid (zs.getD m 0 = y)) (h0 : 16384 < y) :
    Calls Try.prog 14 #[frV A (m + 1) c] w fun e w' => e = .returned (.int .i64 1) ∧ Below w.heap.size w w' := by
  obtain ⟨ad, rfl, hK, hW, hR⟩ := open_freq (c := c) hr.out
  have HK := Lib.hid hK
  have HW := Lib.hid hW
  have HR := Lib.hid hR
  clear hK hW hR
  have hc0 := HR.out.cell0 (by omega)
  rw [hx.out] at hc0
  have hcl := HR.out.cell (k := m) (by omega)
  rw [hy.out] at hcl
  unfold frV
  go_enter Try.func14, Try.ntmps14
  go_wp2
  go_ret
  exact ⟨rfl, HW.out⟩
set_option maxRecDepth 100000 in
set_option maxHeartbeats 1000000 in
theorem rcheck_falls (A : Option Addr) (m c p : Nat) (zs : List Int) (y : Int) (w : World) (hr : Hid (RdI w A (m + 1) zs)) (h1 : 1 ≤ m) (h2 : m ≤ 256) (hx : Hid (zs.getD 0 0 = 0)) (hy : Hid (zs.getD m 0 = y)) (h0 : y ≤ 16384)
    (hp : p < m) (hpl : Hid (zs.getD (p + 1) 0 ≤ zs.getD p 0)) (HS : Hid (∀ k, k < p → zs.getD k 0 < zs.getD (k + 1) 0)) :
    Calls Try.prog 14 #[frV A (m + 1) c] w fun e w' => e = .returned (.int .i64 1) ∧ Below w.heap.size w w' := by
  obtain ⟨ad, rfl, hK, hW, hR⟩ := open_freq (c := c) hr.out
  have HK := Lib.hid hK
  have HW := Lib.hid hW
  have HR := Lib.hid hR
  clear hK hW hR
  have hc0 := HR.out.cell0 (by omega)
  rw [hx.out] at hc0
  have hcl := HR.out.cell (k := m) (by omega)
  rw [hy.out] at hcl
  unfold frV
  go_enter Try.func14, Try.ntmps14
  go_wp2
  generalize w.alloc (.cells #[.slice (some ad) (m + 1) c] 24) = w0 at HK HW HR hc0 hcl ⊢
  have ck := blk0 HK.out
  go_loopw [4] (fun i wr => ∃ k q : Nat, k ≤ p ∧ i = .int .i64 ((k : Int) + 1) ∧ wr = w0.drewN q) (fun i _ => m + 1 - (intOf i).toNat)
  case atStart => exact ⟨0, 0, by omega, rfl, rfl⟩
  case round =>
    obtain ⟨k, q, hk, rfl, rfl⟩ := hrel
    have hlt : k < m := by omega
    have x0 := HR.out.cell (k := k) (by omega)
    have x1 := HR.out.cellS (k := k) (by omega)
    by_cases hkp : k < p
    · have hlt2 := HS.out k hkp
      generalize zs.getD k 0 = a at x0 hlt2
      generalize zs.getD (k + 1) 0 = b at x1 hlt2
      have hn : decide (b ≤ a) = false := by simp; omega
      have i1 : IntKind.i64.wrap ((k : Int) + 1) = (k : Int) + 1 := IntWalk.i64_in _ (by omega)
      have i2 : (0 : Int) ≤ (k : Int) + 1 := by omega
      have i3 : ((k : Int) + 1).toNat = k + 1 := by omega
      have i4 : (k : Int) < (m : Int) + 1 := by omega
      have i5 : (k : Int) < (m : Int) := by omega
      have i6 : k < m + 1 := by omega
      go_wp2_with fail
      go_quiet (fail)
      go_wp2
      go_roundw
      case rel => exact ⟨k + 1, q + nq, by omega, by go_num, by first | rfl | rw [World.drewN_drewN]⟩
      case measure => simp [intOf]; omega
    · obtain rfl : k = p := by omega
      have hlt2 := hpl.out
      clear hpl
      generalize zs.getD k 0 = a at x0 hlt2
      generalize zs.getD (k + 1) 0 = b at x1 hlt2
      have hn : decide (b ≤ a) = true := by simp; omega
      have i1 : IntKind.i64.wrap ((k : Int) + 1) = (k : Int) + 1 := IntWalk.i64_in _ (by omega)
      have i2 : (0 : Int) ≤ (k : Int) + 1 := by omega
      have i3 : ((k : Int) + 1).toNat = k + 1 := by omega
      have i4 : (k : Int) < (m : Int) + 1 := by omega
      have i5 : (k : Int) < (m : Int) := by omega
      have i6 : k < m + 1 := by omega
      go_wp2_with fail
      go_quiet (fail)
      go_wp2
      go_ret
      exact ⟨rfl, by first | exact below_drewN HW.out _ | exact below_drewN (below_drewN HW.out _) _⟩
set_option maxRecDepth 100000 in
set_option maxHeartbeats 1000000 in
theorem rcheck_ok (A : Option Addr) (m c : Nat) (zs : List Int) (y : Int) (w : World) (hr : Hid (RdI w A (m + 1) zs)) (h1 : 1 ≤ m) (h2 : m ≤ 256) (hx : Hid (zs.getD 0 0 = 0)) (hy : Hid (zs.getD m 0 = y)) (h0 : y ≤ 16384) (HS : Hid (∀ k, k < m → zs.getD k 0 < zs.getD (k + 1) 0)) :
    Calls Try.prog 14 #[frV A (m + 1) c] w fun e w' => e = .returned (.int .i64 0) ∧ Below w.heap.size w w' := by
  obtain ⟨ad, rfl, hK, hW, hR⟩ := open_freq (c := c) hr.out
  have HK := Lib.hid hK
  have HW := Lib.hid hW
  have HR := Lib.hid hR
  clear hK hW hR
  have hc0 := HR.out.cell0 (by omega)
  rw [hx.out] at hc0
  have hcl := HR.out.cell (k := m) (by omega)
  rw [hy.out] at hcl
  unfold frV
  go_enter Try.func14, Try.ntmps14
  go_wp2
  generalize w.alloc (.cells #[.slice (some ad) (m + 1) c] 24) = w0 at HK HW HR hc0 hcl ⊢
  have ck := blk0 HK.out
  go_loopw [4] (fun i wr => ∃ k q : Nat, k ≤ m ∧ i = .int .i64 ((k : Int) + 1) ∧ wr = w0.drewN q) (fun i _ => m + 1 - (intOf i).toNat)
  case atStart => exact ⟨0, 0, by omega, rfl, rfl⟩
  case round =>
    obtain ⟨k, q, hk, rfl, rfl⟩ := hrel
    by_cases hlt : k < m
    · have x0 := HR.out.cell (k := k) (by omega)
      have x1 := HR.out.cellS (k := k) (by omega)
      have hlt2 := HS.out k hlt
      generalize zs.getD k 0 = a at x0 hlt2
      generalize zs.getD (k + 1) 0 = b at x1 hlt2
      have hn : decide (b ≤ a) = false := by simp; omega
      have i1 : IntKind.i64.wrap ((k : Int) + 1) = (k : Int) + 1 := IntWalk.i64_in _ (by omega)
      have i2 : (0 : Int) ≤ (k : Int) + 1 := by omega
      have i3 : ((k : Int) + 1).toNat = k + 1 := by omega
      have i4 : (k : Int) < (m : Int) + 1 := by omega
      have i5 : (k : Int) < (m : Int) := by omega
      have i6 : k < m + 1 := by omega
      go_wp2_with fail
      go_quiet (fail)
      go_wp2
      go_roundw
      case rel => exact ⟨k + 1, q + nq, by omega, by go_num, by first | rfl | rw [World.drewN_drewN]⟩
      case measure => simp [intOf]; omega
    · go_wp2
      go_ret
      exact ⟨rfl, below_drewN HW.out q⟩
theorem rcheck_any (A : Option Addr) (n c : Nat) (zs : List Int) (r : Bool) (w : World) (hr : Hid (RdI w A n zs)) (hb : n ≤ maxLen) (hok : okF zs = r) :
    Calls Try.prog 14 #[frV A n c] w fun e w' => e = .returned (.int .i64 (errN r)) ∧ Below w.heap.size w w' := by
  have hl := hr.out.1
  cases r with
  | true =>
    obtain ⟨h1, h2, h3, h4, h5⟩ := okF_parts hok
    rw [hl] at h1 h2 h4 h5
    obtain ⟨m, rfl⟩ : ∃ m, n = m + 1 := ⟨n - 1, by omega⟩
    simp only [Nat.add_sub_cancel] at h4 h5
    exact rcheck_ok A m c zs _ w hr (by omega) (by omega) (Lib.hid h3) (Lib.hid rfl) h4 (Lib.hid h5)
  | false =>
    rcases okF_not hok with h | ⟨h1, h2, h⟩
    · rw [hl] at h
      exact rcheck_size A n c w h hb
    · rw [hl] at h1 h2 h
      obtain ⟨m, rfl⟩ : ∃ m, n = m + 1 := ⟨n - 1, by omega⟩
      simp only [Nat.add_sub_cancel] at h
      rcases h with h | ⟨h3, h | ⟨h4, p, hp, h5, h6⟩⟩
      · exact rcheck_first A m c zs _ w hr (by omega) (by omega) (Lib.hid rfl) h
      · exact rcheck_last A m c zs _ w hr (by omega) (by omega) (Lib.hid h3) (Lib.hid rfl) h
      · exact rcheck_falls A m c p zs _ w hr (by omega) (by omega) (Lib.hid h3) (Lib.hid rfl) h4 hp (Lib.hid h5) (Lib.hid h6)
/-- a table's total -/
def totF (r : Bool) (zs : List Int) : Int := if r then zs.getD (zs.length - 1) 0 else 0
set_option maxRecDepth 100000 in
set_option maxHeartbeats 1000000 in
theorem total_yes (A : Option Addr) (m c : Nat) (zs : List Int) (y : Int) (w : World) (hr : Hid (RdI w A (m + 1) zs)) (hb : m + 1 ≤ maxLen) (hok : Hid (okF zs = true)) (hy : Hid (zs.getD m 0 = y)) :
    Calls Try.prog 15 #[frV A (m + 1) c] w fun e w' => e = .returned (.int .i64 y) ∧ Below w.heap.size w w' := by
  obtain ⟨ad, rfl, hK, hW, hR⟩ := open_freq (c := c) hr.out
  have HK := Lib.hid hK
  have HW := Lib.hid hW
  have HR := Lib.hid hR
  have HBD := Lib.hid hb
  unfold maxLen at hb
  clear hK hW hR
  unfold frV
  go_enter Try.func15, Try.ntmps15
  go_wp2_with fail
  generalize w.alloc (.cells #[.slice (some ad) (m + 1) c] 24) = w0 at HK HW HR ⊢
  refine (check_any (some ad) (m + 1) c zs true _ HR HBD.out hok.out).mono ?_
  rintro e w1 ⟨rfl, hb1⟩
  have HR1 := Lib.hid (HR.out.below hb1)
  have ck := blk0 (HK.out.below hb1 HK.out.lt)
  have HW1 := Lib.hid (HW.out.trans (hb1.mono HW.out.size))
  have hcl := HR1.out.cell (k := m) (by omega)
  rw [hy.out] at hcl
  clear hb1
  have e0 : errN true = 0 := rfl
  rw [e0]
  clear e0
  go_wp2
  go_ret
  exact ⟨rfl, HW1.out⟩
set_option maxRecDepth 100000 in
set_option maxHeartbeats 1000000 in
theorem total_no (A : Option Addr) (n c : Nat) (zs : List Int) (w : World) (hr : Hid (RdI w A n zs)) (hb : n ≤ maxLen) (hok : Hid (okF zs = false)) :
    Calls Try.prog 15 #[frV A n c] w fun e w' => e = .returned (.int .i64 0) ∧ Below w.heap.size w w' := by
  have HBD := Lib.hid hb
  clear hb
  unfold frV
  go_enter Try.func15, Try.ntmps15
  go_wp2_with fail
  refine (check_any A n c zs false _ (Lib.hid (hr.out.alloc _)) HBD.out hok.out).mono ?_
  rintro e w1 ⟨rfl, hb1⟩
  have HW1 := Lib.hid (((Below.refl w.heap.size w).alloc (Nat.le_refl _) _).trans (hb1.mono (by simp)))
  clear hb1
  have e0 : errN false = 1 := rfl
  rw [e0]
  clear e0
  go_wp2
  go_ret
  exact ⟨rfl, HW1.out⟩
theorem total_any (A : Option Addr) (n c : Nat) (zs : List Int) (r : Bool) (y : Int) (w : World) (hr : Hid (RdI w A n zs)) (hb : n ≤ maxLen) (hok : okF zs = r) (hy : totF r zs = y) :
    Calls Try.prog 15 #[frV A n c] w fun e w' => e = .returned (.int .i64 y) ∧ Below w.heap.size w w' := by
  cases r with
  | true =>
    have hl := hr.out.1
    obtain ⟨h1, _⟩ := okF_parts hok
    rw [hl] at h1
    obtain ⟨m, rfl⟩ : ∃ m, n = m + 1 := ⟨n - 1, by omega⟩
    refine total_yes A m c zs y w hr hb (Lib.hid hok) (Lib.hid ?_)
    rw [← hy]; simp [totF, hl]
  | false =>
    subst hy
    exact total_no A n c zs w hr hb (Lib.hid hok)
set_option maxRecDepth 100000 in
set_option maxHeartbeats 1000000 in
theorem rtotal_yes (A : Option Addr) (m c : Nat) (zs : List Int) (y : Int) (w : World) (hr : Hid (RdI w A (m + 1) zs)) (hb : m + 1 ≤ maxLen) (hok : Hid (okF zs = true)) (hy : Hid (zs.getD m 0 = y)) :
    Calls Try.prog 16 #[frV A (m + 1) c] w fun e w' => e = .returned (.int .i64 y) ∧ Below w.heap.size w w' := by
  obtain ⟨ad, rfl, hK, hW, hR⟩ := open_freq (c := c) hr.out
  have HK := Lib.hid hK
  have HW := Lib.hid hW
  have HR := Lib.hid hR
  have HBD := Lib.hid hb
  unfold maxLen at hb
  clear hK hW hR
  unfold frV
  go_enter Try.func16, Try.ntmps16
  go_wp2_with fail
  generalize w.alloc (.cells #[.slice (some ad) (m + 1) c] 24) = w0 at HK HW HR ⊢
  refine (rcheck_any (some ad) (m + 1) c zs true _ HR HBD.out hok.out).mono ?_
  rintro e w1 ⟨rfl, hb1⟩
  have HR1 := Lib.hid (HR.out.below hb1)
  have ck := blk0 (HK.out.below hb1 HK.out.lt)
  have HW1 := Lib.hid (HW.out.trans (hb1.mono HW.out.size))
  have hcl := HR1.out.cell (k := m) (by omega)
  rw [hy.out] at hcl
  clear hb1
  have e0 : errN true = 0 := rfl
  rw [e0]
  clear e0
  go_wp2
  go_ret
  exact ⟨rfl, HW1.out⟩
set_option maxRecDepth 100000 in
set_option maxHeartbeats 1000000 in
theorem rtotal_no (A : Option Addr) (n c : Nat) (zs : List Int) (w : World) (hr : Hid (RdI w A n zs)) (hb : n ≤ maxLen) (hok : Hid (okF zs = false)) :
    Calls Try.prog 16 #[frV A n c] w fun e w' => e = .returned (.int .i64 0) ∧ Below w.heap.size w w' := by
  have HBD := Lib.hid hb
  clear hb
  unfold frV
  go_enter Try.func16, Try.ntmps16
  go_wp2_with fail
  refine (rcheck_any A n c zs false _ (Lib.hid (hr.out.alloc _)) HBD.out hok.out).mono ?_
  rintro e w1 ⟨rfl, hb1⟩
  have HW1 := Lib.hid (((Below.refl w.heap.size w).alloc (Nat.le_refl _) _).trans (hb1.mono (by simp)))
  clear hb1
  have e0 : errN false = 1 := rfl
  rw [e0]
  clear e0
  go_wp2
  go_ret
  exact ⟨rfl, HW1.out⟩
theorem rtotal_any (A : Option Addr) (n c : Nat) (zs : List Int) (r : Bool) (y : Int) (w : World) (hr : Hid (RdI w A n zs)) (hb : n ≤ maxLen) (hok : okF zs = r) (hy : totF r zs = y) :
    Calls Try.prog 16 #[frV A n c] w fun e w' => e = .returned (.int .i64 y) ∧ Below w.heap.size w w' := by
  cases r with
  | true =>
    have hl := hr.out.1
    obtain ⟨h1, _⟩ := okF_parts hok
    rw [hl] at h1
    obtain ⟨m, rfl⟩ : ∃ m, n = m + 1 := ⟨n - 1, by omega⟩
    refine rtotal_yes A m c zs y w hr hb (Lib.hid hok) (Lib.hid ?_)
    rw [← hy]; simp [totF, hl]
  | false =>
    subst hy
    exact rtotal_no A n c zs w hr hb (Lib.hid hok)
end Go.Proofs.Ytlmkcipcclomdaa.Fq
