/-
  What Span answers, the program's and the document's.
-/
import Derived.Test.YtlmkcipcclomdaaFe
namespace Go.Proofs.Ytlmkcipcclomdaa.Fq
open Go.RowKit

/-- whether there is a symbol s -/
def symB (zs : List Int) (s : Int) : Bool := okF zs && decide (0 ≤ s ∧ s < (zs.length : Int) - 1)
def spanT (a b c : Int) : Value := .tuple #[.int .i64 a, .int .i64 b, .int .i64 c]
def spanV (zs : List Int) (s : Int) : Value := if symB zs s then spanT (zs.getD s.toNat 0) (zs.getD (s.toNat + 1) 0) 0 else spanT 0 0 1
/-- the box that a table's value is laid in -/
theorem box_freq {w : World} {A : Option Addr} {n c : Nat} {zs : List Int} (h : RdI w A n zs) :
    Blk (w.alloc (.cells #[.slice A n c] 24)) w.heap.size 24 #[.slice A n c] ∧ Below w.heap.size w (w.alloc (.cells #[.slice A n c] 24)) ∧ RdI (w.alloc (.cells #[.slice A n c] 24)) A n zs :=
  ⟨Blk.new w _ _, (Below.refl w.heap.size w).alloc (Nat.le_refl _) _, h.alloc _⟩
set_option maxRecDepth 100000 in
set_option maxHeartbeats 1000000 in
theorem span_yes (ad : Addr) (n c k : Nat) (zs : List Int) (a b : Int) (w : World) (hr : Hid (RdI w (some ad) n zs)) (hb : n ≤ 257) (hok : Hid (okF zs = true)) (hk : k + 1 < n) (ha : Hid (zs.getD k 0 = a)) (hbb : Hid (zs.getD (k + 1) 0 = b)) :
    Calls Try.prog 9 #[frV (some ad) n c, .int .i64 (k : Int)] w fun e w' => e = .returned (spanT a b 0) ∧ Below w.heap.size w w' := by
  obtain ⟨hK, hW, hR⟩ := box_freq (c := c) hr.out
  have HK := Lib.hid hK
  have HW := Lib.hid hW
  have HR := Lib.hid hR
  have HBD := Lib.hid (show n ≤ maxLen by unfold maxLen; omega)
  clear hK hW hR
  unfold frV
  go_enter Try.func9, Try.ntmps9
  go_wp2_with fail
  generalize w.alloc (.cells #[.slice (some ad) n c] 24) = w0 at HK HW HR ⊢
  refine (check_any (some ad) n c zs true _ HR HBD.out hok.out).mono ?_
  rintro e w1 ⟨rfl, hb1⟩
  have HR1 := Lib.hid (HR.out.below hb1)
  have ck := blk0 (HK.out.below hb1 HK.out.lt)
  have HW1 := Lib.hid (HW.out.trans (hb1.mono HW.out.size))
  have x0 := HR1.out.cell (k := k) (by omega)
  have x1 := HR1.out.cellS (k := k) (by omega)
  rw [ha.out] at x0
  rw [hbb.out] at x1
  clear hb1
  rw [show errN true = 0 from rfl]
  have d1 : decide ((k : Int) < 0) = false := by simp
  have d2 : decide ((n : Int) - 2 < (k : Int)) = false := by simp; omega
  have d3 : decide ((n : Int) - 1 ≤ (k : Int)) = false := by simp; omega
  have i1 : IntKind.i64.wrap ((k : Int) + 1) = (k : Int) + 1 := IntWalk.i64_in _ (by omega)
  have i2 : (0 : Int) ≤ (k : Int) + 1 := by omega
  have i3 : ((k : Int) + 1).toNat = k + 1 := by omega
  have i4 : (k : Int) < (n : Int) := by omega
  have i5 : (k : Int) + 1 < (n : Int) := by omega
  have i6 : k < n := by omega
  go_wp2_with fail
  go_quiet (fail)
  go_wp2
  exact bodyPost_ret (v := spanT a b 0) (by simp [results, Try.results9, go_sem, spanT]) rfl ⟨rfl, below_drewN HW1.out _⟩
set_option maxHeartbeats 1000000 in
theorem span_not (A : Option Addr) (n c : Nat) (zs : List Int) (s : Int) (w : World) (hr : Hid (RdI w A n zs)) (hb : n ≤ maxLen) (hok : Hid (okF zs = false)) :
    Calls Try.prog 9 #[frV A n c, .int .i64 s] w fun e w' => e = .returned (spanT 0 0 1) ∧ Below w.heap.size w w' := by
  have HBD := Lib.hid hb
  clear hb
  unfold frV
  go_enter Try.func9, Try.ntmps9
  go_wp2_with fail
  refine (check_any A n c zs false _ (Lib.hid (hr.out.alloc _)) HBD.out hok.out).mono ?_
  rintro e w1 ⟨rfl, hb1⟩
  have HW1 := Lib.hid (((Below.refl w.heap.size w).alloc (Nat.le_refl _) _).trans (hb1.mono (by simp)))
  clear hb1
  rw [show errN false = 1 from rfl]
  go_wp2
  exact bodyPost_ret (v := spanT 0 0 1) (by simp [results, Try.results9, go_sem, spanT]) rfl ⟨rfl, HW1.out⟩
set_option maxHeartbeats 1000000 in
theorem span_out (A : Option Addr) (n c : Nat) (zs : List Int) (s : Int) (w : World) (hr : Hid (RdI w A n zs)) (hb : n ≤ 257) (hok : Hid (okF zs = true)) (hs : s < 0 ∨ 0 ≤ s ∧ (n : Int) - 1 ≤ s) :
    Calls Try.prog 9 #[frV A n c, .int .i64 s] w fun e w' => e = .returned (spanT 0 0 1) ∧ Below w.heap.size w w' := by
  obtain ⟨hK, hW, hR⟩ := box_freq (c := c) hr.out
  have HK := Lib.hid hK
  have HW := Lib.hid hW
  have HR := Lib.hid hR
  have HBD := Lib.hid (show n ≤ maxLen by unfold maxLen; omega)
  clear hK hW hR
  unfold frV
  go_enter Try.func9, Try.ntmps9
  go_wp2_with fail
  generalize w.alloc (.cells #[.slice A n c] 24) = w0 at HK HW HR ⊢
  refine (check_any A n c zs true _ HR HBD.out hok.out).mono ?_
  rintro e w1 ⟨rfl, hb1⟩
  have ck := blk0 (HK.out.below hb1 HK.out.lt)
  have HW1 := Lib.hid (HW.out.trans (hb1.mono HW.out.size))
  clear hb1
  rw [show errN true = 0 from rfl]
  rcases hs with hs | ⟨hs1, hs⟩
  · have d1 : decide (s < 0) = true := by simpa using hs
    go_wp2
    exact bodyPost_ret (v := spanT 0 0 1) (by simp [results, Try.results9, go_sem, spanT]) rfl ⟨rfl, HW1.out⟩
  · have d1 : decide (s < 0) = false := by simp; omega
    have d2 : decide ((n : Int) - 2 < s) = true := by simp; omega
    have d3 : decide ((n : Int) - 1 ≤ s) = true := by simp; omega
    go_wp2
    exact bodyPost_ret (v := spanT 0 0 1) (by simp [results, Try.results9, go_sem, spanT]) rfl ⟨rfl, HW1.out⟩
theorem span_any (A : Option Addr) (n c : Nat) (zs : List Int) (s : Int) (w : World) (hr : Hid (RdI w A n zs)) (hb : n ≤ maxLen) :
    Calls Try.prog 9 #[frV A n c, .int .i64 s] w fun e w' => e = .returned (spanV zs s) ∧ Below w.heap.size w w' := by
  have hl := hr.out.1
  cases hok : okF zs with
  | false =>
    have e : spanV zs s = spanT 0 0 1 := by simp [spanV, symB, hok]
    rw [e]
    exact span_not A n c zs s w hr hb (Lib.hid hok)
  | true =>
    obtain ⟨h1, h2, _⟩ := okF_parts hok
    rw [hl] at h1 h2
    by_cases hs : 0 ≤ s ∧ s < (n : Int) - 1
    · obtain ⟨k, rfl⟩ : ∃ k : Nat, s = (k : Int) := ⟨s.toNat, by omega⟩
      obtain ⟨ad, rfl, _, _⟩ := hr.out.at_ (k := 0) (by omega)
      have e : spanV zs (k : Int) = spanT (zs.getD k 0) (zs.getD (k + 1) 0) 0 := by
        unfold spanV
        rw [if_pos (by simp [symB, hok, hl]; omega)]
        simp
      rw [e]
      exact span_yes ad n c k zs _ _ w hr h2 (Lib.hid hok) (by omega) (Lib.hid rfl) (Lib.hid rfl)
    · have e : spanV zs s = spanT 0 0 1 := by
        unfold spanV
        rw [if_neg (by simp [symB, hok, hl]; omega)]
      rw [e]
      exact span_out A n c zs s w hr h2 (Lib.hid hok) (by omega)
set_option maxRecDepth 100000 in
set_option maxHeartbeats 1000000 in
theorem rspan_yes (ad : Addr) (n c k : Nat) (zs : List Int) (a b : Int) (w : World) (hr : Hid (RdI w (some ad) n zs)) (hb : n ≤ 257) (hok : Hid (okF zs = true)) (hk : k + 1 < n) (ha : Hid (zs.getD k 0 = a)) (hbb : Hid (zs.getD (k + 1) 0 = b)) :
    Calls Try.prog 10 #[frV (some ad) n c, .int .i64 (k : Int)] w fun e w' => e = .returned (spanT a b 0) ∧ Below w.heap.size w w' := by
  obtain ⟨hK, hW, hR⟩ := box_freq (c := c) hr.out
  have HK := Lib.hid hK
  have HW := Lib.hid hW
  have HR := Lib.hid hR
  have HBD := Lib.hid (show n ≤ maxLen by unfold maxLen; omega)
  clear hK hW hR
  unfold frV
  go_enter Try.func10, Try.ntmps10
  go_wp2_with fail
  generalize w.alloc (.cells #[.slice (some ad) n c] 24) = w0 at HK HW HR ⊢
  refine (rcheck_any (some ad) n c zs true _ HR HBD.out hok.out).mono ?_
  rintro e w1 ⟨rfl, hb1⟩
  have HR1 := Lib.hid (HR.out.below hb1)
  have ck := blk0 (HK.out.below hb1 HK.out.lt)
  have HW1 := Lib.hid (HW.out.trans (hb1.mono HW.out.size))
  have x0 := HR1.out.cell (k := k) (by omega)
  have x1 := HR1.out.cellS (k := k) (by omega)
  rw [ha.out] at x0
  rw [hbb.out] at x1
  clear hb1
  rw [show errN true = 0 from rfl]
  have d1 : decide ((k : Int) < 0) = false := by simp
  have d2 : decide ((n : Int) - 2 < (k : Int)) = false := by simp; omega
  have d3 : decide ((n : Int) - 1 ≤ (k : Int)) = false := by simp; omega
  have i1 : IntKind.i64.wrap ((k : Int) + 1) = (k : Int) + 1 := IntWalk.i64_in _ (by omega)
  have i2 : (0 : Int) ≤ (k : Int) + 1 := by omega
  have i3 : ((k : Int) + 1).toNat = k + 1 := by omega
  have i4 : (k : Int) < (n : Int) := by omega
  have i5 : (k : Int) + 1 < (n : Int) := by omega
  have i6 : k < n := by omega
  go_wp2_with fail
  go_quiet (fail)
  go_wp2
  exact bodyPost_ret (v := spanT a b 0) (by simp [results, Try.results10, go_sem, spanT]) rfl ⟨rfl, below_drewN HW1.out _⟩
set_option maxHeartbeats 1000000 in
theorem rspan_not (A : Option Addr) (n c : Nat) (zs : List Int) (s : Int) (w : World) (hr : Hid (RdI w A n zs)) (hb : n ≤ maxLen) (hok : Hid (okF zs = false)) :
    Calls Try.prog 10 #[frV A n c, .int .i64 s] w fun e w' => e = .returned (spanT 0 0 1) ∧ Below w.heap.size w w' := by
  have HBD := Lib.hid hb
  clear hb
  unfold frV
  go_enter Try.func10, Try.ntmps10
  go_wp2_with fail
  refine (rcheck_any A n c zs false _ (Lib.hid (hr.out.alloc _)) HBD.out hok.out).mono ?_
  rintro e w1 ⟨rfl, hb1⟩
  have HW1 := Lib.hid (((Below.refl w.heap.size w).alloc (Nat.le_refl _) _).trans (hb1.mono (by simp)))
  clear hb1
  rw [show errN false = 1 from rfl]
  go_wp2
  exact bodyPost_ret (v := spanT 0 0 1) (by simp [results, Try.results10, go_sem, spanT]) rfl ⟨rfl, HW1.out⟩
set_option maxHeartbeats 1000000 in
theorem rspan_out (A : Option Addr) (n c : Nat) (zs : List Int) (s : Int) (w : World) (hr : Hid (RdI w A n zs)) (hb : n ≤ 257) (hok : Hid (okF zs = true)) (hs : s < 0 ∨ 0 ≤ s ∧ (n : Int) - 1 ≤ s) :
    Calls Try.prog 10 #[frV A n c, .int .i64 s] w fun e w' => e = .returned (spanT 0 0 1) ∧ Below w.heap.size w w' := by
  obtain ⟨hK, hW, hR⟩ := box_freq (c := c) hr.out
  have HK := Lib.hid hK
  have HW := Lib.hid hW
  have HR := Lib.hid hR
  have HBD := Lib.hid (show n ≤ maxLen by unfold maxLen; omega)
  clear hK hW hR
  unfold frV
  go_enter Try.func10, Try.ntmps10
  go_wp2_with fail
  generalize w.alloc (.cells #[.slice A n c] 24) = w0 at HK HW HR ⊢
  refine (rcheck_any A n c zs true _ HR HBD.out hok.out).mono ?_
  rintro e w1 ⟨rfl, hb1⟩
  have ck := blk0 (HK.out.below hb1 HK.out.lt)
  have HW1 := Lib.hid (HW.out.trans (hb1.mono HW.out.size))
  clear hb1
  rw [show errN true = 0 from rfl]
  rcases hs with hs | ⟨hs1, hs⟩
  · have d1 : decide (s < 0) = true := by simpa using hs
    go_wp2
    exact bodyPost_ret (v := spanT 0 0 1) (by simp [results, Try.results10, go_sem, spanT]) rfl ⟨rfl, HW1.out⟩
  · have d1 : decide (s < 0) = false := by simp; omega
    have d2 : decide ((n : Int) - 2 < s) = true := by simp; omega
    have d3 : decide ((n : Int) - 1 ≤ s) = true := by simp; omega
    go_wp2
    exact bodyPost_ret (v := spanT 0 0 1) (by simp [results, Try.results10, go_sem, spanT]) rfl ⟨rfl, HW1.out⟩
theorem rspan_any (A : Option Addr) (n c : Nat) (zs : List Int) (s : Int) (w : World) (hr : Hid (RdI w A n zs)) (hb : n ≤ maxLen) :
    Calls Try.prog 10 #[frV A n c, .int .i64 s] w fun e w' => e = .returned (spanV zs s) ∧ Below w.heap.size w w' := by
  have hl := hr.out.1
  cases hok : okF zs with
  | false =>
    have e : spanV zs s = spanT 0 0 1 := by simp [spanV, symB, hok]
    rw [e]
    exact rspan_not A n c zs s w hr hb (Lib.hid hok)
  | true =>
    obtain ⟨h1, h2, _⟩ := okF_parts hok
    rw [hl] at h1 h2
    by_cases hs : 0 ≤ s ∧ s < (n : Int) - 1
    · obtain ⟨k, rfl⟩ : ∃ k : Nat, s = (k : Int) := ⟨s.toNat, by omega⟩
      obtain ⟨ad, rfl, _, _⟩ := hr.out.at_ (k := 0) (by omega)
      have e : spanV zs (k : Int) = spanT (zs.getD k 0) (zs.getD (k + 1) 0) 0 := by
        unfold spanV
        rw [if_pos (by simp [symB, hok, hl]; omega)]
        simp
      rw [e]
      exact rspan_yes ad n c k zs _ _ w hr h2 (Lib.hid hok) (by omega) (Lib.hid rfl) (Lib.hid rfl)
    · have e : spanV zs s = spanT 0 0 1 := by
        unfold spanV
        rw [if_neg (by simp [symB, hok, hl]; omega)]
      rw [e]
      exact rspan_out A n c zs s w hr h2 (Lib.hid hok) (by omega)
end Go.Proofs.Ytlmkcipcclomdaa.Fq
