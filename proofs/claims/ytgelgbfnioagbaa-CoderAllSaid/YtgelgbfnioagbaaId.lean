/-
  Own texts, laid together: Id.
-/
import Derived.Test.YtgelgbfnioagbaaIc
/- Id -/
namespace Go.Proofs.Ytgelgbfnioagbaa.Cd
open Go.RowKit
def RoW (w : World) (low high code : Nat) (A : Option Addr) (n c : Nat) (N At : Int) : World := (w.alloc (.cells #[.int .u32 (low : Int), .int .u32 (high : Int), .int .u32 (code : Int), .slice A n c, .int .i64 N, .int .i64 At] 45)).alloc (.cells #[.int .u32 (low : Int), .int .u32 (high : Int), .int .u32 (code : Int), .slice A n c, .int .i64 N, .int .i64 At] 110)
/-- a reader was made, or none -/
def RoOk (w : World) (low high code : Nat) (A : Option Addr) (n c : Nat) (N At : Int) (e : Ending) (w' : World) : Prop :=
  ∃ p, e = .returned (.tuple #[.pointer (some ⟨p, 0, none⟩), .int .i64 0]) ∧ w.heap.size ≤ p ∧ Blk w' p 110 #[.int .u32 (low : Int), .int .u32 (high : Int), .int .u32 (code : Int), .slice A n c, .int .i64 N, .int .i64 At] ∧ Below w.heap.size w w'
set_option maxRecDepth 100000 in
set_option maxHeartbeats 2000000 in
theorem reopen_any (low high code : Nat) (A : Option Addr) (n c : Nat) (N At : Int) (bs : List Nat) (r : Bool) (w : World) (_hl : low < 4294967296) (hh : high < 4294967296) (_hc : code < 4294967296) (hr : Hid (Rd w A n bs)) (hok : Hid (okD low high code bs N At = r)) :
    Calls Try.prog 48 #[decV low high code A n c N At] w fun e w' => (r = true ∧ RoOk w low high code A n c N At e w') ∨ (r = false ∧ OpNo w e w') := by
  have HK := Lib.hid (show Blk (RoW w low high code A n c N At) (w.heap.size + 1) 110 #[.int .u32 (low : Int), .int .u32 (high : Int), .int .u32 (code : Int), .slice A n c, .int .i64 N, .int .i64 At] from Blk.newAt (by simp))
  have HW := Lib.hid (show Below w.heap.size w (RoW w low high code A n c N At) from ((Below.refl w.heap.size w).alloc (Nat.le_refl _) _).alloc (by simp) _)
  unfold RoW at HK HW
  unfold decV
  go_enter Try.func48, Try.ntmps48
  go_wp2_with fail
  generalize (w.alloc (.cells #[.int .u32 (low : Int), .int .u32 (high : Int), .int .u32 (code : Int), .slice A n c, .int .i64 N, .int .i64 At] 45)).alloc (.cells #[.int .u32 (low : Int), .int .u32 (high : Int), .int .u32 (code : Int), .slice A n c, .int .i64 N, .int .i64 At] 110) = w1 at HK HW ⊢
  obtain ⟨p, hp⟩ : ∃ p, p = w.heap.size + 1 := ⟨_, rfl⟩
  rw [← hp] at HK ⊢
  have HP := Lib.hid (show w.heap.size ≤ p by omega)
  clear hp
  obtain ⟨kk, hkk⟩ : ∃ kk, kind low high = kk := ⟨_, rfl⟩
  have HKK := Lib.hid hkk
  refine (excess_any low high kk w1 hkk).mono ?_
  clear hkk
  rintro e w2 ⟨rfl, hb2⟩
  have HK2 := Lib.hid (HK.out.below hb2 HK.out.lt)
  have HW2 := Lib.hid (HW.out.trans (hb2.mono HW.out.size))
  clear hb2 HW HK
  obtain ⟨x0, x1, x2, x3, x4, x5⟩ := blk6 HK2.out
  unfold excT
  by_cases h3 : kk = 3
  · subst h3
    have HWB := Lib.hid (show wideB low high = true from by
      unfold wideB
      refine decide_eq_true ⟨?_, hh, HKK.out⟩
      rcases kind_cases low high with ⟨h, _⟩ | ⟨h, _⟩ | ⟨h, _⟩ | ⟨h, h1, h2, _⟩
      · have := HKK.out; omega
      · have := HKK.out; omega
      · have := HKK.out; omega
      · omega)
    rw [show decide ((3 : Nat) ≠ 3) = false by decide]
    by_cases h1 : code < low
    · have d1 : decide (code < low) = true := by simpa using h1
      have HE := Lib.hid (show r = false by rw [← hok.out]; unfold okD; rw [HWB.out, decide_eq_false (show ¬ low ≤ code by omega)]; rfl)
      go_wp2_with fail
      go_quiet (fail)
      go_wp2
      go_ret2
      exact .inr ⟨HE.out, rfl, below_drewN HW2.out _⟩
    · have d1 : decide (code < low) = false := by simpa using h1
      by_cases h2 : high < code
      · have d2 : decide (high < code) = true := by simpa using h2
        have HE := Lib.hid (show r = false by rw [← hok.out]; unfold okD; rw [HWB.out, decide_eq_true (show low ≤ code by omega), decide_eq_false (show ¬ code ≤ high by omega)]; rfl)
        go_wp2_with fail
        go_quiet (fail)
        go_wp2
        go_ret2
        exact .inr ⟨HE.out, rfl, below_drewN HW2.out _⟩
      · have d2 : decide (high < code) = false := by simpa using h2
        by_cases h4 : At < 32
        · have d4 : decide (At < 32) = true := by simpa using h4
          have HE := Lib.hid (show r = false by rw [← hok.out]; unfold okD; rw [decide_eq_false (show ¬ (32 : Int) ≤ At by omega)]; simp)
          go_wp2_with fail
          go_quiet (fail)
          go_wp2
          go_ret2
          exact .inr ⟨HE.out, rfl, below_drewN HW2.out _⟩
        · have d4 : decide (At < 32) = false := by simpa using h4
          by_cases h5 : 65600 < At
          · have d5 : decide (65600 < At) = true := by simpa using h5
            have HE := Lib.hid (show r = false by rw [← hok.out]; unfold okD; rw [decide_eq_false (show ¬ At ≤ 65600 by omega)]; simp)
            go_wp2_with fail
            go_quiet (fail)
            go_wp2
            go_ret2
            exact .inr ⟨HE.out, rfl, below_drewN HW2.out _⟩
          · have d5 : decide (65600 < At) = false := by simpa using h5
            obtain ⟨ok, hokB⟩ : ∃ ok, okB bs N = ok := ⟨_, rfl⟩
            have HOK := Lib.hid hokB
            clear hokB
            have HE := Lib.hid (show r = ok by rw [← hok.out]; unfold okD; rw [HWB.out, decide_eq_true (show low ≤ code by omega), decide_eq_true (show code ≤ high by omega), HOK.out, decide_eq_true (show (32 : Int) ≤ At by omega), decide_eq_true (show At ≤ 65600 by omega)]; simp)
            have hcon := check_any A n c N bs w2.drew (hr.out.below (Below.drew HW2.out))
            rw [HOK.out] at hcon
            cases ok with
            | true =>
              have HCON := Lib.hid hcon
              clear hcon
              go_wp2_with fail
              go_still_tail 44, (by kernel_rfl)
              change wpList _ _ _ _ _ w2.drew
              go_wp2_with fail
              refine HCON.out.mono ?_
              rintro e w3 ⟨rfl, hb3⟩
              have HK3 := Lib.hid (HK2.out.drew.below hb3 HK2.out.lt)
              have HW3 := Lib.hid ((Below.drew HW2.out).trans (hb3.mono (Below.drew HW2.out).size))
              clear hb3 x0 x1 x2 x3 x4 x5 HCON
              go_wp2
              go_ret2
              exact .inl ⟨HE.out, p, rfl, HP.out, HK3.out, HW3.out⟩
            | false =>
              have HCON := Lib.hid hcon
              clear hcon
              go_wp2_with fail
              go_still_tail 44, (by kernel_rfl)
              change wpList _ _ _ _ _ w2.drew
              go_wp2_with fail
              refine HCON.out.mono ?_
              rintro e w3 ⟨rfl, hb3⟩
              have HW3 := Lib.hid ((Below.drew HW2.out).trans (hb3.mono (Below.drew HW2.out).size))
              clear hb3 x0 x1 x2 x3 x4 x5 HCON
              go_wp2
              go_ret2
              exact .inr ⟨HE.out, rfl, HW3.out⟩
  · have HE := Lib.hid (show r = false by rw [← hok.out]; unfold okD wideB; rw [decide_eq_false (show ¬ (low < high ∧ high < 4294967296 ∧ kind low high = 3) from fun h => h3 (by rw [← HKK.out]; exact h.2.2))]; rfl)
    rw [show decide (kk ≠ 3) = true by simpa using h3]
    clear h3
    go_wp2_with fail
    go_quiet (fail)
    go_wp2
    go_ret2
    exact .inr ⟨HE.out, rfl, below_drewN HW2.out _⟩
end Go.Proofs.Ytgelgbfnioagbaa.Cd
