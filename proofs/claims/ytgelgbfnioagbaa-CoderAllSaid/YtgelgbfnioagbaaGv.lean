/-
  Own texts, laid together: Gv.
-/
import Derived.Test.YtgelgbfnioagbaaGu
/- Gv -/
namespace Go.Proofs.Ytgelgbfnioagbaa.Cd
open Go.RowKit
def FewP (w : World) (n m : Nat) (e : Ending) (w' : World) : Prop := ∃ r, e = .returned (.bool r) ∧ (r = true → n ≤ 9000 ∧ m ≤ 100) ∧ Below w.heap.size w w'
set_option maxRecDepth 100000 in
set_option maxHeartbeats 1000000 in
theorem few_c (A : Option Addr) (n c : Nat) (N : Int) (L : Option Addr) (m d : Nat) (ts : List Tb) (w : World) (hn : Hid (n ≤ maxLen)) (hm : Hid (m ≤ maxLen)) (ht : Hid (RdT w L m ts)) :
    Calls Try.prog 11 #[.agg #[.slice A n c, .int .i64 N], .slice L m d] w (FewP w n m) := by
  have b1 : n ≤ 9223372036854775807 := by have := hn.out; unfold maxLen at this; omega
  have b2 : m ≤ 9223372036854775807 := by have := hm.out; unfold maxLen at this; omega
  have HK := Lib.hid (Blk.new w 25 #[.slice A n c, .int .i64 N])
  have HW := Lib.hid ((Below.refl w.heap.size w).alloc (Nat.le_refl _) (.cells #[.slice A n c, .int .i64 N] 25))
  go_enter Try.func11, Try.ntmps11
  go_wp2
  generalize w.alloc (.cells #[.slice A n c, .int .i64 N] 25) = w0 at HK HW ⊢
  obtain ⟨b, hb⟩ : ∃ b, b = w.heap.size := ⟨_, rfl⟩
  rw [← hb] at HK ⊢
  clear hb
  go_loopw [9] (fun v wr => ∃ k : Nat, v = .int .i64 (k : Int) ∧ k ≤ m ∧ Hid (Blk wr b 25 #[.slice A n c, .int .i64 N] ∧ Below w.heap.size w wr)) (fun v _ => m - (intOf v).toNat)
  case atStart => exact ⟨0, rfl, by omega, Lib.hid ⟨HK.out, HW.out⟩⟩
  case round =>
    obtain ⟨k, rfl, hk, HZ⟩ := hrel
    clear HK HW
    by_cases hlt : k < m
    · obtain ⟨ad2, t, rfl, hget, had2, x2, hx, hmm⟩ := (ht.out.below HZ.out.2).at_ hlt
      obtain ⟨C, mm, dd, xs⟩ := t
      dsimp only at x2 hmm
      clear hget hx
      unfold maxLen at hmm
      have HZA := Lib.hid (show Blk (wr.alloc (.cells #[.slice C mm dd] 30)) b 25 #[.slice A n c, .int .i64 N] ∧ Below w.heap.size w (wr.alloc (.cells #[.slice C mm dd] 30)) from ⟨HZ.out.1.alloc _, HZ.out.2.alloc HZ.out.2.size _⟩)
      by_cases h4 : 400 < mm
      · have d1 : decide ((400 : Int) < (mm : Int)) = true := by simp; omega
        go_wp2
        go_ret
        exact ⟨false, rfl, (fun h => by cases h), HZA.out.2⟩
      · have d1 : decide ((400 : Int) < (mm : Int)) = false := by simp; omega
        go_wp2
        go_roundw
        case rel => exact ⟨k + 1, by go_num, by omega, HZA⟩
        case measure => simp [intOf]; omega
    · obtain ⟨x1, x2, -, -⟩ := blk2 HZ.out.1
      by_cases h9 : n ≤ 9000
      · have d1 : decide ((n : Int) ≤ 9000) = true := by simp; omega
        by_cases h1 : m ≤ 100
        · have d2 : decide ((m : Int) ≤ 100) = true := by simp; omega
          go_wp2
          go_ret
          exact ⟨true, rfl, fun _ => ⟨h9, h1⟩, HZ.out.2⟩
        · have d2 : decide ((m : Int) ≤ 100) = false := by simp; omega
          go_wp2
          go_ret
          exact ⟨false, rfl, (fun h => by cases h), HZ.out.2⟩
      · have d1 : decide ((n : Int) ≤ 9000) = false := by simp; omega
        go_wp2
        go_ret
        exact ⟨false, rfl, (fun h => by cases h), HZ.out.2⟩
end Go.Proofs.Ytgelgbfnioagbaa.Cd
