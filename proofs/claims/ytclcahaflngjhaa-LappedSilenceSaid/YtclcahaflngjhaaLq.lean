/-
  Own texts, laid together: Lq.
-/
import Derived.Test.YtclcahaflngjhaaLn
/- Lq -/
namespace Go.Proofs.Ytclcahaflngjhaa.Lp
open Go.RowKit Go.Proofs.Ytclcahaflngjhaa.Fx Go.Proofs.Ytclcahaflngjhaa.Fq Go.Proofs.Ytclcahaflngjhaa.Tb
def clp (v : Int) : Int := min (max v (-32767)) 32767
def clpL (p : List Int) : List Int := tab 16 (fun i => clp (p.getD i 0))
def negL (n : Nat) (l : List Int) : List Int := tab n (fun i => -(l.getD i 0))
theorem clpL_length (p : List Int) : (clpL p).length = 16 := tab_length _ _
theorem negL_length (n : Nat) (p : List Int) : (negL n p).length = n := tab_length _ _
theorem clp_in (v : Int) : -32767 ≤ clp v ∧ clp v ≤ 32767 := by unfold clp; omega
theorem clpL_get {p : List Int} {k : Nat} (hk : k < 16) : (clpL p).getD k 0 = clp (p.getD k 0) := by unfold clpL; rw [tab_getD _ hk]
theorem negL_get {n : Nat} {p : List Int} {k : Nat} (hk : k < n) : (negL n p).getD k 0 = -(p.getD k 0) := by unfold negL; rw [tab_getD _ hk]
theorem okP_clp (p : List Int) : okP (clpL p) = true := (inR_iff (clpL_length p)).2 fun k hk => by
  rw [clpL_get hk]
  have := clp_in (p.getD k 0)
  omega
theorem okP_neg (p : List Int) : okP (negL 16 (clpL p)) = true := (inR_iff (negL_length _ _)).2 fun k hk => by
  rw [negL_get hk, clpL_get hk]
  have := clp_in (p.getD k 0)
  omega
theorem okX_neg {x : List Int} (hx : okX x = true) : okX (negL 16 x) = true := (inR_iff (negL_length _ _)).2 fun k hk => by
  rw [negL_get hk]
  have := inR_bd hx (by omega) (by omega) k
  omega
theorem sumN_add (f g : Nat → Int) : ∀ n : Nat, sumN f n + sumN g n = sumN (fun i => f i + g i) n
  | 0 => rfl
  | n + 1 => by rw [sumN_succ, sumN_succ, sumN_succ, ← sumN_add f g n]; omega
theorem smp_neg (p q : List Int) {n : Nat} (hn : n < 32) : smp (negL 16 p) (negL 16 q) n = -(smp p q n) := by
  unfold smp
  by_cases h : n < 16
  · rw [if_pos h, if_pos h, negL_get h]
  · rw [if_neg h, if_neg h, negL_get (by omega)]
theorem round16_neg (v : Int) : 0 ≤ roundI v 16 + roundI (-v) 16 ∧ roundI v 16 + roundI (-v) 16 ≤ 1 := by
  rw [round16, round16]; omega
theorem round20_neg (v : Int) : 0 ≤ roundI v 20 + roundI (-v) 20 ∧ roundI v 20 + roundI (-v) 20 ≤ 1 := by
  rw [round20, round20]; omega
theorem wgt_neg (p q : List Int) {n : Nat} (hn : n < 32) : 0 ≤ wgt p q n + wgt (negL 16 p) (negL 16 q) n ∧ wgt p q n + wgt (negL 16 p) (negL 16 q) n ≤ 1 := by
  unfold wgt
  rw [smp_neg p q hn, Int.neg_mul]
  exact round16_neg _
theorem small_mul {d z B : Int} (h0 : 0 ≤ d) (h1 : d ≤ 1) (hz1 : -B ≤ z) (hz2 : z ≤ B) (hB : 0 ≤ B) : -B ≤ d * z ∧ d * z ≤ B := by
  obtain rfl | rfl : d = 0 ∨ d = 1 := by omega
  · rw [Int.zero_mul]; omega
  · rw [Int.one_mul]; omega
theorem round28_two {a b : Int} (h1 : -536873600 ≤ a + b) (h2 : a + b ≤ 536873600) : -4 ≤ roundI a 28 + roundI b 28 ∧ roundI a 28 + roundI b 28 ≤ 4 := by
  rw [round28, round28]; omega
theorem round27_two {a b : Int} (h1 : -16777300 ≤ a + b) (h2 : a + b ≤ 16777300) : -2 ≤ roundI a 27 + roundI b 27 ∧ roundI a 27 + roundI b 27 ≤ 2 := by
  rw [round27, round27]; omega
theorem fwd_neg (p q : List Int) (k : Nat) : -4 ≤ fwd p q k + fwd (negL 16 p) (negL 16 q) k ∧ fwd p q k + fwd (negL 16 p) (negL 16 q) k ≤ 4 := by
  unfold fwd
  have e := sumN_add (fun n => wgt p q n * kerP n k) (fun n => wgt (negL 16 p) (negL 16 q) n * kerP n k) 32
  have hb := sumN_bd (fun i => wgt p q i * kerP i k + wgt (negL 16 p) (negL 16 q) i * kerP i k) 16777300 32 fun i hi => by
    have h := wgt_neg p q hi
    have hk := ker_bd i k
    rw [← Int.add_mul]
    exact small_mul h.1 h.2 hk.1 hk.2 (by omega)
  refine round28_two ?_ ?_ <;> omega
theorem mix_neg (x : List Int) (n : Nat) : mixN (negL 16 x) n = -(mixN x n) := by
  unfold mixN
  have e := sumN_add (fun k => (negL 16 x).getD k 0 * kerP n k) (fun k => x.getD k 0 * kerP n k) 16
  rw [sumN_zero (fun i => (negL 16 x).getD i 0 * kerP n i + x.getD i 0 * kerP n i) 16 fun i hi => by
    rw [negL_get hi, ← Int.add_mul, show -(x.getD i 0) + x.getD i 0 = 0 by omega, Int.zero_mul]] at e
  omega
theorem inv_neg (x : List Int) {n : Nat} (hn : n < 32) : -2 ≤ inv x n + inv (negL 16 x) n ∧ inv x n + inv (negL 16 x) n ≤ 2 := by
  unfold inv
  rw [mix_neg]
  have h := round20_neg (mixN x n)
  have hw := win_bd hn
  have := small_mul h.1 h.2 hw.1 hw.2 (by omega)
  rw [Int.add_mul] at this
  exact round27_two this.1 this.2
end Go.Proofs.Ytclcahaflngjhaa.Lp
