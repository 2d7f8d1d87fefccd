/-
  Own texts, laid together: Lm.
-/
import Derived.Test.YtplfcncibmgllaaDoorLb
/- Lm -/
namespace Go.Proofs.YtplfcncibmgllaaDoor.Lp
open Go.RowKit Go.Proofs.YtplfcncibmgllaaDoor.Fx Go.Proofs.YtplfcncibmgllaaDoor.Fq Go.Proofs.YtplfcncibmgllaaDoor.Tb
theorem small_all : ∀ n, n < 128 → -16777300 ≤ cosP n ∧ cosP n ≤ 16777300 ∧ -16777300 ≤ sinP n ∧ sinP n ≤ 16777300 := by decide +kernel
theorem win_bd {n : Nat} (h : n < 32) : -16777300 ≤ winP n ∧ winP n ≤ 16777300 := by
  have := small_all (2 * n + 1) (by omega)
  exact ⟨this.2.2.1, this.2.2.2⟩
theorem ker_bd (n k : Nat) : -16777300 ≤ kerP n k ∧ kerP n k ≤ 16777300 := by
  have := small_all ((2 * n + 17) * (2 * k + 1) % 128) (Nat.mod_lt _ (by omega))
  exact ⟨this.1, this.2.1⟩
theorem mul_bd {x y A B : Int} (hx1 : -A ≤ x) (hx2 : x ≤ A) (hy1 : -B ≤ y) (hy2 : y ≤ B) : -(A * B) ≤ x * y ∧ x * y ≤ A * B := by
  have hA : 0 ≤ A := by omega
  have hB : 0 ≤ B := by omega
  have h : (x * y).natAbs ≤ A.natAbs * B.natAbs := by
    rw [Int.natAbs_mul]
    exact Nat.mul_le_mul (by omega) (by omega)
  have e : ((A.natAbs * B.natAbs : Nat) : Int) = A * B := by
    rw [Int.natCast_mul, Int.natAbs_of_nonneg hA, Int.natAbs_of_nonneg hB]
  omega
/-- the sum of the first n of f's -/
def sumN (f : Nat → Int) : Nat → Int
  | 0 => 0
  | n + 1 => sumN f n + f n
theorem sumN_succ (f : Nat → Int) (n : Nat) : sumN f (n + 1) = sumN f n + f n := rfl
theorem sumN_bd (f : Nat → Int) (M : Int) : ∀ n : Nat, (∀ i, i < n → -M ≤ f i ∧ f i ≤ M) → -(M * (n : Int)) ≤ sumN f n ∧ sumN f n ≤ M * (n : Int)
  | 0, _ => by simp [sumN]
  | n + 1, h => by
    have ih := sumN_bd f M n fun i hi => h i (by omega)
    have h1 := h n (by omega)
    rw [sumN_succ, Int.natCast_add, Int.mul_add]
    simp only [Int.natCast_one, Int.mul_one]
    omega
theorem sumN_congr (f g : Nat → Int) : ∀ n : Nat, (∀ i, i < n → f i = g i) → sumN f n = sumN g n
  | 0, _ => rfl
  | n + 1, h => by rw [sumN_succ, sumN_succ, sumN_congr f g n fun i hi => h i (by omega), h n (by omega)]
theorem round_lit (v : Int) (b : Nat) (P H : Int) (hb : 1 ≤ b) (hb2 : b ≤ 62) (hP : ((2 ^ b : Nat) : Int) = P) (hH : ((2 ^ (b - 1) : Nat) : Int) = H) : roundI v (b : Int) = v / P + v / H % 2 := by
  unfold roundI
  rw [if_neg (by omega), if_neg (by omega), show ((b : Nat) : Int).toNat = b by omega, hP, hH]
theorem round8 (v : Int) : roundI v 8 = v / 256 + v / 128 % 2 := round_lit v 8 256 128 (by omega) (by omega) (by decide) (by decide)
theorem round16 (v : Int) : roundI v 16 = v / 65536 + v / 32768 % 2 := round_lit v 16 65536 32768 (by omega) (by omega) (by decide) (by decide)
theorem round20 (v : Int) : roundI v 20 = v / 1048576 + v / 524288 % 2 := round_lit v 20 1048576 524288 (by omega) (by omega) (by decide) (by decide)
theorem round27 (v : Int) : roundI v 27 = v / 134217728 + v / 67108864 % 2 := round_lit v 27 134217728 67108864 (by omega) (by omega) (by decide) (by decide)
theorem round28 (v : Int) : roundI v 28 = v / 268435456 + v / 134217728 % 2 := round_lit v 28 268435456 134217728 (by omega) (by omega) (by decide) (by decide)
/-- the list of f's first n -/
def tab (n : Nat) (f : Nat → Int) : List Int := (List.range n).map f
theorem tab_length (n : Nat) (f : Nat → Int) : (tab n f).length = n := by rw [tab, List.length_map, List.length_range]
theorem tab_get {n : Nat} (f : Nat → Int) {i : Nat} (h : i < n) : (tab n f)[i]? = some (f i) := by
  unfold tab; rw [List.getElem?_map, List.getElem?_range h]; rfl
theorem tab_getD {n : Nat} (f : Nat → Int) {i : Nat} (h : i < n) : (tab n f).getD i 0 = f i := by
  rw [List.getD_eq_getElem?_getD, tab_get f h]; rfl
theorem tab_congr {n : Nat} {f g : Nat → Int} (h : ∀ i, i < n → f i = g i) : tab n f = tab n g := by
  unfold tab; exact List.map_congr_left fun i hi => h i (List.mem_range.1 hi)
theorem tab_set {n : Nat} {f g : Nat → Int} {j : Nat} {v : Int} (hv : v = g j) (h : ∀ i, i < n → i ≠ j → f i = g i) : (tab n f).set j v = tab n g := by
  refine List.ext_getElem? fun i => ?_
  rw [List.getElem?_set, tab_length]
  by_cases hi : i < n
  · rw [tab_get f hi, tab_get g hi]
    by_cases k : j = i
    · subst k; rw [if_pos rfl, if_pos hi, hv]
    · rw [if_neg k, h i hi (Ne.symm k)]
  · rw [List.getElem?_eq_none (by rw [tab_length]; omega), List.getElem?_eq_none (by rw [tab_length]; omega)]
    split
    · rw [if_neg (by omega)]
    · rfl
theorem tab_zero (n : Nat) : tab n (fun _ => 0) = zr n := by
  unfold tab zr
  exact List.map_const' ..|>.trans (by rw [List.length_range])
theorem tab_self {n : Nat} {xs : List Int} (h : xs.length = n) : tab n (fun i => xs.getD i 0) = xs := by
  refine List.ext_getElem (by rw [tab_length, h]) fun i h1 h2 => ?_
  have := tab_get (fun i => xs.getD i 0) (n := n) (i := i) (by omega)
  rw [List.getElem?_eq_getElem h1] at this
  injection this with this
  rw [this]
  simp [List.getD_eq_getElem?_getD, h2]
/-- the first k made anew, the others as they are -/
def part2 (k : Nat) (f g : Nat → Int) : Nat → Int := fun i => if i < k then f i else g i
theorem part2_set {n k : Nat} (f g : Nat → Int) : (tab n (part2 k f g)).set k (f k) = tab n (part2 (k + 1) f g) :=
  tab_set (by unfold part2; rw [if_pos (by omega)]) fun i _ hne => by
    unfold part2
    by_cases h : i < k
    · rw [if_pos h, if_pos (by omega)]
    · rw [if_neg h, if_neg (by omega)]
theorem part2_all {n : Nat} (f g : Nat → Int) : tab n (part2 n f g) = tab n f := tab_congr fun i hi => by unfold part2; rw [if_pos hi]
theorem part2_none (n : Nat) (f g : Nat → Int) : tab n (part2 0 f g) = tab n g := tab_congr fun i _ => by unfold part2; rw [if_neg (by omega)]
/-- whether all are within bounds -/
def inR (lo hi : Int) (zs : List Int) : Bool := decide (∀ k, k < zs.length → lo ≤ zs.getD k 0 ∧ zs.getD k 0 ≤ hi)
/-- two frames' samples -/
def smp (p q : List Int) (n : Nat) : Int := if n < 16 then p.getD n 0 else q.getD (n - 16) 0
def wgt (p q : List Int) (n : Nat) : Int := roundI (smp p q n * winP n) 16
def fwd (p q : List Int) (k : Nat) : Int := roundI (sumN (fun n => wgt p q n * kerP n k) 32) 28
def fwdL (p q : List Int) : List Int := tab 16 (fwd p q)
def mixN (x : List Int) (n : Nat) : Int := sumN (fun k => x.getD k 0 * kerP n k) 16
def inv (x : List Int) (n : Nat) : Int := roundI (roundI (mixN x n) 20 * winP n) 27
def invL (x : List Int) : List Int := tab 32 (inv x)
def lapN (t w : List Int) (i : Nat) : Int := satI (roundI (t.getD i 0 + w.getD i 0) 8) 16
def lapL (t w : List Int) : List Int := tab 16 (lapN t w)
def leftL (w : List Int) : List Int := tab 16 (fun i => w.getD (16 + i) 0)
def okP (p : List Int) : Bool := inR (-32768) 32767 p
def okX (x : List Int) : Bool := inR (-67108864) 67108864 x
def okW (w : List Int) : Bool := inR (-1099511627776) 1099511627776 w
def fwdV (p q : List Int) : Value := if okP p = true ∧ okP q = true then .tuple #[.agg (icells (fwdL p q)), .int .i64 0] else .tuple #[.agg (icells (zr 16)), .int .i64 1]
def invV (x : List Int) : Value := if okX x = true then .tuple #[.agg (icells (invL x)), .int .i64 0] else .tuple #[.agg (icells (zr 32)), .int .i64 1]
def lapV (t w : List Int) : Value := if okW t = true ∧ okW w = true then .tuple #[.agg (icells (lapL t w)), .agg (icells (leftL w)), .int .i64 0] else .tuple #[.agg (icells (zr 16)), .agg (icells (zr 16)), .int .i64 1]
def eng (x : List Int) : Int := if okX x = true then sumN (fun k => x.getD k 0 * x.getD k 0) 16 else 0
def chkE (p : List Int) : Int := if okP p = true then 0 else 1
theorem inR_of {lo hi : Int} {zs : List Int} (h : inR lo hi zs = true) {k : Nat} (hk : k < zs.length) : lo ≤ zs.getD k 0 ∧ zs.getD k 0 ≤ hi := of_decide_eq_true h k hk
theorem inR_bd {lo hi : Int} {zs : List Int} (h : inR lo hi zs = true) (h0 : lo ≤ 0) (h1 : 0 ≤ hi) (k : Nat) : lo ≤ zs.getD k 0 ∧ zs.getD k 0 ≤ hi := by
  by_cases hk : k < zs.length
  · exact inR_of h hk
  · rw [List.getD_eq_getElem?_getD, List.getElem?_eq_none (by omega)]; exact ⟨h0, h1⟩
theorem inR_iff {lo hi : Int} {zs : List Int} {n : Nat} (hl : zs.length = n) : inR lo hi zs = true ↔ ∀ k, k < n → lo ≤ zs.getD k 0 ∧ zs.getD k 0 ≤ hi := by
  subst hl; unfold inR; rw [decide_eq_true_eq]
theorem smp_bd {p q : List Int} (hp : okP p = true) (hq : okP q = true) (n : Nat) : -32768 ≤ smp p q n ∧ smp p q n ≤ 32768 := by
  unfold smp
  have h1 := inR_bd hp (by omega) (by omega) n
  have h2 := inR_bd hq (by omega) (by omega) (n - 16)
  split <;> omega
theorem wgt_in {p q : List Int} (hp : okP p = true) (hq : okP q = true) {n : Nat} (hn : n < 32) : -549758566400 ≤ smp p q n * winP n ∧ smp p q n * winP n ≤ 549758566400 := by
  have h1 := smp_bd hp hq n
  have h2 := win_bd hn
  have := mul_bd (A := 32768) (B := 16777300) (by omega) h1.2 (by omega) h2.2
  omega
theorem wgt_bd {p q : List Int} (hp : okP p = true) (hq : okP q = true) {n : Nat} (hn : n < 32) : -8388700 ≤ wgt p q n ∧ wgt p q n ≤ 8388700 := by
  have := wgt_in hp hq hn
  unfold wgt
  rw [round16]
  omega
theorem fwd_term {p q : List Int} (hp : okP p = true) (hq : okP q = true) {n : Nat} (hn : n < 32) (k : Nat) : -140739737000000 ≤ wgt p q n * kerP n k ∧ wgt p q n * kerP n k ≤ 140739737000000 := by
  have h1 := wgt_bd hp hq hn
  have h2 := ker_bd n k
  have := mul_bd (A := 8388700) (B := 16777300) (by omega) h1.2 (by omega) h2.2
  omega
theorem fwd_sum {p q : List Int} (hp : okP p = true) (hq : okP q = true) (k j : Nat) (hj : j ≤ 32) : -4503671584000000 ≤ sumN (fun n => wgt p q n * kerP n k) j ∧ sumN (fun n => wgt p q n * kerP n k) j ≤ 4503671584000000 := by
  have := sumN_bd (fun n => wgt p q n * kerP n k) 140739737000000 j fun i hi => fwd_term hp hq (by omega) k
  omega
theorem mix_term {x : List Int} (hx : okX x = true) (n k : Nat) : -1125905544000000 ≤ x.getD k 0 * kerP n k ∧ x.getD k 0 * kerP n k ≤ 1125905544000000 := by
  have h1 := inR_bd hx (by omega) (by omega) k
  have h2 := ker_bd n k
  have := mul_bd (A := 67108864) (B := 16777300) (by omega) h1.2 (by omega) h2.2
  omega
theorem mix_sum {x : List Int} (hx : okX x = true) (n j : Nat) (hj : j ≤ 16) : -18014488704000000 ≤ sumN (fun k => x.getD k 0 * kerP n k) j ∧ sumN (fun k => x.getD k 0 * kerP n k) j ≤ 18014488704000000 := by
  have := sumN_bd (fun k => x.getD k 0 * kerP n k) 1125905544000000 j fun i hi => mix_term hx n i
  omega
theorem inv_mid {x : List Int} (hx : okX x = true) (n : Nat) : -17179967000 ≤ roundI (mixN x n) 20 ∧ roundI (mixN x n) 20 ≤ 17179967000 := by
  have := mix_sum hx n 16 (by omega)
  unfold mixN
  rw [round20]
  omega
theorem inv_in {x : List Int} (hx : okX x = true) {n : Nat} (hn : n < 32) : -288233460350000000 ≤ roundI (mixN x n) 20 * winP n ∧ roundI (mixN x n) 20 * winP n ≤ 288233460350000000 := by
  have h1 := inv_mid hx n
  have h2 := win_bd hn
  have := mul_bd (A := 17179967000) (B := 16777300) (by omega) h1.2 (by omega) h2.2
  omega
theorem inv_bd {x : List Int} (hx : okX x = true) {n : Nat} (hn : n < 32) : -2147507000 ≤ inv x n ∧ inv x n ≤ 2147507000 := by
  have := inv_in hx hn
  unfold inv
  rw [round27]
  omega
theorem okW_inv {x : List Int} (hx : okX x = true) : okW (invL x) = true := (inR_iff (tab_length 32 _)).2 fun k hk => by
  show _ ≤ (tab 32 (inv x)).getD k 0 ∧ (tab 32 (inv x)).getD k 0 ≤ _
  rw [tab_getD _ hk]
  have := inv_bd hx hk
  omega
theorem hold31_id {a : Int} (h1 : -2147483648 ≤ a) (h2 : a ≤ 2147483647) : hold31 a = a := by
  unfold hold31 holdI
  omega
theorem mulI_wgt {p q : List Int} (hp : okP p = true) (hq : okP q = true) {n : Nat} (hn : n < 32) : mulI (smp p q n) (winP n) 16 = wgt p q n := by
  have h1 := smp_bd hp hq n
  have h2 := win_bd hn
  unfold mulI wgt
  rw [hold31_id (by omega) (by omega), hold31_id (by omega) (by omega)]
theorem eng_term {x : List Int} (hx : okX x = true) (k : Nat) : 0 ≤ x.getD k 0 * x.getD k 0 ∧ x.getD k 0 * x.getD k 0 ≤ 4503599627370496 := by
  have h1 := inR_bd hx (by omega) (by omega) k
  have := mul_bd (A := 67108864) (B := 67108864) (by omega) h1.2 (by omega) h1.2
  refine ⟨?_, by omega⟩
  generalize x.getD k 0 = v
  rcases Int.le_total 0 v with g | g
  · exact Int.mul_nonneg g g
  · exact Int.mul_nonneg_of_nonpos_of_nonpos g g
theorem eng_sum {x : List Int} (hx : okX x = true) : ∀ j : Nat, j ≤ 16 → 0 ≤ sumN (fun k => x.getD k 0 * x.getD k 0) j ∧ sumN (fun k => x.getD k 0 * x.getD k 0) j ≤ 4503599627370496 * (j : Int)
  | 0, _ => by simp [sumN]
  | j + 1, h => by
    have ih := eng_sum hx j (by omega)
    have := eng_term hx j
    rw [sumN_succ]
    omega
end Go.Proofs.YtplfcncibmgllaaDoor.Lp
