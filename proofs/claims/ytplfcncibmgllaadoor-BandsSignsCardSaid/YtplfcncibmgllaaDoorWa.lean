/-
  Own texts, laid together: Wa.
-/
import Derived.Test.YtplfcncibmgllaaDoorLl
import Derived.Test.YtplfcncibmgllaaDoorSm
/- Wa -/
namespace Go.Proofs.YtplfcncibmgllaaDoor.Lp
open Go.RowKit Go.Proofs.YtplfcncibmgllaaDoor.Fx Go.Proofs.YtplfcncibmgllaaDoor.Fq Go.Proofs.YtplfcncibmgllaaDoor.Tb
theorem run_items_any (d : Nat) (xs ys : List Int) (u : World) : ∀ l : List Nat, (∀ i ∈ l, i < xs.length ∧ i < ys.length) → (Op.eqItems (d + 1) 3 1 (icells xs) (icells ys) l).run Tryd.prog u = .ok (l.all fun i => xs.getD i 0 == ys.getD i 0) u
  | [], _ => by simp [Op.eqItems]
  | i :: l, h => by
    have ih := run_items_any d xs ys u l fun j hj => h j (by simp [hj])
    have ha : (isAgg 3).run Tryd.prog u = .ok false u := by kernel_rfl
    have hu : Tryd.prog.underlying 3 = some (.int .i64) := by kernel_rfl
    have hp : ∀ zs : List Int, i < zs.length → (part 3 (icells zs) (i * 1)).run Tryd.prog u = .ok (.int .i64 (zs.getD i 0)) u := fun zs hz => by
      have hc : (icells zs)[i]? = some (.int .i64 (zs.getD i 0)) := icells_get hz
      rw [Nat.mul_one]
      simp only [part, Sem.run_bind, ha, Result.andThen_ok, Bool.false_eq_true, if_false, hc, Sem.run_pure]
    have he := run_equalIn_int (P := Tryd.prog) u d 3 .i64 .i64 (xs.getD i 0) (ys.getD i 0) hu
    have h1 := hp xs (h i (by simp)).1
    have h2 := hp ys (h i (by simp)).2
    simp only [Op.eqItems, Sem.run_bind, h1, h2, Result.andThen_ok, he]
    rw [List.all_cons]
    by_cases k : xs.getD i 0 = ys.getD i 0
    · have k2 : (xs.getD i 0 == ys.getD i 0) = true := by rw [k]; exact beq_self_eq_true _
      simp only [k2, Bool.true_and]
      simpa using ih
    · have k2 : (xs.getD i 0 == ys.getD i 0) = false := by simpa using k
      simp only [k2, Bool.false_and]
      simp
theorem run_equalIn_diff (T : TypeId) {n : Nat} (hT : Tryd.prog.underlying T = some (.array n 3)) (xs ys : List Int) (hl : xs.length = n) (hl' : ys.length = n) (hne : xs ≠ ys) (w : World) :
    (Op.equalIn 10000 T (.agg (icells xs)) (.agg (icells ys))).run Tryd.prog w = .ok false w := by
  have hc : Tryd.prog.cellsOf 3 = 1 := by kernel_rfl
  obtain ⟨i, hi⟩ : ∃ i, Tryd.prog.info? 3 = some i := Option.isSome_iff_exists.1 (by kernel_rfl)
  rw [run_equalIn_array w 9999 (icells xs) (icells ys) hT hi, hc, run_items_any 9998 xs ys w _ fun j hj => ⟨by rw [hl]; exact List.mem_range.1 hj, by rw [hl']; exact List.mem_range.1 hj⟩]
  congr 1
  rw [Bool.eq_false_iff]
  intro hall
  refine hne (getD_ext (by rw [hl, hl']) fun k hk => ?_)
  rw [List.all_eq_true] at hall
  simpa using hall k (List.mem_range.2 (by omega))
theorem arrLev : Arr 25 6 := ⟨⟨.array 6 3, by kernel_rfl, rfl⟩, by kernel_rfl⟩
theorem arrAll : Arr 31 6 := ⟨⟨.array 6 3, by kernel_rfl, rfl⟩, by kernel_rfl⟩
theorem grdLev : Tryd.prog.eqGuardType Tryd.prog.depth 25 = false := by kernel_rfl
theorem grdAll : Tryd.prog.eqGuardType Tryd.prog.depth 31 = false := by kernel_rfl
/-- the bands' edges -/
def edgL : List Nat := [0, 1, 2, 4, 6, 10, 16]
def edg (b : Nat) : Nat := edgL.getD b 0
theorem edg_all : ∀ b, b < 6 → edg b < edg (b + 1) ∧ edg (b + 1) ≤ 16 ∧ edg b ≤ 15 := by decide
theorem edg_le {b : Nat} (h : b < 7) : edg b ≤ 16 := (show ∀ b, b < 7 → edg b ≤ 16 by decide) b h
/-- the variable 'edges' lies where it lies, as the program's text has it -/
def Edg (w : World) : Prop := ∀ b, b < 7 → w.cell? ⟨0, b, none⟩ = some (.int .i64 (edg b : Int))
theorem Edg.below {w w' : World} (h : Edg w) (hb : Below w.heap.size w w') : Edg w' := fun b hlt => by
  have hc := h b hlt
  exact (hb.cell (p := ⟨_, b, none⟩) (World.block_lt_of_cell? _ _ hc)).trans hc
theorem Edg.drew {w : World} (h : Edg w) : Edg w.drew := h
theorem Edg.mem {w w' : World} {L : List (Nat × TypeId × List Int)} (h : Edg w) (hm : Mem w L w') : Edg w' := h.below hm.1
theorem Edg.cells {w : World} (h : Edg w) {b : Nat} (hb : b < 6) : w.cell? ⟨0, b, none⟩ = some (.int .i64 (edg b : Int)) ∧ w.cell? ⟨0, b + 1, none⟩ = some (.int .i64 (edg (b + 1) : Int)) := ⟨h b (by omega), h (b + 1) (by omega)⟩
/-- a band's numbers, 0 in the others' places -/
def ownF (x : List Int) (b n : Nat) : Int := if edg b ≤ n ∧ n < edg (b + 1) then x.getD n 0 else 0
def ownL (x : List Int) (b : Nat) : List Int := tab 16 (ownF x b)
/-- the squares of a band's numbers, the first k -/
def enN (x : List Int) (b k : Nat) : Int := sumN (fun n => ownF x b n * ownF x b n) k
def enB (x : List Int) (b : Nat) : Nat := (enN x b 16).toNat
def lvl (E : Nat) : Int := if E = 0 then 0 else min ((logN E / 2 + 1 : Nat) : Int) 255
def levB (x : List Int) (b : Nat) : Int := lvl (enB x b)
def measL (x : List Int) : List Int := tab 6 (levB x)
theorem sq_nonneg' (v : Int) : 0 ≤ v * v := by
  rcases Int.le_total 0 v with h | h
  · exact Int.mul_nonneg h h
  · have := Int.mul_nonneg (show 0 ≤ -v by omega) (show 0 ≤ -v by omega)
    rwa [Int.neg_mul_neg] at this
theorem sumN_nonneg {f : Nat → Int} : ∀ n : Nat, (∀ i, i < n → 0 ≤ f i) → 0 ≤ sumN f n
  | 0, _ => Int.le_refl _
  | n + 1, h => by
    have h1 := sumN_nonneg n fun i hi => h i (by omega)
    have h2 := h n (by omega)
    rw [sumN_succ]; omega
theorem sumN_pos {f : Nat → Int} : ∀ (n : Nat) (i : Nat), i < n → (∀ i, i < n → 0 ≤ f i) → 0 < f i → 0 < sumN f n
  | n + 1, i, hi, h, hp => by
    rw [sumN_succ]
    have h2 := h n (by omega)
    rcases Nat.lt_or_ge i n with k | k
    · have := sumN_pos n i k (fun j hj => h j (by omega)) hp; omega
    · obtain rfl : i = n := by omega
      have := sumN_nonneg i fun j hj => h j (by omega)
      omega
theorem ownF_zero {x : List Int} {b n : Nat} (h : ¬ (edg b ≤ n ∧ n < edg (b + 1))) : ownF x b n = 0 := if_neg h
theorem ownF_in {x : List Int} {b n : Nat} (h : edg b ≤ n) (h' : n < edg (b + 1)) : ownF x b n = x.getD n 0 := if_pos ⟨h, h'⟩
theorem enN_start (x : List Int) (b : Nat) : enN x b (edg b) = 0 := sumN_zero _ _ fun i hi => by rw [ownF_zero (by omega)]; rfl
theorem sumN_tail (f : Nat → Int) (m : Nat) : ∀ n : Nat, m ≤ n → (∀ i, m ≤ i → i < n → f i = 0) → sumN f n = sumN f m
  | 0, h, _ => by obtain rfl : m = 0 := by omega
                  rfl
  | n + 1, h, hz => by
    by_cases k : m = n + 1
    · subst k; rfl
    · rw [sumN_succ, sumN_tail f m n (by omega) fun i h1 h2 => hz i h1 (by omega), hz n (by omega) (by omega), Int.add_zero]
theorem enN_end {x : List Int} {b : Nat} (hb : b < 6) : enN x b (edg (b + 1)) = enN x b 16 :=
  (sumN_tail _ _ _ (edg_all b hb).2.1 fun i h1 _ => by rw [ownF_zero (by omega)]; rfl).symm
theorem enN_succ {x : List Int} {b n : Nat} (h : edg b ≤ n) (h' : n < edg (b + 1)) : enN x b (n + 1) = enN x b n + x.getD n 0 * x.getD n 0 := by
  unfold enN
  rw [sumN_succ, ownF_in h h']
theorem enN_nonneg (x : List Int) (b n : Nat) : 0 ≤ enN x b n := sumN_nonneg _ fun i _ => sq_nonneg' _
theorem ownF_bd {x : List Int} (h : okX x = true) (b n : Nat) : -67108864 ≤ ownF x b n ∧ ownF x b n ≤ 67108864 := by
  unfold ownF
  split
  · exact inR_bd h (by omega) (by omega) n
  · omega
theorem okX_own {x : List Int} (h : okX x = true) (b : Nat) : okX (ownL x b) = true := by
  refine decide_eq_true fun k hk => ?_
  rw [ownL, tab_length] at hk
  rw [ownL, tab_getD _ hk]
  exact ownF_bd h b k
theorem sq_bd {v : Int} (h1 : -67108864 ≤ v) (h2 : v ≤ 67108864) : 0 ≤ v * v ∧ v * v ≤ 4503599627370496 := by
  have := mul_bd h1 h2 h1 h2
  exact ⟨sq_nonneg' v, by omega⟩
theorem enN_le {x : List Int} (h : okX x = true) (b : Nat) {n : Nat} (hn : n ≤ 16) : 0 ≤ enN x b n ∧ enN x b n ≤ 72057594037927936 := by
  have := sumN_bd (fun n => ownF x b n * ownF x b n) 4503599627370496 n fun i _ => by
    have := sq_bd (ownF_bd h b i).1 (ownF_bd h b i).2
    constructor <;> omega
  exact ⟨enN_nonneg x b n, by unfold enN; omega⟩
theorem eng_own {x : List Int} (h : okX x = true) (b : Nat) : eng (ownL x b) = ((enB x b : Nat) : Int) := by
  unfold eng
  rw [if_pos (okX_own h b)]
  unfold enB
  rw [Int.toNat_of_nonneg (enN_nonneg x b 16)]
  exact sumN_congr _ _ _ fun i hi => by rw [ownL, tab_getD _ hi]
theorem enB_lt {x : List Int} (h : okX x = true) (b : Nat) : enB x b < 18446744073709551616 := by
  have := (enN_le h b (Nat.le_refl 16)).2
  unfold enB; omega
theorem own_zero_iff (x : List Int) (b : Nat) : ownL x b = zr 16 ↔ enB x b = 0 := by
  constructor
  · intro h
    have : enN x b 16 = 0 := sumN_zero _ _ fun i hi => by
      have e : (ownL x b).getD i 0 = (zr 16).getD i 0 := by rw [h]
      rw [ownL, tab_getD _ hi, zr_getD] at e
      rw [e]; rfl
    unfold enB; rw [this]; rfl
  · intro h
    refine getD_ext (by rw [ownL, tab_length, zr_length]) fun k hk => ?_
    rw [ownL, tab_length] at hk
    rw [zr_getD, ownL, tab_getD _ hk]
    by_cases h0 : ownF x b k = 0
    · exact h0
    · have hp : 0 < ownF x b k * ownF x b k := by
        have h1 := sq_nonneg' (ownF x b k)
        have h2 : ownF x b k * ownF x b k ≠ 0 := fun e => h0 (by rcases Int.mul_eq_zero.1 e with e | e <;> exact e)
        omega
      have := sumN_pos (f := fun n => ownF x b n * ownF x b n) 16 k hk (fun i _ => sq_nonneg' _) hp
      unfold enB enN at h; omega
theorem eng_zero_iff {x : List Int} (lx : x.length = 16) (h : okX x = true) : eng x = 0 ↔ x = zr 16 := by
  unfold eng
  rw [if_pos h]
  constructor
  · intro he
    refine getD_ext (by rw [lx, zr_length]) fun k hk => ?_
    rw [zr_getD]
    by_cases h0 : x.getD k 0 = 0
    · exact h0
    · have hp : 0 < x.getD k 0 * x.getD k 0 := by
        have h1 := sq_nonneg' (x.getD k 0)
        have h2 : x.getD k 0 * x.getD k 0 ≠ 0 := fun e => h0 (by rcases Int.mul_eq_zero.1 e with e | e <;> exact e)
        omega
      have := sumN_pos (f := fun n => x.getD n 0 * x.getD n 0) 16 k (by omega) (fun _ _ => sq_nonneg' _) hp
      omega
  · intro he
    subst he
    exact sumN_zero _ _ fun i _ => by rw [zr_getD]; rfl
theorem okX_zero : okX (zr 16) = true := by
  unfold okX inR
  exact decide_eq_true (fun k _ => by rw [zr_getD]; omega)
theorem lvl_bd (E : Nat) : 0 ≤ lvl E ∧ lvl E ≤ 255 := by
  unfold lvl
  split
  · omega
  · omega
theorem measL_length (x : List Int) : (measL x).length = 6 := tab_length _ _
end Go.Proofs.YtplfcncibmgllaaDoor.Lp
