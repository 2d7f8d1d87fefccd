/-
  Own texts, laid together: Ll.
-/
import Derived.Test.YtplfcncibmgllaaDoorLk
import Derived.ChangeKeysEq
/- Ll -/
namespace Go.Proofs.YtplfcncibmgllaaDoor.Lp
open Go.RowKit Go.Proofs.YtplfcncibmgllaaDoor.Fx Go.Proofs.YtplfcncibmgllaaDoor.Fq Go.Proofs.YtplfcncibmgllaaDoor.Tb
theorem run_items_same (d : Nat) (xs : List Int) (u : World) : ∀ l : List Nat, (∀ i ∈ l, i < xs.length) → (Op.eqItems (d + 1) 3 1 (icells xs) (icells xs) l).run Tryd.prog u = .ok true u
  | [], _ => by simp [Op.eqItems]
  | i :: l, h => by
    have ih := run_items_same d xs u l fun j hj => h j (by simp [hj])
    have ha : (isAgg 3).run Tryd.prog u = .ok false u := by kernel_rfl
    have hu : Tryd.prog.underlying 3 = some (.int .i64) := by kernel_rfl
    have hc : (icells xs)[i]? = some (.int .i64 (xs.getD i 0)) := icells_get (h i (by simp))
    have hp : (part 3 (icells xs) (i * 1)).run Tryd.prog u = .ok (.int .i64 (xs.getD i 0)) u := by
      rw [Nat.mul_one]
      simp only [part, Sem.run_bind, ha, Result.andThen_ok, Bool.false_eq_true, if_false, hc, Sem.run_pure]
    have he := run_equalIn_int (P := Tryd.prog) u d 3 .i64 .i64 (xs.getD i 0) (xs.getD i 0) hu
    simp only [Op.eqItems, Sem.run_bind, hp, Result.andThen_ok, he, beq_self_eq_true]
    simpa using ih
theorem run_equalIn_same (T : TypeId) {n : Nat} (hT : Tryd.prog.underlying T = some (.array n 3)) (xs : List Int) (hl : xs.length = n) (w : World) :
    (Op.equalIn 10000 T (.agg (icells xs)) (.agg (icells xs))).run Tryd.prog w = .ok true w := by
  have hc : Tryd.prog.cellsOf 3 = 1 := by kernel_rfl
  obtain ⟨i, hi⟩ : ∃ i, Tryd.prog.info? 3 = some i := Option.isSome_iff_exists.1 (by kernel_rfl)
  rw [run_equalIn_array w 9999 (icells xs) (icells xs) hT hi, hc]
  exact run_items_same 9998 xs w _ fun j hj => by rw [hl]; exact List.mem_range.1 hj
theorem grdSpec : Tryd.prog.eqGuardType Tryd.prog.depth 23 = false := by kernel_rfl
theorem sumN_zero (f : Nat → Int) : ∀ n : Nat, (∀ i, i < n → f i = 0) → sumN f n = 0
  | 0, _ => rfl
  | n + 1, h => by rw [sumN_succ, sumN_zero f n fun i hi => h i (by omega), h n (by omega)]; rfl
theorem zr_getD (n k : Nat) : (zr n).getD k 0 = 0 := by
  unfold zr
  rw [List.getD_eq_getElem?_getD, List.getElem?_replicate]
  split <;> rfl
theorem smp_zero (n : Nat) : smp (zr 16) (zr 16) n = 0 := by
  unfold smp
  split <;> exact zr_getD _ _
theorem fwd_zero : fwdL (zr 16) (zr 16) = zr 16 := by
  refine Eq.trans (tab_congr fun k _ => ?_) (tab_zero 16)
  unfold fwd
  rw [sumN_zero _ 32 fun i _ => by
    unfold wgt
    rw [smp_zero, Int.zero_mul, round16]
    simp]
  rw [round28]
  rfl
theorem okP_zero : okP (zr 16) = true := (inR_iff (zr_length 16)).2 fun k _ => by rw [zr_getD]; omega
def p1 : List Int := 32768 :: List.replicate 15 0
def x1 : List Int := 3 :: -4 :: List.replicate 14 0
theorem p1_length : p1.length = 16 := by decide
theorem x1_length : x1.length = 16 := by decide
theorem okP_p1 : okP p1 = false := by decide
theorem eng_x1 : eng x1 = 25 := by decide
end Go.Proofs.YtplfcncibmgllaaDoor.Lp
