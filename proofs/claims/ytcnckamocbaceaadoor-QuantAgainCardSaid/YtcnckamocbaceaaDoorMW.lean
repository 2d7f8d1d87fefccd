/-
  Own texts, laid together: Wa, Wb, Wm, Wc, Wn, Wd.
-/
import Derived.Test.YtcnckamocbaceaaDoorMN
import Derived.Test.YtcnckamocbaceaaDoorMS
import Derived.Deep.Cut
import Derived.Deep.QuietTactic
import Derived.BigQuiet
/- Wa -/
namespace Go.Proofs.YtcnckamocbaceaaDoor.Lp
open Go.RowKit Go.Proofs.YtcnckamocbaceaaDoor.Fx Go.Proofs.YtcnckamocbaceaaDoor.Fq Go.Proofs.YtcnckamocbaceaaDoor.Tb
theorem run_items_any (d : Nat) (xs ys : List Int) (u : World) : ∀ l : List Nat, (∀ i ∈ l, i < xs.length ∧ i < ys.length) → (Op.eqItems (d + 1) 3 1 (icells xs) (icells ys) l).run Tryd.prog u = .ok (l.all fun i => xs.getD i 0 == ys.getD i 0) u
  | [], _ => by simp [Op.eqItems]
  | i :: l, h => by
    have ih := run_items_any d xs ys u l fun j hj => h j (by simp [hj])
    have ha : (isAgg 3).run Tryd.prog u = .ok false u := by kernel_rfl
    have hu : Tryd.prog.underlying 3 = some (.int .i64) := by kernel_rfl
    have hp : ∀ zs : List Int, i < zs.length → (part 3 (icells zs) (i * 1)).run Tryd.prog u = .ok (.int .i64 (zs.getD i 0)) u := fun zs hz => by
      have hc : (icells zs)[i]? = some (.int .i64 (zs.getD i 0)) := icells_get hz
      rw [Nat.mul_one]
      simp only [part, Sem.run_bind, ha, Result.andThen_ok, Bool.false_eq_true, if_false, hc, Sem.run_pure]
    have he := run_equalIn_int (P := Tryd.prog) u d 3 .i64 .i64 (xs.getD i 0) (ys.getD i 0) hu
    have h1 := hp xs (h i (by simp)).1
    have h2 := hp ys (h i (by simp)).2
    simp only [Op.eqItems, Sem.run_bind, h1, h2, Result.andThen_ok, he]
    rw [List.all_cons]
    by_cases k : xs.getD i 0 = ys.getD i 0
    · have k2 : (xs.getD i 0 == ys.getD i 0) = true := by rw [k]; exact beq_self_eq_true _
      simp only [k2, Bool.true_and]
      simpa using ih
    · have k2 : (xs.getD i 0 == ys.getD i 0) = false := by simpa using k
      simp only [k2, Bool.false_and]
      simp
theorem run_equalIn_diff (T : TypeId) {n : Nat} (hT : Tryd.prog.underlying T = some (.array n 3)) (xs ys : List Int) (hl : xs.length = n) (hl' : ys.length = n) (hne : xs ≠ ys) (w : World) :
    (Op.equalIn 10000 T (.agg (icells xs)) (.agg (icells ys))).run Tryd.prog w = .ok false w := by
  have hc : Tryd.prog.cellsOf 3 = 1 := by kernel_rfl
  obtain ⟨i, hi⟩ : ∃ i, Tryd.prog.info? 3 = some i := Option.isSome_iff_exists.1 (by kernel_rfl)
  rw [run_equalIn_array w 9999 (icells xs) (icells ys) hT hi, hc, run_items_any 9998 xs ys w _ fun j hj => ⟨by rw [hl]; exact List.mem_range.1 hj, by rw [hl']; exact List.mem_range.1 hj⟩]
  congr 1
  rw [Bool.eq_false_iff]
  intro hall
  refine hne (getD_ext (by rw [hl, hl']) fun k hk => ?_)
  rw [List.all_eq_true] at hall
  simpa using hall k (List.mem_range.2 (by omega))
theorem arrLev : Arr 32 6 := ⟨⟨.array 6 3, by kernel_rfl, rfl⟩, by kernel_rfl⟩
theorem arrAll : Arr 34 6 := ⟨⟨.array 6 3, by kernel_rfl, rfl⟩, by kernel_rfl⟩
theorem grdLev : Tryd.prog.eqGuardType Tryd.prog.depth 32 = false := by kernel_rfl
theorem grdAll : Tryd.prog.eqGuardType Tryd.prog.depth 34 = false := by kernel_rfl
/-- the bands' edges -/
def edgL : List Nat := [0, 1, 2, 4, 6, 10, 16]
def edg (b : Nat) : Nat := edgL.getD b 0
theorem edg_all : ∀ b, b < 6 → edg b < edg (b + 1) ∧ edg (b + 1) ≤ 16 ∧ edg b ≤ 15 := by decide
theorem edg_le {b : Nat} (h : b < 7) : edg b ≤ 16 := (show ∀ b, b < 7 → edg b ≤ 16 by decide) b h
/-- the variable 'edges' lies where it lies, as the program's text has it -/
def Edg (w : World) : Prop := ∀ b, b < 7 → w.cell? ⟨0, b, none⟩ = some (.int .i64 (edg b : Int))
theorem Edg.below {w w' : World} (h : Edg w) (hb : Below w.heap.size w w') : Edg w' := fun b hlt => by
  have hc := h b hlt
  exact (hb.cell (p := ⟨_, b, none⟩) (World.block_lt_of_cell? _ _ hc)).trans hc
theorem Edg.drew {w : World} (h : Edg w) : Edg w.drew := h
theorem Edg.mem {w w' : World} {L : List (Nat × TypeId × List Int)} (h : Edg w) (hm : Mem w L w') : Edg w' := h.below hm.1
theorem Edg.cells {w : World} (h : Edg w) {b : Nat} (hb : b < 6) : w.cell? ⟨0, b, none⟩ = some (.int .i64 (edg b : Int)) ∧ w.cell? ⟨0, b + 1, none⟩ = some (.int .i64 (edg (b + 1) : Int)) := ⟨h b (by omega), h (b + 1) (by omega)⟩
/-- a band's numbers, 0 in the others' places -/
def ownF (x : List Int) (b n : Nat) : Int := if edg b ≤ n ∧ n < edg (b + 1) then x.getD n 0 else 0
def ownL (x : List Int) (b : Nat) : List Int := tab 16 (ownF x b)
/-- the squares of a band's numbers, the first k -/
def enN (x : List Int) (b k : Nat) : Int := sumN (fun n => ownF x b n * ownF x b n) k
def enB (x : List Int) (b : Nat) : Nat := (enN x b 16).toNat
def lvl (E : Nat) : Int := if E = 0 then 0 else min ((logN E / 2 + 1 : Nat) : Int) 255
def levB (x : List Int) (b : Nat) : Int := lvl (enB x b)
def measL (x : List Int) : List Int := tab 6 (levB x)
theorem sq_nonneg' (v : Int) : 0 ≤ v * v := by
  rcases Int.le_total 0 v with h | h
  · exact Int.mul_nonneg h h
  · have := Int.mul_nonneg (show 0 ≤ -v by omega) (show 0 ≤ -v by omega)
    rwa [Int.neg_mul_neg] at this
theorem sumN_nonneg {f : Nat → Int} : ∀ n : Nat, (∀ i, i < n → 0 ≤ f i) → 0 ≤ sumN f n
  | 0, _ => Int.le_refl _
  | n + 1, h => by
    have h1 := sumN_nonneg n fun i hi => h i (by omega)
    have h2 := h n (by omega)
    rw [sumN_succ]; omega
theorem sumN_pos {f : Nat → Int} : ∀ (n : Nat) (i : Nat), i < n → (∀ i, i < n → 0 ≤ f i) → 0 < f i → 0 < sumN f n
  | n + 1, i, hi, h, hp => by
    rw [sumN_succ]
    have h2 := h n (by omega)
    rcases Nat.lt_or_ge i n with k | k
    · have := sumN_pos n i k (fun j hj => h j (by omega)) hp; omega
    · obtain rfl : i = n := by omega
      have := sumN_nonneg i fun j hj => h j (by omega)
      omega
theorem ownF_zero {x : List Int} {b n : Nat} (h : ¬ (edg b ≤ n ∧ n < edg (b + 1))) : ownF x b n = 0 := if_neg h
theorem ownF_in {x : List Int} {b n : Nat} (h : edg b ≤ n) (h' : n < edg (b + 1)) : ownF x b n = x.getD n 0 := if_pos ⟨h, h'⟩
theorem enN_start (x : List Int) (b : Nat) : enN x b (edg b) = 0 := sumN_zero _ _ fun i hi => by rw [ownF_zero (by omega)]; rfl
theorem sumN_tail (f : Nat → Int) (m : Nat) : ∀ n : Nat, m ≤ n → (∀ i, m ≤ i → i < n → f i = 0) → sumN f n = sumN f m
  | 0, h, _ => by obtain rfl : m = 0 := by omega
                  rfl
  | n + 1, h, hz => by
    by_cases k : m = n + 1
    · subst k; rfl
    · rw [sumN_succ, sumN_tail f m n (by omega) fun i h1 h2 => hz i h1 (by omega), hz n (by omega) (by omega), Int.add_zero]
theorem enN_end {x : List Int} {b : Nat} (hb : b < 6) : enN x b (edg (b + 1)) = enN x b 16 :=
  (sumN_tail _ _ _ (edg_all b hb).2.1 fun i h1 _ => by rw [ownF_zero (by omega)]; rfl).symm
theorem enN_succ {x : List Int} {b n : Nat} (h : edg b ≤ n) (h' : n < edg (b + 1)) : enN x b (n + 1) = enN x b n + x.getD n 0 * x.getD n 0 := by
  unfold enN
  rw [sumN_succ, ownF_in h h']
theorem enN_nonneg (x : List Int) (b n : Nat) : 0 ≤ enN x b n := sumN_nonneg _ fun _ _ => sq_nonneg' _
theorem ownF_bd {x : List Int} (h : okX x = true) (b n : Nat) : -67108864 ≤ ownF x b n ∧ ownF x b n ≤ 67108864 := by
  unfold ownF
  split
  · exact inR_bd h (by omega) (by omega) n
  · omega
theorem okX_own {x : List Int} (h : okX x = true) (b : Nat) : okX (ownL x b) = true := by
  refine decide_eq_true fun k hk => ?_
  rw [ownL, tab_length] at hk
  rw [ownL, tab_getD _ hk]
  exact ownF_bd h b k
theorem sq_bd {v : Int} (h1 : -67108864 ≤ v) (h2 : v ≤ 67108864) : 0 ≤ v * v ∧ v * v ≤ 4503599627370496 := by
  have := mul_bd h1 h2 h1 h2
  exact ⟨sq_nonneg' v, by omega⟩
theorem enN_le {x : List Int} (h : okX x = true) (b : Nat) {n : Nat} (hn : n ≤ 16) : 0 ≤ enN x b n ∧ enN x b n ≤ 72057594037927936 := by
  have := sumN_bd (fun n => ownF x b n * ownF x b n) 4503599627370496 n fun i _ => by
    have := sq_bd (ownF_bd h b i).1 (ownF_bd h b i).2
    constructor <;> omega
  exact ⟨enN_nonneg x b n, by unfold enN; omega⟩
theorem eng_own {x : List Int} (h : okX x = true) (b : Nat) : eng (ownL x b) = ((enB x b : Nat) : Int) := by
  unfold eng
  rw [if_pos (okX_own h b)]
  unfold enB
  rw [Int.toNat_of_nonneg (enN_nonneg x b 16)]
  exact sumN_congr _ _ _ fun i hi => by rw [ownL, tab_getD _ hi]
theorem enB_lt {x : List Int} (h : okX x = true) (b : Nat) : enB x b < 18446744073709551616 := by
  have := (enN_le h b (Nat.le_refl 16)).2
  unfold enB; omega
theorem own_zero_iff (x : List Int) (b : Nat) : ownL x b = zr 16 ↔ enB x b = 0 := by
  constructor
  · intro h
    have : enN x b 16 = 0 := sumN_zero _ _ fun i hi => by
      have e : (ownL x b).getD i 0 = (zr 16).getD i 0 := by rw [h]
      rw [ownL, tab_getD _ hi, zr_getD] at e
      rw [e]; rfl
    unfold enB; rw [this]; rfl
  · intro h
    refine getD_ext (by rw [ownL, tab_length, zr_length]) fun k hk => ?_
    rw [ownL, tab_length] at hk
    rw [zr_getD, ownL, tab_getD _ hk]
    by_cases h0 : ownF x b k = 0
    · exact h0
    · have hp : 0 < ownF x b k * ownF x b k := by
        have h1 := sq_nonneg' (ownF x b k)
        have h2 : ownF x b k * ownF x b k ≠ 0 := fun e => h0 (by rcases Int.mul_eq_zero.1 e with e | e <;> exact e)
        omega
      have := sumN_pos (f := fun n => ownF x b n * ownF x b n) 16 k hk (fun i _ => sq_nonneg' _) hp
      unfold enB enN at h; omega
theorem eng_zero_iff {x : List Int} (lx : x.length = 16) (h : okX x = true) : eng x = 0 ↔ x = zr 16 := by
  unfold eng
  rw [if_pos h]
  constructor
  · intro he
    refine getD_ext (by rw [lx, zr_length]) fun k hk => ?_
    rw [zr_getD]
    by_cases h0 : x.getD k 0 = 0
    · exact h0
    · have hp : 0 < x.getD k 0 * x.getD k 0 := by
        have h1 := sq_nonneg' (x.getD k 0)
        have h2 : x.getD k 0 * x.getD k 0 ≠ 0 := fun e => h0 (by rcases Int.mul_eq_zero.1 e with e | e <;> exact e)
        omega
      have := sumN_pos (f := fun n => x.getD n 0 * x.getD n 0) 16 k (by omega) (fun _ _ => sq_nonneg' _) hp
      omega
  · intro he
    subst he
    exact sumN_zero _ _ fun i _ => by rw [zr_getD]; rfl
theorem okX_zero : okX (zr 16) = true := by
  unfold okX inR
  exact decide_eq_true (fun k _ => by rw [zr_getD]; omega)
theorem lvl_bd (E : Nat) : 0 ≤ lvl E ∧ lvl E ≤ 255 := by
  unfold lvl
  split
  · omega
  · omega
theorem measL_length (x : List Int) : (measL x).length = 6 := tab_length _ _
end Go.Proofs.YtcnckamocbaceaaDoor.Lp
/- Wb -/
namespace Go.Proofs.YtcnckamocbaceaaDoor.Lp
open Go.RowKit Go.Proofs.YtcnckamocbaceaaDoor.Fx Go.Proofs.YtcnckamocbaceaaDoor.Fq Go.Proofs.YtcnckamocbaceaaDoor.Tb
set_option maxRecDepth 100000 in
set_option maxHeartbeats 4000000 in
theorem own_any (x : List Int) (b : Nat) (w : World) (lx : x.length = 16) (hb : b < 6) (he : Edg w) :
    Calls Tryd.prog 49 #[.agg (icells x), .int .i64 (b : Int)] w (ValQ w (.agg (icells (ownL x b)))) := by
  have LX := Lib.hid lx
  have HE := Lib.hid he
  have HM := Lib.hid (Mem.start w)
  have h6 : (b : Int) < 6 := by omega
  have hb0 := edg_all b hb
  obtain ⟨lo, hlo⟩ : ∃ z, edg b = z := ⟨_, rfl⟩
  obtain ⟨hi, hhi⟩ : ∃ z, edg (b + 1) = z := ⟨_, rfl⟩
  have HLO := Lib.hid hlo
  have HHI := Lib.hid hhi
  rw [hlo, hhi] at hb0
  obtain ⟨hb1, hb2, hb3⟩ := hb0
  clear lx he hlo hhi
  go_enter Tryd.func49, Tryd.ntmps49
  go_upto_region 2 with (first | (first | ((first | refine wl_box rfl _ _ rfl rfl HM ?_ | refine wl_alloc rfl _ rfl (by exact arrOf) HM ?_); first | (have q : dL HM = 0 := rfl; clear q HM; intro g1 u1 HM) | (have q : dL HM = 1 := rfl; clear q HM; intro g2 u2 HM) | (have q : dL HM = 2 := rfl; clear q HM; intro g3 u3 HM) | (have q : dL HM = 3 := rfl; clear q HM; intro g4 u4 HM) | (have q : dL HM = 4 := rfl; clear q HM; intro g5 u5 HM) | (have q : dL HM = 5 := rfl; clear q HM; intro g6 u6 HM) | (have q : dL HM = 6 := rfl; clear q HM; intro g7 u7 HM) | (have q : dL HM = 7 := rfl; clear q HM; intro g8 u8 HM) | (have q : dL HM = 8 := rfl; clear q HM; intro g9 u9 HM) | (have q : dL HM = 9 := rfl; clear q HM; intro g10 u10 HM) | (have q : dL HM = 10 := rfl; clear q HM; intro g11 u11 HM) | (have q : dL HM = 11 := rfl; clear q HM; intro g12 u12 HM) | (have q : dL HM = 12 := rfl; clear q HM; intro g13 u13 HM) | (have q : dL HM = 13 := rfl; clear q HM; intro g14 u14 HM)) | (refine wl_load rfl _ _ rfl rfl (by exact arrOf) HM (by exact memOf) (by exact lenOf) ?_) | (refine wl_storeM rfl _ _ _ rfl rfl rfl (by exact arrOf) HM (by exact idxOf) (by exact lenOf) (by exact lenOf) ?_; clear HM; intro us HM; dsimp only [List.set] at HM) | (refine wl_zero rfl _ rfl (by exact arrOf) (by kernel_rfl) ?_)))
  have c1 := ((HE.out.mem HM.out).cells hb).1
  rw [HLO.out] at c1
  go_wp2_with fail
  clear c1
  go_loopw [6] (fun vi wr => ∃ k : Nat, lo ≤ k ∧ k ≤ hi ∧ vi = .int .i64 (k : Int) ∧ Hid (Mem w [(g3, 30, tab 16 (part2 k (ownF x b) (fun _ => 0))), (g2, 30, zr 16), (g1, 30, x)] wr)) (fun vi _ => hi - (intOf vi).toNat)
  case atStart =>
    refine ⟨lo, by omega, by omega, rfl, ?_⟩
    rw [show tab 16 (part2 lo (ownF x b) (fun _ => 0)) = zr 16 by
      rw [← tab_zero]
      exact tab_congr fun i _ => by
        unfold part2
        split
        · exact ownF_zero (by rw [HLO.out]; omega)
        · rfl]
    exact HM
  case round =>
    clear HM
    obtain ⟨k, hk1, hk2, rfl, HM⟩ := hrel
    have c2 := ((HE.out.mem HM.out).cells hb).2
    rw [HHI.out] at c2
    by_cases hlt : k < hi
    · have k1 : (k : Int) < (hi : Int) := by omega
      have k16 : (k : Int) < 16 := by omega
      have cx := HM.out.cell (.tail _ (.tail _ (.head _))) (k := k) (by rw [LX.out]; omega)
      have S1 := Lib.hid (part2_set (n := 16) (k := k) (ownF x b) (fun _ => 0))
      rw [ownF_in (by rw [HLO.out]; exact hk1) (by rw [HHI.out]; exact hlt)] at S1
      have c3 := HM.out.cell (.head _) (k := k) (by rw [tab_length]; omega)
      have f3 := HM.out.free (.head _) k
      generalize List.getD (tab 16 _) k 0 = o at c3
      generalize x.getD k 0 = q at cx S1
      go_wp2
      have HM3 := Lib.hid (HM.out.put 0 rfl k q)
      simp only [List.set_cons_zero] at HM3
      rw [S1.out] at HM3
      clear HM c2 c3 f3 cx
      go_roundw
      case rel => exact ⟨k + 1, by omega, by omega, by go_num, HM3⟩
      case measure => simp [intOf]; omega
    · obtain rfl : k = hi := by omega
      have HO := Lib.hid (show tab 16 (part2 k (ownF x b) (fun _ => 0)) = ownL x b from tab_congr fun i _ => by
        unfold part2
        split
        · rfl
        · exact (ownF_zero (by rw [HHI.out]; omega)).symm)
      rw [HO.out] at HM
      have LO := Lib.hid (show (ownL x b).length = 16 from tab_length _ _)
      clear HO
      go_wp2_with (first | ((first | refine wl_box rfl _ _ rfl rfl HM ?_ | refine wl_alloc rfl _ rfl (by exact arrOf) HM ?_); first | (have q : dL HM = 0 := rfl; clear q HM; intro g1 u1 HM) | (have q : dL HM = 1 := rfl; clear q HM; intro g2 u2 HM) | (have q : dL HM = 2 := rfl; clear q HM; intro g3 u3 HM) | (have q : dL HM = 3 := rfl; clear q HM; intro g4 u4 HM) | (have q : dL HM = 4 := rfl; clear q HM; intro g5 u5 HM) | (have q : dL HM = 5 := rfl; clear q HM; intro g6 u6 HM) | (have q : dL HM = 6 := rfl; clear q HM; intro g7 u7 HM) | (have q : dL HM = 7 := rfl; clear q HM; intro g8 u8 HM) | (have q : dL HM = 8 := rfl; clear q HM; intro g9 u9 HM) | (have q : dL HM = 9 := rfl; clear q HM; intro g10 u10 HM) | (have q : dL HM = 10 := rfl; clear q HM; intro g11 u11 HM) | (have q : dL HM = 11 := rfl; clear q HM; intro g12 u12 HM) | (have q : dL HM = 12 := rfl; clear q HM; intro g13 u13 HM) | (have q : dL HM = 13 := rfl; clear q HM; intro g14 u14 HM)) | (refine wl_load rfl _ _ rfl rfl (by exact arrOf) HM (by exact memOf) (by exact lenOf) ?_) | (refine wl_storeM rfl _ _ _ rfl rfl rfl (by exact arrOf) HM (by exact idxOf) (by exact lenOf) (by exact lenOf) ?_; clear HM; intro us HM; dsimp only [List.set] at HM) | (refine wl_zero rfl _ rfl (by exact arrOf) (by kernel_rfl) ?_))
      refine bodyPost_ret (v := .agg (icells (ownL x b))) (res_one rfl _ rfl arrSpec HM (by exact memOf) LO) rfl ⟨rfl, HM.out.1⟩
theorem level_zero (w : World) : Calls Tryd.prog 48 #[.agg (icells (zr 16))] w (ValQ w (.int .i64 0)) := by
  have LX := Lib.hid (zr_length 16)
  have HM := Lib.hid (Mem.start w)
  have heq := fun u => run_equalIn_same 30 (n := 16) (by kernel_rfl) (zr 16) (zr_length 16) u
  have hgd := grdSpec
  go_enter Tryd.func48, Tryd.ntmps48
  go_wp2_with (first | ((first | refine wl_box rfl _ _ rfl rfl HM ?_ | refine wl_alloc rfl _ rfl (by exact arrOf) HM ?_); first | (have q : dL HM = 0 := rfl; clear q HM; intro g1 u1 HM) | (have q : dL HM = 1 := rfl; clear q HM; intro g2 u2 HM) | (have q : dL HM = 2 := rfl; clear q HM; intro g3 u3 HM) | (have q : dL HM = 3 := rfl; clear q HM; intro g4 u4 HM) | (have q : dL HM = 4 := rfl; clear q HM; intro g5 u5 HM) | (have q : dL HM = 5 := rfl; clear q HM; intro g6 u6 HM) | (have q : dL HM = 6 := rfl; clear q HM; intro g7 u7 HM) | (have q : dL HM = 7 := rfl; clear q HM; intro g8 u8 HM) | (have q : dL HM = 8 := rfl; clear q HM; intro g9 u9 HM) | (have q : dL HM = 9 := rfl; clear q HM; intro g10 u10 HM) | (have q : dL HM = 10 := rfl; clear q HM; intro g11 u11 HM) | (have q : dL HM = 11 := rfl; clear q HM; intro g12 u12 HM) | (have q : dL HM = 12 := rfl; clear q HM; intro g13 u13 HM) | (have q : dL HM = 13 := rfl; clear q HM; intro g14 u14 HM)) | (refine wl_load rfl _ _ rfl rfl (by exact arrOf) HM (by exact memOf) (by exact lenOf) ?_) | (refine wl_storeM rfl _ _ _ rfl rfl rfl (by exact arrOf) HM (by exact idxOf) (by exact lenOf) (by exact lenOf) ?_; clear HM; intro us HM; dsimp only [List.set] at HM) | (refine wl_zero rfl _ rfl (by exact arrOf) (by kernel_rfl) ?_))
  go_ret
  exact ⟨rfl, HM.out.1⟩
theorem lvl_is {E L : Nat} (h0 : E ≠ 0) (hL : logN E = L) : lvl E = min ((L : Int) / 2 + 1) 255 := by
  unfold lvl; rw [if_neg h0, hL]; omega
set_option maxRecDepth 100000 in
set_option maxHeartbeats 4000000 in
theorem level_pos (x : List Int) (E : Nat) (w : World) (lx : x.length = 16) (hx : x ≠ zr 16) (he : eng x = (E : Int)) (h0 : E ≠ 0) (hE : E < 18446744073709551616) :
    Calls Tryd.prog 48 #[.agg (icells x)] w (ValQ w (.int .i64 (lvl E))) := by
  have LX := Lib.hid lx
  have HM := Lib.hid (Mem.start w)
  have heq := fun u => run_equalIn_diff 30 (n := 16) (by kernel_rfl) x (zr 16) lx (zr_length 16) hx u
  have hgd := grdSpec
  have HC := Lib.hid (fun u => energy_any x u lx)
  rw [he] at HC
  have HD := Lib.hid (fun u => log_any E u hE)
  have hL := logN_lt E hE
  obtain ⟨L, hLL⟩ : ∃ L, logN E = L := ⟨_, rfl⟩
  rw [hLL] at HD hL
  have HL := Lib.hid hLL
  have H0 := Lib.hid h0
  clear lx hx he h0 hE hLL
  have HV := Lib.hid (lvl_is H0.out HL.out)
  rw [HV.out]
  clear HV
  go_enter Tryd.func48, Tryd.ntmps48
  go_wp2_with (first | ((first | refine wl_box rfl _ _ rfl rfl HM ?_ | refine wl_alloc rfl _ rfl (by exact arrOf) HM ?_); first | (have q : dL HM = 0 := rfl; clear q HM; intro g1 u1 HM) | (have q : dL HM = 1 := rfl; clear q HM; intro g2 u2 HM) | (have q : dL HM = 2 := rfl; clear q HM; intro g3 u3 HM) | (have q : dL HM = 3 := rfl; clear q HM; intro g4 u4 HM) | (have q : dL HM = 4 := rfl; clear q HM; intro g5 u5 HM) | (have q : dL HM = 5 := rfl; clear q HM; intro g6 u6 HM) | (have q : dL HM = 6 := rfl; clear q HM; intro g7 u7 HM) | (have q : dL HM = 7 := rfl; clear q HM; intro g8 u8 HM) | (have q : dL HM = 8 := rfl; clear q HM; intro g9 u9 HM) | (have q : dL HM = 9 := rfl; clear q HM; intro g10 u10 HM) | (have q : dL HM = 10 := rfl; clear q HM; intro g11 u11 HM) | (have q : dL HM = 11 := rfl; clear q HM; intro g12 u12 HM) | (have q : dL HM = 12 := rfl; clear q HM; intro g13 u13 HM) | (have q : dL HM = 13 := rfl; clear q HM; intro g14 u14 HM)) | (refine wl_load rfl _ _ rfl rfl (by exact arrOf) HM (by exact memOf) (by exact lenOf) ?_) | (refine wl_storeM rfl _ _ _ rfl rfl rfl (by exact arrOf) HM (by exact idxOf) (by exact lenOf) (by exact lenOf) ?_; clear HM; intro us HM; dsimp only [List.set] at HM) | (refine wl_zero rfl _ rfl (by exact arrOf) (by kernel_rfl) ?_))
  refine (HC.out _).mono ?_
  rintro e w2 ⟨rfl, h1⟩
  have HM2 := Lib.hid (HM.out.below h1)
  clear h1 HM HC
  have HM := HM2
  clear HM2
  go_wp2_with fail
  refine (HD.out _).mono ?_
  rintro e w3 ⟨rfl, h1⟩
  have HM2 := Lib.hid (HM.out.below h1)
  clear h1 HM HD
  go_wp2_with fail
  go_ret
  exact ⟨rfl, HM2.out.1⟩
theorem level_own (x : List Int) (b : Nat) (w : World) (h : okX x = true) :
    Calls Tryd.prog 48 #[.agg (icells (ownL x b))] w (ValQ w (.int .i64 (levB x b))) := by
  by_cases hz : enB x b = 0
  · rw [(own_zero_iff x b).2 hz, show levB x b = 0 by unfold levB lvl; rw [if_pos hz]]
    exact level_zero w
  · exact level_pos _ (enB x b) w (tab_length _ _) (fun e => hz ((own_zero_iff x b).1 e)) (eng_own h b) hz (enB_lt h b)
/-- what Measure answers -/
def measV (x : List Int) : Value := if okX x = true then .tuple #[.agg (icells (measL x)), .int .i64 0] else .tuple #[.agg (icells (zr 6)), .int .i64 1]
set_option maxRecDepth 100000 in
set_option maxHeartbeats 4000000 in
theorem meas_bad (x : List Int) (w : World) (lx : x.length = 16) (h : okX x = false) :
    Calls Tryd.prog 25 #[.agg (icells x)] w (ValQ w (.tuple #[.agg (icells (zr 6)), .int .i64 1])) := by
  have LX := Lib.hid lx
  have LZ := Lib.hid (zr_length 6)
  have HM := Lib.hid (Mem.start w)
  have hne : x ≠ zr 16 := fun e => by rw [e, okX_zero] at h; cases h
  have heq := fun u => run_equalIn_diff 30 (n := 16) (by kernel_rfl) x (zr 16) lx (zr_length 16) hne u
  have hgd := grdSpec
  have HC := Lib.hid (fun u => energy_any x u lx)
  rw [show eng x = 0 by unfold eng; rw [h]; rfl] at HC
  clear lx h hne
  go_enter Tryd.func25, Tryd.ntmps25
  go_wp2_with (first | ((first | refine wl_box rfl _ _ rfl rfl HM ?_ | refine wl_alloc rfl _ rfl (by exact arrOf) HM ?_); first | (have q : dL HM = 0 := rfl; clear q HM; intro g1 u1 HM) | (have q : dL HM = 1 := rfl; clear q HM; intro g2 u2 HM) | (have q : dL HM = 2 := rfl; clear q HM; intro g3 u3 HM) | (have q : dL HM = 3 := rfl; clear q HM; intro g4 u4 HM) | (have q : dL HM = 4 := rfl; clear q HM; intro g5 u5 HM) | (have q : dL HM = 5 := rfl; clear q HM; intro g6 u6 HM) | (have q : dL HM = 6 := rfl; clear q HM; intro g7 u7 HM) | (have q : dL HM = 7 := rfl; clear q HM; intro g8 u8 HM) | (have q : dL HM = 8 := rfl; clear q HM; intro g9 u9 HM) | (have q : dL HM = 9 := rfl; clear q HM; intro g10 u10 HM) | (have q : dL HM = 10 := rfl; clear q HM; intro g11 u11 HM) | (have q : dL HM = 11 := rfl; clear q HM; intro g12 u12 HM) | (have q : dL HM = 12 := rfl; clear q HM; intro g13 u13 HM) | (have q : dL HM = 13 := rfl; clear q HM; intro g14 u14 HM)) | (refine wl_load rfl _ _ rfl rfl (by exact arrOf) HM (by exact memOf) (by exact lenOf) ?_) | (refine wl_storeM rfl _ _ _ rfl rfl rfl (by exact arrOf) HM (by exact idxOf) (by exact lenOf) (by exact lenOf) ?_; clear HM; intro us HM; dsimp only [List.set] at HM) | (refine wl_zero rfl _ rfl (by exact arrOf) (by kernel_rfl) ?_))
  refine (HC.out _).mono ?_
  rintro e w2 ⟨rfl, h1⟩
  have HM2 := Lib.hid (HM.out.below h1)
  clear h1 HM HC
  have HM := HM2
  clear HM2
  go_wp2_with (first | ((first | refine wl_box rfl _ _ rfl rfl HM ?_ | refine wl_alloc rfl _ rfl (by exact arrOf) HM ?_); first | (have q : dL HM = 0 := rfl; clear q HM; intro g1 u1 HM) | (have q : dL HM = 1 := rfl; clear q HM; intro g2 u2 HM) | (have q : dL HM = 2 := rfl; clear q HM; intro g3 u3 HM) | (have q : dL HM = 3 := rfl; clear q HM; intro g4 u4 HM) | (have q : dL HM = 4 := rfl; clear q HM; intro g5 u5 HM) | (have q : dL HM = 5 := rfl; clear q HM; intro g6 u6 HM) | (have q : dL HM = 6 := rfl; clear q HM; intro g7 u7 HM) | (have q : dL HM = 7 := rfl; clear q HM; intro g8 u8 HM) | (have q : dL HM = 8 := rfl; clear q HM; intro g9 u9 HM) | (have q : dL HM = 9 := rfl; clear q HM; intro g10 u10 HM) | (have q : dL HM = 10 := rfl; clear q HM; intro g11 u11 HM) | (have q : dL HM = 11 := rfl; clear q HM; intro g12 u12 HM) | (have q : dL HM = 12 := rfl; clear q HM; intro g13 u13 HM) | (have q : dL HM = 13 := rfl; clear q HM; intro g14 u14 HM)) | (refine wl_load rfl _ _ rfl rfl (by exact arrOf) HM (by exact memOf) (by exact lenOf) ?_) | (refine wl_storeM rfl _ _ _ rfl rfl rfl (by exact arrOf) HM (by exact idxOf) (by exact lenOf) (by exact lenOf) ?_; clear HM; intro us HM; dsimp only [List.set] at HM) | (refine wl_zero rfl _ rfl (by exact arrOf) (by kernel_rfl) ?_))
  refine bodyPost_ret (v := .tuple #[.agg (icells (zr 6)), .int .i64 1]) (res_two rfl _ rfl rfl arrLev HM (by exact memOf) LZ) rfl ⟨rfl, HM.out.1⟩
set_option maxRecDepth 100000 in
set_option maxHeartbeats 4000000 in
theorem meas_good (x : List Int) (w : World) (lx : x.length = 16) (h : okX x = true) (he : Edg w) :
    Calls Tryd.prog 25 #[.agg (icells x)] w (ValQ w (.tuple #[.agg (icells (measL x)), .int .i64 0])) := by
  have LX := Lib.hid lx
  have HE := Lib.hid he
  have HM := Lib.hid (Mem.start w)
  have hgd := grdSpec
  have HO := Lib.hid (fun b u hb (hu : Edg u) => own_any x b u lx hb hu)
  have HV := Lib.hid (fun b u => level_own x b u h)
  by_cases hz : x = zr 16
  case' pos =>
    have heq : ∀ u, (Op.equalIn 10000 30 (.agg (icells x)) (.agg (icells (zr 16)))).run Tryd.prog u = .ok true u := fun u => by
      rw [← hz]; exact run_equalIn_same 30 (n := 16) (by kernel_rfl) x lx u
    clear lx h he hz
    go_enter Tryd.func25, Tryd.ntmps25
    go_wp2_with (first | ((first | refine wl_box rfl _ _ rfl rfl HM ?_ | refine wl_alloc rfl _ rfl (by exact arrOf) HM ?_); first | (have q : dL HM = 0 := rfl; clear q HM; intro g1 u1 HM) | (have q : dL HM = 1 := rfl; clear q HM; intro g2 u2 HM) | (have q : dL HM = 2 := rfl; clear q HM; intro g3 u3 HM) | (have q : dL HM = 3 := rfl; clear q HM; intro g4 u4 HM) | (have q : dL HM = 4 := rfl; clear q HM; intro g5 u5 HM) | (have q : dL HM = 5 := rfl; clear q HM; intro g6 u6 HM) | (have q : dL HM = 6 := rfl; clear q HM; intro g7 u7 HM) | (have q : dL HM = 7 := rfl; clear q HM; intro g8 u8 HM) | (have q : dL HM = 8 := rfl; clear q HM; intro g9 u9 HM) | (have q : dL HM = 9 := rfl; clear q HM; intro g10 u10 HM) | (have q : dL HM = 10 := rfl; clear q HM; intro g11 u11 HM) | (have q : dL HM = 11 := rfl; clear q HM; intro g12 u12 HM) | (have q : dL HM = 12 := rfl; clear q HM; intro g13 u13 HM) | (have q : dL HM = 13 := rfl; clear q HM; intro g14 u14 HM)) | (refine wl_load rfl _ _ rfl rfl (by exact arrOf) HM (by exact memOf) (by exact lenOf) ?_) | (refine wl_storeM rfl _ _ _ rfl rfl rfl (by exact arrOf) HM (by exact idxOf) (by exact lenOf) (by exact lenOf) ?_; clear HM; intro us HM; dsimp only [List.set] at HM) | (refine wl_zero rfl _ rfl (by exact arrOf) (by kernel_rfl) ?_))
  case' neg =>
    have heq := fun u => run_equalIn_diff 30 (n := 16) (by kernel_rfl) x (zr 16) lx (zr_length 16) hz u
    have HC := Lib.hid (fun u => energy_any x u lx)
    have hz0 : eng x ≠ 0 := fun e => hz ((eng_zero_iff lx h).1 e)
    have hz1 : (eng x == 0) = false := by simpa using hz0
    generalize eng x = E at HC hz0 hz1
    clear lx h he hz hz0
    go_enter Tryd.func25, Tryd.ntmps25
    go_wp2_with (first | ((first | refine wl_box rfl _ _ rfl rfl HM ?_ | refine wl_alloc rfl _ rfl (by exact arrOf) HM ?_); first | (have q : dL HM = 0 := rfl; clear q HM; intro g1 u1 HM) | (have q : dL HM = 1 := rfl; clear q HM; intro g2 u2 HM) | (have q : dL HM = 2 := rfl; clear q HM; intro g3 u3 HM) | (have q : dL HM = 3 := rfl; clear q HM; intro g4 u4 HM) | (have q : dL HM = 4 := rfl; clear q HM; intro g5 u5 HM) | (have q : dL HM = 5 := rfl; clear q HM; intro g6 u6 HM) | (have q : dL HM = 6 := rfl; clear q HM; intro g7 u7 HM) | (have q : dL HM = 7 := rfl; clear q HM; intro g8 u8 HM) | (have q : dL HM = 8 := rfl; clear q HM; intro g9 u9 HM) | (have q : dL HM = 9 := rfl; clear q HM; intro g10 u10 HM) | (have q : dL HM = 10 := rfl; clear q HM; intro g11 u11 HM) | (have q : dL HM = 11 := rfl; clear q HM; intro g12 u12 HM) | (have q : dL HM = 12 := rfl; clear q HM; intro g13 u13 HM) | (have q : dL HM = 13 := rfl; clear q HM; intro g14 u14 HM)) | (refine wl_load rfl _ _ rfl rfl (by exact arrOf) HM (by exact memOf) (by exact lenOf) ?_) | (refine wl_storeM rfl _ _ _ rfl rfl rfl (by exact arrOf) HM (by exact idxOf) (by exact lenOf) (by exact lenOf) ?_; clear HM; intro us HM; dsimp only [List.set] at HM) | (refine wl_zero rfl _ rfl (by exact arrOf) (by kernel_rfl) ?_))
    refine (HC.out _).mono ?_
    rintro e w2 ⟨rfl, h1⟩
    have HM2 := Lib.hid (HM.out.below h1)
    clear h1 HM HC
    have HM := HM2
    clear HM2
    go_wp2_with (first | ((first | refine wl_box rfl _ _ rfl rfl HM ?_ | refine wl_alloc rfl _ rfl (by exact arrOf) HM ?_); first | (have q : dL HM = 0 := rfl; clear q HM; intro g1 u1 HM) | (have q : dL HM = 1 := rfl; clear q HM; intro g2 u2 HM) | (have q : dL HM = 2 := rfl; clear q HM; intro g3 u3 HM) | (have q : dL HM = 3 := rfl; clear q HM; intro g4 u4 HM) | (have q : dL HM = 4 := rfl; clear q HM; intro g5 u5 HM) | (have q : dL HM = 5 := rfl; clear q HM; intro g6 u6 HM) | (have q : dL HM = 6 := rfl; clear q HM; intro g7 u7 HM) | (have q : dL HM = 7 := rfl; clear q HM; intro g8 u8 HM) | (have q : dL HM = 8 := rfl; clear q HM; intro g9 u9 HM) | (have q : dL HM = 9 := rfl; clear q HM; intro g10 u10 HM) | (have q : dL HM = 10 := rfl; clear q HM; intro g11 u11 HM) | (have q : dL HM = 11 := rfl; clear q HM; intro g12 u12 HM) | (have q : dL HM = 12 := rfl; clear q HM; intro g13 u13 HM) | (have q : dL HM = 13 := rfl; clear q HM; intro g14 u14 HM)) | (refine wl_load rfl _ _ rfl rfl (by exact arrOf) HM (by exact memOf) (by exact lenOf) ?_) | (refine wl_storeM rfl _ _ _ rfl rfl rfl (by exact arrOf) HM (by exact idxOf) (by exact lenOf) (by exact lenOf) ?_; clear HM; intro us HM; dsimp only [List.set] at HM) | (refine wl_zero rfl _ rfl (by exact arrOf) (by kernel_rfl) ?_))
  all_goals
    clear heq
    go_loopw [15] (fun vi wr => ∃ k : Nat, k ≤ 6 ∧ vi = .int .i64 (k : Int) ∧ Hid (Mem w [(g3, 32, tab 6 (part2 k (levB x) (fun _ => 0))), (g2, 32, zr 6), (g1, 30, x)] wr)) (fun vi _ => 6 - (intOf vi).toNat)
    case atStart => exact ⟨0, by omega, rfl, Lib.hid (by rw [part2_none, tab_zero]; exact HM.out)⟩
    case round =>
      clear HM
      obtain ⟨k, hk, rfl, HM⟩ := hrel
      by_cases hlt : k < 6
      · have k6 : (k : Int) < 6 := by omega
        go_wp2_with (first | ((first | refine wl_box rfl _ _ rfl rfl HM ?_ | refine wl_alloc rfl _ rfl (by exact arrOf) HM ?_); first | (have q : dL HM = 0 := rfl; clear q HM; intro g1 u1 HM) | (have q : dL HM = 1 := rfl; clear q HM; intro g2 u2 HM) | (have q : dL HM = 2 := rfl; clear q HM; intro g3 u3 HM) | (have q : dL HM = 3 := rfl; clear q HM; intro g4 u4 HM) | (have q : dL HM = 4 := rfl; clear q HM; intro g5 u5 HM) | (have q : dL HM = 5 := rfl; clear q HM; intro g6 u6 HM) | (have q : dL HM = 6 := rfl; clear q HM; intro g7 u7 HM) | (have q : dL HM = 7 := rfl; clear q HM; intro g8 u8 HM) | (have q : dL HM = 8 := rfl; clear q HM; intro g9 u9 HM) | (have q : dL HM = 9 := rfl; clear q HM; intro g10 u10 HM) | (have q : dL HM = 10 := rfl; clear q HM; intro g11 u11 HM) | (have q : dL HM = 11 := rfl; clear q HM; intro g12 u12 HM) | (have q : dL HM = 12 := rfl; clear q HM; intro g13 u13 HM) | (have q : dL HM = 13 := rfl; clear q HM; intro g14 u14 HM)) | (refine wl_load rfl _ _ rfl rfl (by exact arrOf) HM (by exact memOf) (by exact lenOf) ?_) | (refine wl_storeM rfl _ _ _ rfl rfl rfl (by exact arrOf) HM (by exact idxOf) (by exact lenOf) (by exact lenOf) ?_; clear HM; intro us HM; dsimp only [List.set] at HM) | (refine wl_zero rfl _ rfl (by exact arrOf) (by kernel_rfl) ?_))
        refine (HO.out k _ hlt (HE.out.mem HM.out)).mono ?_
        rintro e wb ⟨rfl, h1⟩
        have HM2 := Lib.hid (HM.out.below h1)
        clear h1 HM
        have HM := HM2
        clear HM2
        go_wp2_with fail
        refine (HV.out k _).mono ?_
        rintro e wb ⟨rfl, h1⟩
        have HM2 := Lib.hid (HM.out.below h1)
        clear h1 HM
        have HM := HM2
        clear HM2
        have S1 := Lib.hid (part2_set (n := 6) (k := k) (levB x) (fun _ => 0))
        have c3 := HM.out.cell (.head _) (k := k) (by rw [tab_length]; omega)
        have f3 := HM.out.free (.head _) k
        generalize List.getD (tab 6 _) k 0 = o at c3
        generalize levB x k = q at S1
        go_wp2
        have HM3 := Lib.hid (HM.out.put 0 rfl k q)
        simp only [List.set_cons_zero] at HM3
        rw [S1.out] at HM3
        clear HM c3 f3
        go_roundw
        case rel => exact ⟨k + 1, by omega, by go_num, HM3⟩
        case measure => simp [intOf]; omega
      · obtain rfl : k = 6 := by omega
        rw [part2_all] at HM
        have LO := Lib.hid (measL_length x)
        change Hid (Mem w [(g3, 32, measL x), (g2, 32, zr 6), (g1, 30, x)] wr) at HM
        go_wp2_with (first | ((first | refine wl_box rfl _ _ rfl rfl HM ?_ | refine wl_alloc rfl _ rfl (by exact arrOf) HM ?_); first | (have q : dL HM = 0 := rfl; clear q HM; intro g1 u1 HM) | (have q : dL HM = 1 := rfl; clear q HM; intro g2 u2 HM) | (have q : dL HM = 2 := rfl; clear q HM; intro g3 u3 HM) | (have q : dL HM = 3 := rfl; clear q HM; intro g4 u4 HM) | (have q : dL HM = 4 := rfl; clear q HM; intro g5 u5 HM) | (have q : dL HM = 5 := rfl; clear q HM; intro g6 u6 HM) | (have q : dL HM = 6 := rfl; clear q HM; intro g7 u7 HM) | (have q : dL HM = 7 := rfl; clear q HM; intro g8 u8 HM) | (have q : dL HM = 8 := rfl; clear q HM; intro g9 u9 HM) | (have q : dL HM = 9 := rfl; clear q HM; intro g10 u10 HM) | (have q : dL HM = 10 := rfl; clear q HM; intro g11 u11 HM) | (have q : dL HM = 11 := rfl; clear q HM; intro g12 u12 HM) | (have q : dL HM = 12 := rfl; clear q HM; intro g13 u13 HM) | (have q : dL HM = 13 := rfl; clear q HM; intro g14 u14 HM)) | (refine wl_load rfl _ _ rfl rfl (by exact arrOf) HM (by exact memOf) (by exact lenOf) ?_) | (refine wl_storeM rfl _ _ _ rfl rfl rfl (by exact arrOf) HM (by exact idxOf) (by exact lenOf) (by exact lenOf) ?_; clear HM; intro us HM; dsimp only [List.set] at HM) | (refine wl_zero rfl _ rfl (by exact arrOf) (by kernel_rfl) ?_))
        refine bodyPost_ret (v := .tuple #[.agg (icells (measL x)), .int .i64 0]) (res_two rfl _ rfl rfl arrLev HM (by exact memOf) LO) rfl ⟨rfl, HM.out.1⟩
theorem meas_any (x : List Int) (w : World) (lx : x.length = 16) (he : Edg w) :
    Calls Tryd.prog 25 #[.agg (icells x)] w (ValQ w (measV x)) := by
  unfold measV
  cases h : okX x with
  | true => rw [if_pos rfl]; exact meas_good x w lx h he
  | false => rw [if_neg Bool.false_ne_true]; exact meas_bad x w lx h
end Go.Proofs.YtcnckamocbaceaaDoor.Lp
/- Wm -/
namespace Go.Proofs.YtcnckamocbaceaaDoor.Lp
open Go.RowKit Go.Proofs.YtcnckamocbaceaaDoor.Fx Go.Proofs.YtcnckamocbaceaaDoor.Fq Go.Proofs.YtcnckamocbaceaaDoor.Tb
def chkL (l : List Int) : Bool := inR 0 255 l
def heldL (l : List Int) : List Int := tab 6 (fun b => max 0 (min (l.getD b 0) 255))
theorem held_iff {l : List Int} (hl : l.length = 6) : heldL l = l ↔ chkL l = true := by
  unfold chkL
  rw [inR_iff hl]
  constructor
  · intro h k hk
    have e : (heldL l).getD k 0 = l.getD k 0 := by rw [h]
    rw [heldL, tab_getD _ hk] at e
    omega
  · intro h
    refine getD_ext (by rw [heldL, tab_length, hl]) fun k hk => ?_
    rw [heldL, tab_length] at hk
    rw [heldL, tab_getD _ hk]
    have := h k hk
    omega
/-- up to which level band b is not heard beside the first k bands -/
def mkN (l : List Int) (b : Nat) : Nat → Int
  | 0 => 0
  | k + 1 => if k = b then mkN l b k else max (mkN l b k) (l.getD k 0 - 12 * max ((k : Int) - (b : Int)) ((b : Int) - (k : Int)) - 8)
theorem mkN_self (l : List Int) (k : Nat) : mkN l k (k + 1) = mkN l k k := by rw [mkN, if_pos rfl]
theorem mkN_other (l : List Int) {b k : Nat} (h : ¬ k = b) : mkN l b (k + 1) = max (mkN l b k) (l.getD k 0 - 12 * max ((k : Int) - (b : Int)) ((b : Int) - (k : Int)) - 8) := by rw [mkN, if_neg h]
def maskL (l : List Int) : List Int := tab 6 (fun b => mkN l b 6)
theorem maskL_length (l : List Int) : (maskL l).length = 6 := tab_length _ _
theorem mkN_bd {l : List Int} (h : chkL l = true) (b : Nat) : ∀ k, 0 ≤ mkN l b k ∧ mkN l b k ≤ 255
  | 0 => ⟨Int.le_refl _, by show (0 : Int) ≤ 255; omega⟩
  | k + 1 => by
    have ih := mkN_bd h b k
    have hv := inR_bd h (by omega) (by omega) k
    unfold mkN
    split <;> omega
theorem mask_bd {l : List Int} (h : chkL l = true) {b : Nat} (hb : b < 6) : 0 ≤ (maskL l).getD b 0 ∧ (maskL l).getD b 0 ≤ 255 := by
  rw [maskL, tab_getD _ hb]; exact mkN_bd h b 6
def wishI (v m : Int) : Int := if v ≤ m then 0 else min ((v - m + 7) / 8) 7
def wishL (l m : List Int) : List Int := tab 6 (fun b => wishI (l.getD b 0) (m.getD b 0))
theorem wishI_bd (v m : Int) : 0 ≤ wishI v m ∧ wishI v m ≤ 7 := by
  unfold wishI; split <;> omega
theorem wishI_zero (v m : Int) : wishI v m = 0 ↔ v ≤ m := by
  unfold wishI; split <;> omega
def costN (a : List Int) (k : Nat) : Int := sumN (fun b => a.getD b 0 * ((edg (b + 1) : Int) - (edg b : Int))) k
def costL (a : List Int) : Int := costN a 6
theorem costL_eq (a : List Int) : costL a = a.getD 0 0 + a.getD 1 0 + 2 * a.getD 2 0 + 2 * a.getD 3 0 + 4 * a.getD 4 0 + 6 * a.getD 5 0 := by
  have e : ∀ b, b < 7 → (edg b : Int) = [0, 1, 2, 4, 6, 10, 16].getD b 0 := by decide
  unfold costL costN
  simp only [sumN]
  rw [e 0 (by omega), e (0 + 1) (by omega), e (1 + 1) (by omega), e (2 + 1) (by omega), e (3 + 1) (by omega), e (4 + 1) (by omega), e (5 + 1) (by omega)]
  simp only [Nat.reduceAdd, List.getD_cons_zero, List.getD_cons_succ]
  omega
/-- the last of the first k bands that has the most bits -/
def lastM (a : List Int) : Nat → Nat
  | 0 => 0
  | k + 1 => if a.getD (lastM a k) 0 ≤ a.getD k 0 then k else lastM a k
theorem lastM_lt (a : List Int) : ∀ k, lastM a (k + 1) < k + 1
  | 0 => by unfold lastM; split <;> simp [lastM]
  | k + 1 => by
    have ih := lastM_lt a k
    rw [lastM]; split <;> omega
theorem lastM_lt6 (a : List Int) : lastM a 6 < 6 := lastM_lt a 5
theorem lastM_max (a : List Int) : ∀ k j, j < k → a.getD j 0 ≤ a.getD (lastM a k) 0
  | k + 1, j, hj => by
    have ih := lastM_max a k
    rw [lastM]
    split
    · rename_i h
      by_cases e : j = k
      · subst e; exact Int.le_refl _
      · exact Int.le_trans (ih j (by omega)) h
    · rename_i h
      by_cases e : j = k
      · subst e; omega
      · exact ih j (by omega)
theorem lastM_last (a : List Int) : ∀ k j, j < k → lastM a k < j → a.getD j 0 < a.getD (lastM a k) 0
  | k + 1, j, hj, hl => by
    have ih := lastM_last a k
    rw [lastM] at hl ⊢
    split
    · rename_i h
      rw [if_pos h] at hl; omega
    · rename_i h
      rw [if_neg h] at hl
      by_cases e : j = k
      · subst e; omega
      · exact ih j (by omega) hl
theorem lastM_is {a : List Int} {b : Nat} (hb : b < 6) (h1 : ∀ j, j < 6 → a.getD j 0 ≤ a.getD b 0) (h2 : ∀ j, j < 6 → b < j → a.getD j 0 < a.getD b 0) : lastM a 6 = b := by
  have k1 := lastM_lt6 a
  have k2 := lastM_max a 6 b hb
  have k3 := h1 _ k1
  rcases Nat.lt_trichotomy (lastM a 6) b with h | h | h
  · have := lastM_last a 6 b hb h; omega
  · exact h
  · have := h2 _ k1 h; omega
def stpL (a : List Int) : List Int := a.set (lastM a 6) (a.getD (lastM a 6) 0 - 1)
def OkA (a : List Int) : Prop := a.length = 6 ∧ ∀ b, b < 6 → 0 ≤ a.getD b 0 ∧ a.getD b 0 ≤ 7
def sumA (a : List Int) : Nat := (sumN (fun b => a.getD b 0) 6).toNat
theorem getD_set' (a : List Int) (i : Nat) (v : Int) (j : Nat) (hi : i < a.length) : (a.set i v).getD j 0 = if i = j then v else a.getD j 0 := by
  simp only [List.getD_eq_getElem?_getD, List.getElem?_set]
  by_cases h : i = j
  · subst h; simp [hi]
  · simp [h]
theorem costL_pos {a : List Int} {B : Int} (hB : 0 ≤ B) (hc : B < costL a) : 0 < a.getD (lastM a 6) 0 := by
  rw [costL_eq] at hc
  have m := lastM_max a 6
  have m0 := m 0 (by omega)
  have m1 := m 1 (by omega)
  have m2 := m 2 (by omega)
  have m3 := m 3 (by omega)
  have m4 := m 4 (by omega)
  have m5 := m 5 (by omega)
  omega
theorem stp_ok {a : List Int} (h : OkA a) (hp : 0 < a.getD (lastM a 6) 0) : OkA (stpL a) := by
  have hl := lastM_lt6 a
  refine ⟨by rw [stpL, List.length_set, h.1], fun b hb => ?_⟩
  rw [stpL, getD_set' _ _ _ _ (by rw [h.1]; exact hl)]
  have := h.2 b hb
  have := h.2 _ hl
  split <;> omega
theorem sum_set (a : List Int) (i : Nat) (v : Int) (hi : i < a.length) : ∀ k, sumN (fun b => (a.set i v).getD b 0) k = sumN (fun b => a.getD b 0) k + if i < k then v - a.getD i 0 else 0
  | 0 => by simp [sumN]
  | k + 1 => by
    rw [sumN_succ, sumN_succ, sum_set a i v hi k, getD_set' _ _ _ _ hi]
    by_cases h : i = k
    · subst h
      rw [if_pos rfl, if_neg (by omega), if_pos (by omega)]
      omega
    · rw [if_neg h]
      by_cases h2 : i < k
      · rw [if_pos h2, if_pos (by omega)]; omega
      · rw [if_neg h2, if_neg (by omega)]; omega
theorem sumA_le {a : List Int} (h : OkA a) : sumA a ≤ 42 := by
  have := sumN_bd (fun b => if b < 6 then a.getD b 0 else 0) 7 6 fun i hi => by
    have := h.2 i hi
    show -7 ≤ (if i < 6 then a.getD i 0 else 0) ∧ (if i < 6 then a.getD i 0 else 0) ≤ 7
    rw [if_pos hi]; omega
  have e : sumN (fun b => a.getD b 0) 6 = sumN (fun b => if b < 6 then a.getD b 0 else 0) 6 := sumN_congr _ _ _ fun i hi => (if_pos hi).symm
  unfold sumA; rw [e]; omega
theorem sum_nonneg {a : List Int} (h : OkA a) : 0 ≤ sumN (fun b => a.getD b 0) 6 := sumN_nonneg _ fun i hi => (h.2 i hi).1
theorem stp_sum {a : List Int} (h : OkA a) (hp : 0 < a.getD (lastM a 6) 0) : sumA (stpL a) + 1 = sumA a := by
  have hl := lastM_lt6 a
  have h1 := sum_set a (lastM a 6) (a.getD (lastM a 6) 0 - 1) (by rw [h.1]; exact hl) 6
  rw [if_pos hl] at h1
  have h2 := sum_nonneg (stp_ok h hp)
  unfold stpL at h2
  unfold sumA stpL
  omega
/-- a bit less, n times at the most, as long as it costs more -/
def narL : Nat → List Int → Int → List Int
  | 0, a, _ => a
  | n + 1, a, B => if costL a ≤ B then a else narL n (stpL a) B
theorem nar_done {n : Nat} {a : List Int} {B : Int} (h : costL a ≤ B) : narL n a B = a := by
  cases n with
  | zero => rfl
  | succ n => rw [narL, if_pos h]
theorem nar_fuel {B : Int} (hB : 0 ≤ B) : ∀ (n m : Nat) (a : List Int), OkA a → sumA a ≤ n → sumA a ≤ m → narL n a B = narL m a B
  | n, m, a, h, hn, hm => by
    by_cases hc : costL a ≤ B
    · rw [nar_done hc, nar_done hc]
    · have hp := costL_pos (a := a) hB (by omega)
      have hs := stp_sum h hp
      match n, m with
      | n + 1, m + 1 =>
        rw [narL, narL, if_neg hc, if_neg hc]
        exact nar_fuel hB n m _ (stp_ok h hp) (by omega) (by omega)
      | 0, _ => omega
      | _ + 1, 0 => omega
theorem nar_step {B : Int} (hB : 0 ≤ B) {a : List Int} (h : OkA a) (hc : ¬ costL a ≤ B) : narL 42 a B = narL 42 (stpL a) B ∧ OkA (stpL a) := by
  have hp := costL_pos (a := a) hB (by omega)
  have hs := stp_sum h hp
  have h42 := sumA_le h
  refine ⟨?_, stp_ok h hp⟩
  rw [show (42 : Nat) = 41 + 1 from rfl, narL, if_neg hc]
  exact nar_fuel hB 41 (41 + 1) _ (stp_ok h hp) (by omega) (by omega)
theorem nar_ok {B : Int} (hB : 0 ≤ B) : ∀ (n : Nat) (a : List Int), OkA a → sumA a ≤ n → OkA (narL n a B) ∧ costL (narL n a B) ≤ B ∧ ∀ b, b < 6 → (narL n a B).getD b 0 ≤ a.getD b 0
  | n, a, h, hn => by
    by_cases hc : costL a ≤ B
    · rw [nar_done hc]; exact ⟨h, hc, fun b _ => Int.le_refl _⟩
    · have hp := costL_pos (a := a) hB (by omega)
      have hs := stp_sum h hp
      match n with
      | 0 => omega
      | n + 1 =>
        rw [narL, if_neg hc]
        obtain ⟨h1, h2, h3⟩ := nar_ok hB n _ (stp_ok h hp) (by omega)
        refine ⟨h1, h2, fun b hb => Int.le_trans (h3 b hb) ?_⟩
        have hl := lastM_lt6 a
        rw [stpL, getD_set' _ _ _ _ (by rw [h.1]; exact hl)]
        split
        · rename_i e; rw [e]; omega
        · exact Int.le_refl _
/-- narrowing to less goes by way of narrowing to more -/
theorem nar_via {B C : Int} (hB : 0 ≤ B) (hBC : B ≤ C) : ∀ (n : Nat) (a : List Int), OkA a → sumA a ≤ n → narL 42 a B = narL 42 (narL n a C) B
  | n, a, h, hn => by
    by_cases hc : costL a ≤ C
    · rw [nar_done hc]
    · have hp := costL_pos (a := a) (by omega : 0 ≤ C) (by omega)
      have hs := stp_sum h hp
      match n with
      | 0 => omega
      | n + 1 =>
        rw [show narL (n + 1) a C = narL n (stpL a) C by rw [narL, if_neg hc], (nar_step hB h (by omega)).1]
        exact nar_via hB hBC n _ (stp_ok h hp) (by omega)
def shareL (l : List Int) (B : Int) : List Int := narL 42 (wishL l (maskL l)) B
theorem wish_ok (l m : List Int) : OkA (wishL l m) := ⟨tab_length _ _, fun b hb => by rw [wishL, tab_getD _ hb]; exact wishI_bd _ _⟩
theorem share_ok (l : List Int) {B : Int} (hB : 0 ≤ B) : OkA (shareL l B) ∧ costL (shareL l B) ≤ B := by
  have h := nar_ok hB 42 _ (wish_ok l (maskL l)) (sumA_le (wish_ok _ _))
  exact ⟨h.1, h.2.1⟩
theorem share_mono (l : List Int) {B C : Int} (hB : 0 ≤ B) (hBC : B ≤ C) {b : Nat} (hb : b < 6) : (shareL l B).getD b 0 ≤ (shareL l C).getD b 0 := by
  have w := wish_ok l (maskL l)
  have h := nar_ok (show 0 ≤ C by omega) 42 _ w (sumA_le w)
  unfold shareL
  rw [nar_via hB hBC 42 _ w (sumA_le w)]
  exact (nar_ok hB 42 _ h.1 (sumA_le h.1)).2.2 b hb
theorem cost_le {a : List Int} (h : OkA a) : 0 ≤ costL a ∧ costL a ≤ 112 := by
  rw [costL_eq]
  have h0 := h.2 0 (by omega)
  have h1 := h.2 1 (by omega)
  have h2 := h.2 2 (by omega)
  have h3 := h.2 3 (by omega)
  have h4 := h.2 4 (by omega)
  have h5 := h.2 5 (by omega)
  omega
theorem share_all (l : List Int) : shareL l 112 = wishL l (maskL l) := nar_done (cost_le (wish_ok _ _)).2
theorem share_enough (l : List Int) {B : Int} (h : costL (wishL l (maskL l)) ≤ B) : shareL l B = wishL l (maskL l) := nar_done h
end Go.Proofs.YtcnckamocbaceaaDoor.Lp
/- Wc -/
namespace Go.Proofs.YtcnckamocbaceaaDoor.Lp
open Go.RowKit Go.Proofs.YtcnckamocbaceaaDoor.Fx Go.Proofs.YtcnckamocbaceaaDoor.Fq Go.Proofs.YtcnckamocbaceaaDoor.Tb
theorem ri {k : IntKind} {a b : Int} (h : a = b) : Ending.returned (.int k a) = .returned (.int k b) := by rw [h]
set_option maxRecDepth 100000 in
set_option maxHeartbeats 4000000 in
theorem held_any (l : List Int) (w : World) (ll : l.length = 6) :
    Calls Tryd.prog 55 #[.agg (icells l)] w (ValQ w (.agg (icells (heldL l)))) := by
  have LL := Lib.hid ll
  have HM := Lib.hid (Mem.start w)
  clear ll
  go_enter Tryd.func55, Tryd.ntmps55
  go_wp2_with (first | ((first | refine wl_box rfl _ _ rfl rfl HM ?_ | refine wl_alloc rfl _ rfl (by exact arrOf) HM ?_); first | (have q : dL HM = 0 := rfl; clear q HM; intro g1 u1 HM) | (have q : dL HM = 1 := rfl; clear q HM; intro g2 u2 HM) | (have q : dL HM = 2 := rfl; clear q HM; intro g3 u3 HM) | (have q : dL HM = 3 := rfl; clear q HM; intro g4 u4 HM) | (have q : dL HM = 4 := rfl; clear q HM; intro g5 u5 HM) | (have q : dL HM = 5 := rfl; clear q HM; intro g6 u6 HM) | (have q : dL HM = 6 := rfl; clear q HM; intro g7 u7 HM) | (have q : dL HM = 7 := rfl; clear q HM; intro g8 u8 HM) | (have q : dL HM = 8 := rfl; clear q HM; intro g9 u9 HM) | (have q : dL HM = 9 := rfl; clear q HM; intro g10 u10 HM) | (have q : dL HM = 10 := rfl; clear q HM; intro g11 u11 HM) | (have q : dL HM = 11 := rfl; clear q HM; intro g12 u12 HM) | (have q : dL HM = 12 := rfl; clear q HM; intro g13 u13 HM) | (have q : dL HM = 13 := rfl; clear q HM; intro g14 u14 HM)) | (refine wl_load rfl _ _ rfl rfl (by exact arrOf) HM (by exact memOf) (by exact lenOf) ?_) | (refine wl_storeM rfl _ _ _ rfl rfl rfl (by exact arrOf) HM (by exact idxOf) (by exact lenOf) (by exact lenOf) ?_; clear HM; intro us HM; dsimp only [List.set] at HM) | (refine wl_zero rfl _ rfl (by exact arrOf) (by kernel_rfl) ?_))
  go_loopw [6] (fun vi wr => ∃ k : Nat, k ≤ 6 ∧ vi = .int .i64 (k : Int) ∧ Hid (Mem w [(g2, 32, zr 6), (g1, 32, tab 6 (part2 k (fun b => max 0 (min (l.getD b 0) 255)) (fun b => l.getD b 0)))] wr)) (fun vi _ => 6 - (intOf vi).toNat)
  case atStart => exact ⟨0, by omega, rfl, Lib.hid (by rw [part2_none, tab_self LL.out]; exact HM.out)⟩
  case round =>
    clear HM
    obtain ⟨k, hk, rfl, HM⟩ := hrel
    by_cases hlt : k < 6
    · have k6 : (k : Int) < 6 := by omega
      have hix := run_index 32 (n := 6) (by kernel_rfl) l LL.out k hlt
      have S1 := Lib.hid (part2_set (n := 6) (k := k) (fun b => max 0 (min (l.getD b 0) 255)) (fun b => l.getD b 0))
      have c3 := HM.out.cell (.tail _ (.head _)) (k := k) (by rw [tab_length]; omega)
      have f3 := HM.out.free (.tail _ (.head _)) k
      generalize List.getD (tab 6 _) k 0 = o at c3
      generalize l.getD k 0 = v at hix S1
      go_wp2
      have HM3 := Lib.hid (HM.out.put 1 rfl k (max 0 (min v 255)))
      simp only [List.set_cons_zero, List.set_cons_succ] at HM3
      rw [S1.out] at HM3
      clear HM c3 f3
      go_roundw
      case rel => exact ⟨k + 1, by omega, by go_num, HM3⟩
      case measure => simp [intOf]; omega
    · obtain rfl : k = 6 := by omega
      rw [part2_all] at HM
      have LO := Lib.hid (show (heldL l).length = 6 from tab_length _ _)
      change Hid (Mem w [(g2, 32, zr 6), (g1, 32, heldL l)] wr) at HM
      go_wp2_with (first | ((first | refine wl_box rfl _ _ rfl rfl HM ?_ | refine wl_alloc rfl _ rfl (by exact arrOf) HM ?_); first | (have q : dL HM = 0 := rfl; clear q HM; intro g1 u1 HM) | (have q : dL HM = 1 := rfl; clear q HM; intro g2 u2 HM) | (have q : dL HM = 2 := rfl; clear q HM; intro g3 u3 HM) | (have q : dL HM = 3 := rfl; clear q HM; intro g4 u4 HM) | (have q : dL HM = 4 := rfl; clear q HM; intro g5 u5 HM) | (have q : dL HM = 5 := rfl; clear q HM; intro g6 u6 HM) | (have q : dL HM = 6 := rfl; clear q HM; intro g7 u7 HM) | (have q : dL HM = 7 := rfl; clear q HM; intro g8 u8 HM) | (have q : dL HM = 8 := rfl; clear q HM; intro g9 u9 HM) | (have q : dL HM = 9 := rfl; clear q HM; intro g10 u10 HM) | (have q : dL HM = 10 := rfl; clear q HM; intro g11 u11 HM) | (have q : dL HM = 11 := rfl; clear q HM; intro g12 u12 HM) | (have q : dL HM = 12 := rfl; clear q HM; intro g13 u13 HM) | (have q : dL HM = 13 := rfl; clear q HM; intro g14 u14 HM)) | (refine wl_load rfl _ _ rfl rfl (by exact arrOf) HM (by exact memOf) (by exact lenOf) ?_) | (refine wl_storeM rfl _ _ _ rfl rfl rfl (by exact arrOf) HM (by exact idxOf) (by exact lenOf) (by exact lenOf) ?_; clear HM; intro us HM; dsimp only [List.set] at HM) | (refine wl_zero rfl _ rfl (by exact arrOf) (by kernel_rfl) ?_))
      refine bodyPost_ret (v := .agg (icells (heldL l))) (res_one rfl _ rfl arrLev HM (by exact memOf) LO) rfl ⟨rfl, HM.out.1⟩
set_option maxRecDepth 100000 in
set_option maxHeartbeats 4000000 in
theorem bcheck_any (l : List Int) (c : Bool) (z : Int) (w : World) (ll : l.length = 6) (hc : chkL l = c) (hz : (if c = true then 0 else 1) = z) :
    Calls Tryd.prog 39 #[.agg (icells l)] w (ValQ w (.int .i64 z)) := by
  have LL := Lib.hid ll
  have HM := Lib.hid (Mem.start w)
  have HH := Lib.hid (fun u => held_any l u ll)
  have LH := Lib.hid (show (heldL l).length = 6 from tab_length _ _)
  have hgd := grdLev
  cases c with
  | true =>
    obtain rfl : z = 0 := by rw [← hz]; rfl
    have heq := fun u => run_equalIn_same 32 (n := 6) (by kernel_rfl) l ll u
    rw [(held_iff ll).2 hc] at HH LH
    clear ll hc hz
    go_enter Tryd.func39, Tryd.ntmps39
    go_wp2_with (first | ((first | refine wl_box rfl _ _ rfl rfl HM ?_ | refine wl_alloc rfl _ rfl (by exact arrOf) HM ?_); first | (have q : dL HM = 0 := rfl; clear q HM; intro g1 u1 HM) | (have q : dL HM = 1 := rfl; clear q HM; intro g2 u2 HM) | (have q : dL HM = 2 := rfl; clear q HM; intro g3 u3 HM) | (have q : dL HM = 3 := rfl; clear q HM; intro g4 u4 HM) | (have q : dL HM = 4 := rfl; clear q HM; intro g5 u5 HM) | (have q : dL HM = 5 := rfl; clear q HM; intro g6 u6 HM) | (have q : dL HM = 6 := rfl; clear q HM; intro g7 u7 HM) | (have q : dL HM = 7 := rfl; clear q HM; intro g8 u8 HM) | (have q : dL HM = 8 := rfl; clear q HM; intro g9 u9 HM) | (have q : dL HM = 9 := rfl; clear q HM; intro g10 u10 HM) | (have q : dL HM = 10 := rfl; clear q HM; intro g11 u11 HM) | (have q : dL HM = 11 := rfl; clear q HM; intro g12 u12 HM) | (have q : dL HM = 12 := rfl; clear q HM; intro g13 u13 HM) | (have q : dL HM = 13 := rfl; clear q HM; intro g14 u14 HM)) | (refine wl_load rfl _ _ rfl rfl (by exact arrOf) HM (by exact memOf) (by exact lenOf) ?_) | (refine wl_storeM rfl _ _ _ rfl rfl rfl (by exact arrOf) HM (by exact idxOf) (by exact lenOf) (by exact lenOf) ?_; clear HM; intro us HM; dsimp only [List.set] at HM) | (refine wl_zero rfl _ rfl (by exact arrOf) (by kernel_rfl) ?_))
    refine wp_region_held_drew (S := Mem w [(g1, 32, l)]) (by kernel_rfl) (HM.out.drew.sub (by exact subOf)) (fun hHeld => ?_)
    have HMd := Lib.hid HM.out.drew
    clear HM
    have HM := HMd
    clear HMd
    generalize World.drew _ = wd at HM hHeld ⊢
    (refine wa_take (i := 0) rfl (by kernel_rfl) (by kernel_rfl) (by kernel_rfl) (fun _ _ _ h => h) (yi_load rfl _ _ rfl rfl (by exact arrOf) (fun u hu => hu) (by exact memOf) (by exact lenOf)) hHeld rfl ?_; (try simp only [Act.put, List.setIfInBounds_toArray, List.set_cons_zero, List.set_cons_succ]))
    (refine wa_take (i := 2) rfl (by kernel_rfl) (by kernel_rfl) (by kernel_rfl) (fun _ _ _ h => h) (yi_load rfl _ _ rfl rfl (by exact arrOf) (fun u hu => hu) (by exact memOf) (by exact lenOf)) hHeld rfl ?_; (try simp only [Act.put, List.setIfInBounds_toArray, List.set_cons_zero, List.set_cons_succ]))
    refine wpAnyH_ready (rs := [1]) (by kernel_rfl) (by simp) ?_; refine AllReadyH.cons rfl (fun K hK => ?_) (AllReadyH.nil)
    rw [if_pos (by rfl)]; go_simp
    refine (HH.out _).mono ?_
    rintro e wb ⟨rfl, h1⟩
    have HM2 := Lib.hid (HM.out.below h1)
    clear h1 HM HH hHeld
    have HM := HM2
    clear HM2
    go_wp2_with fail; refine hK.out _ _ (HM.out.sub (by exact subOf)) (fun hHeld => ?_); clear hK K; (try simp only [Act.put, List.setIfInBounds_toArray, List.set_cons_zero, List.set_cons_succ])
    (refine wa_take (i := 3) (v := .bool false) rfl (by kernel_rfl) (by kernel_rfl) (by kernel_rfl) (fun _ _ _ h => h) (yi_free rfl (fun u => by go_simp)) hHeld rfl ?_; (try simp only [Act.put, List.setIfInBounds_toArray, List.set_cons_zero, List.set_cons_succ]))
    refine wpAnyH_done (by kernel_rfl) ?_ _
    go_wp2
    go_ret
    exact ⟨rfl, HM.out.1⟩
  | false =>
    obtain rfl : z = 1 := by rw [← hz]; rfl
    have heq := fun u => run_equalIn_diff 32 (n := 6) (by kernel_rfl) (heldL l) l LH.out ll (fun e => by rw [(held_iff ll).1 e] at hc; cases hc) u
    clear ll hc hz
    generalize heldL l = m at HH LH heq
    go_enter Tryd.func39, Tryd.ntmps39
    go_wp2_with (first | ((first | refine wl_box rfl _ _ rfl rfl HM ?_ | refine wl_alloc rfl _ rfl (by exact arrOf) HM ?_); first | (have q : dL HM = 0 := rfl; clear q HM; intro g1 u1 HM) | (have q : dL HM = 1 := rfl; clear q HM; intro g2 u2 HM) | (have q : dL HM = 2 := rfl; clear q HM; intro g3 u3 HM) | (have q : dL HM = 3 := rfl; clear q HM; intro g4 u4 HM) | (have q : dL HM = 4 := rfl; clear q HM; intro g5 u5 HM) | (have q : dL HM = 5 := rfl; clear q HM; intro g6 u6 HM) | (have q : dL HM = 6 := rfl; clear q HM; intro g7 u7 HM) | (have q : dL HM = 7 := rfl; clear q HM; intro g8 u8 HM) | (have q : dL HM = 8 := rfl; clear q HM; intro g9 u9 HM) | (have q : dL HM = 9 := rfl; clear q HM; intro g10 u10 HM) | (have q : dL HM = 10 := rfl; clear q HM; intro g11 u11 HM) | (have q : dL HM = 11 := rfl; clear q HM; intro g12 u12 HM) | (have q : dL HM = 12 := rfl; clear q HM; intro g13 u13 HM) | (have q : dL HM = 13 := rfl; clear q HM; intro g14 u14 HM)) | (refine wl_load rfl _ _ rfl rfl (by exact arrOf) HM (by exact memOf) (by exact lenOf) ?_) | (refine wl_storeM rfl _ _ _ rfl rfl rfl (by exact arrOf) HM (by exact idxOf) (by exact lenOf) (by exact lenOf) ?_; clear HM; intro us HM; dsimp only [List.set] at HM) | (refine wl_zero rfl _ rfl (by exact arrOf) (by kernel_rfl) ?_))
    refine wp_region_held_drew (S := Mem w [(g1, 32, l)]) (by kernel_rfl) (HM.out.drew.sub (by exact subOf)) (fun hHeld => ?_)
    have HMd := Lib.hid HM.out.drew
    clear HM
    have HM := HMd
    clear HMd
    generalize World.drew _ = wd at HM hHeld ⊢
    (refine wa_take (i := 0) rfl (by kernel_rfl) (by kernel_rfl) (by kernel_rfl) (fun _ _ _ h => h) (yi_load rfl _ _ rfl rfl (by exact arrOf) (fun u hu => hu) (by exact memOf) (by exact lenOf)) hHeld rfl ?_; (try simp only [Act.put, List.setIfInBounds_toArray, List.set_cons_zero, List.set_cons_succ]))
    (refine wa_take (i := 2) rfl (by kernel_rfl) (by kernel_rfl) (by kernel_rfl) (fun _ _ _ h => h) (yi_load rfl _ _ rfl rfl (by exact arrOf) (fun u hu => hu) (by exact memOf) (by exact lenOf)) hHeld rfl ?_; (try simp only [Act.put, List.setIfInBounds_toArray, List.set_cons_zero, List.set_cons_succ]))
    refine wpAnyH_ready (rs := [1]) (by kernel_rfl) (by simp) ?_; refine AllReadyH.cons rfl (fun K hK => ?_) (AllReadyH.nil)
    rw [if_pos (by rfl)]; go_simp
    refine (HH.out _).mono ?_
    rintro e wb ⟨rfl, h1⟩
    have HM2 := Lib.hid (HM.out.below h1)
    clear h1 HM HH hHeld
    have HM := HM2
    clear HM2
    go_wp2_with fail; refine hK.out _ _ (HM.out.sub (by exact subOf)) (fun hHeld => ?_); clear hK K; (try simp only [Act.put, List.setIfInBounds_toArray, List.set_cons_zero, List.set_cons_succ])
    (refine wa_take (i := 3) (v := .bool true) rfl (by kernel_rfl) (by kernel_rfl) (by kernel_rfl) (fun _ _ _ h => h) (yi_free rfl (fun u => by go_simp)) hHeld rfl ?_; (try simp only [Act.put, List.setIfInBounds_toArray, List.set_cons_zero, List.set_cons_succ]))
    refine wpAnyH_done (by kernel_rfl) ?_ _
    go_wp2
    go_ret
    exact ⟨rfl, HM.out.1⟩
set_option maxRecDepth 100000 in
set_option maxHeartbeats 4000000 in
theorem drowned_any (l : List Int) (b : Nat) (w : World) (ll : l.length = 6) (hc : chkL l = true) (hb : b < 6) :
    Calls Tryd.prog 59 #[.agg (icells l), .int .i64 (b : Int)] w (ValQ w (.int .i64 (mkN l b 6))) := by
  have LL := Lib.hid ll
  have HC := Lib.hid hc
  have HM := Lib.hid (Mem.start w)
  have b6 : (b : Int) < 6 := by omega
  clear ll hc
  go_enter Tryd.func59, Tryd.ntmps59
  go_wp2_with (first | ((first | refine wl_box rfl _ _ rfl rfl HM ?_ | refine wl_alloc rfl _ rfl (by exact arrOf) HM ?_); first | (have q : dL HM = 0 := rfl; clear q HM; intro g1 u1 HM) | (have q : dL HM = 1 := rfl; clear q HM; intro g2 u2 HM) | (have q : dL HM = 2 := rfl; clear q HM; intro g3 u3 HM) | (have q : dL HM = 3 := rfl; clear q HM; intro g4 u4 HM) | (have q : dL HM = 4 := rfl; clear q HM; intro g5 u5 HM) | (have q : dL HM = 5 := rfl; clear q HM; intro g6 u6 HM) | (have q : dL HM = 6 := rfl; clear q HM; intro g7 u7 HM) | (have q : dL HM = 7 := rfl; clear q HM; intro g8 u8 HM) | (have q : dL HM = 8 := rfl; clear q HM; intro g9 u9 HM) | (have q : dL HM = 9 := rfl; clear q HM; intro g10 u10 HM) | (have q : dL HM = 10 := rfl; clear q HM; intro g11 u11 HM) | (have q : dL HM = 11 := rfl; clear q HM; intro g12 u12 HM) | (have q : dL HM = 12 := rfl; clear q HM; intro g13 u13 HM) | (have q : dL HM = 13 := rfl; clear q HM; intro g14 u14 HM)) | (refine wl_load rfl _ _ rfl rfl (by exact arrOf) HM (by exact memOf) (by exact lenOf) ?_) | (refine wl_storeM rfl _ _ _ rfl rfl rfl (by exact arrOf) HM (by exact idxOf) (by exact lenOf) (by exact lenOf) ?_; clear HM; intro us HM; dsimp only [List.set] at HM) | (refine wl_zero rfl _ rfl (by exact arrOf) (by kernel_rfl) ?_))
  go_loop [5, 10] (fun vm vi => ∃ k : Nat, k ≤ 6 ∧ vi = .int .i64 (k : Int) ∧ vm = .int .i64 (mkN l b k)) (fun _ vi => 6 - (intOf vi).toNat)
  case atStart => exact ⟨0, by omega, rfl, rfl⟩
  case round =>
    obtain ⟨k, hk, rfl, rfl⟩ := hrel
    by_cases hlt : k < 6
    · have k6 : (k : Int) < 6 := by omega
      have hix := run_index 32 (n := 6) (by kernel_rfl) l LL.out k hlt
      have hv := inR_bd HC.out (by omega) (by omega) k
      have hm := mkN_bd HC.out b k
      by_cases hkb : k = b
      · subst hkb
        have HS := Lib.hid (mkN_self l k)
        have hd : ((k : Int) == (k : Int)) = true := by simp
        generalize mkN l k k = M at hm HS
        generalize l.getD k 0 = v at hix hv
        clear hv hm
        go_wp2
        go_round
        case rel => exact ⟨k + 1, by omega, by go_num, by rw [HS.out]⟩
        case measure => simp [intOf]; omega
      · obtain ⟨D, hD⟩ : ∃ D : Int, max ((k : Int) - (b : Int)) ((b : Int) - (k : Int)) = D := ⟨_, rfl⟩
        have HS := Lib.hid (show mkN l b (k + 1) = max (mkN l b k) (l.getD k 0 - 12 * D - 8) by rw [← hD]; exact mkN_other l hkb)
        have d1 : 0 ≤ D := by omega
        have d2 : D ≤ 5 := by omega
        have hd : ((k : Int) == (b : Int)) = false := by simpa using fun h => hkb (by omega)
        generalize mkN l b k = M at hm HS
        generalize l.getD k 0 = v at hix hv HS
        obtain ⟨hv1, hv2⟩ := hv
        obtain ⟨hm1, hm2⟩ := hm
        clear hkb
        go_wp2
        go_round
        case rel => exact ⟨k + 1, by omega, by go_num, by rw [HS.out]⟩
        case measure => simp [intOf]; omega
    · obtain rfl : k = 6 := by omega
      go_wp2
      go_ret
      exact ⟨rfl, HM.out.1⟩
/-- what Mask answers -/
def maskV (l : List Int) : Value := if chkL l = true then .tuple #[.agg (icells (maskL l)), .int .i64 0] else .tuple #[.agg (icells (zr 6)), .int .i64 1]
set_option maxRecDepth 100000 in
set_option maxHeartbeats 4000000 in
theorem mask_bad (l : List Int) (w : World) (ll : l.length = 6) (hc : chkL l = false) :
    Calls Tryd.prog 50 #[.agg (icells l)] w (ValQ w (.tuple #[.agg (icells (zr 6)), .int .i64 1])) := by
  have LL := Lib.hid ll
  have LZ := Lib.hid (zr_length 6)
  have HM := Lib.hid (Mem.start w)
  have HC := Lib.hid (fun u => bcheck_any l false 1 u ll hc rfl)
  clear ll hc
  go_enter Tryd.func50, Tryd.ntmps50
  go_wp2_with (first | ((first | refine wl_box rfl _ _ rfl rfl HM ?_ | refine wl_alloc rfl _ rfl (by exact arrOf) HM ?_); first | (have q : dL HM = 0 := rfl; clear q HM; intro g1 u1 HM) | (have q : dL HM = 1 := rfl; clear q HM; intro g2 u2 HM) | (have q : dL HM = 2 := rfl; clear q HM; intro g3 u3 HM) | (have q : dL HM = 3 := rfl; clear q HM; intro g4 u4 HM) | (have q : dL HM = 4 := rfl; clear q HM; intro g5 u5 HM) | (have q : dL HM = 5 := rfl; clear q HM; intro g6 u6 HM) | (have q : dL HM = 6 := rfl; clear q HM; intro g7 u7 HM) | (have q : dL HM = 7 := rfl; clear q HM; intro g8 u8 HM) | (have q : dL HM = 8 := rfl; clear q HM; intro g9 u9 HM) | (have q : dL HM = 9 := rfl; clear q HM; intro g10 u10 HM) | (have q : dL HM = 10 := rfl; clear q HM; intro g11 u11 HM) | (have q : dL HM = 11 := rfl; clear q HM; intro g12 u12 HM) | (have q : dL HM = 12 := rfl; clear q HM; intro g13 u13 HM) | (have q : dL HM = 13 := rfl; clear q HM; intro g14 u14 HM)) | (refine wl_load rfl _ _ rfl rfl (by exact arrOf) HM (by exact memOf) (by exact lenOf) ?_) | (refine wl_storeM rfl _ _ _ rfl rfl rfl (by exact arrOf) HM (by exact idxOf) (by exact lenOf) (by exact lenOf) ?_; clear HM; intro us HM; dsimp only [List.set] at HM) | (refine wl_zero rfl _ rfl (by exact arrOf) (by kernel_rfl) ?_))
  refine (HC.out _).mono ?_
  rintro e w2 ⟨rfl, h1⟩
  have HM2 := Lib.hid (HM.out.below h1)
  clear h1 HM HC
  have HM := HM2
  clear HM2
  go_wp2_with (first | ((first | refine wl_box rfl _ _ rfl rfl HM ?_ | refine wl_alloc rfl _ rfl (by exact arrOf) HM ?_); first | (have q : dL HM = 0 := rfl; clear q HM; intro g1 u1 HM) | (have q : dL HM = 1 := rfl; clear q HM; intro g2 u2 HM) | (have q : dL HM = 2 := rfl; clear q HM; intro g3 u3 HM) | (have q : dL HM = 3 := rfl; clear q HM; intro g4 u4 HM) | (have q : dL HM = 4 := rfl; clear q HM; intro g5 u5 HM) | (have q : dL HM = 5 := rfl; clear q HM; intro g6 u6 HM) | (have q : dL HM = 6 := rfl; clear q HM; intro g7 u7 HM) | (have q : dL HM = 7 := rfl; clear q HM; intro g8 u8 HM) | (have q : dL HM = 8 := rfl; clear q HM; intro g9 u9 HM) | (have q : dL HM = 9 := rfl; clear q HM; intro g10 u10 HM) | (have q : dL HM = 10 := rfl; clear q HM; intro g11 u11 HM) | (have q : dL HM = 11 := rfl; clear q HM; intro g12 u12 HM) | (have q : dL HM = 12 := rfl; clear q HM; intro g13 u13 HM) | (have q : dL HM = 13 := rfl; clear q HM; intro g14 u14 HM)) | (refine wl_load rfl _ _ rfl rfl (by exact arrOf) HM (by exact memOf) (by exact lenOf) ?_) | (refine wl_storeM rfl _ _ _ rfl rfl rfl (by exact arrOf) HM (by exact idxOf) (by exact lenOf) (by exact lenOf) ?_; clear HM; intro us HM; dsimp only [List.set] at HM) | (refine wl_zero rfl _ rfl (by exact arrOf) (by kernel_rfl) ?_))
  refine bodyPost_ret (v := .tuple #[.agg (icells (zr 6)), .int .i64 1]) (res_two rfl _ rfl rfl arrLev HM (by exact memOf) LZ) rfl ⟨rfl, HM.out.1⟩
set_option maxRecDepth 100000 in
set_option maxHeartbeats 4000000 in
theorem mask_good (l : List Int) (w : World) (ll : l.length = 6) (hc : chkL l = true) :
    Calls Tryd.prog 50 #[.agg (icells l)] w (ValQ w (.tuple #[.agg (icells (maskL l)), .int .i64 0])) := by
  have LL := Lib.hid ll
  have LZ := Lib.hid (zr_length 6)
  have HM := Lib.hid (Mem.start w)
  have HC := Lib.hid (fun u => bcheck_any l true 0 u ll hc rfl)
  have HD := Lib.hid (fun b u hb => drowned_any l b u ll hc hb)
  clear ll hc
  go_enter Tryd.func50, Tryd.ntmps50
  go_wp2_with (first | ((first | refine wl_box rfl _ _ rfl rfl HM ?_ | refine wl_alloc rfl _ rfl (by exact arrOf) HM ?_); first | (have q : dL HM = 0 := rfl; clear q HM; intro g1 u1 HM) | (have q : dL HM = 1 := rfl; clear q HM; intro g2 u2 HM) | (have q : dL HM = 2 := rfl; clear q HM; intro g3 u3 HM) | (have q : dL HM = 3 := rfl; clear q HM; intro g4 u4 HM) | (have q : dL HM = 4 := rfl; clear q HM; intro g5 u5 HM) | (have q : dL HM = 5 := rfl; clear q HM; intro g6 u6 HM) | (have q : dL HM = 6 := rfl; clear q HM; intro g7 u7 HM) | (have q : dL HM = 7 := rfl; clear q HM; intro g8 u8 HM) | (have q : dL HM = 8 := rfl; clear q HM; intro g9 u9 HM) | (have q : dL HM = 9 := rfl; clear q HM; intro g10 u10 HM) | (have q : dL HM = 10 := rfl; clear q HM; intro g11 u11 HM) | (have q : dL HM = 11 := rfl; clear q HM; intro g12 u12 HM) | (have q : dL HM = 12 := rfl; clear q HM; intro g13 u13 HM) | (have q : dL HM = 13 := rfl; clear q HM; intro g14 u14 HM)) | (refine wl_load rfl _ _ rfl rfl (by exact arrOf) HM (by exact memOf) (by exact lenOf) ?_) | (refine wl_storeM rfl _ _ _ rfl rfl rfl (by exact arrOf) HM (by exact idxOf) (by exact lenOf) (by exact lenOf) ?_; clear HM; intro us HM; dsimp only [List.set] at HM) | (refine wl_zero rfl _ rfl (by exact arrOf) (by kernel_rfl) ?_))
  refine (HC.out _).mono ?_
  rintro e w2 ⟨rfl, h1⟩
  have HM2 := Lib.hid (HM.out.below h1)
  clear h1 HM HC
  have HM := HM2
  clear HM2
  go_wp2_with (first | ((first | refine wl_box rfl _ _ rfl rfl HM ?_ | refine wl_alloc rfl _ rfl (by exact arrOf) HM ?_); first | (have q : dL HM = 0 := rfl; clear q HM; intro g1 u1 HM) | (have q : dL HM = 1 := rfl; clear q HM; intro g2 u2 HM) | (have q : dL HM = 2 := rfl; clear q HM; intro g3 u3 HM) | (have q : dL HM = 3 := rfl; clear q HM; intro g4 u4 HM) | (have q : dL HM = 4 := rfl; clear q HM; intro g5 u5 HM) | (have q : dL HM = 5 := rfl; clear q HM; intro g6 u6 HM) | (have q : dL HM = 6 := rfl; clear q HM; intro g7 u7 HM) | (have q : dL HM = 7 := rfl; clear q HM; intro g8 u8 HM) | (have q : dL HM = 8 := rfl; clear q HM; intro g9 u9 HM) | (have q : dL HM = 9 := rfl; clear q HM; intro g10 u10 HM) | (have q : dL HM = 10 := rfl; clear q HM; intro g11 u11 HM) | (have q : dL HM = 11 := rfl; clear q HM; intro g12 u12 HM) | (have q : dL HM = 12 := rfl; clear q HM; intro g13 u13 HM) | (have q : dL HM = 13 := rfl; clear q HM; intro g14 u14 HM)) | (refine wl_load rfl _ _ rfl rfl (by exact arrOf) HM (by exact memOf) (by exact lenOf) ?_) | (refine wl_storeM rfl _ _ _ rfl rfl rfl (by exact arrOf) HM (by exact idxOf) (by exact lenOf) (by exact lenOf) ?_; clear HM; intro us HM; dsimp only [List.set] at HM) | (refine wl_zero rfl _ rfl (by exact arrOf) (by kernel_rfl) ?_))
  go_loopw [10] (fun vi wr => ∃ k : Nat, k ≤ 6 ∧ vi = .int .i64 (k : Int) ∧ Hid (Mem w [(g3, 32, tab 6 (part2 k (fun b => mkN l b 6) (fun _ => 0))), (g2, 32, zr 6), (g1, 32, l)] wr)) (fun vi _ => 6 - (intOf vi).toNat)
  case atStart => exact ⟨0, by omega, rfl, Lib.hid (by rw [part2_none, tab_zero]; exact HM.out)⟩
  case round =>
    clear HM
    obtain ⟨k, hk, rfl, HM⟩ := hrel
    by_cases hlt : k < 6
    · have k6 : (k : Int) < 6 := by omega
      go_wp2_with (first | ((first | refine wl_box rfl _ _ rfl rfl HM ?_ | refine wl_alloc rfl _ rfl (by exact arrOf) HM ?_); first | (have q : dL HM = 0 := rfl; clear q HM; intro g1 u1 HM) | (have q : dL HM = 1 := rfl; clear q HM; intro g2 u2 HM) | (have q : dL HM = 2 := rfl; clear q HM; intro g3 u3 HM) | (have q : dL HM = 3 := rfl; clear q HM; intro g4 u4 HM) | (have q : dL HM = 4 := rfl; clear q HM; intro g5 u5 HM) | (have q : dL HM = 5 := rfl; clear q HM; intro g6 u6 HM) | (have q : dL HM = 6 := rfl; clear q HM; intro g7 u7 HM) | (have q : dL HM = 7 := rfl; clear q HM; intro g8 u8 HM) | (have q : dL HM = 8 := rfl; clear q HM; intro g9 u9 HM) | (have q : dL HM = 9 := rfl; clear q HM; intro g10 u10 HM) | (have q : dL HM = 10 := rfl; clear q HM; intro g11 u11 HM) | (have q : dL HM = 11 := rfl; clear q HM; intro g12 u12 HM) | (have q : dL HM = 12 := rfl; clear q HM; intro g13 u13 HM) | (have q : dL HM = 13 := rfl; clear q HM; intro g14 u14 HM)) | (refine wl_load rfl _ _ rfl rfl (by exact arrOf) HM (by exact memOf) (by exact lenOf) ?_) | (refine wl_storeM rfl _ _ _ rfl rfl rfl (by exact arrOf) HM (by exact idxOf) (by exact lenOf) (by exact lenOf) ?_; clear HM; intro us HM; dsimp only [List.set] at HM) | (refine wl_zero rfl _ rfl (by exact arrOf) (by kernel_rfl) ?_))
      refine (HD.out k _ hlt).mono ?_
      rintro e wb ⟨rfl, h1⟩
      have HM2 := Lib.hid (HM.out.below h1)
      clear h1 HM
      have HM := HM2
      clear HM2
      have S1 := Lib.hid (part2_set (n := 6) (k := k) (fun b => mkN l b 6) (fun _ => 0))
      have c3 := HM.out.cell (.head _) (k := k) (by rw [tab_length]; omega)
      have f3 := HM.out.free (.head _) k
      generalize List.getD (tab 6 _) k 0 = o at c3
      generalize mkN l k 6 = q at S1
      go_wp2
      have HM3 := Lib.hid (HM.out.put 0 rfl k q)
      simp only [List.set_cons_zero] at HM3
      rw [S1.out] at HM3
      clear HM c3 f3
      go_roundw
      case rel => exact ⟨k + 1, by omega, by go_num, HM3⟩
      case measure => simp [intOf]; omega
    · obtain rfl : k = 6 := by omega
      rw [part2_all] at HM
      have LO := Lib.hid (maskL_length l)
      change Hid (Mem w [(g3, 32, maskL l), (g2, 32, zr 6), (g1, 32, l)] wr) at HM
      go_wp2_with (first | ((first | refine wl_box rfl _ _ rfl rfl HM ?_ | refine wl_alloc rfl _ rfl (by exact arrOf) HM ?_); first | (have q : dL HM = 0 := rfl; clear q HM; intro g1 u1 HM) | (have q : dL HM = 1 := rfl; clear q HM; intro g2 u2 HM) | (have q : dL HM = 2 := rfl; clear q HM; intro g3 u3 HM) | (have q : dL HM = 3 := rfl; clear q HM; intro g4 u4 HM) | (have q : dL HM = 4 := rfl; clear q HM; intro g5 u5 HM) | (have q : dL HM = 5 := rfl; clear q HM; intro g6 u6 HM) | (have q : dL HM = 6 := rfl; clear q HM; intro g7 u7 HM) | (have q : dL HM = 7 := rfl; clear q HM; intro g8 u8 HM) | (have q : dL HM = 8 := rfl; clear q HM; intro g9 u9 HM) | (have q : dL HM = 9 := rfl; clear q HM; intro g10 u10 HM) | (have q : dL HM = 10 := rfl; clear q HM; intro g11 u11 HM) | (have q : dL HM = 11 := rfl; clear q HM; intro g12 u12 HM) | (have q : dL HM = 12 := rfl; clear q HM; intro g13 u13 HM) | (have q : dL HM = 13 := rfl; clear q HM; intro g14 u14 HM)) | (refine wl_load rfl _ _ rfl rfl (by exact arrOf) HM (by exact memOf) (by exact lenOf) ?_) | (refine wl_storeM rfl _ _ _ rfl rfl rfl (by exact arrOf) HM (by exact idxOf) (by exact lenOf) (by exact lenOf) ?_; clear HM; intro us HM; dsimp only [List.set] at HM) | (refine wl_zero rfl _ rfl (by exact arrOf) (by kernel_rfl) ?_))
      refine bodyPost_ret (v := .tuple #[.agg (icells (maskL l)), .int .i64 0]) (res_two rfl _ rfl rfl arrLev HM (by exact memOf) LO) rfl ⟨rfl, HM.out.1⟩
theorem mask_any (l : List Int) (w : World) (ll : l.length = 6) : Calls Tryd.prog 50 #[.agg (icells l)] w (ValQ w (maskV l)) := by
  unfold maskV
  cases h : chkL l with
  | true => rw [if_pos rfl]; exact mask_good l w ll h
  | false => rw [if_neg Bool.false_ne_true]; exact mask_bad l w ll h
end Go.Proofs.YtcnckamocbaceaaDoor.Lp
/- Wn -/
namespace Go.Proofs.YtcnckamocbaceaaDoor.Lp
open Go.RowKit Go.Proofs.YtcnckamocbaceaaDoor.Fx Go.Proofs.YtcnckamocbaceaaDoor.Fq Go.Proofs.YtcnckamocbaceaaDoor.Tb
theorem wished_any (v m : Int) (w : World) (h1 : 0 ≤ v) (h2 : v ≤ 255) (h3 : 0 ≤ m) (h4 : m ≤ 255) :
    Calls Tryd.prog 51 #[.int .i64 v, .int .i64 m] w fun e w' => e = .returned (.int .i64 (wishI v m)) ∧ w = w' := by
  by_cases h : v ≤ m
  · have HV := Lib.hid (show wishI v m = 0 from if_pos h)
    go_enter Tryd.func51, Tryd.ntmps51
    go_wp2
    go_ret
    exact ⟨ri HV.out.symm, rfl⟩
  · have HV := Lib.hid (show wishI v m = min ((v - m + 8 - 1) / 8) 7 by
      unfold wishI; rw [if_neg h]; omega)
    have h5 : m < v := by omega
    clear h
    go_enter Tryd.func51, Tryd.ntmps51
    go_wp2
    go_ret
    exact ⟨ri HV.out.symm, rfl⟩
theorem costN_bd {a : List Int} (h : OkA a) : ∀ k, k ≤ 6 → 0 ≤ costN a k ∧ costN a k ≤ 112 * (k : Int)
  | 0, _ => by simp [costN, sumN]
  | k + 1, hk => by
    have ih := costN_bd h k (by omega)
    have hv := h.2 k (by omega)
    have he := edg_all k (by omega)
    have hm := mul_bd (x := a.getD k 0) (y := (edg (k + 1) : Int) - (edg k : Int)) (A := 7) (B := 16) (by omega) (by omega) (by omega) (by omega)
    have hp := Int.mul_nonneg hv.1 (show 0 ≤ (edg (k + 1) : Int) - (edg k : Int) by omega)
    unfold costN at ih ⊢
    rw [sumN_succ]
    omega
set_option maxRecDepth 100000 in
set_option maxHeartbeats 4000000 in
theorem cost_any (a : List Int) (w : World) (ha : OkA a) (he : Edg w) :
    Calls Tryd.prog 26 #[.agg (icells a)] w (ValQ w (.int .i64 (costL a))) := by
  have HA := Lib.hid ha
  have LA := Lib.hid ha.1
  have HE := Lib.hid he
  have HM := Lib.hid (Mem.start w)
  clear ha he
  go_enter Tryd.func26, Tryd.ntmps26
  go_wp2_with (first | ((first | refine wl_box rfl _ _ rfl rfl HM ?_ | refine wl_alloc rfl _ rfl (by exact arrOf) HM ?_); first | (have q : dL HM = 0 := rfl; clear q HM; intro g1 u1 HM) | (have q : dL HM = 1 := rfl; clear q HM; intro g2 u2 HM) | (have q : dL HM = 2 := rfl; clear q HM; intro g3 u3 HM) | (have q : dL HM = 3 := rfl; clear q HM; intro g4 u4 HM) | (have q : dL HM = 4 := rfl; clear q HM; intro g5 u5 HM) | (have q : dL HM = 5 := rfl; clear q HM; intro g6 u6 HM) | (have q : dL HM = 6 := rfl; clear q HM; intro g7 u7 HM) | (have q : dL HM = 7 := rfl; clear q HM; intro g8 u8 HM) | (have q : dL HM = 8 := rfl; clear q HM; intro g9 u9 HM) | (have q : dL HM = 9 := rfl; clear q HM; intro g10 u10 HM) | (have q : dL HM = 10 := rfl; clear q HM; intro g11 u11 HM) | (have q : dL HM = 11 := rfl; clear q HM; intro g12 u12 HM) | (have q : dL HM = 12 := rfl; clear q HM; intro g13 u13 HM) | (have q : dL HM = 13 := rfl; clear q HM; intro g14 u14 HM)) | (refine wl_load rfl _ _ rfl rfl (by exact arrOf) HM (by exact memOf) (by exact lenOf) ?_) | (refine wl_storeM rfl _ _ _ rfl rfl rfl (by exact arrOf) HM (by exact idxOf) (by exact lenOf) (by exact lenOf) ?_; clear HM; intro us HM; dsimp only [List.set] at HM) | (refine wl_zero rfl _ rfl (by exact arrOf) (by kernel_rfl) ?_))
  go_loopw [3, 7] (fun vs vi wr => ∃ k : Nat, k ≤ 6 ∧ vi = .int .i64 (k : Int) ∧ vs = .int .i64 (costN a k) ∧ Hid (Mem w [(g1, 34, a)] wr)) (fun _ vi _ => 6 - (intOf vi).toNat)
  case atStart => exact ⟨0, by omega, rfl, rfl, HM⟩
  case round =>
    clear HM
    obtain ⟨k, hk, rfl, rfl, HM⟩ := hrel
    by_cases hlt : k < 6
    · have k6 : (k : Int) < 6 := by omega
      have hix := run_index 34 (n := 6) (by kernel_rfl) a LA.out k hlt
      obtain ⟨c1, c2⟩ := (HE.out.mem HM.out).cells hlt
      have hb := costN_bd HA.out k hk
      have hb2 := costN_bd HA.out (k + 1) (by omega)
      have hv := HA.out.2 k hlt
      have hed := edg_all k hlt
      have HS := Lib.hid (show costN a (k + 1) = costN a k + a.getD k 0 * ((edg (k + 1) : Int) - (edg k : Int)) from sumN_succ _ _)
      rw [HS.out] at hb2
      have hm := mul_bd (x := a.getD k 0) (y := (edg (k + 1) : Int) - (edg k : Int)) (A := 7) (B := 16) (by omega) (by omega) (by omega) (by omega)
      generalize costN a k = S at hb hb2 HS
      generalize a.getD k 0 = v at hix hv HS hb2 hm
      generalize edg k = lo at c1 hed HS hb2 hm
      generalize edg (k + 1) = hi at c2 hed HS hb2 hm
      obtain ⟨d, hd⟩ : ∃ d : Int, (hi : Int) - (lo : Int) = d := ⟨_, rfl⟩
      rw [hd] at HS hb2 hm
      have e1 : IntKind.i64.wrap ((k : Int) + 1) = (k : Int) + 1 := IntWalk.i64_in _ (by omega)
      have e2 : IntKind.i64.wrap ((hi : Int) - (lo : Int)) = d := by rw [hd]; exact IntWalk.i64_in _ (by omega)
      have e3 : IntKind.i64.wrap (v * d) = v * d := IntWalk.i64_in _ (by omega)
      have e4 : IntKind.i64.wrap (S + v * d) = S + v * d := IntWalk.i64_in _ (by omega)
      have e5 : ((k : Int) + 1).toNat = k + 1 := by omega
      have e6 : 0 ≤ (k : Int) + 1 := by omega
      have e7 : (k : Int) + 1 < 7 := by omega
      clear hd hb hb2 hv hm hed
      go_wp2_with fail
      go_quiet (fail)
      have HM2 := Lib.hid (HM.out.drewN nq)
      clear HM c1 c2 e1 e2 e3 e4 e5 e6 e7
      go_wp2
      go_roundw
      case rel => exact ⟨k + 1, by omega, by go_num, by rw [HS.out], HM2⟩
      case measure => simp [intOf]; omega
    · obtain rfl : k = 6 := by omega
      go_wp2
      go_ret
      exact ⟨rfl, HM.out.1⟩
/-- the band that has a number -/
def bnd (n : Nat) : Nat := if n < 1 then 0 else if n < 2 then 1 else if n < 4 then 2 else if n < 6 then 3 else if n < 10 then 4 else 5
theorem bnd_all : ∀ n, n < 16 → bnd n < 6 ∧ edg (bnd n) ≤ n ∧ n < edg (bnd n + 1) ∧ ∀ k, k < 6 → (k < bnd n → edg k ≤ n ∧ edg (k + 1) ≤ n) := by decide
theorem bnd_iff : ∀ n, n < 16 → ∀ b, b < 6 → (bnd n = b ↔ edg b ≤ n ∧ n < edg (b + 1)) := by decide
set_option maxRecDepth 100000 in
set_option maxHeartbeats 4000000 in
theorem of_good (n : Nat) (w : World) (hn : n < 16) (he : Edg w) :
    Calls Tryd.prog 27 #[.int .i64 (n : Int)] w fun e w' => e = .returned (.tuple #[.int .i64 (bnd n : Int), .int .i64 0]) ∧ w = w' := by
  have HE := Lib.hid he
  obtain ⟨b1, b2, b3, b4⟩ := bnd_all n hn
  have B4 := Lib.hid b4
  obtain ⟨m, hm⟩ : ∃ m, bnd n = m := ⟨_, rfl⟩
  rw [hm] at b1 b2 b3 B4
  rw [hm]
  clear he b4 hm
  go_enter Tryd.func27, Tryd.ntmps27
  go_wp2_with fail
  go_loop [5] (fun vi => ∃ k : Nat, k ≤ m ∧ vi = .int .i64 (k : Int)) (fun vi => 6 - (intOf vi).toNat)
  case atStart => exact ⟨0, by omega, rfl⟩
  case round =>
    obtain ⟨k, hk, rfl⟩ := hrel
    have k6 : (k : Int) < 6 := by omega
    have k7 : (k : Int) + 1 < 7 := by omega
    obtain ⟨c1, c2⟩ := HE.out.cells (show k < 6 by omega)
    by_cases hlt : k < m
    · obtain ⟨l1, l2⟩ := B4.out k (by omega) hlt
      generalize edg k = lo at c1 l1
      generalize edg (k + 1) = hi at c2 l2
      have g1 : (lo : Int) ≤ (n : Int) := by omega
      have g2 : (hi : Int) ≤ (n : Int) := by omega
      go_wp2
      go_round
      case rel => exact ⟨k + 1, by omega, by go_num⟩
      case measure => simp [intOf]; omega
    · obtain rfl : k = m := by omega
      generalize edg k = lo at c1 b2
      generalize edg (k + 1) = hi at c2 b3
      have g1 : (lo : Int) ≤ (n : Int) := by omega
      have g2 : (n : Int) < (hi : Int) := by omega
      go_wp2
      go_ret2
      exact ⟨rfl, rfl⟩
end Go.Proofs.YtcnckamocbaceaaDoor.Lp
/- Wd -/
namespace Go.Proofs.YtcnckamocbaceaaDoor.Lp
open Go.RowKit Go.Proofs.YtcnckamocbaceaaDoor.Fx Go.Proofs.YtcnckamocbaceaaDoor.Fq Go.Proofs.YtcnckamocbaceaaDoor.Tb
theorem edg_int : ∀ b, b < 7 → ([0, 1, 2, 4, 6, 10, 16] : List Int).getD b 0 = (edg b : Int) := by decide
theorem rfirst_any (b : Nat) (z : Int) (w : World) (hb : b < 7) (hz : z = (b : Int)) :
    Calls Tryd.prog 56 #[.int .i64 z] w fun e w' => e = .returned (.int .i64 (edg b : Int)) ∧ w = w' := by
  have hix : ∀ u, (Instr.index 68 (.agg #[.int .i64 0, .int .i64 1, .int .i64 2, .int .i64 4, .int .i64 6, .int .i64 10, .int .i64 16]) (.int .i64 z)).run Tryd.prog u = .ok (.int .i64 (edg b : Int)) u := fun u => by
    rw [← edg_int b hb, hz]
    exact run_index 68 (n := 7) (by kernel_rfl) [0, 1, 2, 4, 6, 10, 16] rfl b hb u
  clear hz
  go_enter Tryd.func56, Tryd.ntmps56
  go_wp2
  go_ret
  exact ⟨rfl, rfl⟩
set_option maxRecDepth 100000 in
set_option maxHeartbeats 4000000 in
theorem rbcheck_any (l : List Int) (c : Bool) (z : Int) (w : World) (ll : l.length = 6) (hc : chkL l = c) (hz : (if c = true then 0 else 1) = z) :
    Calls Tryd.prog 28 #[.agg (icells l)] w (ValQ w (.int .i64 z)) := by
  have LL := Lib.hid ll
  have HI := Lib.hid (inR_iff (lo := 0) (hi := 255) ll)
  rw [show inR 0 255 l = c from hc] at HI
  have HZ := Lib.hid hz
  have HM := Lib.hid (Mem.start w)
  clear ll hc hz
  go_enter Tryd.func28, Tryd.ntmps28
  go_wp2_with (first | ((first | refine wl_box rfl _ _ rfl rfl HM ?_ | refine wl_alloc rfl _ rfl (by exact arrOf) HM ?_); first | (have q : dL HM = 0 := rfl; clear q HM; intro g1 u1 HM) | (have q : dL HM = 1 := rfl; clear q HM; intro g2 u2 HM) | (have q : dL HM = 2 := rfl; clear q HM; intro g3 u3 HM) | (have q : dL HM = 3 := rfl; clear q HM; intro g4 u4 HM) | (have q : dL HM = 4 := rfl; clear q HM; intro g5 u5 HM) | (have q : dL HM = 5 := rfl; clear q HM; intro g6 u6 HM) | (have q : dL HM = 6 := rfl; clear q HM; intro g7 u7 HM) | (have q : dL HM = 7 := rfl; clear q HM; intro g8 u8 HM) | (have q : dL HM = 8 := rfl; clear q HM; intro g9 u9 HM) | (have q : dL HM = 9 := rfl; clear q HM; intro g10 u10 HM) | (have q : dL HM = 10 := rfl; clear q HM; intro g11 u11 HM) | (have q : dL HM = 11 := rfl; clear q HM; intro g12 u12 HM) | (have q : dL HM = 12 := rfl; clear q HM; intro g13 u13 HM) | (have q : dL HM = 13 := rfl; clear q HM; intro g14 u14 HM)) | (refine wl_load rfl _ _ rfl rfl (by exact arrOf) HM (by exact memOf) (by exact lenOf) ?_) | (refine wl_storeM rfl _ _ _ rfl rfl rfl (by exact arrOf) HM (by exact idxOf) (by exact lenOf) (by exact lenOf) ?_; clear HM; intro us HM; dsimp only [List.set] at HM) | (refine wl_zero rfl _ rfl (by exact arrOf) (by kernel_rfl) ?_))
  go_loop [6] (fun vi => ∃ k : Nat, vi = .int .i64 (k : Int) ∧ k ≤ 6 ∧ Hid (∀ j, j < k → 0 ≤ l.getD j 0 ∧ l.getD j 0 ≤ 255)) (fun vi => 6 - (intOf vi).toNat)
  case atStart => exact ⟨0, rfl, by omega, Lib.hid (fun j hj => by omega)⟩
  case round =>
    obtain ⟨k, rfl, hk, HK⟩ := hrel
    by_cases hlt : k < 6
    · have hix := run_index 32 (n := 6) (by kernel_rfl) l LL.out k hlt
      obtain ⟨v, hv⟩ : ∃ v, l.getD k 0 = v := ⟨_, rfl⟩
      rw [hv] at hix
      have HX := Lib.hid hv
      have kn : (k : Int) < 6 := by omega
      clear hv
      by_cases h1 : 0 ≤ v
      · by_cases h2 : v ≤ 255
        · go_wp2
          go_round
          case rel =>
            refine ⟨k + 1, by go_num, by omega, Lib.hid fun j hj => ?_⟩
            by_cases hjk : j < k
            · exact HK.out j hjk
            · obtain rfl : j = k := by omega
              rw [HX.out]; exact ⟨h1, h2⟩
          case measure => simp [intOf]; omega
        · have h3 : 255 < v := by omega
          obtain rfl : c = false := by
            cases c with
            | false => rfl
            | true => have := HI.out.1 rfl k hlt; rw [HX.out] at this; omega
          go_wp2
          go_ret
          exact ⟨ri HZ.out, HM.out.1⟩
      · have h3 : v < 0 := by omega
        obtain rfl : c = false := by
          cases c with
          | false => rfl
          | true => have := HI.out.1 rfl k hlt; rw [HX.out] at this; omega
        go_wp2
        go_ret
        exact ⟨ri HZ.out, HM.out.1⟩
    · obtain rfl : k = 6 := by omega
      obtain rfl : c = true := HI.out.2 HK.out
      go_wp2
      go_ret
      exact ⟨ri HZ.out, HM.out.1⟩
set_option maxRecDepth 100000 in
set_option maxHeartbeats 4000000 in
theorem rcost_any (a : List Int) (w : World) (ha : OkA a) :
    Calls Tryd.prog 62 #[.agg (icells a)] w (ValQ w (.int .i64 (costL a))) := by
  have HA := Lib.hid ha
  have LA := Lib.hid ha.1
  have HM := Lib.hid (Mem.start w)
  clear ha
  go_enter Tryd.func62, Tryd.ntmps62
  go_wp2_with (first | ((first | refine wl_box rfl _ _ rfl rfl HM ?_ | refine wl_alloc rfl _ rfl (by exact arrOf) HM ?_); first | (have q : dL HM = 0 := rfl; clear q HM; intro g1 u1 HM) | (have q : dL HM = 1 := rfl; clear q HM; intro g2 u2 HM) | (have q : dL HM = 2 := rfl; clear q HM; intro g3 u3 HM) | (have q : dL HM = 3 := rfl; clear q HM; intro g4 u4 HM) | (have q : dL HM = 4 := rfl; clear q HM; intro g5 u5 HM) | (have q : dL HM = 5 := rfl; clear q HM; intro g6 u6 HM) | (have q : dL HM = 6 := rfl; clear q HM; intro g7 u7 HM) | (have q : dL HM = 7 := rfl; clear q HM; intro g8 u8 HM) | (have q : dL HM = 8 := rfl; clear q HM; intro g9 u9 HM) | (have q : dL HM = 9 := rfl; clear q HM; intro g10 u10 HM) | (have q : dL HM = 10 := rfl; clear q HM; intro g11 u11 HM) | (have q : dL HM = 11 := rfl; clear q HM; intro g12 u12 HM) | (have q : dL HM = 12 := rfl; clear q HM; intro g13 u13 HM) | (have q : dL HM = 13 := rfl; clear q HM; intro g14 u14 HM)) | (refine wl_load rfl _ _ rfl rfl (by exact arrOf) HM (by exact memOf) (by exact lenOf) ?_) | (refine wl_storeM rfl _ _ _ rfl rfl rfl (by exact arrOf) HM (by exact idxOf) (by exact lenOf) (by exact lenOf) ?_; clear HM; intro us HM; dsimp only [List.set] at HM) | (refine wl_zero rfl _ rfl (by exact arrOf) (by kernel_rfl) ?_))
  go_loop [3, 7] (fun vs vi => ∃ k : Nat, k ≤ 6 ∧ vi = .int .i64 (k : Int) ∧ vs = .int .i64 (costN a k)) (fun _ vi => 6 - (intOf vi).toNat)
  case atStart => exact ⟨0, by omega, rfl, rfl⟩
  case round =>
    obtain ⟨k, hk, rfl, rfl⟩ := hrel
    by_cases hlt : k < 6
    · have k6 : (k : Int) < 6 := by omega
      have hix := run_index 34 (n := 6) (by kernel_rfl) a LA.out k hlt
      have F1 := Lib.hid (fun u => rfirst_any k (k : Int) u (by omega) rfl)
      have F2 := Lib.hid (fun u => rfirst_any (k + 1) ((k : Int) + 1) u (by omega) (by omega))
      have hb := costN_bd HA.out k hk
      have hb2 := costN_bd HA.out (k + 1) (by omega)
      have hv := HA.out.2 k hlt
      have hed := edg_all k hlt
      have HS := Lib.hid (show costN a (k + 1) = costN a k + a.getD k 0 * ((edg (k + 1) : Int) - (edg k : Int)) from sumN_succ _ _)
      rw [HS.out] at hb2
      have hm := mul_bd (x := a.getD k 0) (y := (edg (k + 1) : Int) - (edg k : Int)) (A := 7) (B := 16) (by omega) (by omega) (by omega) (by omega)
      generalize costN a k = S at hb hb2 HS
      generalize a.getD k 0 = v at hix hv HS hb2 hm
      generalize edg k = lo at F1 hed HS hb2 hm
      generalize edg (k + 1) = hi at F2 hed HS hb2 hm
      obtain ⟨d, hd⟩ : ∃ d : Int, (hi : Int) - (lo : Int) = d := ⟨_, rfl⟩
      rw [hd] at HS hb2 hm
      obtain ⟨q, hq⟩ : ∃ q : Int, v * d = q := ⟨_, rfl⟩
      rw [hq] at HS hb2 hm
      clear hv
      go_wp2_with fail
      refine (F2.out _).mono ?_
      rintro e wb ⟨rfl, rfl⟩
      go_wp2_with fail
      refine (F1.out _).mono ?_
      rintro e wb ⟨rfl, rfl⟩
      go_wp2_with fail
      go_round
      case rel => exact ⟨k + 1, by omega, by go_num, by rw [HS.out]⟩
      case measure => simp [intOf]; omega
    · obtain rfl : k = 6 := by omega
      go_wp2
      go_ret
      exact ⟨rfl, HM.out.1⟩
end Go.Proofs.YtcnckamocbaceaaDoor.Lp
