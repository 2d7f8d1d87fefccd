/-
  Own texts, laid together: Li, Lj, Lk, Ll, Lo.
-/
import Derived.Test.YtcnckamocbaceaaDoorML
import Derived.ChangeKeysEq
import Derived.Test.YtcnckamocbaceaaDoorRows
import Derived.WalkKit
import Derived.ProofKit
import Derived.OpenShut
import Derived.Lib.SmallJoins
import Derived.Deep.Slices
/- Li -/
namespace Go.Proofs.YtcnckamocbaceaaDoor.Lp
open Go.RowKit Go.Proofs.YtcnckamocbaceaaDoor.Fx Go.Proofs.YtcnckamocbaceaaDoor.Fq Go.Proofs.YtcnckamocbaceaaDoor.Tb
theorem rwithin_any (v B : Int) (b : Bool) (w : World) (hb : decide (-B ≤ v ∧ v ≤ B) = b) (h1 : 0 ≤ B := by omega) (h2 : B ≤ 1099511627776 := by omega) :
    Calls Tryd.prog 46 #[.int .i64 v, .int .i64 B] w fun e w' => e = .returned (.bool b) ∧ w = w' := by
  by_cases k1 : -B ≤ v
  · by_cases k2 : v ≤ B
    · obtain rfl : b = true := by rw [← hb]; exact decide_eq_true ⟨k1, k2⟩
      clear hb
      go_enter Tryd.func46, Tryd.ntmps46
      go_wp2
      go_ret
      exact ⟨rfl, rfl⟩
    · obtain rfl : b = false := by rw [← hb]; exact decide_eq_false (fun h => k2 h.2)
      clear hb
      have k3 : B < v := by omega
      go_enter Tryd.func46, Tryd.ntmps46
      go_wp2
      go_ret
      exact ⟨rfl, rfl⟩
  · obtain rfl : b = false := by rw [← hb]; exact decide_eq_false (fun h => k1 h.1)
    clear hb
    have k3 : v < -B := by omega
    go_enter Tryd.func46, Tryd.ntmps46
    go_wp2
    go_ret
    exact ⟨rfl, rfl⟩
set_option maxRecDepth 100000 in
set_option maxHeartbeats 4000000 in
theorem mayX_any (x : List Int) (b : Bool) (w : World) (lx : x.length = 16) (hb : okX x = b) :
    Calls Tryd.prog 24 #[.agg (icells x)] w fun e w' => e = .returned (.bool b) ∧ Below w.heap.size w w' := by
  have LX := Lib.hid lx
  have HI := Lib.hid (inR_iff (lo := -67108864) (hi := 67108864) lx)
  rw [show inR (-67108864) 67108864 x = b from hb] at HI
  have HM := Lib.hid (Mem.start w)
  clear lx hb
  go_enter Tryd.func24, Tryd.ntmps24
  go_wp2_with (first | ((first | refine wl_box rfl _ _ rfl rfl HM ?_ | refine wl_alloc rfl _ rfl (by exact arrOf) HM ?_); first | (have q : dL HM = 0 := rfl; clear q HM; intro g1 u1 HM) | (have q : dL HM = 1 := rfl; clear q HM; intro g2 u2 HM) | (have q : dL HM = 2 := rfl; clear q HM; intro g3 u3 HM) | (have q : dL HM = 3 := rfl; clear q HM; intro g4 u4 HM) | (have q : dL HM = 4 := rfl; clear q HM; intro g5 u5 HM) | (have q : dL HM = 5 := rfl; clear q HM; intro g6 u6 HM) | (have q : dL HM = 6 := rfl; clear q HM; intro g7 u7 HM) | (have q : dL HM = 7 := rfl; clear q HM; intro g8 u8 HM) | (have q : dL HM = 8 := rfl; clear q HM; intro g9 u9 HM) | (have q : dL HM = 9 := rfl; clear q HM; intro g10 u10 HM) | (have q : dL HM = 10 := rfl; clear q HM; intro g11 u11 HM) | (have q : dL HM = 11 := rfl; clear q HM; intro g12 u12 HM) | (have q : dL HM = 12 := rfl; clear q HM; intro g13 u13 HM) | (have q : dL HM = 13 := rfl; clear q HM; intro g14 u14 HM)) | (refine wl_load rfl _ _ rfl rfl (by exact arrOf) HM (by exact memOf) (by exact lenOf) ?_) | (refine wl_storeM rfl _ _ _ rfl rfl rfl (by exact arrOf) HM (by exact idxOf) (by exact lenOf) (by exact lenOf) ?_; clear HM; intro us HM; dsimp only [List.set] at HM) | (refine wl_zero rfl _ rfl (by exact arrOf) (by kernel_rfl) ?_))
  go_loop [6] (fun vi => ∃ k : Nat, vi = .int .i64 (k : Int) ∧ k ≤ 16 ∧ Hid (∀ j, j < k → -67108864 ≤ x.getD j 0 ∧ x.getD j 0 ≤ 67108864)) (fun vi => 16 - (intOf vi).toNat)
  case atStart => exact ⟨0, rfl, by omega, Lib.hid (fun j hj => by omega)⟩
  case round =>
    obtain ⟨k, rfl, hk, HK⟩ := hrel
    by_cases hlt : k < 16
    · have hix := run_index 30 (n := 16) (by kernel_rfl) x LX.out k hlt
      obtain ⟨v, hv⟩ : ∃ v, x.getD k 0 = v := ⟨_, rfl⟩
      rw [hv] at hix
      have HX := Lib.hid hv
      have kn : (k : Int) < 16 := by omega
      clear hv
      by_cases h : -67108864 ≤ v ∧ v ≤ 67108864
      · have HW := Lib.hid (fun u => rwithin_any v 67108864 true u (decide_eq_true h))
        go_wp2_with fail
        refine (HW.out _).mono ?_
        rintro e w2 ⟨rfl, rfl⟩
        go_wp2
        go_round
        case rel =>
          refine ⟨k + 1, by go_num, by omega, Lib.hid fun j hj => ?_⟩
          by_cases hjk : j < k
          · exact HK.out j hjk
          · obtain rfl : j = k := by omega
            rw [HX.out]; exact h
        case measure => simp [intOf]; omega
      · have HW := Lib.hid (fun u => rwithin_any v 67108864 false u (decide_eq_false h))
        obtain rfl : b = false := by
          cases b with
          | false => rfl
          | true => have := HI.out.1 rfl k hlt; rw [HX.out] at this; exact absurd this h
        go_wp2_with fail
        refine (HW.out _).mono ?_
        rintro e w2 ⟨rfl, rfl⟩
        go_wp2
        go_ret
        exact ⟨rfl, HM.out.1⟩
    · obtain rfl : k = 16 := by omega
      obtain rfl : b = true := HI.out.2 HK.out
      go_wp2
      go_ret
      exact ⟨rfl, HM.out.1⟩
end Go.Proofs.YtcnckamocbaceaaDoor.Lp
/- Lj -/
namespace Go.Proofs.YtcnckamocbaceaaDoor.Lp
open Go.RowKit Go.Proofs.YtcnckamocbaceaaDoor.Fx Go.Proofs.YtcnckamocbaceaaDoor.Fq Go.Proofs.YtcnckamocbaceaaDoor.Tb
end Go.Proofs.YtcnckamocbaceaaDoor.Lp
/- Lk -/
namespace Go.Proofs.YtcnckamocbaceaaDoor.Lp
open Go.RowKit Go.Proofs.YtcnckamocbaceaaDoor.Fx Go.Proofs.YtcnckamocbaceaaDoor.Fq Go.Proofs.YtcnckamocbaceaaDoor.Tb
end Go.Proofs.YtcnckamocbaceaaDoor.Lp
/- Ll -/
namespace Go.Proofs.YtcnckamocbaceaaDoor.Lp
open Go.RowKit Go.Proofs.YtcnckamocbaceaaDoor.Fx Go.Proofs.YtcnckamocbaceaaDoor.Fq Go.Proofs.YtcnckamocbaceaaDoor.Tb
theorem run_items_same (d : Nat) (xs : List Int) (u : World) : ∀ l : List Nat, (∀ i ∈ l, i < xs.length) → (Op.eqItems (d + 1) 3 1 (icells xs) (icells xs) l).run Tryd.prog u = .ok true u
  | [], _ => by simp [Op.eqItems]
  | i :: l, h => by
    have ih := run_items_same d xs u l fun j hj => h j (by simp [hj])
    have ha : (isAgg 3).run Tryd.prog u = .ok false u := by kernel_rfl
    have hu : Tryd.prog.underlying 3 = some (.int .i64) := by kernel_rfl
    have hc : (icells xs)[i]? = some (.int .i64 (xs.getD i 0)) := icells_get (h i (by simp))
    have hp : (part 3 (icells xs) (i * 1)).run Tryd.prog u = .ok (.int .i64 (xs.getD i 0)) u := by
      rw [Nat.mul_one]
      simp only [part, Sem.run_bind, ha, Result.andThen_ok, Bool.false_eq_true, if_false, hc, Sem.run_pure]
    have he := run_equalIn_int (P := Tryd.prog) u d 3 .i64 .i64 (xs.getD i 0) (xs.getD i 0) hu
    simp only [Op.eqItems, Sem.run_bind, hp, Result.andThen_ok, he, beq_self_eq_true]
    simpa using ih
theorem run_equalIn_same (T : TypeId) {n : Nat} (hT : Tryd.prog.underlying T = some (.array n 3)) (xs : List Int) (hl : xs.length = n) (w : World) :
    (Op.equalIn 10000 T (.agg (icells xs)) (.agg (icells xs))).run Tryd.prog w = .ok true w := by
  have hc : Tryd.prog.cellsOf 3 = 1 := by kernel_rfl
  obtain ⟨i, hi⟩ : ∃ i, Tryd.prog.info? 3 = some i := Option.isSome_iff_exists.1 (by kernel_rfl)
  rw [run_equalIn_array w 9999 (icells xs) (icells xs) hT hi, hc]
  exact run_items_same 9998 xs w _ fun j hj => by rw [hl]; exact List.mem_range.1 hj
theorem grdSpec : Tryd.prog.eqGuardType Tryd.prog.depth 30 = false := by kernel_rfl
theorem sumN_zero (f : Nat → Int) : ∀ n : Nat, (∀ i, i < n → f i = 0) → sumN f n = 0
  | 0, _ => rfl
  | n + 1, h => by rw [sumN_succ, sumN_zero f n fun i hi => h i (by omega), h n (by omega)]; rfl
theorem zr_getD (n k : Nat) : (zr n).getD k 0 = 0 := by
  unfold zr
  rw [List.getD_eq_getElem?_getD, List.getElem?_replicate]
  split <;> rfl
theorem smp_zero (n : Nat) : smp (zr 16) (zr 16) n = 0 := by
  unfold smp
  split <;> exact zr_getD _ _
theorem fwd_zero : fwdL (zr 16) (zr 16) = zr 16 := by
  refine Eq.trans (tab_congr fun k _ => ?_) (tab_zero 16)
  unfold fwd
  rw [sumN_zero _ 32 fun i _ => by
    unfold wgt
    rw [smp_zero, Int.zero_mul, round16]
    simp]
  rw [round28]
  rfl
theorem okP_zero : okP (zr 16) = true := (inR_iff (zr_length 16)).2 fun k _ => by rw [zr_getD]; omega
def p1 : List Int := 32768 :: List.replicate 15 0
def x1 : List Int := 3 :: -4 :: List.replicate 14 0
theorem p1_length : p1.length = 16 := by decide
theorem x1_length : x1.length = 16 := by decide
theorem okP_p1 : okP p1 = false := by decide
theorem eng_x1 : eng x1 = 25 := by decide
end Go.Proofs.YtcnckamocbaceaaDoor.Lp
/- Lo -/
namespace Go.Proofs.YtcnckamocbaceaaDoor.Lp
open Go.ChangeShapes Go.WideShapes Go.ChangeAt Go.RowKit Go.Joins Go.Deep Go.Proofs.YtcnckamocbaceaaDoor.Fq
theorem laidOut : laidOutB Tryd.prog = true := by kernel_rfl
theorem own : ownKnob Tryd.prog.godebug = none := by kernel_rfl
theorem cells_int : Tryd.prog.cellsOf 3 = 1 := by kernel_rfl
theorem ints_of : ∀ (n : Nat) (l : List Value), l.length = n → (∀ i, i < n → ∃ z : Int, (l.drop i).take 1 = [.int .i64 z]) → ∃ zs : List Int, zs.length = n ∧ l = zs.map fun x => Value.int .i64 x
  | 0, l, hl, _ => ⟨[], rfl, by simpa using hl⟩
  | n + 1, l, hl, h => by
    match l, hl, h with
    | v :: l, hl, h =>
      obtain ⟨z, hz⟩ := h 0 (by omega)
      simp only [List.drop_zero, List.take_succ_cons, List.take_zero, List.cons.injEq, and_true] at hz
      obtain ⟨zs, hzl, e⟩ := ints_of n l (by simpa using hl) fun i hi => by
        have := h (i + 1) (by omega)
        simpa using this
      exact ⟨z :: zs, by simp [hzl], by rw [hz, e]; rfl⟩
section
variable {H : Type} {enc : TypeId × Value → H} {W : World} {base : Nat} {spare : Nat → Bool} {held : Bool}
theorem open_arr {b0 : Nat} {r : Reach} {T : TypeId} {n : Nat} {v : Value} {d : DataW H} {p : List MemPlace} (hT : Tryd.prog.underlying T = some (.array n 3)) (hc : Tryd.prog.cellsOf T = n)
    (hv : Value.okWide Tryd.prog W r b0 T v) (h : DataW.Trod enc Tryd.prog W base spare held T v d p) : ∃ zs : List Int, v = .agg (icells zs) ∧ zs.length = n := by
  obtain ⟨cs, rfl, hsz⟩ : ∃ cs, v = .agg cs ∧ cs.size = n := by
    simp only [Value.okWide, hT] at hv
    obtain ⟨cs, h1, h2, _⟩ := hv
    exact ⟨cs, h1, by rw [h2, hc]⟩
  obtain ⟨fuel, hf⟩ := h
  obtain ⟨xs, m, rfl, _, hl, hn, hel⟩ := DataW.trod_array hT hf
  obtain ⟨zs, hz, e⟩ := ints_of n cs.toList (by simpa using hsz) fun i hi => by
    have hi' := hel i hi
    rw [cells_int, Nat.mul_one] at hi'
    have hx : xs[i]? = some xs[i] := List.getElem?_eq_getElem (by omega)
    rw [hx] at hi'
    obtain ⟨z, hz, _⟩ := DataW.trod_int Tryd.underlying3 hi'
    exact ⟨z, by simpa [Value.cells] using hz⟩
  refine ⟨zs, ?_, hz⟩
  unfold icells
  rw [← e]
end
end Go.Proofs.YtcnckamocbaceaaDoor.Lp
