/-
  Own texts, laid together: Tg.
-/
import Derived.Test.YthpnlfegicofeaaTf
/- Tg -/
namespace Go.Proofs.Ythpnlfegicofeaa.Tb
open Go.RowKit Go.Proofs.Ythpnlfegicofeaa.Fx Go.Proofs.Ythpnlfegicofeaa.Fq
theorem rcos_any (m : Int) (w : World) : Calls Try.prog 14 #[.int .i64 m] w fun e w' => e = .returned (.int .i64 (cosP (pl m))) ∧ w = w' := by
  obtain ⟨x1, x2, x3, x4⟩ := ptP_low (pl m) (pl_is m).1
  have HT := Lib.hid (rturn_any m)
  unfold turnT at HT
  generalize pl m = n at x1 x2 x3 x4 HT ⊢
  go_enter Try.func14, Try.ntmps14
  go_wp2_with fail
  refine (HT.out _).mono ?_
  rintro e w1 ⟨rfl, rfl⟩
  go_wp2_with fail
  refine (rround_any _ _ _ ⟨by omega, by omega⟩).mono ?_
  rintro e w1 ⟨rfl, rfl⟩
  go_wp2
  go_ret
  exact ⟨rfl, rfl⟩
theorem rsin_any (m : Int) (w : World) : Calls Try.prog 16 #[.int .i64 m] w fun e w' => e = .returned (.int .i64 (sinP (pl m))) ∧ w = w' := by
  obtain ⟨x1, x2, x3, x4⟩ := ptP_low (pl m) (pl_is m).1
  have HT := Lib.hid (rturn_any m)
  unfold turnT at HT
  generalize pl m = n at x1 x2 x3 x4 HT ⊢
  go_enter Try.func16, Try.ntmps16
  go_wp2_with fail
  refine (HT.out _).mono ?_
  rintro e w1 ⟨rfl, rfl⟩
  go_wp2_with fail
  refine (rround_any _ _ _ ⟨by omega, by omega⟩).mono ?_
  rintro e w1 ⟨rfl, rfl⟩
  go_wp2
  go_ret
  exact ⟨rfl, rfl⟩
theorem rwindow_any (n : Int) (w : World) : Calls Try.prog 18 #[.int .i64 n] w fun e w' => e = .returned (winT n) ∧ w = w' := by
  by_cases h : 0 ≤ n ∧ n ≤ 31
  · have HV := Lib.hid (show winT n = .tuple #[.int .i64 (sinP (pl (2 * n + 1))), .int .i64 0] by unfold winT; rw [if_pos h])
    obtain ⟨h0, h1⟩ := h
    have d0 : ¬ n < 0 := by omega
    have d1 : ¬ 31 < n := by omega
    go_enter Try.func18, Try.ntmps18
    go_wp2_with fail
    refine (rsin_any (2 * n + 1) _).mono ?_
    rintro e w2 ⟨rfl, rfl⟩
    go_wp2
    go_ret2
    exact ⟨by rw [HV.out]; rfl, rfl⟩
  · have HV := Lib.hid (show winT n = .tuple #[.int .i64 0, .int .i64 1] by unfold winT; rw [if_neg h])
    by_cases d0 : n < 0
    · go_enter Try.func18, Try.ntmps18
      go_wp2
      go_ret2
      exact ⟨by rw [HV.out]; rfl, rfl⟩
    · have d1 : 31 < n := by omega
      go_enter Try.func18, Try.ntmps18
      go_wp2
      go_ret2
      exact ⟨by rw [HV.out]; rfl, rfl⟩
set_option maxHeartbeats 1000000 in
theorem rkernel_any (n k : Int) (w : World) : Calls Try.prog 20 #[.int .i64 n, .int .i64 k] w fun e w' => e = .returned (kerT n k) ∧ w = w' := by
  by_cases h : 0 ≤ n ∧ n ≤ 31 ∧ 0 ≤ k ∧ k ≤ 15
  · obtain ⟨z, hz⟩ : ∃ z, phI n k = z := ⟨_, rfl⟩
    have HV := Lib.hid (show kerT n k = .tuple #[.int .i64 (cosP (pl z)), .int .i64 0] by unfold kerT kerI; rw [if_pos h, hz])
    obtain ⟨h0, h1, h2, h3⟩ := h
    obtain ⟨z0, z1⟩ := ph_in h0 h1 h2 h3
    rw [hz] at z0 z1
    unfold phI at hz
    have d0 : ¬ n < 0 := by omega
    have d1 : ¬ 31 < n := by omega
    have d2 : ¬ k < 0 := by omega
    have d3 : ¬ 15 < k := by omega
    go_enter Try.func20, Try.ntmps20
    go_wp2_with fail
    refine (rcos_any z _).mono ?_
    rintro e w2 ⟨rfl, rfl⟩
    go_wp2
    go_ret2
    exact ⟨by rw [HV.out]; rfl, rfl⟩
  · have HV := Lib.hid (show kerT n k = .tuple #[.int .i64 0, .int .i64 1] by unfold kerT; rw [if_neg h])
    by_cases d0 : n < 0
    · go_enter Try.func20, Try.ntmps20
      go_wp2
      go_ret2
      exact ⟨by rw [HV.out]; rfl, rfl⟩
    · by_cases d1 : 31 < n
      · go_enter Try.func20, Try.ntmps20
        go_wp2
        go_ret2
        exact ⟨by rw [HV.out]; rfl, rfl⟩
      · by_cases d2 : k < 0
        · go_enter Try.func20, Try.ntmps20
          go_wp2
          go_ret2
          exact ⟨by rw [HV.out]; rfl, rfl⟩
        · have d3 : 15 < k := by omega
          go_enter Try.func20, Try.ntmps20
          go_wp2
          go_ret2
          exact ⟨by rw [HV.out]; rfl, rfl⟩
theorem info_partsT {o : Option TypeInfo} {z : Option Value} {s b : Nat} (h : o.map (fun i => (i.zero, i.size, i.bytes)) = some (z, s, b)) : ∃ i, o = some i ∧ i.zero = z ∧ i.size = s ∧ i.bytes = b := by
  obtain ⟨i, hi, e⟩ := Option.map_eq_some_iff.1 h
  simp only [Prod.mk.injEq] at e
  exact ⟨i, hi, e.1, e.2.1, e.2.2⟩
def iV (x : Int) : Value := .int .i64 x
/-- a slice of ints of one's own, read -/
theorem own_rdI {w : World} {base n : Nat} {v : Value} {zs : List Int} (h : w.ownsRow base 3 1 v n (zs.map iV)) : ∃ A c, v = .slice A n c ∧ RdI w A n zs := by
  have hlen : zs.length = n := by have := h.1; rw [List.length_map, Nat.mul_one] at this; exact this
  rcases h.2 with ⟨rfl, h0⟩ | ⟨g, cap, cur, rfl, hb, hh, hnc, hcm, hcs, ht⟩
  · subst h0
    exact ⟨none, 0, rfl, ⟨hlen, fun h => by omega⟩⟩
  · refine ⟨_, _, rfl, hlen, fun _ => ⟨_, rfl, fun j x hx => ?_⟩⟩
    exact World.ownsRow.cells h (g := g) rfl j (iV x) (by rw [List.getElem?_map, hx]; rfl)
theorem own_snocI {w : World} {base n : Nat} {v : Value} {zs : List Int} {x : Int} (h : w.ownsRow base 3 1 v (n + 1) (zs.map iV ++ [.int .i64 x])) : w.ownsRow base 3 1 v (n + 1) ((zs ++ [x]).map iV) := by
  rw [List.map_append]; exact h
theorem grow_belowI {w w2 w3 : World} {o : Obj} {t : TypeId} {size n : Nat} {v : Value} {xs : List Value} (hb : Below w.heap.size w w2) (h : w2.ownsRow w.heap.size t size v n xs) (hg : (w2.alloc o).grownBy w3 v.ownBlock) : Below w.heap.size w w3 :=
  (hb.alloc hb.size o).grown hg (hb.alloc hb.size o).size (fun k hk => (World.ownsRow.lt h k hk).1)
theorem rowI_take (k : Int) (j : Nat) (hj : j < 32) : (rowI k).take (j + 1) = (rowI k).take j ++ [kerI (j : Int) k] := by
  have hl : (rowI k).length = 32 := rowI_length k
  have e : (rowI k)[j]? = some (kerI (j : Int) k) := by unfold rowI; rw [List.getElem?_map, List.getElem?_range hj]; rfl
  rw [List.take_add_one, e]
  rfl
def RRowQ (w : World) (xs : List Int) (e : Ending) (w' : World) : Prop := ∃ A c, e = .returned (.tuple #[.slice A 32 c, .int .i64 0]) ∧ RdI w' A 32 xs ∧ Below w.heap.size w w'
set_option maxRecDepth 100000 in
set_option maxHeartbeats 2000000 in
theorem rrow_any (k : Int) (w : World) (h0 : 0 ≤ k) (h1 : k ≤ 15) : Calls Try.prog 22 #[.int .i64 k] w (RRowQ w (rowI k)) := by
  obtain ⟨i0, hi0, hz0, hz1, hz2⟩ := info_partsT info_intT
  have d0 : ¬ k < 0 := by omega
  have d1 : ¬ 15 < k := by omega
  go_enter Try.func22, Try.ntmps22
  go_wp2_with fail
  go_loopw [4, 5, 6, 7, 14] (fun vl _ _ _ vi wr => ∃ j : Nat, j ≤ 32 ∧ vi = .int .i64 (j : Int) ∧ Hid (wr.ownsRow w.heap.size 3 1 vl j (((rowI k).take j).map iV)) ∧ Hid (Below w.heap.size w wr)) (fun _ _ _ _ vi _ => 32 - (intOf vi).toNat)
  case atStart => exact ⟨0, by omega, rfl, Lib.hid (World.ownsRow_nil _ _ _ _), Lib.hid (Below.refl _ _)⟩
  case round =>
    obtain ⟨j, hj, rfl, HO, HW⟩ := hrel
    by_cases hlt : j < 32
    · have HV := Lib.hid (show kerT (j : Int) k = .tuple #[.int .i64 (kerI (j : Int) k), .int .i64 0] by unfold kerT; rw [if_pos ⟨by omega, by omega, h0, h1⟩])
      have HT := Lib.hid (rowI_take k j hlt)
      generalize kerI (j : Int) k = x at HV HT
      go_wp2_with fail
      refine (rkernel_any _ _ _).mono ?_
      rw [HV.out]
      rintro e w1 ⟨rfl, rfl⟩
      go_wp2_with (at_builtin; refine wpList_append_own_at _ rfl (.tmp 23) (.tmp 25) 33 rfl w.heap.size 3 i0 _ 1 8 Try.underlying33 hi0 hz0 hz1 hz2 rfl (by omega) _ j _ rfl (World.ownsRow.alloc HO.out _) ⟨wr.heap.size, 0, none⟩ 1 1 [.int .i64 x] rfl rfl (cell_one_new _ _ _) (by intro u hu; simp at hu; subst hu; rfl) (by unfold maxLen; omega) (by omega) (HW.out.alloc HW.out.size _).size ?_; intro v1 w4 hown1 hg1 _ _; have HO1 := Lib.hid hown1; have HW1 := Lib.hid (grow_belowI HW.out HO.out hg1); clear hown1 hg1)
      go_roundw
      case rel => exact ⟨j + 1, by omega, by go_num, Lib.hid (by rw [HT.out]; exact own_snocI HO1.out), HW1⟩
      case measure => simp [intOf]; omega
    · obtain rfl : j = 32 := by omega
      obtain ⟨A, c, rfl, hr⟩ := own_rdI HO.out
      rw [List.take_of_length_le (by rw [rowI_length]; omega)] at hr
      have HR := Lib.hid hr
      clear hr
      go_wp2
      go_ret2
      exact ⟨A, c, rfl, HR.out, HW.out⟩
set_option maxHeartbeats 1000000 in
theorem rrow_no (k : Int) (w : World) (h : ¬ (0 ≤ k ∧ k ≤ 15)) : Calls Try.prog 22 #[.int .i64 k] w fun e w' => e = .returned (.tuple #[.slice none 0 0, .int .i64 1]) ∧ w = w' := by
  by_cases d0 : k < 0
  · go_enter Try.func22, Try.ntmps22
    go_wp2
    go_ret2
    exact ⟨rfl, rfl⟩
  · have d1 : 15 < k := by omega
    go_enter Try.func22, Try.ntmps22
    go_wp2
    go_ret2
    exact ⟨rfl, rfl⟩
end Go.Proofs.Ythpnlfegicofeaa.Tb
