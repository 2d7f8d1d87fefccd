/-
  Own texts, laid together: Hg.
-/
import Derived.Test.YtgelgbfnioagbaaHf
/- Hg -/
namespace Go.Proofs.Ytgelgbfnioagbaa.Cd
open Go.RowKit
theorem info_freq : (Try.prog.info? 30).map (fun i => (i.zero, i.size, i.bytes)) = some (some (.agg #[.slice none 0 0]), 1, 24) := by kernel_rfl
/-- what All answers of bytes -/
theorem ev_out {w w' : World} {bs : List Nat} {k : Nat} {e : Ending} (h : AllOut w (evP bs) e w') (hv : allErr e0 (evP bs) = 0 ∧ endBits (stE e0 (evP bs)) = evB bs ++ [false, true]) (hp : pack (evB bs ++ [false, true]) = bs ++ [64] ∧ (evB bs ++ [false, true]).length = 8 * k + 2) (hk : k = bs.length) (hk2 : k ≤ 100) :
    ∃ g, e = .returned (.tuple #[.agg #[.slice (some ⟨g, 0, none⟩) (k + 1) (k + 1), .int .i64 (8 * (k : Int) + 2)], .int .i64 0]) ∧ Blk w' g 5 (bcells (bs ++ [64])) ∧ Below w.heap.size w w' := by
  rcases h with ⟨_, A, n, c, N, er, rfl, hb, hq⟩ | ⟨h, _⟩
  · rw [hv.2] at hq
    rcases hq with ⟨_, rfl, g, e, _, hB, _⟩ | ⟨h, _⟩
    · rw [hp.1, hp.2, List.length_append, List.length_singleton, ← hk] at e
      rw [hp.1] at hB
      refine ⟨g, ?_, hB, hb⟩
      rw [e]
      have : (((8 * k + 2 : Nat)) : Int) = 8 * (k : Int) + 2 := by omega
      rw [this]
    · rw [hp.2] at h; omega
  · exact absurd hv.1 h
theorem ev_rd {w : World} {g k : Nat} {bs : List Nat} (h : Blk w g 5 (bcells (bs ++ [64]))) (h256 : ∀ x ∈ bs, x < 256) (hk : k = bs.length) : Rd w (some ⟨g, 0, none⟩) k bs ∧ w.cell? ⟨g, k, none⟩ = some (.int .u8 64) := by
  refine ⟨⟨hk.symm, h256, fun _ => ⟨_, rfl, fun j x hx => ?_⟩⟩, ?_⟩
  · rw [add_own, h.cell]
    obtain ⟨hj, e⟩ := List.getElem?_eq_some_iff.1 hx
    simp only [bcells, List.map_append, List.getElem?_toArray]
    rw [List.getElem?_append_left (by rw [List.length_map]; exact hj), List.getElem?_map, hx]
    rfl
  · rw [h.cell]
    subst hk
    simp [bcells, byteV]
set_option maxRecDepth 100000 in
set_option maxHeartbeats 4000000 in
theorem even_law (A : Option Addr) (n c : Nat) (bs : List Nat) (w : World) (hn : Hid (n ≤ maxLen)) (hb : Hid (Rd w A n bs)) :
    Calls Try.prog 9 #[.slice A n c] w fun e w' => e = .returned (.bool true) ∧ Below w.heap.size w w' := by
  obtain ⟨i0, hi0, hz0, hz1, hz2⟩ := info_parts Fq.info_int
  obtain ⟨j0, hj0, hy0, hy1, hy2⟩ := info_parts info_freq
  have b1 : n ≤ 9223372036854775807 := by have := hn.out; unfold maxLen at this; omega
  go_enter Try.func9, Try.ntmps9
  go_wp2_with fail
  refine (live_c w).mono ?_
  rintro e w1 ⟨rfl, hb1⟩
  have H1 := Lib.hid hb1
  clear hb1
  by_cases h1 : 100 < n
  · have d1 : decide ((100 : Int) < (n : Int)) = true := by simp; omega
    go_wp2
    go_ret
    exact ⟨rfl, H1.out⟩
  · have d1 : decide ((100 : Int) < (n : Int)) = false := by simp; omega
    go_wp2_with fail
    refine (Fq.even_ok 256 w1 (by omega) (by omega)).mono ?_
    rintro e w2 ⟨ge, rfl, hge, hB2, hb2⟩
    have e257 : (Fq.acc (List.replicate 256 1)).length = 257 := evT_length
    rw [e257]
    unfold Fq.freqV
    have HB2 := Lib.hid (show Blk w2 ge 3 (Fq.icells evT) from hB2)
    have HW2 := Lib.hid (H1.out.trans (hb2.mono H1.out.size))
    clear hge hB2 hb2 e257
    go_wp2
    have HS0 := Lib.hid (show EvS w (w2.heap.size + 1) w2.heap.size ge 0 0 bs (.slice none 0 0) (.slice none 0 0) (w2.alloc (.cells #[.slice (some ⟨ge, 0, none⟩) 257 257] 30)) from
      ⟨World.ownsRow_nil _ _ _ _, World.ownsRow_nil _ _ _ _, Blk.new w2 _ _, HB2.out.alloc _, by omega, by have := HB2.out.lt; omega, by have := HW2.out.size; omega, by simp, HW2.out.alloc HW2.out.size _⟩)
    generalize w2.alloc (.cells #[.slice (some ⟨ge, 0, none⟩) 257 257] 30) = w3 at HS0 ⊢
    generalize w2.heap.size = b4 at HS0 ⊢
    obtain ⟨B, hB⟩ : ∃ B, B = b4 + 1 := ⟨_, rfl⟩
    rw [← hB] at HS0
    clear hB HB2 HW2 H1
    go_loopw [6, 7, 27] (fun v6 v7 v wr => ∃ k : Nat, v = .int .i64 (k : Int) ∧ k ≤ n ∧ Hid (EvS w B b4 ge k k bs v6 v7 wr)) (fun _ _ v _ => n - (intOf v).toNat)
    case atStart => exact ⟨0, rfl, by omega, HS0⟩
    case round =>
      obtain ⟨k, rfl, hk, HZ⟩ := hrel
      clear HS0
      by_cases hlt : k < n
      · obtain ⟨ad, rfl, had, hb256, x1⟩ := (hb.out.below HZ.out.blw).at_ hlt
        obtain ⟨b, hbv⟩ : ∃ b, b = bs.getD k 0 := ⟨_, rfl⟩
        rw [← hbv] at x1 hb256
        have HBV := Lib.hid hbv
        clear hbv
        have x4 := Fq.blk0 HZ.out.box
        have l4 := HZ.out.box.lt
        have hkb : k < bs.length := by have := hb.out.1; omega
        go_wp2_with (first
          | (at_builtin; refine wpList_append_own_at _ rfl (.tmp 31) (.tmp 34) 28 rfl B 3 i0 _ 1 8 Try.underlying28 hi0 hz0 hz1 hz2 rfl (by omega) _ k _ rfl (HZ.out.syms.alloc _) ⟨wr.heap.size, 0, none⟩ 1 1 [.int .i64 (b : Int)] rfl rfl (cell_one_new _ _ _) (by intro u hu; simp at hu; subst hu; rfl) (by unfold maxLen; omega) (by omega) (by have := HZ.out.hBu; simp; omega) ?_; intro v1 w4 hown1 hg1 _ _; have HS4 := Lib.hid ((HZ.out.alloc (.cells #[.int .i64 (b : Int)] 3)).push6 hkb (by rw [← HBV.out]; exact hown1) hg1); have x5 := Fq.blk0 HS4.out.box; have l5 := HS4.out.box.lt; clear hown1 hg1 x4 l4 x1)
          | (at_builtin; refine wpList_append_own_at _ rfl (.tmp 36) (.tmp 38) 33 rfl B 30 j0 _ 1 24 Try.underlying33 hj0 hy0 hy1 hy2 rfl (by omega) _ k _ rfl (HS4.out.tabs.alloc _) ⟨w4.heap.size, 0, none⟩ 1 1 [.slice (some ⟨ge, 0, none⟩) 257 257] rfl rfl (cell_one_new _ _ _) (by intro u hu; simp at hu; subst hu; rfl) (by unfold maxLen; omega) (by omega) (by have := HS4.out.hBu; simp; omega) ?_; intro v2 w5 hown2 hg2 _ _; have HS5 := Lib.hid ((HS4.out.alloc (.cells #[.slice (some ⟨ge, 0, none⟩) 257 257] 30)).push7 hown2 hg2); clear hown2 hg2 x5 l5))
        go_roundw
        case rel => exact ⟨k + 1, by go_num, by omega, HS5⟩
        case measure => simp [intOf]; omega
      · obtain rfl : k = n := by omega
        have hkl : k = bs.length := hb.out.1.symm
        obtain ⟨A6, c6, rfl, hR6⟩ := HZ.out.rd6 hkl
        obtain ⟨A7, c7, rfl, hR7⟩ := HZ.out.rd7
        have h256 := hb.out.2.1
        obtain ⟨v1, v2⟩ := ev_end bs h256 (by omega)
        obtain ⟨v3, v4⟩ := ev_pack bs h256
        have hprs : prs (bs.map fun b : Nat => (b : Int)) (List.replicate k (evTb ge)) = evP bs := by rw [hkl]; exact ev_prs bs ge
        have HR6 := Lib.hid hR6
        have HR7 := Lib.hid hR7
        have HV := Lib.hid (show allErr e0 (evP bs) = 0 ∧ endBits (stE e0 (evP bs)) = evB bs ++ [false, true] from ⟨v1, v2⟩)
        have HP := Lib.hid (show pack (evB bs ++ [false, true]) = bs ++ [64] ∧ (evB bs ++ [false, true]).length = 8 * k + 2 from ⟨v3, by rw [v4, hkl]⟩)
        have HPR := Lib.hid hprs
        have HKL := Lib.hid hkl
        have HW := Lib.hid HZ.out.blw
        clear hkl hR6 hR7 h256 v1 v2 v3 v4 hprs HZ hi0 hz0 hz1 hz2 hj0 hy0 hy1 hy2
        go_wp2_with fail
        refine (all_walk A6 k c6 A7 c7 _ _ wr hn HR6 HR7).mono ?_
        intro e w6 hall
        rw [HPR.out] at hall
        obtain ⟨g, he, hB6, hb6⟩ := ev_out hall HV.out HP.out HKL.out (by omega)
        obtain ⟨m1, hm1⟩ : ∃ m1, m1 = k + 1 := ⟨_, rfl⟩
        rw [← hm1] at he
        subst he
        have HM1 := Lib.hid hm1
        have q1 : (k : Int) ≤ (m1 : Int) := by omega
        have q2 : (0 : Int) ≤ (k : Int) := by omega
        have q3 : (k : Int) < (m1 : Int) := by omega
        have q4 : k < m1 := by omega
        have q5 : k ≤ m1 := by omega
        have q6 : ((m1 : Int) == (k : Int) + 1) = true := by simp; omega
        have q7 : m1 ≤ 101 := by omega
        clear hm1
        have HB6 := Lib.hid (hB6.alloc (.cells #[.slice (some ⟨g, 0, none⟩) m1 m1, .int .i64 (8 * (k : Int) + 2)] 25))
        have HW6 := Lib.hid ((HW.out.trans (hb6.mono HW.out.size)).alloc (HW.out.trans (hb6.mono HW.out.size)).size (.cells #[.slice (some ⟨g, 0, none⟩) m1 m1, .int .i64 (8 * (k : Int) + 2)] 25))
        have HX6 := Lib.hid (Blk.new w6 25 #[.slice (some ⟨g, 0, none⟩) m1 m1, .int .i64 (8 * (k : Int) + 2)])
        clear hall hB6 hb6 HW HV HP HPR HR6 HR7
        go_wp2_with fail
        generalize w6.alloc (.cells #[.slice (some ⟨g, 0, none⟩) m1 m1, .int .i64 (8 * (k : Int) + 2)] 25) = w7 at HB6 HW6 HX6 ⊢
        generalize w6.heap.size = b10 at HX6 ⊢
        obtain ⟨x0, x1, -, -⟩ := blk2 HX6.out
        obtain ⟨r1, x2⟩ := ev_rd HB6.out hb.out.2.1 HKL.out
        have R1 := Lib.hid r1
        have R2 := Lib.hid (hb.out.below HW6.out)
        clear r1
        have w8 : IntKind.i64.wrap (8 * (k : Int)) = 8 * (k : Int) := IntWalk.i64_in _ (by omega)
        have w9 : IntKind.i64.wrap (8 * (k : Int) + 2) = 8 * (k : Int) + 2 := IntWalk.i64_in _ (by omega)
        have w10 : IntKind.i64.wrap ((k : Int) + 1) = (k : Int) + 1 := IntWalk.i64_in _ (by omega)
        go_region_held3 (fun w' => w'.cell? ⟨b10, 0, none⟩ = some (.slice (some ⟨g, 0, none⟩) m1 m1) ∧ w'.cell? ⟨b10, 1, none⟩ = some (.int .i64 (8 * (k : Int) + 2)) ∧ w'.cell? ⟨g, k, none⟩ = some (.int .u8 64) ∧ (convert 23 9 (.slice (some ⟨g, 0, none⟩) k m1)).run Try.prog w' = .ok (.string (strOf bs)) w' ∧ (convert 23 9 (.slice A k c)).run Try.prog w' = .ok (.string (strOf bs)) w') (first | exact ⟨x0, x1, x2, run_str _ R1.out, run_str _ R2.out⟩ | go_keep) (fail)
        all_goals
          go_wp2
          go_ret
          exact ⟨rfl, Below.drew HW6.out⟩
end Go.Proofs.Ytgelgbfnioagbaa.Cd
