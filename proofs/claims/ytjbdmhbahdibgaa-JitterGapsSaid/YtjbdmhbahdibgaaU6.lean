/-
  Every gap is told, and a gap that is filled is gone.
-/
import Derived.Test.YtjbdmhbahdibgaaU5
set_option linter.unusedSimpArgs false
set_option linter.unusedVariables false
/- U6 -/
namespace Go.Proofs.Ytjbdmhbahdibgaa.Lp
open Go.RowKit Go.Proofs.Ytjbdmhbahdibgaa.Fq
theorem ex_b1 {o : Oper} {a : Act} {w : World} (x : Operand) (ho : o.op = .buildSlice 41 1 #[(0, x)]) {v : Int} (hx : a.eval x = .int .u8 v) :
    (execOp a.eval o).run Try.prog w = .ok (.value (.slice (some ⟨w.heap.size, 0, none⟩) 1 1)) (w.alloc (.cells #[.int .u8 v] 5)) := by
  have := run_build_b1 v w
  unfold execOp
  simp only [ho, List.map_toArray, List.map_cons, List.map_nil, hx, Sem.run_bind, this, Result.andThen_ok, Sem.run_pure]
section
variable {o : Oper} {a : Act} {us w : World} {K : Act → World → Prop} {Q : Exit → Act → World → Prop}
theorem ow_b1 (x : Operand) (ho : o.op = .buildSlice 41 1 #[(0, x)]) {v : Int} (hx : a.eval x = .int .u8 v) (HB : Hid (Below us.heap.size us w))
    (h : ∀ g w', Hid (Below us.heap.size us w') → Hid (Below w.heap.size w w') → Hid (Blk w' g 5 #[.int .u8 v]) → Hid (us.heap.size ≤ g) → K (a.put o.dst (.slice (some ⟨g, 0, none⟩) 1 1)) w') : o.wp Try.prog a w K Q :=
  ow_run (ex_b1 x ho hx) (h _ _ (Lib.hid (HB.out.alloc HB.out.size _)) (Lib.hid ((Below.refl _ _).alloc (Nat.le_refl _) _)) (Lib.hid (Blk.new w _ _)) (Lib.hid HB.out.size))
theorem ow_k1 (x : Operand) (ho : o.op = .buildSlice 22 1 #[(0, x)]) {s : Int} {A : Option Addr} {n c : Nat} (hx : a.eval x = .agg #[.int .i64 s, .slice A n c]) (HB : Hid (Below us.heap.size us w))
    (h : ∀ g w', Hid (Below us.heap.size us w') → Hid (Below w.heap.size w w') → Hid (Blk w' g 46 #[.int .i64 s, .slice A n c]) → Hid (us.heap.size ≤ g) → K (a.put o.dst (.slice (some ⟨g, 0, none⟩) 1 1)) w') : o.wp Try.prog a w K Q :=
  ow_run (ex_build_pk x ho hx) (h _ _ (Lib.hid (HB.out.alloc HB.out.size _)) (Lib.hid ((Below.refl _ _).alloc (Nat.le_refl _) _)) (Lib.hid (Blk.new w _ _)) (Lib.hid HB.out.size))
theorem ow_al (ho : o.op = .alloc 24) (HB : Hid (Below us.heap.size us w))
    (h : ∀ g w', Hid (Below us.heap.size us w') → Hid (Below w.heap.size w w') → Hid (Blk w' g 24 #[.bool false, .int .i64 0, .int .i64 0, .int .i64 0, .slice none 0 0]) → Hid (us.heap.size ≤ g) → Hid (w.heap.size ≤ g) → K (a.put o.dst (.pointer (some ⟨g, 0, none⟩))) w') : o.wp Try.prog a w K Q := by
  have hz := rowJt.zero w
  have := h _ _ (Lib.hid (HB.out.alloc HB.out.size _)) (Lib.hid ((Below.refl _ _).alloc (Nat.le_refl _) _)) (Lib.hid (Blk.new w 24 _)) (Lib.hid HB.out.size) (Lib.hid (Nat.le_refl _))
  unfold Oper.wp execOp
  simp only [ho, Instr.alloc, newVar, newRow, Sem.run_bind, hz, Result.andThen, Value.cells, Sem.run_pure]
  exact this
end
theorem Kp.wide {F : World → Prop} {gs : List Nat} {w u : World} (h : Kp F [] w) (hc : Ch w u []) (hg : ∀ g ∈ gs, w.heap.size ≤ g) : Kp F gs u := fun v hv => h v (hc.trans hv fun g hx => .inr (hg g hx))
/-- one packet, of one byte, in two blocks -/
theorem rdP_two {w : World} {g gb : Nat} {s : Int} {v : Int} (hB : Blk w g 46 #[.int .i64 s, .slice (some ⟨gb, 0, none⟩) 1 1]) (hC : Blk w gb 5 #[.int .u8 v]) (h0 : 0 ≤ v) (h1 : v < 256) :
    RdP w (some ⟨g, 0, none⟩) 1 [⟨s, some ⟨gb, 0, none⟩, 1, 1, [v.toNat]⟩] := by
  refine ⟨rfl, fun _ => ⟨_, rfl, fun j x hx => ?_⟩⟩
  cases j with
  | succ j => simp at hx
  | zero =>
    have hx' : x = ⟨s, some ⟨gb, 0, none⟩, 1, 1, [v.toNat]⟩ := by simpa using hx.symm
    subst hx'
    refine ⟨by rw [add_own, hB.cell]; rfl, ?_, ⟨rfl, ?_, fun _ => ⟨_, rfl, fun j x hx => ?_⟩⟩, by show 1 ≤ maxLen; decide⟩
    · rw [add_own]
      show w.cell? ⟨g, 1, none⟩ = _
      rw [hB.cell]; rfl
    · intro y hy
      have : y = v.toNat := by simpa using hy
      omega
    · cases j with
      | succ j => simp at hx
      | zero =>
        have : x = v.toNat := by simpa using hx.symm
        subst this
        rw [add_own, hC.cell]
        show some (Value.int .u8 v) = some (byteV v.toNat)
        unfold byteV
        rw [Int.toNat_of_nonneg h0]
set_option maxRecDepth 100000 in
set_option maxHeartbeats 8000000 in
theorem gaps_law (on : Bool) (nx dp dr : Int) (A : Option Addr) (n c : Nat) (ls : List Pk) (x : Int) (w : World) (h : Hid (RdP w A n ls)) (hsz : n * 32 ≤ 140737488355328) :
    Calls Try.prog 7 #[jtV on nx dp dr A n c, .int .i64 x] w (ValQ w (.bool true)) := by
  have HM := Lib.hid (MV.start w)
  have hn9 : n ≤ 4398046511104 := by omega
  have hn8 : (n : Int) ≤ 4398046511104 := by omega
  obtain ⟨fb, hfb⟩ : ∃ fb, fb = (fewP (ls ++ []) && decide (n ≤ 100) && decide (0 ≤ 100)) := ⟨_, rfl⟩
  have HFEW := Lib.hid (fun (u : World) (hu : Below w.heap.size w u) => few_any on nx dp dr A n c ls none 0 0 [] u (Lib.hid (h.out.keep hu)) (Lib.hid RdP.none_) (Lib.hid (by omega)))
  rw [← hfb] at HFEW
  obtain ⟨ck, hck⟩ : ∃ ck, ck = ckE ⟨on, nx, dp, dr, ls.map pl⟩ := ⟨_, rfl⟩
  have HCK := Lib.hid (fun (u : World) (hu : Below w.heap.size w u) => rcheck_any on nx dp dr A n c ls u (Lib.hid (h.out.keep hu)) hn9)
  rw [← hck] at HCK
  have HCE := Lib.hid hck
  have HFB := Lib.hid hfb
  clear hck hfb hsz
  cases fb with
  | false =>
    go_enter Try.func7, Try.ntmps7
    go_wp2_with (first | (refine jL ?_) | (refine jS ?_; clear HM; intro us HM; simp only [List.set, List.setIfInBounds_toArray, List.set_cons_zero, List.set_cons_succ] at HM) | (refine jN ?_; first | (have q : dV HM = 0 := rfl; clear q HM; intro g1 u1 HG1 HM) | (have q : dV HM = 1 := rfl; clear q HM; intro g2 u2 HG2 HM) | (have q : dV HM = 2 := rfl; clear q HM; intro g3 u3 HG3 HM) | (have q : dV HM = 3 := rfl; clear q HM; intro g4 u4 HG4 HM) | (have q : dV HM = 4 := rfl; clear q HM; intro g5 u5 HG5 HM) | (have q : dV HM = 5 := rfl; clear q HM; intro g6 u6 HG6 HM) | (have q : dV HM = 6 := rfl; clear q HM; intro g7 u7 HG7 HM) | (have q : dV HM = 7 := rfl; clear q HM; intro g8 u8 HG8 HM) | (have q : dV HM = 8 := rfl; clear q HM; intro g9 u9 HG9 HM) | (have q : dV HM = 9 := rfl; clear q HM; intro g10 u10 HG10 HM) | (have q : dV HM = 10 := rfl; clear q HM; intro g11 u11 HG11 HM) | (have q : dV HM = 11 := rfl; clear q HM; intro g12 u12 HG12 HM) | (have q : dV HM = 12 := rfl; clear q HM; intro g13 u13 HG13 HM) | (have q : dV HM = 13 := rfl; clear q HM; intro g14 u14 HG14 HM)))
    refine (live_any _).mono ?_
    rintro e u1 ⟨rfl, hb⟩
    have HM2 := Lib.hid (HM.out.below hb)
    clear hb HM
    have HM := HM2
    clear HM2
    go_wp2_with (first | (refine jL ?_) | (refine jS ?_; clear HM; intro us HM; simp only [List.set, List.setIfInBounds_toArray, List.set_cons_zero, List.set_cons_succ] at HM) | (refine jN ?_; first | (have q : dV HM = 0 := rfl; clear q HM; intro g1 u1 HG1 HM) | (have q : dV HM = 1 := rfl; clear q HM; intro g2 u2 HG2 HM) | (have q : dV HM = 2 := rfl; clear q HM; intro g3 u3 HG3 HM) | (have q : dV HM = 3 := rfl; clear q HM; intro g4 u4 HG4 HM) | (have q : dV HM = 4 := rfl; clear q HM; intro g5 u5 HG5 HM) | (have q : dV HM = 5 := rfl; clear q HM; intro g6 u6 HG6 HM) | (have q : dV HM = 6 := rfl; clear q HM; intro g7 u7 HG7 HM) | (have q : dV HM = 7 := rfl; clear q HM; intro g8 u8 HG8 HM) | (have q : dV HM = 8 := rfl; clear q HM; intro g9 u9 HG9 HM) | (have q : dV HM = 9 := rfl; clear q HM; intro g10 u10 HG10 HM) | (have q : dV HM = 10 := rfl; clear q HM; intro g11 u11 HG11 HM) | (have q : dV HM = 11 := rfl; clear q HM; intro g12 u12 HG12 HM) | (have q : dV HM = 12 := rfl; clear q HM; intro g13 u13 HG13 HM) | (have q : dV HM = 13 := rfl; clear q HM; intro g14 u14 HG14 HM)))
    refine (HFEW.out _ HM.out.1).mono ?_
    rintro e u2 ⟨rfl, hb⟩
    have HM2 := Lib.hid (HM.out.below hb)
    clear hb HM HFEW
    have HM := HM2
    clear HM2
    go_wp2_with (first | (refine jL ?_) | (refine jS ?_; clear HM; intro us HM; simp only [List.set, List.setIfInBounds_toArray, List.set_cons_zero, List.set_cons_succ] at HM) | (refine jN ?_; first | (have q : dV HM = 0 := rfl; clear q HM; intro g1 u1 HG1 HM) | (have q : dV HM = 1 := rfl; clear q HM; intro g2 u2 HG2 HM) | (have q : dV HM = 2 := rfl; clear q HM; intro g3 u3 HG3 HM) | (have q : dV HM = 3 := rfl; clear q HM; intro g4 u4 HG4 HM) | (have q : dV HM = 4 := rfl; clear q HM; intro g5 u5 HG5 HM) | (have q : dV HM = 5 := rfl; clear q HM; intro g6 u6 HG6 HM) | (have q : dV HM = 6 := rfl; clear q HM; intro g7 u7 HG7 HM) | (have q : dV HM = 7 := rfl; clear q HM; intro g8 u8 HG8 HM) | (have q : dV HM = 8 := rfl; clear q HM; intro g9 u9 HG9 HM) | (have q : dV HM = 9 := rfl; clear q HM; intro g10 u10 HG10 HM) | (have q : dV HM = 10 := rfl; clear q HM; intro g11 u11 HG11 HM) | (have q : dV HM = 11 := rfl; clear q HM; intro g12 u12 HG12 HM) | (have q : dV HM = 12 := rfl; clear q HM; intro g13 u13 HG13 HM) | (have q : dV HM = 13 := rfl; clear q HM; intro g14 u14 HG14 HM)))
    go_ret
    exact ⟨rfl, HM.out.1⟩
  | true =>
    by_cases hok : OkJ ⟨on, nx, dp, dr, ls.map pl⟩
    · obtain rfl : ck = 0 := by rw [HCE.out]; exact if_pos hok
      have HOK := Lib.hid hok
      clear hok
      rcases Nat.eq_zero_or_pos n with h0 | h0
      · subst h0
        go_enter Try.func7, Try.ntmps7
        go_wp2_with (first | (refine jL ?_) | (refine jS ?_; clear HM; intro us HM; simp only [List.set, List.setIfInBounds_toArray, List.set_cons_zero, List.set_cons_succ] at HM) | (refine jN ?_; first | (have q : dV HM = 0 := rfl; clear q HM; intro g1 u1 HG1 HM) | (have q : dV HM = 1 := rfl; clear q HM; intro g2 u2 HG2 HM) | (have q : dV HM = 2 := rfl; clear q HM; intro g3 u3 HG3 HM) | (have q : dV HM = 3 := rfl; clear q HM; intro g4 u4 HG4 HM) | (have q : dV HM = 4 := rfl; clear q HM; intro g5 u5 HG5 HM) | (have q : dV HM = 5 := rfl; clear q HM; intro g6 u6 HG6 HM) | (have q : dV HM = 6 := rfl; clear q HM; intro g7 u7 HG7 HM) | (have q : dV HM = 7 := rfl; clear q HM; intro g8 u8 HG8 HM) | (have q : dV HM = 8 := rfl; clear q HM; intro g9 u9 HG9 HM) | (have q : dV HM = 9 := rfl; clear q HM; intro g10 u10 HG10 HM) | (have q : dV HM = 10 := rfl; clear q HM; intro g11 u11 HG11 HM) | (have q : dV HM = 11 := rfl; clear q HM; intro g12 u12 HG12 HM) | (have q : dV HM = 12 := rfl; clear q HM; intro g13 u13 HG13 HM) | (have q : dV HM = 13 := rfl; clear q HM; intro g14 u14 HG14 HM)))
        refine (live_any _).mono ?_
        rintro e u1 ⟨rfl, hb⟩
        have HM2 := Lib.hid (HM.out.below hb)
        clear hb HM
        have HM := HM2
        clear HM2
        go_wp2_with (first | (refine jL ?_) | (refine jS ?_; clear HM; intro us HM; simp only [List.set, List.setIfInBounds_toArray, List.set_cons_zero, List.set_cons_succ] at HM) | (refine jN ?_; first | (have q : dV HM = 0 := rfl; clear q HM; intro g1 u1 HG1 HM) | (have q : dV HM = 1 := rfl; clear q HM; intro g2 u2 HG2 HM) | (have q : dV HM = 2 := rfl; clear q HM; intro g3 u3 HG3 HM) | (have q : dV HM = 3 := rfl; clear q HM; intro g4 u4 HG4 HM) | (have q : dV HM = 4 := rfl; clear q HM; intro g5 u5 HG5 HM) | (have q : dV HM = 5 := rfl; clear q HM; intro g6 u6 HG6 HM) | (have q : dV HM = 6 := rfl; clear q HM; intro g7 u7 HG7 HM) | (have q : dV HM = 7 := rfl; clear q HM; intro g8 u8 HG8 HM) | (have q : dV HM = 8 := rfl; clear q HM; intro g9 u9 HG9 HM) | (have q : dV HM = 9 := rfl; clear q HM; intro g10 u10 HG10 HM) | (have q : dV HM = 10 := rfl; clear q HM; intro g11 u11 HG11 HM) | (have q : dV HM = 11 := rfl; clear q HM; intro g12 u12 HG12 HM) | (have q : dV HM = 12 := rfl; clear q HM; intro g13 u13 HG13 HM) | (have q : dV HM = 13 := rfl; clear q HM; intro g14 u14 HG14 HM)))
        refine (HFEW.out _ HM.out.1).mono ?_
        rintro e u2 ⟨rfl, hb⟩
        have HM2 := Lib.hid (HM.out.below hb)
        clear hb HM HFEW
        have HM := HM2
        clear HM2
        go_wp2_with (first | (refine jL ?_) | (refine jS ?_; clear HM; intro us HM; simp only [List.set, List.setIfInBounds_toArray, List.set_cons_zero, List.set_cons_succ] at HM) | (refine jN ?_; first | (have q : dV HM = 0 := rfl; clear q HM; intro g1 u1 HG1 HM) | (have q : dV HM = 1 := rfl; clear q HM; intro g2 u2 HG2 HM) | (have q : dV HM = 2 := rfl; clear q HM; intro g3 u3 HG3 HM) | (have q : dV HM = 3 := rfl; clear q HM; intro g4 u4 HG4 HM) | (have q : dV HM = 4 := rfl; clear q HM; intro g5 u5 HG5 HM) | (have q : dV HM = 5 := rfl; clear q HM; intro g6 u6 HG6 HM) | (have q : dV HM = 6 := rfl; clear q HM; intro g7 u7 HG7 HM) | (have q : dV HM = 7 := rfl; clear q HM; intro g8 u8 HG8 HM) | (have q : dV HM = 8 := rfl; clear q HM; intro g9 u9 HG9 HM) | (have q : dV HM = 9 := rfl; clear q HM; intro g10 u10 HG10 HM) | (have q : dV HM = 10 := rfl; clear q HM; intro g11 u11 HG11 HM) | (have q : dV HM = 11 := rfl; clear q HM; intro g12 u12 HG12 HM) | (have q : dV HM = 12 := rfl; clear q HM; intro g13 u13 HG13 HM) | (have q : dV HM = 13 := rfl; clear q HM; intro g14 u14 HG14 HM)))
        refine (HCK.out _ HM.out.1).mono ?_
        rintro e u3 ⟨rfl, hb⟩
        have HM2 := Lib.hid (HM.out.below hb)
        clear hb HM HCK
        have HM := HM2
        clear HM2
        go_wp2_with (first | (refine jL ?_) | (refine jS ?_; clear HM; intro us HM; simp only [List.set, List.setIfInBounds_toArray, List.set_cons_zero, List.set_cons_succ] at HM) | (refine jN ?_; first | (have q : dV HM = 0 := rfl; clear q HM; intro g1 u1 HG1 HM) | (have q : dV HM = 1 := rfl; clear q HM; intro g2 u2 HG2 HM) | (have q : dV HM = 2 := rfl; clear q HM; intro g3 u3 HG3 HM) | (have q : dV HM = 3 := rfl; clear q HM; intro g4 u4 HG4 HM) | (have q : dV HM = 4 := rfl; clear q HM; intro g5 u5 HG5 HM) | (have q : dV HM = 5 := rfl; clear q HM; intro g6 u6 HG6 HM) | (have q : dV HM = 6 := rfl; clear q HM; intro g7 u7 HG7 HM) | (have q : dV HM = 7 := rfl; clear q HM; intro g8 u8 HG8 HM) | (have q : dV HM = 8 := rfl; clear q HM; intro g9 u9 HG9 HM) | (have q : dV HM = 9 := rfl; clear q HM; intro g10 u10 HG10 HM) | (have q : dV HM = 10 := rfl; clear q HM; intro g11 u11 HG11 HM) | (have q : dV HM = 11 := rfl; clear q HM; intro g12 u12 HG12 HM) | (have q : dV HM = 12 := rfl; clear q HM; intro g13 u13 HG13 HM) | (have q : dV HM = 13 := rfl; clear q HM; intro g14 u14 HG14 HM)))
        go_ret
        exact ⟨rfl, HM.out.1⟩
      · obtain ⟨L, z, rfl, hL, hz, z0, -, -, -⟩ := h.out.at_ h0
        rw [Nat.zero_mul, Addr.add_zero'] at z0
        have HZ := Lib.hid hz
        obtain ⟨m, hnm⟩ : ∃ m, n = m + 1 := ⟨n - 1, by omega⟩
        obtain ⟨L', p, e, hLp, hp, p0, -, -, -⟩ := h.out.at_ (k := m) (by omega)
        injection e with e
        subst e
        have HP0 := Lib.hid (fun (u : World) (hu : Below w.heap.size w u) => (hu.cell (by rw [block_of_add]; exact hLp)).trans p0)
        have HPQ := Lib.hid (show (ls.map pl)[(ls.map pl).length - 1]? = some (pl p) by rw [List.length_map, h.out.1, hnm, Nat.add_sub_cancel, List.getElem?_map, hp]; rfl)
        have HNM := Lib.hid hnm
        clear hnm
        clear hp p0 hLp
        have HZ0 := Lib.hid (fun (u : World) (hu : Below w.heap.size w u) => (hu.cell hL).trans z0)
        clear hz z0 hL
        cases on with
        | false =>
          go_enter Try.func7, Try.ntmps7
          go_wp2_with (first | (refine jL ?_) | (refine jS ?_; clear HM; intro us HM; simp only [List.set, List.setIfInBounds_toArray, List.set_cons_zero, List.set_cons_succ] at HM) | (refine jN ?_; first | (have q : dV HM = 0 := rfl; clear q HM; intro g1 u1 HG1 HM) | (have q : dV HM = 1 := rfl; clear q HM; intro g2 u2 HG2 HM) | (have q : dV HM = 2 := rfl; clear q HM; intro g3 u3 HG3 HM) | (have q : dV HM = 3 := rfl; clear q HM; intro g4 u4 HG4 HM) | (have q : dV HM = 4 := rfl; clear q HM; intro g5 u5 HG5 HM) | (have q : dV HM = 5 := rfl; clear q HM; intro g6 u6 HG6 HM) | (have q : dV HM = 6 := rfl; clear q HM; intro g7 u7 HG7 HM) | (have q : dV HM = 7 := rfl; clear q HM; intro g8 u8 HG8 HM) | (have q : dV HM = 8 := rfl; clear q HM; intro g9 u9 HG9 HM) | (have q : dV HM = 9 := rfl; clear q HM; intro g10 u10 HG10 HM) | (have q : dV HM = 10 := rfl; clear q HM; intro g11 u11 HG11 HM) | (have q : dV HM = 11 := rfl; clear q HM; intro g12 u12 HG12 HM) | (have q : dV HM = 12 := rfl; clear q HM; intro g13 u13 HG13 HM) | (have q : dV HM = 13 := rfl; clear q HM; intro g14 u14 HG14 HM)))
          refine (live_any _).mono ?_
          rintro e u1 ⟨rfl, hb⟩
          have HM2 := Lib.hid (HM.out.below hb)
          clear hb HM
          have HM := HM2
          clear HM2
          go_wp2_with (first | (refine jL ?_) | (refine jS ?_; clear HM; intro us HM; simp only [List.set, List.setIfInBounds_toArray, List.set_cons_zero, List.set_cons_succ] at HM) | (refine jN ?_; first | (have q : dV HM = 0 := rfl; clear q HM; intro g1 u1 HG1 HM) | (have q : dV HM = 1 := rfl; clear q HM; intro g2 u2 HG2 HM) | (have q : dV HM = 2 := rfl; clear q HM; intro g3 u3 HG3 HM) | (have q : dV HM = 3 := rfl; clear q HM; intro g4 u4 HG4 HM) | (have q : dV HM = 4 := rfl; clear q HM; intro g5 u5 HG5 HM) | (have q : dV HM = 5 := rfl; clear q HM; intro g6 u6 HG6 HM) | (have q : dV HM = 6 := rfl; clear q HM; intro g7 u7 HG7 HM) | (have q : dV HM = 7 := rfl; clear q HM; intro g8 u8 HG8 HM) | (have q : dV HM = 8 := rfl; clear q HM; intro g9 u9 HG9 HM) | (have q : dV HM = 9 := rfl; clear q HM; intro g10 u10 HG10 HM) | (have q : dV HM = 10 := rfl; clear q HM; intro g11 u11 HG11 HM) | (have q : dV HM = 11 := rfl; clear q HM; intro g12 u12 HG12 HM) | (have q : dV HM = 12 := rfl; clear q HM; intro g13 u13 HG13 HM) | (have q : dV HM = 13 := rfl; clear q HM; intro g14 u14 HG14 HM)))
          refine (HFEW.out _ HM.out.1).mono ?_
          rintro e u2 ⟨rfl, hb⟩
          have HM2 := Lib.hid (HM.out.below hb)
          clear hb HM HFEW
          have HM := HM2
          clear HM2
          go_wp2_with (first | (refine jL ?_) | (refine jS ?_; clear HM; intro us HM; simp only [List.set, List.setIfInBounds_toArray, List.set_cons_zero, List.set_cons_succ] at HM) | (refine jN ?_; first | (have q : dV HM = 0 := rfl; clear q HM; intro g1 u1 HG1 HM) | (have q : dV HM = 1 := rfl; clear q HM; intro g2 u2 HG2 HM) | (have q : dV HM = 2 := rfl; clear q HM; intro g3 u3 HG3 HM) | (have q : dV HM = 3 := rfl; clear q HM; intro g4 u4 HG4 HM) | (have q : dV HM = 4 := rfl; clear q HM; intro g5 u5 HG5 HM) | (have q : dV HM = 5 := rfl; clear q HM; intro g6 u6 HG6 HM) | (have q : dV HM = 6 := rfl; clear q HM; intro g7 u7 HG7 HM) | (have q : dV HM = 7 := rfl; clear q HM; intro g8 u8 HG8 HM) | (have q : dV HM = 8 := rfl; clear q HM; intro g9 u9 HG9 HM) | (have q : dV HM = 9 := rfl; clear q HM; intro g10 u10 HG10 HM) | (have q : dV HM = 10 := rfl; clear q HM; intro g11 u11 HG11 HM) | (have q : dV HM = 11 := rfl; clear q HM; intro g12 u12 HG12 HM) | (have q : dV HM = 12 := rfl; clear q HM; intro g13 u13 HG13 HM) | (have q : dV HM = 13 := rfl; clear q HM; intro g14 u14 HG14 HM)))
          refine (HCK.out _ HM.out.1).mono ?_
          rintro e u3 ⟨rfl, hb⟩
          have HM2 := Lib.hid (HM.out.below hb)
          clear hb HM HCK
          have HM := HM2
          clear HM2
          have zc := HZ0.out _ HM.out.1
          go_wp2_with (first | (refine jL ?_) | (refine jS ?_; clear HM; intro us HM; simp only [List.set, List.setIfInBounds_toArray, List.set_cons_zero, List.set_cons_succ] at HM) | (refine jN ?_; first | (have q : dV HM = 0 := rfl; clear q HM; intro g1 u1 HG1 HM) | (have q : dV HM = 1 := rfl; clear q HM; intro g2 u2 HG2 HM) | (have q : dV HM = 2 := rfl; clear q HM; intro g3 u3 HG3 HM) | (have q : dV HM = 3 := rfl; clear q HM; intro g4 u4 HG4 HM) | (have q : dV HM = 4 := rfl; clear q HM; intro g5 u5 HG5 HM) | (have q : dV HM = 5 := rfl; clear q HM; intro g6 u6 HG6 HM) | (have q : dV HM = 6 := rfl; clear q HM; intro g7 u7 HG7 HM) | (have q : dV HM = 7 := rfl; clear q HM; intro g8 u8 HG8 HM) | (have q : dV HM = 8 := rfl; clear q HM; intro g9 u9 HG9 HM) | (have q : dV HM = 9 := rfl; clear q HM; intro g10 u10 HG10 HM) | (have q : dV HM = 10 := rfl; clear q HM; intro g11 u11 HG11 HM) | (have q : dV HM = 11 := rfl; clear q HM; intro g12 u12 HG12 HM) | (have q : dV HM = 12 := rfl; clear q HM; intro g13 u13 HG13 HM) | (have q : dV HM = 13 := rfl; clear q HM; intro g14 u14 HG14 HM)))
          refine (Gaps_any false nx dp dr (some L) n c ls _ (Lib.hid (h.out.keep HM.out.1)) (by omega)).mono ?_
          rintro e u4 hg
          unfold GapP at hg
          obtain ⟨A3, c3, rfl, hg3, hb⟩ := hg
          have HFJ := Lib.hid (show firstJ ⟨false, nx, dp, dr, ls.map pl⟩ = z.s by first | rfl | (unfold firstJ; simp only [Bool.false_eq_true, if_false]; rw [head_of (show (ls.map pl)[0]? = some (pl z) by rw [List.getElem?_map, HZ.out]; rfl)]; rfl))
          have HGA := Lib.hid (gaps_all HOK.out (p := pl p) HPQ.out)
          have HFI := Lib.hid (fun v hv => gap_fill HOK.out (p := pl p) HPQ.out (v := v) hv [1] rfl)
          rw [HFJ.out] at HGA
          obtain ⟨gl, hgl⟩ : ∃ gl, gl = gapsJ ⟨false, nx, dp, dr, ls.map pl⟩ := ⟨_, rfl⟩
          rw [← hgl] at HGA HFI hg3 ⊢
          clear hgl HFJ
          obtain ⟨G, hG⟩ : ∃ G, G = gl.length := ⟨_, rfl⟩
          have HFP := Lib.hid (show z.s ≤ p.s ∧ p.s < z.s + 64 ∧ 0 ≤ z.s by
            have h1 := first_le HOK.out (List.mem_of_getElem? HPQ.out)
            have h3 := bad_iff (HOK.out.2.1 _ (List.mem_of_getElem? HPQ.out))
            have h2 : (ls.map pl)[0]? = some (pl z) := by rw [List.getElem?_map, HZ.out]; rfl
            have h5 : firstJ ⟨false, nx, dp, dr, ls.map pl⟩ = z.s := by unfold firstJ; simp only [Bool.false_eq_true, if_false]; rw [head_of h2]; rfl
            have h4 := bad_iff (HOK.out.2.1 _ (List.mem_of_getElem? h2))
            rw [h5] at h1
            exact ⟨h1.1, h1.2, h4.1⟩)
          have e1 : (G : Int) + (n : Int) = p.s - z.s + 1 := by
            have h1 := HGA.out.1
            simp only [List.length_map] at h1
            rw [h.out.1, ← hG] at h1
            exact h1
          rw [← hG] at hg3 ⊢
          have HRG := Lib.hid hg3
          have HGG := Lib.hid hG
          have HPB := Lib.hid (show 0 ≤ p.s ∧ p.s ≤ 1099511627776 by
            have h3 := bad_iff (HOK.out.2.1 _ (List.mem_of_getElem? HPQ.out))
            exact ⟨h3.1, h3.2.1⟩)
          have HM2 := Lib.hid (HM.out.below hb)
          clear hb HM hg3 hG zc
          have HM := HM2
          clear HM2
          have g64 : (G : Int) ≤ 64 := by have := HFP.out; have := HNM.out; omega
          have E1 := Lib.hid e1
          clear e1
          have pc := HP0.out _ HM.out.1
          go_wp2_with (first | (refine jL ?_) | (refine jS ?_; clear HM; intro us HM; simp only [List.set, List.setIfInBounds_toArray, List.set_cons_zero, List.set_cons_succ] at HM) | (refine jN ?_; first | (have q : dV HM = 0 := rfl; clear q HM; intro g1 u1 HG1 HM) | (have q : dV HM = 1 := rfl; clear q HM; intro g2 u2 HG2 HM) | (have q : dV HM = 2 := rfl; clear q HM; intro g3 u3 HG3 HM) | (have q : dV HM = 3 := rfl; clear q HM; intro g4 u4 HG4 HM) | (have q : dV HM = 4 := rfl; clear q HM; intro g5 u5 HG5 HM) | (have q : dV HM = 5 := rfl; clear q HM; intro g6 u6 HG6 HM) | (have q : dV HM = 6 := rfl; clear q HM; intro g7 u7 HG7 HM) | (have q : dV HM = 7 := rfl; clear q HM; intro g8 u8 HG8 HM) | (have q : dV HM = 8 := rfl; clear q HM; intro g9 u9 HG9 HM) | (have q : dV HM = 9 := rfl; clear q HM; intro g10 u10 HG10 HM) | (have q : dV HM = 10 := rfl; clear q HM; intro g11 u11 HG11 HM) | (have q : dV HM = 11 := rfl; clear q HM; intro g12 u12 HG12 HM) | (have q : dV HM = 12 := rfl; clear q HM; intro g13 u13 HG13 HM) | (have q : dV HM = 13 := rfl; clear q HM; intro g14 u14 HG14 HM)))
          have c44 := HM.out.cell (g := g1) (k := 4) (v := .slice (some L) n c) (by exact vmemOf) rfl
          have w1 : IntKind.i64.wrap ((G : Int) + (n : Int)) = (G : Int) + (n : Int) := IntWalk.i64_in _ (by omega)
          have w2 : IntKind.i64.wrap ((n : Int) - 1) = (m : Int) := by rw [IntWalk.i64_in _ (by omega)]; have := HNM.out; omega
          have w3 : (m : Int) < (n : Int) := by have := HNM.out; omega
          have w5 : IntKind.i64.wrap (p.s - z.s) = p.s - z.s := IntWalk.i64_in _ (by have := HFP.out; have := HPB.out; omega)
          have w6 : IntKind.i64.wrap (p.s - z.s + 1) = p.s - z.s + 1 := IntWalk.i64_in _ (by have := HFP.out; have := HPB.out; omega)
          have d1 : ((G : Int) + (n : Int) != p.s - z.s + 1) = false := by rw [E1.out]; simp
          go_quiet (fail)
          have HM2 := Lib.hid (HM.out.below (below_drewN (Below.refl _ _) nq))
          have HRG2 := Lib.hid (HRG.out.below (below_drewN (Below.refl _ _) nq))
          clear HM HRG c44 w1 w2 w3 w5 w6 d1 pc
          have HM := HM2
          have HRG := HRG2
          clear HM2 HRG2
          generalize World.drewN _ nq = u5 at HM HRG ⊢
          by_cases hg0 : G = 0
          · subst hg0
            go_wp2_with (first | (refine jL ?_) | (refine jS ?_; clear HM; intro us HM; simp only [List.set, List.setIfInBounds_toArray, List.set_cons_zero, List.set_cons_succ] at HM) | (refine jN ?_; first | (have q : dV HM = 0 := rfl; clear q HM; intro g1 u1 HG1 HM) | (have q : dV HM = 1 := rfl; clear q HM; intro g2 u2 HG2 HM) | (have q : dV HM = 2 := rfl; clear q HM; intro g3 u3 HG3 HM) | (have q : dV HM = 3 := rfl; clear q HM; intro g4 u4 HG4 HM) | (have q : dV HM = 4 := rfl; clear q HM; intro g5 u5 HG5 HM) | (have q : dV HM = 5 := rfl; clear q HM; intro g6 u6 HG6 HM) | (have q : dV HM = 6 := rfl; clear q HM; intro g7 u7 HG7 HM) | (have q : dV HM = 7 := rfl; clear q HM; intro g8 u8 HG8 HM) | (have q : dV HM = 8 := rfl; clear q HM; intro g9 u9 HG9 HM) | (have q : dV HM = 9 := rfl; clear q HM; intro g10 u10 HG10 HM) | (have q : dV HM = 10 := rfl; clear q HM; intro g11 u11 HG11 HM) | (have q : dV HM = 11 := rfl; clear q HM; intro g12 u12 HG12 HM) | (have q : dV HM = 12 := rfl; clear q HM; intro g13 u13 HG13 HM) | (have q : dV HM = 13 := rfl; clear q HM; intro g14 u14 HG14 HM)))
            go_ret
            exact ⟨rfl, HM.out.1⟩
          obtain ⟨R0, K, p1, p2, p3, p4, -, p6⟩ := rem_is x (G : Int) (by omega) (by omega)
          have gp : (0 : Int) < (G : Int) := by omega
          have gz : ¬ ((G : Int) = 0) := by omega
          have gw : ((G : Int) == 0) = false := by simpa using gz
          clear hg0
          go_wp2_with (first | (refine jL ?_) | (refine jS ?_; clear HM; intro us HM; simp only [List.set, List.setIfInBounds_toArray, List.set_cons_zero, List.set_cons_succ] at HM) | (refine jN ?_; first | (have q : dV HM = 0 := rfl; clear q HM; intro g1 u1 HG1 HM) | (have q : dV HM = 1 := rfl; clear q HM; intro g2 u2 HG2 HM) | (have q : dV HM = 2 := rfl; clear q HM; intro g3 u3 HG3 HM) | (have q : dV HM = 3 := rfl; clear q HM; intro g4 u4 HG4 HM) | (have q : dV HM = 4 := rfl; clear q HM; intro g5 u5 HG5 HM) | (have q : dV HM = 5 := rfl; clear q HM; intro g6 u6 HG6 HM) | (have q : dV HM = 6 := rfl; clear q HM; intro g7 u7 HG7 HM) | (have q : dV HM = 7 := rfl; clear q HM; intro g8 u8 HG8 HM) | (have q : dV HM = 8 := rfl; clear q HM; intro g9 u9 HG9 HM) | (have q : dV HM = 9 := rfl; clear q HM; intro g10 u10 HG10 HM) | (have q : dV HM = 10 := rfl; clear q HM; intro g11 u11 HG11 HM) | (have q : dV HM = 11 := rfl; clear q HM; intro g12 u12 HG12 HM) | (have q : dV HM = 12 := rfl; clear q HM; intro g13 u13 HG13 HM) | (have q : dV HM = 13 := rfl; clear q HM; intro g14 u14 HG14 HM)))
          obtain ⟨ad, rfl, -⟩ := HRG.out.2 (by omega)
          obtain ⟨v, hv⟩ : ∃ v, v = gl.getD K 0 := ⟨_, rfl⟩
          have HKL := Lib.hid (show K < G by omega)
          have HVM := Lib.hid (show v ∈ gl by
            have h9 : K < gl.length := by rw [← HGG.out]; exact HKL.out
            rw [hv, List.getD_eq_getElem?_getD, List.getElem?_eq_getElem h9]
            exact List.getElem_mem h9)
          have HFV := Lib.hid (HFI.out v HVM.out)
          have HVC := Lib.hid (fun (u : World) (hu : Below u5.heap.size u5 u) => show u.cell? (ad.add K) = some (.int .i64 v) by rw [hv]; exact (HRG.out.below hu).cell HKL.out)
          have HPOK := Lib.hid (show OkJ ⟨false, nx, dp, dr, ls.map pl⟩ ∧ goodL [(v, [1])] = true from ⟨HOK.out, by unfold goodL; rw [List.any_cons, List.any_nil, HFV.out.2.1]; rfl⟩)
          have HPP := Lib.hid (show (putsJ ⟨false, nx, dp, dr, ls.map pl⟩ [(v, [1])]).q = (putS ⟨false, nx, dp, dr, ls.map pl⟩ (v, [1])).q ∧ outsJ ⟨false, nx, dp, dr, ls.map pl⟩ [(v, [1])] = [0] ∧ (putS ⟨false, nx, dp, dr, ls.map pl⟩ (v, [1])).q.length = n + 1 from ⟨rfl, by show [(putR _ _).1] = [0]; rw [HFV.out.1], by
            have h9 := putR_cases ⟨false, nx, dp, dr, ls.map pl⟩ (v, [1])
            rcases h9 with ⟨_, h8⟩ | ⟨_, h8, _⟩
            · have := HFV.out.1; omega
            · unfold putS
              rw [h8, List.length_append, List.length_cons, List.length_take, List.length_drop]
              have : (ls.map pl).length = n := by rw [List.length_map]; exact h.out.1
              simp only at this ⊢
              omega⟩)
          have HRD := Lib.hid (fun (u : World) (hu : Below u5.heap.size u5 u) => h.out.keep (HM.out.1.trans (hu.mono HM.out.1.size)))
          have HJB := HM.out.get (g := g1) (T := 24) (cs := #[.bool false, .int .i64 nx, .int .i64 dp, .int .i64 dr, .slice (some L) n c]) (by exact vmemOf)
          have HLJ := Lib.hid (fun (u : World) (hu : Below u5.heap.size u5 u) => run_load_blk (T := 24) rowJt (HJB.below hu HJB.lt) rfl)
          have HLV := Lib.hid (fun (u : World) (hu : Below u5.heap.size u5 u) => run_load_int (HVC.out u hu))
          have kg : (K : Int) < (G : Int) := p6
          clear HJB hv p1 p2 p3 p4 p6
          refine wp_region_held_drew (S := fun u => Below u5.heap.size u5 u) (by kernel_rfl) (Below.drew (Below.refl _ _)) (fun hHeld => ?_); have HB := Lib.hid (show Below u5.heap.size u5 (World.drew u5) from Below.drew (Below.refl _ _)); generalize World.drew u5 = u0 at HB hHeld ⊢
          (refine wa_take (i := 0) rfl (by kernel_rfl) (by kernel_rfl) (by kernel_rfl) (fun _ _ _ h => h) (yv_load rfl _ _ rfl rfl (HLJ.out)) hHeld rfl ?_; (try simp only [Act.put, List.setIfInBounds_toArray, List.set_cons_zero, List.set_cons_succ]))
          (refine wa_take (i := 1) (v := .slice (some ad) G c3) rfl (by kernel_rfl) (by kernel_rfl) (by kernel_rfl) (fun _ _ _ h => h) (yi_free rfl (fun u => rfl)) hHeld rfl ?_; (try simp only [Act.put, List.setIfInBounds_toArray, List.set_cons_zero, List.set_cons_succ]))
          (refine wa_take (i := 2) (v := .int .i64 (K : Int)) rfl (by kernel_rfl) (by kernel_rfl) (by kernel_rfl) (fun _ _ _ h => h) (yi_free rfl (fun u => rfl)) hHeld rfl ?_; (try simp only [Act.put, List.setIfInBounds_toArray, List.set_cons_zero, List.set_cons_succ]))
          (refine wa_take (i := 3) (v := .pointer (some (ad.add K))) rfl (by kernel_rfl) (by kernel_rfl) (by kernel_rfl) (fun _ _ _ h => h) (yi_free rfl (fun u => by go_simp)) hHeld rfl ?_; (try simp only [Act.put, List.setIfInBounds_toArray, List.set_cons_zero, List.set_cons_succ]))
          (refine wa_take (i := 4) rfl (by kernel_rfl) (by kernel_rfl) (by kernel_rfl) (fun _ _ _ h => h) (yv_load rfl _ _ rfl rfl (HLV.out)) hHeld rfl ?_; (try simp only [Act.put, List.setIfInBounds_toArray, List.set_cons_zero, List.set_cons_succ]))
          refine wpAnyH_ready (rs := [5, 13]) (by kernel_rfl) (by simp) ?_; refine AllReadyH.cons rfl (fun K hK => ?_) (AllReadyH.cons rfl (fun K hK => ?_) (AllReadyH.nil))
          · rw [if_pos (by rfl)]
            refine ow_b1 _ rfl rfl HB ?_
            intro gb uc HB2 hb9 HBb HGb
            clear HB
            have HB := HB2
            clear HB2 hb9
            refine hK.out _ _ HB.out (fun hHeld => ?_)
            clear hK K
            (try simp only [Act.put, List.setIfInBounds_toArray, List.set_cons_zero, List.set_cons_succ])
            (refine wa_take (i := 6) (v := .agg #[.int .i64 v, .slice (some ⟨gb, 0, none⟩) 1 1]) rfl (by kernel_rfl) (by kernel_rfl) (by kernel_rfl) (fun _ _ _ h => h) (yi_free rfl (fun u => by go_simp)) hHeld rfl ?_; (try simp only [Act.put, List.setIfInBounds_toArray, List.set_cons_zero, List.set_cons_succ]))
            refine wpAnyH_ready (rs := [7, 13]) (by kernel_rfl) (by simp) ?_; refine AllReadyH.cons rfl (fun K hK => ?_) (AllReadyH.cons rfl (fun K hK => ?_) (AllReadyH.nil))
            · rw [if_pos (by rfl)]
              refine ow_k1 _ rfl rfl HB ?_
              intro gp uc HB2 hb9 HBp HGp
              have X2 := Lib.hid (HBb.out.below hb9.out HBb.out.lt)
              clear HBb
              have HBb := X2
              clear X2
              clear HB
              have HB := HB2
              clear HB2 hb9
              refine hK.out _ _ HB.out (fun hHeld => ?_)
              clear hK K
              (try simp only [Act.put, List.setIfInBounds_toArray, List.set_cons_zero, List.set_cons_succ])
              refine wpAnyH_ready (rs := [8, 13]) (by kernel_rfl) (by simp) ?_; refine AllReadyH.cons rfl (fun K hK => ?_) (AllReadyH.cons rfl (fun K hK => ?_) (AllReadyH.nil))
              · rw [if_pos (by rfl)]; go_simp
                refine (Put_to false nx dp dr (some L) n c ls (some ⟨gp, 0, none⟩) 1 1 [⟨v, some ⟨gb, 0, none⟩, 1, 1, [(1 : Int).toNat]⟩] _ (ls.map pl) (putS ⟨false, nx, dp, dr, ls.map pl⟩ (v, [1])).q [(v, [1])] [0] (n + 1) (Lib.hid (HRD.out _ HB.out)) (Lib.hid rfl) (Lib.hid (rdP_two HBp.out HBb.out (by decide) (by decide))) (Lib.hid rfl) (by decide) HPOK (by omega) HPP).mono ?_
                rintro e u6 ⟨A6, c6, l6, B6, rfl, hq6, hk6, hb⟩
                have HQ6 := Lib.hid hq6
                clear hq6
                have hk7 := hk6 [] (fun x hx => (nomatch hx))
                have KR := Lib.hid hk7.1
                have KI := Lib.hid hk7.2
                clear hk6 hk7
                have X2 := Lib.hid (HBb.out.below hb HBb.out.lt)
                clear HBb
                have HBb := X2
                clear X2
                have X2 := Lib.hid (HBp.out.below hb HBp.out.lt)
                clear HBp
                have HBp := X2
                clear X2
                have HB1 := Lib.hid (HB.out.trans (hb.mono HB.out.size)); clear hb HB; have HB := HB1; clear HB1; go_wp2_with fail; refine hK.out _ _ HB.out (fun hHeld => ?_); clear hK K; (try simp only [Act.put, List.setIfInBounds_toArray, List.set_cons_zero, List.set_cons_succ])
                (refine wa_take (i := 9) (v := .tuple #[jtV false nx dp dr A6 (n + 1) c6, .slice B6 1 1, .int .i64 0]) rfl (by kernel_rfl) (by kernel_rfl) (by kernel_rfl) (fun _ _ _ h => h) (yi_free rfl (fun u => rfl)) hHeld rfl ?_; (try simp only [Act.put, List.setIfInBounds_toArray, List.set_cons_zero, List.set_cons_succ]))
                (refine wa_take (i := 10) (v := jtV false nx dp dr A6 (n + 1) c6) rfl (by kernel_rfl) (by kernel_rfl) (by kernel_rfl) (fun _ _ _ h => h) (yi_free rfl (fun u => rfl)) hHeld rfl ?_; (try simp only [Act.put, List.setIfInBounds_toArray, List.set_cons_zero, List.set_cons_succ]))
                (refine wa_take (i := 11) (v := .slice B6 1 1) rfl (by kernel_rfl) (by kernel_rfl) (by kernel_rfl) (fun _ _ _ h => h) (yi_free rfl (fun u => rfl)) hHeld rfl ?_; (try simp only [Act.put, List.setIfInBounds_toArray, List.set_cons_zero, List.set_cons_succ]))
                (refine wa_take (i := 12) (v := .int .i64 0) rfl (by kernel_rfl) (by kernel_rfl) (by kernel_rfl) (fun _ _ _ h => h) (yi_free rfl (fun u => rfl)) hHeld rfl ?_; (try simp only [Act.put, List.setIfInBounds_toArray, List.set_cons_zero, List.set_cons_succ]))
                refine wpAnyH_ready (rs := [13]) (by kernel_rfl) (by simp) ?_; refine AllReadyH.cons rfl (fun K hK => ?_) (AllReadyH.nil)
                rw [if_pos (by rfl)]
                refine ow_al rfl HB ?_
                intro g8 uc HB2 hb9 HBj HGj HGc
                have X2 := Lib.hid (HBb.out.below hb9.out HBb.out.lt)
                clear HBb
                have HBb := X2
                clear X2
                have X2 := Lib.hid (HBp.out.below hb9.out HBp.out.lt)
                clear HBp
                have HBp := X2
                clear X2
                have KR2 := Lib.hid (KR.out.wide (Ch.of_below hb9.out []) (gs := [g8]) (fun x hx => by rw [List.mem_singleton.1 hx]; exact HGc.out))
                have KI2 := Lib.hid (KI.out.wide (Ch.of_below hb9.out []) (gs := [g8]) (fun x hx => by rw [List.mem_singleton.1 hx]; exact HGc.out))
                clear KR KI
                have KR := KR2
                have KI := KI2
                clear KR2 KI2
                clear HGc
                clear HB
                have HB := HB2
                clear HB2 hb9
                refine hK.out _ _ HB.out (fun hHeld => ?_)
                clear hK K
                (try simp only [Act.put, List.setIfInBounds_toArray, List.set_cons_zero, List.set_cons_succ])
                have HMc : Hid (MV w _ [(g8, 24, #[.bool false, .int .i64 0, .int .i64 0, .int .i64 0, .slice none 0 0])] _) := Lib.hid ((HM.out.add HB.out HGj.out HBj.out).sub ((List.Sublist.refl [_]).append (List.nil_sublist _)))
                have HBC := Lib.hid HMc.out.1
                refine wpAnyH_ready (rs := [14]) (by kernel_rfl) (by simp) ?_; refine AllReadyH.cons rfl (fun K hK => ?_) (AllReadyH.nil)
                rw [if_pos (by rfl)]
                refine ov_store _ _ _ rfl rfl rfl (by exact rowOf) HMc (by exact vidxOf) (by exact vsizOf) (by exact vsizOf) (by exact voneOf) rfl ?_
                clear HM
                intro u8 HM
                try dsimp only [List.set] at HM
                have HCS := Lib.hid (Ch.mv HBC.out HM.out (gs := [g8]) mem_one)
                have HB2 := Lib.hid (HCS.out.below HB.out (fun x hx => by rw [List.mem_singleton.1 hx]; exact HGj.out) HB.out.size)
                have KR2 := Lib.hid (KR.out.step HCS.out)
                have KI2 := Lib.hid (KI.out.step HCS.out)
                clear HB KR KI HMc HBC HCS
                have HB := HB2
                have KR := KR2
                have KI := KI2
                clear HB2 KR2 KI2
                refine hK.out _ _ HB.out (fun hHeld => ?_)
                clear hK K
                (try simp only [Act.put, List.setIfInBounds_toArray, List.set_cons_zero, List.set_cons_succ])
                (refine wa_take (i := 15) (v := .slice B6 1 1) rfl (by kernel_rfl) (by kernel_rfl) (by kernel_rfl) (fun _ _ _ h => h) (yi_free rfl (fun u => rfl)) hHeld rfl ?_; (try simp only [Act.put, List.setIfInBounds_toArray, List.set_cons_zero, List.set_cons_succ]))
                (refine wa_take (i := 16) (v := .int .i64 0) rfl (by kernel_rfl) (by kernel_rfl) (by kernel_rfl) (fun _ _ _ h => h) (yi_free rfl (fun u => rfl)) hHeld rfl ?_; (try simp only [Act.put, List.setIfInBounds_toArray, List.set_cons_zero, List.set_cons_succ]))
                refine wpAnyH_done (by kernel_rfl) ?_ _
                clear hHeld
                have HGE := Lib.hid (show gapsJ ⟨false, nx, dp, dr, l6.map pl⟩ = gapsJ (putS ⟨false, nx, dp, dr, ls.map pl⟩ (v, [1])) by rw [HQ6.out]; rfl)
                have HF2 := Lib.hid HFV.out.2.2.2
                obtain ⟨g2, hg2⟩ : ∃ g2, g2 = gapsJ (putS ⟨false, nx, dp, dr, ls.map pl⟩ (v, [1])) := ⟨_, rfl⟩
                rw [← hg2] at HGE HF2
                obtain ⟨G2, hG2⟩ : ∃ G2, G2 = g2.length := ⟨_, rfl⟩
                have HGS := Lib.hid (show G2 + 1 = G by rw [hG2, HGG.out]; exact HF2.out.1)
                have HG2L := Lib.hid hG2
                clear hg2 hG2
                go_wp2_with (first | (refine jL ?_) | (refine jS ?_; clear HM; intro us HM; simp only [List.set, List.setIfInBounds_toArray, List.set_cons_zero, List.set_cons_succ] at HM) | (refine jN ?_; first | (have q : dV HM = 0 := rfl; clear q HM; intro g1 u1 HG1 HM) | (have q : dV HM = 1 := rfl; clear q HM; intro g2 u2 HG2 HM) | (have q : dV HM = 2 := rfl; clear q HM; intro g3 u3 HG3 HM) | (have q : dV HM = 3 := rfl; clear q HM; intro g4 u4 HG4 HM) | (have q : dV HM = 4 := rfl; clear q HM; intro g5 u5 HG5 HM) | (have q : dV HM = 5 := rfl; clear q HM; intro g6 u6 HG6 HM) | (have q : dV HM = 6 := rfl; clear q HM; intro g7 u7 HG7 HM) | (have q : dV HM = 7 := rfl; clear q HM; intro g8 u8 HG8 HM) | (have q : dV HM = 8 := rfl; clear q HM; intro g9 u9 HG9 HM) | (have q : dV HM = 9 := rfl; clear q HM; intro g10 u10 HG10 HM) | (have q : dV HM = 10 := rfl; clear q HM; intro g11 u11 HG11 HM) | (have q : dV HM = 11 := rfl; clear q HM; intro g12 u12 HG12 HM) | (have q : dV HM = 12 := rfl; clear q HM; intro g13 u13 HG13 HM) | (have q : dV HM = 13 := rfl; clear q HM; intro g14 u14 HG14 HM)))
                refine (Gaps_any false nx dp dr A6 (n + 1) c6 l6 _ (Lib.hid KR.out.now) (by omega)).mono ?_
                rintro e u9 hg
                unfold GapP at hg
                rw [HGE.out, ← HG2L.out] at hg
                obtain ⟨A9, c9, rfl, hr9, hb⟩ := hg
                have HR9 := Lib.hid hr9
                have HB2 := Lib.hid (HB.out.trans (hb.mono HB.out.size))
                have KI2 := Lib.hid (KI.out.call hb)
                have HM2 := Lib.hid (HM.out.below hb)
                clear hr9 hb HB KI KR HM
                have HB := HB2
                have KI := KI2
                have HM := HM2
                clear HB2 KI2 HM2
                go_wp2_with (first | (refine wv_i1 (by rfl) _ rfl rfl HM ?_; clear HM; intro gi ub HEQ HBB HM) | (first | (refine jL ?_) | (refine jS ?_; clear HM; intro us HM; simp only [List.set, List.setIfInBounds_toArray, List.set_cons_zero, List.set_cons_succ] at HM) | (refine jN ?_; first | (have q : dV HM = 0 := rfl; clear q HM; intro g1 u1 HG1 HM) | (have q : dV HM = 1 := rfl; clear q HM; intro g2 u2 HG2 HM) | (have q : dV HM = 2 := rfl; clear q HM; intro g3 u3 HG3 HM) | (have q : dV HM = 3 := rfl; clear q HM; intro g4 u4 HG4 HM) | (have q : dV HM = 4 := rfl; clear q HM; intro g5 u5 HG5 HM) | (have q : dV HM = 5 := rfl; clear q HM; intro g6 u6 HG6 HM) | (have q : dV HM = 6 := rfl; clear q HM; intro g7 u7 HG7 HM) | (have q : dV HM = 7 := rfl; clear q HM; intro g8 u8 HG8 HM) | (have q : dV HM = 8 := rfl; clear q HM; intro g9 u9 HG9 HM) | (have q : dV HM = 9 := rfl; clear q HM; intro g10 u10 HG10 HM) | (have q : dV HM = 10 := rfl; clear q HM; intro g11 u11 HG11 HM) | (have q : dV HM = 11 := rfl; clear q HM; intro g12 u12 HG12 HM) | (have q : dV HM = 12 := rfl; clear q HM; intro g13 u13 HG13 HM) | (have q : dV HM = 13 := rfl; clear q HM; intro g14 u14 HG14 HM))))
                have HB2 := Lib.hid (HB.out.trans (HBB.out.mono HB.out.size))
                refine (requal_any B6 (some ⟨gi, 0, none⟩) 1 1 1 1 [0] [0] true _ (by decide) (by decide) (KI.out.call HBB.out).now (RdI.of_blk (HM.out.get (g := gi) (by exact vmemOf)) rfl) (by decide)).mono ?_
                rintro e u ⟨rfl, q, rfl⟩
                have HM2 := Lib.hid (HM.out.below (below_drewN (Below.refl _ _) q))
                have hvc := HVC.out _ (below_drewN HB2.out q)
                have HR10 := Lib.hid ((HR9.out.below HBB.out).below (below_drewN (Below.refl _ _) q))
                clear HM HB HB2 HBB HEQ KI HR9
                have HM := HM2
                clear HM2
                generalize World.drewN _ q = ud at HM hvc HR10 ⊢
                have wg : IntKind.i64.wrap ((G : Int) - 1) = (G2 : Int) := by rw [IntWalk.i64_in _ (by omega)]; have := HGS.out; omega
                go_wp2_with (first | (refine wv_ldA (by rfl) 3 _ rfl rfl oneInt hvc ?_) | (first | (refine jL ?_) | (refine jS ?_; clear HM; intro us HM; simp only [List.set, List.setIfInBounds_toArray, List.set_cons_zero, List.set_cons_succ] at HM) | (refine jN ?_; first | (have q : dV HM = 0 := rfl; clear q HM; intro g1 u1 HG1 HM) | (have q : dV HM = 1 := rfl; clear q HM; intro g2 u2 HG2 HM) | (have q : dV HM = 2 := rfl; clear q HM; intro g3 u3 HG3 HM) | (have q : dV HM = 3 := rfl; clear q HM; intro g4 u4 HG4 HM) | (have q : dV HM = 4 := rfl; clear q HM; intro g5 u5 HG5 HM) | (have q : dV HM = 5 := rfl; clear q HM; intro g6 u6 HG6 HM) | (have q : dV HM = 6 := rfl; clear q HM; intro g7 u7 HG7 HM) | (have q : dV HM = 7 := rfl; clear q HM; intro g8 u8 HG8 HM) | (have q : dV HM = 8 := rfl; clear q HM; intro g9 u9 HG9 HM) | (have q : dV HM = 9 := rfl; clear q HM; intro g10 u10 HG10 HM) | (have q : dV HM = 10 := rfl; clear q HM; intro g11 u11 HG11 HM) | (have q : dV HM = 11 := rfl; clear q HM; intro g12 u12 HG12 HM) | (have q : dV HM = 12 := rfl; clear q HM; intro g13 u13 HG13 HM) | (have q : dV HM = 13 := rfl; clear q HM; intro g14 u14 HG14 HM))))
                refine (has_any A9 G2 c9 g2 v _ HR10 (by have := HGS.out; omega)).mono ?_
                rw [decide_eq_false HF2.out.2]
                rintro e u ⟨rfl, hb⟩
                have HM2 := Lib.hid (HM.out.below hb)
                clear hb HM
                have HM := HM2
                clear HM2
                go_wp2_with (first | (refine jL ?_) | (refine jS ?_; clear HM; intro us HM; simp only [List.set, List.setIfInBounds_toArray, List.set_cons_zero, List.set_cons_succ] at HM) | (refine jN ?_; first | (have q : dV HM = 0 := rfl; clear q HM; intro g1 u1 HG1 HM) | (have q : dV HM = 1 := rfl; clear q HM; intro g2 u2 HG2 HM) | (have q : dV HM = 2 := rfl; clear q HM; intro g3 u3 HG3 HM) | (have q : dV HM = 3 := rfl; clear q HM; intro g4 u4 HG4 HM) | (have q : dV HM = 4 := rfl; clear q HM; intro g5 u5 HG5 HM) | (have q : dV HM = 5 := rfl; clear q HM; intro g6 u6 HG6 HM) | (have q : dV HM = 6 := rfl; clear q HM; intro g7 u7 HG7 HM) | (have q : dV HM = 7 := rfl; clear q HM; intro g8 u8 HG8 HM) | (have q : dV HM = 8 := rfl; clear q HM; intro g9 u9 HG9 HM) | (have q : dV HM = 9 := rfl; clear q HM; intro g10 u10 HG10 HM) | (have q : dV HM = 10 := rfl; clear q HM; intro g11 u11 HG11 HM) | (have q : dV HM = 11 := rfl; clear q HM; intro g12 u12 HG12 HM) | (have q : dV HM = 12 := rfl; clear q HM; intro g13 u13 HG13 HM) | (have q : dV HM = 13 := rfl; clear q HM; intro g14 u14 HG14 HM)))
                go_ret
                exact ⟨rfl, HM.out.1⟩
              · rw [if_pos (by rfl)]
                refine ow_al rfl HB ?_
                intro g8 uc HB2 hb9 HBj HGj HGc
                have X2 := Lib.hid (HBb.out.below hb9.out HBb.out.lt)
                clear HBb
                have HBb := X2
                clear X2
                have X2 := Lib.hid (HBp.out.below hb9.out HBp.out.lt)
                clear HBp
                have HBp := X2
                clear X2
                clear HGc
                clear HB
                have HB := HB2
                clear HB2 hb9
                refine hK.out _ _ HB.out (fun hHeld => ?_)
                clear hK K
                (try simp only [Act.put, List.setIfInBounds_toArray, List.set_cons_zero, List.set_cons_succ])
                refine wpAnyH_ready (rs := [8]) (by kernel_rfl) (by simp) ?_; refine AllReadyH.cons rfl (fun K hK => ?_) (AllReadyH.nil)
                rw [if_pos (by rfl)]; go_simp
                have hl8 := HBj.out.lt
                refine (Put_to false nx dp dr (some L) n c ls (some ⟨gp, 0, none⟩) 1 1 [⟨v, some ⟨gb, 0, none⟩, 1, 1, [(1 : Int).toNat]⟩] _ (ls.map pl) (putS ⟨false, nx, dp, dr, ls.map pl⟩ (v, [1])).q [(v, [1])] [0] (n + 1) (Lib.hid (HRD.out _ HB.out)) (Lib.hid rfl) (Lib.hid (rdP_two HBp.out HBb.out (by decide) (by decide))) (Lib.hid rfl) (by decide) HPOK (by omega) HPP).mono ?_
                rintro e u6 ⟨A6, c6, l6, B6, rfl, hq6, hk6, hb⟩
                have HQ6 := Lib.hid hq6
                clear hq6
                have hk7 := hk6 [g8] (fun x hx => by rw [List.mem_singleton.1 hx]; exact hl8)
                clear hl8
                have KR := Lib.hid hk7.1
                have KI := Lib.hid hk7.2
                clear hk6 hk7
                have X2 := Lib.hid (HBb.out.below hb HBb.out.lt)
                clear HBb
                have HBb := X2
                clear X2
                have X2 := Lib.hid (HBp.out.below hb HBp.out.lt)
                clear HBp
                have HBp := X2
                clear X2
                have X2 := Lib.hid (HBj.out.below hb HBj.out.lt)
                clear HBj
                have HBj := X2
                clear X2
                have HB1 := Lib.hid (HB.out.trans (hb.mono HB.out.size)); clear hb HB; have HB := HB1; clear HB1; go_wp2_with fail; refine hK.out _ _ HB.out (fun hHeld => ?_); clear hK K; (try simp only [Act.put, List.setIfInBounds_toArray, List.set_cons_zero, List.set_cons_succ])
                (refine wa_take (i := 9) (v := .tuple #[jtV false nx dp dr A6 (n + 1) c6, .slice B6 1 1, .int .i64 0]) rfl (by kernel_rfl) (by kernel_rfl) (by kernel_rfl) (fun _ _ _ h => h) (yi_free rfl (fun u => rfl)) hHeld rfl ?_; (try simp only [Act.put, List.setIfInBounds_toArray, List.set_cons_zero, List.set_cons_succ]))
                (refine wa_take (i := 10) (v := jtV false nx dp dr A6 (n + 1) c6) rfl (by kernel_rfl) (by kernel_rfl) (by kernel_rfl) (fun _ _ _ h => h) (yi_free rfl (fun u => rfl)) hHeld rfl ?_; (try simp only [Act.put, List.setIfInBounds_toArray, List.set_cons_zero, List.set_cons_succ]))
                (refine wa_take (i := 11) (v := .slice B6 1 1) rfl (by kernel_rfl) (by kernel_rfl) (by kernel_rfl) (fun _ _ _ h => h) (yi_free rfl (fun u => rfl)) hHeld rfl ?_; (try simp only [Act.put, List.setIfInBounds_toArray, List.set_cons_zero, List.set_cons_succ]))
                (refine wa_take (i := 12) (v := .int .i64 0) rfl (by kernel_rfl) (by kernel_rfl) (by kernel_rfl) (fun _ _ _ h => h) (yi_free rfl (fun u => rfl)) hHeld rfl ?_; (try simp only [Act.put, List.setIfInBounds_toArray, List.set_cons_zero, List.set_cons_succ]))
                have HMc : Hid (MV w _ [(g8, 24, #[.bool false, .int .i64 0, .int .i64 0, .int .i64 0, .slice none 0 0])] _) := Lib.hid ((HM.out.add HB.out HGj.out HBj.out).sub ((List.Sublist.refl [_]).append (List.nil_sublist _)))
                have HBC := Lib.hid HMc.out.1
                refine wpAnyH_ready (rs := [14]) (by kernel_rfl) (by simp) ?_; refine AllReadyH.cons rfl (fun K hK => ?_) (AllReadyH.nil)
                rw [if_pos (by rfl)]
                refine ov_store _ _ _ rfl rfl rfl (by exact rowOf) HMc (by exact vidxOf) (by exact vsizOf) (by exact vsizOf) (by exact voneOf) rfl ?_
                clear HM
                intro u8 HM
                try dsimp only [List.set] at HM
                have HCS := Lib.hid (Ch.mv HBC.out HM.out (gs := [g8]) mem_one)
                have HB2 := Lib.hid (HCS.out.below HB.out (fun x hx => by rw [List.mem_singleton.1 hx]; exact HGj.out) HB.out.size)
                have KR2 := Lib.hid (KR.out.step HCS.out)
                have KI2 := Lib.hid (KI.out.step HCS.out)
                clear HB KR KI HMc HBC HCS
                have HB := HB2
                have KR := KR2
                have KI := KI2
                clear HB2 KR2 KI2
                refine hK.out _ _ HB.out (fun hHeld => ?_)
                clear hK K
                (try simp only [Act.put, List.setIfInBounds_toArray, List.set_cons_zero, List.set_cons_succ])
                (refine wa_take (i := 15) (v := .slice B6 1 1) rfl (by kernel_rfl) (by kernel_rfl) (by kernel_rfl) (fun _ _ _ h => h) (yi_free rfl (fun u => rfl)) hHeld rfl ?_; (try simp only [Act.put, List.setIfInBounds_toArray, List.set_cons_zero, List.set_cons_succ]))
                (refine wa_take (i := 16) (v := .int .i64 0) rfl (by kernel_rfl) (by kernel_rfl) (by kernel_rfl) (fun _ _ _ h => h) (yi_free rfl (fun u => rfl)) hHeld rfl ?_; (try simp only [Act.put, List.setIfInBounds_toArray, List.set_cons_zero, List.set_cons_succ]))
                refine wpAnyH_done (by kernel_rfl) ?_ _
                clear hHeld
                have HGE := Lib.hid (show gapsJ ⟨false, nx, dp, dr, l6.map pl⟩ = gapsJ (putS ⟨false, nx, dp, dr, ls.map pl⟩ (v, [1])) by rw [HQ6.out]; rfl)
                have HF2 := Lib.hid HFV.out.2.2.2
                obtain ⟨g2, hg2⟩ : ∃ g2, g2 = gapsJ (putS ⟨false, nx, dp, dr, ls.map pl⟩ (v, [1])) := ⟨_, rfl⟩
                rw [← hg2] at HGE HF2
                obtain ⟨G2, hG2⟩ : ∃ G2, G2 = g2.length := ⟨_, rfl⟩
                have HGS := Lib.hid (show G2 + 1 = G by rw [hG2, HGG.out]; exact HF2.out.1)
                have HG2L := Lib.hid hG2
                clear hg2 hG2
                go_wp2_with (first | (refine jL ?_) | (refine jS ?_; clear HM; intro us HM; simp only [List.set, List.setIfInBounds_toArray, List.set_cons_zero, List.set_cons_succ] at HM) | (refine jN ?_; first | (have q : dV HM = 0 := rfl; clear q HM; intro g1 u1 HG1 HM) | (have q : dV HM = 1 := rfl; clear q HM; intro g2 u2 HG2 HM) | (have q : dV HM = 2 := rfl; clear q HM; intro g3 u3 HG3 HM) | (have q : dV HM = 3 := rfl; clear q HM; intro g4 u4 HG4 HM) | (have q : dV HM = 4 := rfl; clear q HM; intro g5 u5 HG5 HM) | (have q : dV HM = 5 := rfl; clear q HM; intro g6 u6 HG6 HM) | (have q : dV HM = 6 := rfl; clear q HM; intro g7 u7 HG7 HM) | (have q : dV HM = 7 := rfl; clear q HM; intro g8 u8 HG8 HM) | (have q : dV HM = 8 := rfl; clear q HM; intro g9 u9 HG9 HM) | (have q : dV HM = 9 := rfl; clear q HM; intro g10 u10 HG10 HM) | (have q : dV HM = 10 := rfl; clear q HM; intro g11 u11 HG11 HM) | (have q : dV HM = 11 := rfl; clear q HM; intro g12 u12 HG12 HM) | (have q : dV HM = 12 := rfl; clear q HM; intro g13 u13 HG13 HM) | (have q : dV HM = 13 := rfl; clear q HM; intro g14 u14 HG14 HM)))
                refine (Gaps_any false nx dp dr A6 (n + 1) c6 l6 _ (Lib.hid KR.out.now) (by omega)).mono ?_
                rintro e u9 hg
                unfold GapP at hg
                rw [HGE.out, ← HG2L.out] at hg
                obtain ⟨A9, c9, rfl, hr9, hb⟩ := hg
                have HR9 := Lib.hid hr9
                have HB2 := Lib.hid (HB.out.trans (hb.mono HB.out.size))
                have KI2 := Lib.hid (KI.out.call hb)
                have HM2 := Lib.hid (HM.out.below hb)
                clear hr9 hb HB KI KR HM
                have HB := HB2
                have KI := KI2
                have HM := HM2
                clear HB2 KI2 HM2
                go_wp2_with (first | (refine wv_i1 (by rfl) _ rfl rfl HM ?_; clear HM; intro gi ub HEQ HBB HM) | (first | (refine jL ?_) | (refine jS ?_; clear HM; intro us HM; simp only [List.set, List.setIfInBounds_toArray, List.set_cons_zero, List.set_cons_succ] at HM) | (refine jN ?_; first | (have q : dV HM = 0 := rfl; clear q HM; intro g1 u1 HG1 HM) | (have q : dV HM = 1 := rfl; clear q HM; intro g2 u2 HG2 HM) | (have q : dV HM = 2 := rfl; clear q HM; intro g3 u3 HG3 HM) | (have q : dV HM = 3 := rfl; clear q HM; intro g4 u4 HG4 HM) | (have q : dV HM = 4 := rfl; clear q HM; intro g5 u5 HG5 HM) | (have q : dV HM = 5 := rfl; clear q HM; intro g6 u6 HG6 HM) | (have q : dV HM = 6 := rfl; clear q HM; intro g7 u7 HG7 HM) | (have q : dV HM = 7 := rfl; clear q HM; intro g8 u8 HG8 HM) | (have q : dV HM = 8 := rfl; clear q HM; intro g9 u9 HG9 HM) | (have q : dV HM = 9 := rfl; clear q HM; intro g10 u10 HG10 HM) | (have q : dV HM = 10 := rfl; clear q HM; intro g11 u11 HG11 HM) | (have q : dV HM = 11 := rfl; clear q HM; intro g12 u12 HG12 HM) | (have q : dV HM = 12 := rfl; clear q HM; intro g13 u13 HG13 HM) | (have q : dV HM = 13 := rfl; clear q HM; intro g14 u14 HG14 HM))))
                have HB2 := Lib.hid (HB.out.trans (HBB.out.mono HB.out.size))
                refine (requal_any B6 (some ⟨gi, 0, none⟩) 1 1 1 1 [0] [0] true _ (by decide) (by decide) (KI.out.call HBB.out).now (RdI.of_blk (HM.out.get (g := gi) (by exact vmemOf)) rfl) (by decide)).mono ?_
                rintro e u ⟨rfl, q, rfl⟩
                have HM2 := Lib.hid (HM.out.below (below_drewN (Below.refl _ _) q))
                have hvc := HVC.out _ (below_drewN HB2.out q)
                have HR10 := Lib.hid ((HR9.out.below HBB.out).below (below_drewN (Below.refl _ _) q))
                clear HM HB HB2 HBB HEQ KI HR9
                have HM := HM2
                clear HM2
                generalize World.drewN _ q = ud at HM hvc HR10 ⊢
                have wg : IntKind.i64.wrap ((G : Int) - 1) = (G2 : Int) := by rw [IntWalk.i64_in _ (by omega)]; have := HGS.out; omega
                go_wp2_with (first | (refine wv_ldA (by rfl) 3 _ rfl rfl oneInt hvc ?_) | (first | (refine jL ?_) | (refine jS ?_; clear HM; intro us HM; simp only [List.set, List.setIfInBounds_toArray, List.set_cons_zero, List.set_cons_succ] at HM) | (refine jN ?_; first | (have q : dV HM = 0 := rfl; clear q HM; intro g1 u1 HG1 HM) | (have q : dV HM = 1 := rfl; clear q HM; intro g2 u2 HG2 HM) | (have q : dV HM = 2 := rfl; clear q HM; intro g3 u3 HG3 HM) | (have q : dV HM = 3 := rfl; clear q HM; intro g4 u4 HG4 HM) | (have q : dV HM = 4 := rfl; clear q HM; intro g5 u5 HG5 HM) | (have q : dV HM = 5 := rfl; clear q HM; intro g6 u6 HG6 HM) | (have q : dV HM = 6 := rfl; clear q HM; intro g7 u7 HG7 HM) | (have q : dV HM = 7 := rfl; clear q HM; intro g8 u8 HG8 HM) | (have q : dV HM = 8 := rfl; clear q HM; intro g9 u9 HG9 HM) | (have q : dV HM = 9 := rfl; clear q HM; intro g10 u10 HG10 HM) | (have q : dV HM = 10 := rfl; clear q HM; intro g11 u11 HG11 HM) | (have q : dV HM = 11 := rfl; clear q HM; intro g12 u12 HG12 HM) | (have q : dV HM = 12 := rfl; clear q HM; intro g13 u13 HG13 HM) | (have q : dV HM = 13 := rfl; clear q HM; intro g14 u14 HG14 HM))))
                refine (has_any A9 G2 c9 g2 v _ HR10 (by have := HGS.out; omega)).mono ?_
                rw [decide_eq_false HF2.out.2]
                rintro e u ⟨rfl, hb⟩
                have HM2 := Lib.hid (HM.out.below hb)
                clear hb HM
                have HM := HM2
                clear HM2
                go_wp2_with (first | (refine jL ?_) | (refine jS ?_; clear HM; intro us HM; simp only [List.set, List.setIfInBounds_toArray, List.set_cons_zero, List.set_cons_succ] at HM) | (refine jN ?_; first | (have q : dV HM = 0 := rfl; clear q HM; intro g1 u1 HG1 HM) | (have q : dV HM = 1 := rfl; clear q HM; intro g2 u2 HG2 HM) | (have q : dV HM = 2 := rfl; clear q HM; intro g3 u3 HG3 HM) | (have q : dV HM = 3 := rfl; clear q HM; intro g4 u4 HG4 HM) | (have q : dV HM = 4 := rfl; clear q HM; intro g5 u5 HG5 HM) | (have q : dV HM = 5 := rfl; clear q HM; intro g6 u6 HG6 HM) | (have q : dV HM = 6 := rfl; clear q HM; intro g7 u7 HG7 HM) | (have q : dV HM = 7 := rfl; clear q HM; intro g8 u8 HG8 HM) | (have q : dV HM = 8 := rfl; clear q HM; intro g9 u9 HG9 HM) | (have q : dV HM = 9 := rfl; clear q HM; intro g10 u10 HG10 HM) | (have q : dV HM = 10 := rfl; clear q HM; intro g11 u11 HG11 HM) | (have q : dV HM = 11 := rfl; clear q HM; intro g12 u12 HG12 HM) | (have q : dV HM = 12 := rfl; clear q HM; intro g13 u13 HG13 HM) | (have q : dV HM = 13 := rfl; clear q HM; intro g14 u14 HG14 HM)))
                go_ret
                exact ⟨rfl, HM.out.1⟩
            · rw [if_pos (by rfl)]
              refine ow_al rfl HB ?_
              intro g8 uc HB2 hb9 HBj HGj HGc
              have X2 := Lib.hid (HBb.out.below hb9.out HBb.out.lt)
              clear HBb
              have HBb := X2
              clear X2
              clear HGc
              clear HB
              have HB := HB2
              clear HB2 hb9
              refine hK.out _ _ HB.out (fun hHeld => ?_)
              clear hK K
              (try simp only [Act.put, List.setIfInBounds_toArray, List.set_cons_zero, List.set_cons_succ])
              refine wpAnyH_ready (rs := [7]) (by kernel_rfl) (by simp) ?_; refine AllReadyH.cons rfl (fun K hK => ?_) (AllReadyH.nil)
              rw [if_pos (by rfl)]
              refine ow_k1 _ rfl rfl HB ?_
              intro gp uc HB2 hb9 HBp HGp
              have X2 := Lib.hid (HBb.out.below hb9.out HBb.out.lt)
              clear HBb
              have HBb := X2
              clear X2
              have X2 := Lib.hid (HBj.out.below hb9.out HBj.out.lt)
              clear HBj
              have HBj := X2
              clear X2
              clear HB
              have HB := HB2
              clear HB2 hb9
              refine hK.out _ _ HB.out (fun hHeld => ?_)
              clear hK K
              (try simp only [Act.put, List.setIfInBounds_toArray, List.set_cons_zero, List.set_cons_succ])
              refine wpAnyH_ready (rs := [8]) (by kernel_rfl) (by simp) ?_; refine AllReadyH.cons rfl (fun K hK => ?_) (AllReadyH.nil)
              rw [if_pos (by rfl)]; go_simp
              have hl8 := HBj.out.lt
              refine (Put_to false nx dp dr (some L) n c ls (some ⟨gp, 0, none⟩) 1 1 [⟨v, some ⟨gb, 0, none⟩, 1, 1, [(1 : Int).toNat]⟩] _ (ls.map pl) (putS ⟨false, nx, dp, dr, ls.map pl⟩ (v, [1])).q [(v, [1])] [0] (n + 1) (Lib.hid (HRD.out _ HB.out)) (Lib.hid rfl) (Lib.hid (rdP_two HBp.out HBb.out (by decide) (by decide))) (Lib.hid rfl) (by decide) HPOK (by omega) HPP).mono ?_
              rintro e u6 ⟨A6, c6, l6, B6, rfl, hq6, hk6, hb⟩
              have HQ6 := Lib.hid hq6
              clear hq6
              have hk7 := hk6 [g8] (fun x hx => by rw [List.mem_singleton.1 hx]; exact hl8)
              clear hl8
              have KR := Lib.hid hk7.1
              have KI := Lib.hid hk7.2
              clear hk6 hk7
              have X2 := Lib.hid (HBb.out.below hb HBb.out.lt)
              clear HBb
              have HBb := X2
              clear X2
              have X2 := Lib.hid (HBj.out.below hb HBj.out.lt)
              clear HBj
              have HBj := X2
              clear X2
              have X2 := Lib.hid (HBp.out.below hb HBp.out.lt)
              clear HBp
              have HBp := X2
              clear X2
              have HB1 := Lib.hid (HB.out.trans (hb.mono HB.out.size)); clear hb HB; have HB := HB1; clear HB1; go_wp2_with fail; refine hK.out _ _ HB.out (fun hHeld => ?_); clear hK K; (try simp only [Act.put, List.setIfInBounds_toArray, List.set_cons_zero, List.set_cons_succ])
              (refine wa_take (i := 9) (v := .tuple #[jtV false nx dp dr A6 (n + 1) c6, .slice B6 1 1, .int .i64 0]) rfl (by kernel_rfl) (by kernel_rfl) (by kernel_rfl) (fun _ _ _ h => h) (yi_free rfl (fun u => rfl)) hHeld rfl ?_; (try simp only [Act.put, List.setIfInBounds_toArray, List.set_cons_zero, List.set_cons_succ]))
              (refine wa_take (i := 10) (v := jtV false nx dp dr A6 (n + 1) c6) rfl (by kernel_rfl) (by kernel_rfl) (by kernel_rfl) (fun _ _ _ h => h) (yi_free rfl (fun u => rfl)) hHeld rfl ?_; (try simp only [Act.put, List.setIfInBounds_toArray, List.set_cons_zero, List.set_cons_succ]))
              (refine wa_take (i := 11) (v := .slice B6 1 1) rfl (by kernel_rfl) (by kernel_rfl) (by kernel_rfl) (fun _ _ _ h => h) (yi_free rfl (fun u => rfl)) hHeld rfl ?_; (try simp only [Act.put, List.setIfInBounds_toArray, List.set_cons_zero, List.set_cons_succ]))
              (refine wa_take (i := 12) (v := .int .i64 0) rfl (by kernel_rfl) (by kernel_rfl) (by kernel_rfl) (fun _ _ _ h => h) (yi_free rfl (fun u => rfl)) hHeld rfl ?_; (try simp only [Act.put, List.setIfInBounds_toArray, List.set_cons_zero, List.set_cons_succ]))
              have HMc : Hid (MV w _ [(g8, 24, #[.bool false, .int .i64 0, .int .i64 0, .int .i64 0, .slice none 0 0])] _) := Lib.hid ((HM.out.add HB.out HGj.out HBj.out).sub ((List.Sublist.refl [_]).append (List.nil_sublist _)))
              have HBC := Lib.hid HMc.out.1
              refine wpAnyH_ready (rs := [14]) (by kernel_rfl) (by simp) ?_; refine AllReadyH.cons rfl (fun K hK => ?_) (AllReadyH.nil)
              rw [if_pos (by rfl)]
              refine ov_store _ _ _ rfl rfl rfl (by exact rowOf) HMc (by exact vidxOf) (by exact vsizOf) (by exact vsizOf) (by exact voneOf) rfl ?_
              clear HM
              intro u8 HM
              try dsimp only [List.set] at HM
              have HCS := Lib.hid (Ch.mv HBC.out HM.out (gs := [g8]) mem_one)
              have HB2 := Lib.hid (HCS.out.below HB.out (fun x hx => by rw [List.mem_singleton.1 hx]; exact HGj.out) HB.out.size)
              have KR2 := Lib.hid (KR.out.step HCS.out)
              have KI2 := Lib.hid (KI.out.step HCS.out)
              clear HB KR KI HMc HBC HCS
              have HB := HB2
              have KR := KR2
              have KI := KI2
              clear HB2 KR2 KI2
              refine hK.out _ _ HB.out (fun hHeld => ?_)
              clear hK K
              (try simp only [Act.put, List.setIfInBounds_toArray, List.set_cons_zero, List.set_cons_succ])
              (refine wa_take (i := 15) (v := .slice B6 1 1) rfl (by kernel_rfl) (by kernel_rfl) (by kernel_rfl) (fun _ _ _ h => h) (yi_free rfl (fun u => rfl)) hHeld rfl ?_; (try simp only [Act.put, List.setIfInBounds_toArray, List.set_cons_zero, List.set_cons_succ]))
              (refine wa_take (i := 16) (v := .int .i64 0) rfl (by kernel_rfl) (by kernel_rfl) (by kernel_rfl) (fun _ _ _ h => h) (yi_free rfl (fun u => rfl)) hHeld rfl ?_; (try simp only [Act.put, List.setIfInBounds_toArray, List.set_cons_zero, List.set_cons_succ]))
              refine wpAnyH_done (by kernel_rfl) ?_ _
              clear hHeld
              have HGE := Lib.hid (show gapsJ ⟨false, nx, dp, dr, l6.map pl⟩ = gapsJ (putS ⟨false, nx, dp, dr, ls.map pl⟩ (v, [1])) by rw [HQ6.out]; rfl)
              have HF2 := Lib.hid HFV.out.2.2.2
              obtain ⟨g2, hg2⟩ : ∃ g2, g2 = gapsJ (putS ⟨false, nx, dp, dr, ls.map pl⟩ (v, [1])) := ⟨_, rfl⟩
              rw [← hg2] at HGE HF2
              obtain ⟨G2, hG2⟩ : ∃ G2, G2 = g2.length := ⟨_, rfl⟩
              have HGS := Lib.hid (show G2 + 1 = G by rw [hG2, HGG.out]; exact HF2.out.1)
              have HG2L := Lib.hid hG2
              clear hg2 hG2
              go_wp2_with (first | (refine jL ?_) | (refine jS ?_; clear HM; intro us HM; simp only [List.set, List.setIfInBounds_toArray, List.set_cons_zero, List.set_cons_succ] at HM) | (refine jN ?_; first | (have q : dV HM = 0 := rfl; clear q HM; intro g1 u1 HG1 HM) | (have q : dV HM = 1 := rfl; clear q HM; intro g2 u2 HG2 HM) | (have q : dV HM = 2 := rfl; clear q HM; intro g3 u3 HG3 HM) | (have q : dV HM = 3 := rfl; clear q HM; intro g4 u4 HG4 HM) | (have q : dV HM = 4 := rfl; clear q HM; intro g5 u5 HG5 HM) | (have q : dV HM = 5 := rfl; clear q HM; intro g6 u6 HG6 HM) | (have q : dV HM = 6 := rfl; clear q HM; intro g7 u7 HG7 HM) | (have q : dV HM = 7 := rfl; clear q HM; intro g8 u8 HG8 HM) | (have q : dV HM = 8 := rfl; clear q HM; intro g9 u9 HG9 HM) | (have q : dV HM = 9 := rfl; clear q HM; intro g10 u10 HG10 HM) | (have q : dV HM = 10 := rfl; clear q HM; intro g11 u11 HG11 HM) | (have q : dV HM = 11 := rfl; clear q HM; intro g12 u12 HG12 HM) | (have q : dV HM = 12 := rfl; clear q HM; intro g13 u13 HG13 HM) | (have q : dV HM = 13 := rfl; clear q HM; intro g14 u14 HG14 HM)))
              refine (Gaps_any false nx dp dr A6 (n + 1) c6 l6 _ (Lib.hid KR.out.now) (by omega)).mono ?_
              rintro e u9 hg
              unfold GapP at hg
              rw [HGE.out, ← HG2L.out] at hg
              obtain ⟨A9, c9, rfl, hr9, hb⟩ := hg
              have HR9 := Lib.hid hr9
              have HB2 := Lib.hid (HB.out.trans (hb.mono HB.out.size))
              have KI2 := Lib.hid (KI.out.call hb)
              have HM2 := Lib.hid (HM.out.below hb)
              clear hr9 hb HB KI KR HM
              have HB := HB2
              have KI := KI2
              have HM := HM2
              clear HB2 KI2 HM2
              go_wp2_with (first | (refine wv_i1 (by rfl) _ rfl rfl HM ?_; clear HM; intro gi ub HEQ HBB HM) | (first | (refine jL ?_) | (refine jS ?_; clear HM; intro us HM; simp only [List.set, List.setIfInBounds_toArray, List.set_cons_zero, List.set_cons_succ] at HM) | (refine jN ?_; first | (have q : dV HM = 0 := rfl; clear q HM; intro g1 u1 HG1 HM) | (have q : dV HM = 1 := rfl; clear q HM; intro g2 u2 HG2 HM) | (have q : dV HM = 2 := rfl; clear q HM; intro g3 u3 HG3 HM) | (have q : dV HM = 3 := rfl; clear q HM; intro g4 u4 HG4 HM) | (have q : dV HM = 4 := rfl; clear q HM; intro g5 u5 HG5 HM) | (have q : dV HM = 5 := rfl; clear q HM; intro g6 u6 HG6 HM) | (have q : dV HM = 6 := rfl; clear q HM; intro g7 u7 HG7 HM) | (have q : dV HM = 7 := rfl; clear q HM; intro g8 u8 HG8 HM) | (have q : dV HM = 8 := rfl; clear q HM; intro g9 u9 HG9 HM) | (have q : dV HM = 9 := rfl; clear q HM; intro g10 u10 HG10 HM) | (have q : dV HM = 10 := rfl; clear q HM; intro g11 u11 HG11 HM) | (have q : dV HM = 11 := rfl; clear q HM; intro g12 u12 HG12 HM) | (have q : dV HM = 12 := rfl; clear q HM; intro g13 u13 HG13 HM) | (have q : dV HM = 13 := rfl; clear q HM; intro g14 u14 HG14 HM))))
              have HB2 := Lib.hid (HB.out.trans (HBB.out.mono HB.out.size))
              refine (requal_any B6 (some ⟨gi, 0, none⟩) 1 1 1 1 [0] [0] true _ (by decide) (by decide) (KI.out.call HBB.out).now (RdI.of_blk (HM.out.get (g := gi) (by exact vmemOf)) rfl) (by decide)).mono ?_
              rintro e u ⟨rfl, q, rfl⟩
              have HM2 := Lib.hid (HM.out.below (below_drewN (Below.refl _ _) q))
              have hvc := HVC.out _ (below_drewN HB2.out q)
              have HR10 := Lib.hid ((HR9.out.below HBB.out).below (below_drewN (Below.refl _ _) q))
              clear HM HB HB2 HBB HEQ KI HR9
              have HM := HM2
              clear HM2
              generalize World.drewN _ q = ud at HM hvc HR10 ⊢
              have wg : IntKind.i64.wrap ((G : Int) - 1) = (G2 : Int) := by rw [IntWalk.i64_in _ (by omega)]; have := HGS.out; omega
              go_wp2_with (first | (refine wv_ldA (by rfl) 3 _ rfl rfl oneInt hvc ?_) | (first | (refine jL ?_) | (refine jS ?_; clear HM; intro us HM; simp only [List.set, List.setIfInBounds_toArray, List.set_cons_zero, List.set_cons_succ] at HM) | (refine jN ?_; first | (have q : dV HM = 0 := rfl; clear q HM; intro g1 u1 HG1 HM) | (have q : dV HM = 1 := rfl; clear q HM; intro g2 u2 HG2 HM) | (have q : dV HM = 2 := rfl; clear q HM; intro g3 u3 HG3 HM) | (have q : dV HM = 3 := rfl; clear q HM; intro g4 u4 HG4 HM) | (have q : dV HM = 4 := rfl; clear q HM; intro g5 u5 HG5 HM) | (have q : dV HM = 5 := rfl; clear q HM; intro g6 u6 HG6 HM) | (have q : dV HM = 6 := rfl; clear q HM; intro g7 u7 HG7 HM) | (have q : dV HM = 7 := rfl; clear q HM; intro g8 u8 HG8 HM) | (have q : dV HM = 8 := rfl; clear q HM; intro g9 u9 HG9 HM) | (have q : dV HM = 9 := rfl; clear q HM; intro g10 u10 HG10 HM) | (have q : dV HM = 10 := rfl; clear q HM; intro g11 u11 HG11 HM) | (have q : dV HM = 11 := rfl; clear q HM; intro g12 u12 HG12 HM) | (have q : dV HM = 12 := rfl; clear q HM; intro g13 u13 HG13 HM) | (have q : dV HM = 13 := rfl; clear q HM; intro g14 u14 HG14 HM))))
              refine (has_any A9 G2 c9 g2 v _ HR10 (by have := HGS.out; omega)).mono ?_
              rw [decide_eq_false HF2.out.2]
              rintro e u ⟨rfl, hb⟩
              have HM2 := Lib.hid (HM.out.below hb)
              clear hb HM
              have HM := HM2
              clear HM2
              go_wp2_with (first | (refine jL ?_) | (refine jS ?_; clear HM; intro us HM; simp only [List.set, List.setIfInBounds_toArray, List.set_cons_zero, List.set_cons_succ] at HM) | (refine jN ?_; first | (have q : dV HM = 0 := rfl; clear q HM; intro g1 u1 HG1 HM) | (have q : dV HM = 1 := rfl; clear q HM; intro g2 u2 HG2 HM) | (have q : dV HM = 2 := rfl; clear q HM; intro g3 u3 HG3 HM) | (have q : dV HM = 3 := rfl; clear q HM; intro g4 u4 HG4 HM) | (have q : dV HM = 4 := rfl; clear q HM; intro g5 u5 HG5 HM) | (have q : dV HM = 5 := rfl; clear q HM; intro g6 u6 HG6 HM) | (have q : dV HM = 6 := rfl; clear q HM; intro g7 u7 HG7 HM) | (have q : dV HM = 7 := rfl; clear q HM; intro g8 u8 HG8 HM) | (have q : dV HM = 8 := rfl; clear q HM; intro g9 u9 HG9 HM) | (have q : dV HM = 9 := rfl; clear q HM; intro g10 u10 HG10 HM) | (have q : dV HM = 10 := rfl; clear q HM; intro g11 u11 HG11 HM) | (have q : dV HM = 11 := rfl; clear q HM; intro g12 u12 HG12 HM) | (have q : dV HM = 12 := rfl; clear q HM; intro g13 u13 HG13 HM) | (have q : dV HM = 13 := rfl; clear q HM; intro g14 u14 HG14 HM)))
              go_ret
              exact ⟨rfl, HM.out.1⟩
          · rw [if_pos (by rfl)]
            refine ow_al rfl HB ?_
            intro g8 uc HB2 hb9 HBj HGj HGc
            clear HGc
            clear HB
            have HB := HB2
            clear HB2 hb9
            refine hK.out _ _ HB.out (fun hHeld => ?_)
            clear hK K
            (try simp only [Act.put, List.setIfInBounds_toArray, List.set_cons_zero, List.set_cons_succ])
            refine wpAnyH_ready (rs := [5]) (by kernel_rfl) (by simp) ?_; refine AllReadyH.cons rfl (fun K hK => ?_) (AllReadyH.nil)
            rw [if_pos (by rfl)]
            refine ow_b1 _ rfl rfl HB ?_
            intro gb uc HB2 hb9 HBb HGb
            have X2 := Lib.hid (HBj.out.below hb9.out HBj.out.lt)
            clear HBj
            have HBj := X2
            clear X2
            clear HB
            have HB := HB2
            clear HB2 hb9
            refine hK.out _ _ HB.out (fun hHeld => ?_)
            clear hK K
            (try simp only [Act.put, List.setIfInBounds_toArray, List.set_cons_zero, List.set_cons_succ])
            (refine wa_take (i := 6) (v := .agg #[.int .i64 v, .slice (some ⟨gb, 0, none⟩) 1 1]) rfl (by kernel_rfl) (by kernel_rfl) (by kernel_rfl) (fun _ _ _ h => h) (yi_free rfl (fun u => by go_simp)) hHeld rfl ?_; (try simp only [Act.put, List.setIfInBounds_toArray, List.set_cons_zero, List.set_cons_succ]))
            refine wpAnyH_ready (rs := [7]) (by kernel_rfl) (by simp) ?_; refine AllReadyH.cons rfl (fun K hK => ?_) (AllReadyH.nil)
            rw [if_pos (by rfl)]
            refine ow_k1 _ rfl rfl HB ?_
            intro gp uc HB2 hb9 HBp HGp
            have X2 := Lib.hid (HBj.out.below hb9.out HBj.out.lt)
            clear HBj
            have HBj := X2
            clear X2
            have X2 := Lib.hid (HBb.out.below hb9.out HBb.out.lt)
            clear HBb
            have HBb := X2
            clear X2
            clear HB
            have HB := HB2
            clear HB2 hb9
            refine hK.out _ _ HB.out (fun hHeld => ?_)
            clear hK K
            (try simp only [Act.put, List.setIfInBounds_toArray, List.set_cons_zero, List.set_cons_succ])
            refine wpAnyH_ready (rs := [8]) (by kernel_rfl) (by simp) ?_; refine AllReadyH.cons rfl (fun K hK => ?_) (AllReadyH.nil)
            rw [if_pos (by rfl)]; go_simp
            have hl8 := HBj.out.lt
            refine (Put_to false nx dp dr (some L) n c ls (some ⟨gp, 0, none⟩) 1 1 [⟨v, some ⟨gb, 0, none⟩, 1, 1, [(1 : Int).toNat]⟩] _ (ls.map pl) (putS ⟨false, nx, dp, dr, ls.map pl⟩ (v, [1])).q [(v, [1])] [0] (n + 1) (Lib.hid (HRD.out _ HB.out)) (Lib.hid rfl) (Lib.hid (rdP_two HBp.out HBb.out (by decide) (by decide))) (Lib.hid rfl) (by decide) HPOK (by omega) HPP).mono ?_
            rintro e u6 ⟨A6, c6, l6, B6, rfl, hq6, hk6, hb⟩
            have HQ6 := Lib.hid hq6
            clear hq6
            have hk7 := hk6 [g8] (fun x hx => by rw [List.mem_singleton.1 hx]; exact hl8)
            clear hl8
            have KR := Lib.hid hk7.1
            have KI := Lib.hid hk7.2
            clear hk6 hk7
            have X2 := Lib.hid (HBj.out.below hb HBj.out.lt)
            clear HBj
            have HBj := X2
            clear X2
            have X2 := Lib.hid (HBb.out.below hb HBb.out.lt)
            clear HBb
            have HBb := X2
            clear X2
            have X2 := Lib.hid (HBp.out.below hb HBp.out.lt)
            clear HBp
            have HBp := X2
            clear X2
            have HB1 := Lib.hid (HB.out.trans (hb.mono HB.out.size)); clear hb HB; have HB := HB1; clear HB1; go_wp2_with fail; refine hK.out _ _ HB.out (fun hHeld => ?_); clear hK K; (try simp only [Act.put, List.setIfInBounds_toArray, List.set_cons_zero, List.set_cons_succ])
            (refine wa_take (i := 9) (v := .tuple #[jtV false nx dp dr A6 (n + 1) c6, .slice B6 1 1, .int .i64 0]) rfl (by kernel_rfl) (by kernel_rfl) (by kernel_rfl) (fun _ _ _ h => h) (yi_free rfl (fun u => rfl)) hHeld rfl ?_; (try simp only [Act.put, List.setIfInBounds_toArray, List.set_cons_zero, List.set_cons_succ]))
            (refine wa_take (i := 10) (v := jtV false nx dp dr A6 (n + 1) c6) rfl (by kernel_rfl) (by kernel_rfl) (by kernel_rfl) (fun _ _ _ h => h) (yi_free rfl (fun u => rfl)) hHeld rfl ?_; (try simp only [Act.put, List.setIfInBounds_toArray, List.set_cons_zero, List.set_cons_succ]))
            (refine wa_take (i := 11) (v := .slice B6 1 1) rfl (by kernel_rfl) (by kernel_rfl) (by kernel_rfl) (fun _ _ _ h => h) (yi_free rfl (fun u => rfl)) hHeld rfl ?_; (try simp only [Act.put, List.setIfInBounds_toArray, List.set_cons_zero, List.set_cons_succ]))
            (refine wa_take (i := 12) (v := .int .i64 0) rfl (by kernel_rfl) (by kernel_rfl) (by kernel_rfl) (fun _ _ _ h => h) (yi_free rfl (fun u => rfl)) hHeld rfl ?_; (try simp only [Act.put, List.setIfInBounds_toArray, List.set_cons_zero, List.set_cons_succ]))
            have HMc : Hid (MV w _ [(g8, 24, #[.bool false, .int .i64 0, .int .i64 0, .int .i64 0, .slice none 0 0])] _) := Lib.hid ((HM.out.add HB.out HGj.out HBj.out).sub ((List.Sublist.refl [_]).append (List.nil_sublist _)))
            have HBC := Lib.hid HMc.out.1
            refine wpAnyH_ready (rs := [14]) (by kernel_rfl) (by simp) ?_; refine AllReadyH.cons rfl (fun K hK => ?_) (AllReadyH.nil)
            rw [if_pos (by rfl)]
            refine ov_store _ _ _ rfl rfl rfl (by exact rowOf) HMc (by exact vidxOf) (by exact vsizOf) (by exact vsizOf) (by exact voneOf) rfl ?_
            clear HM
            intro u8 HM
            try dsimp only [List.set] at HM
            have HCS := Lib.hid (Ch.mv HBC.out HM.out (gs := [g8]) mem_one)
            have HB2 := Lib.hid (HCS.out.below HB.out (fun x hx => by rw [List.mem_singleton.1 hx]; exact HGj.out) HB.out.size)
            have KR2 := Lib.hid (KR.out.step HCS.out)
            have KI2 := Lib.hid (KI.out.step HCS.out)
            clear HB KR KI HMc HBC HCS
            have HB := HB2
            have KR := KR2
            have KI := KI2
            clear HB2 KR2 KI2
            refine hK.out _ _ HB.out (fun hHeld => ?_)
            clear hK K
            (try simp only [Act.put, List.setIfInBounds_toArray, List.set_cons_zero, List.set_cons_succ])
            (refine wa_take (i := 15) (v := .slice B6 1 1) rfl (by kernel_rfl) (by kernel_rfl) (by kernel_rfl) (fun _ _ _ h => h) (yi_free rfl (fun u => rfl)) hHeld rfl ?_; (try simp only [Act.put, List.setIfInBounds_toArray, List.set_cons_zero, List.set_cons_succ]))
            (refine wa_take (i := 16) (v := .int .i64 0) rfl (by kernel_rfl) (by kernel_rfl) (by kernel_rfl) (fun _ _ _ h => h) (yi_free rfl (fun u => rfl)) hHeld rfl ?_; (try simp only [Act.put, List.setIfInBounds_toArray, List.set_cons_zero, List.set_cons_succ]))
            refine wpAnyH_done (by kernel_rfl) ?_ _
            clear hHeld
            have HGE := Lib.hid (show gapsJ ⟨false, nx, dp, dr, l6.map pl⟩ = gapsJ (putS ⟨false, nx, dp, dr, ls.map pl⟩ (v, [1])) by rw [HQ6.out]; rfl)
            have HF2 := Lib.hid HFV.out.2.2.2
            obtain ⟨g2, hg2⟩ : ∃ g2, g2 = gapsJ (putS ⟨false, nx, dp, dr, ls.map pl⟩ (v, [1])) := ⟨_, rfl⟩
            rw [← hg2] at HGE HF2
            obtain ⟨G2, hG2⟩ : ∃ G2, G2 = g2.length := ⟨_, rfl⟩
            have HGS := Lib.hid (show G2 + 1 = G by rw [hG2, HGG.out]; exact HF2.out.1)
            have HG2L := Lib.hid hG2
            clear hg2 hG2
            go_wp2_with (first | (refine jL ?_) | (refine jS ?_; clear HM; intro us HM; simp only [List.set, List.setIfInBounds_toArray, List.set_cons_zero, List.set_cons_succ] at HM) | (refine jN ?_; first | (have q : dV HM = 0 := rfl; clear q HM; intro g1 u1 HG1 HM) | (have q : dV HM = 1 := rfl; clear q HM; intro g2 u2 HG2 HM) | (have q : dV HM = 2 := rfl; clear q HM; intro g3 u3 HG3 HM) | (have q : dV HM = 3 := rfl; clear q HM; intro g4 u4 HG4 HM) | (have q : dV HM = 4 := rfl; clear q HM; intro g5 u5 HG5 HM) | (have q : dV HM = 5 := rfl; clear q HM; intro g6 u6 HG6 HM) | (have q : dV HM = 6 := rfl; clear q HM; intro g7 u7 HG7 HM) | (have q : dV HM = 7 := rfl; clear q HM; intro g8 u8 HG8 HM) | (have q : dV HM = 8 := rfl; clear q HM; intro g9 u9 HG9 HM) | (have q : dV HM = 9 := rfl; clear q HM; intro g10 u10 HG10 HM) | (have q : dV HM = 10 := rfl; clear q HM; intro g11 u11 HG11 HM) | (have q : dV HM = 11 := rfl; clear q HM; intro g12 u12 HG12 HM) | (have q : dV HM = 12 := rfl; clear q HM; intro g13 u13 HG13 HM) | (have q : dV HM = 13 := rfl; clear q HM; intro g14 u14 HG14 HM)))
            refine (Gaps_any false nx dp dr A6 (n + 1) c6 l6 _ (Lib.hid KR.out.now) (by omega)).mono ?_
            rintro e u9 hg
            unfold GapP at hg
            rw [HGE.out, ← HG2L.out] at hg
            obtain ⟨A9, c9, rfl, hr9, hb⟩ := hg
            have HR9 := Lib.hid hr9
            have HB2 := Lib.hid (HB.out.trans (hb.mono HB.out.size))
            have KI2 := Lib.hid (KI.out.call hb)
            have HM2 := Lib.hid (HM.out.below hb)
            clear hr9 hb HB KI KR HM
            have HB := HB2
            have KI := KI2
            have HM := HM2
            clear HB2 KI2 HM2
            go_wp2_with (first | (refine wv_i1 (by rfl) _ rfl rfl HM ?_; clear HM; intro gi ub HEQ HBB HM) | (first | (refine jL ?_) | (refine jS ?_; clear HM; intro us HM; simp only [List.set, List.setIfInBounds_toArray, List.set_cons_zero, List.set_cons_succ] at HM) | (refine jN ?_; first | (have q : dV HM = 0 := rfl; clear q HM; intro g1 u1 HG1 HM) | (have q : dV HM = 1 := rfl; clear q HM; intro g2 u2 HG2 HM) | (have q : dV HM = 2 := rfl; clear q HM; intro g3 u3 HG3 HM) | (have q : dV HM = 3 := rfl; clear q HM; intro g4 u4 HG4 HM) | (have q : dV HM = 4 := rfl; clear q HM; intro g5 u5 HG5 HM) | (have q : dV HM = 5 := rfl; clear q HM; intro g6 u6 HG6 HM) | (have q : dV HM = 6 := rfl; clear q HM; intro g7 u7 HG7 HM) | (have q : dV HM = 7 := rfl; clear q HM; intro g8 u8 HG8 HM) | (have q : dV HM = 8 := rfl; clear q HM; intro g9 u9 HG9 HM) | (have q : dV HM = 9 := rfl; clear q HM; intro g10 u10 HG10 HM) | (have q : dV HM = 10 := rfl; clear q HM; intro g11 u11 HG11 HM) | (have q : dV HM = 11 := rfl; clear q HM; intro g12 u12 HG12 HM) | (have q : dV HM = 12 := rfl; clear q HM; intro g13 u13 HG13 HM) | (have q : dV HM = 13 := rfl; clear q HM; intro g14 u14 HG14 HM))))
            have HB2 := Lib.hid (HB.out.trans (HBB.out.mono HB.out.size))
            refine (requal_any B6 (some ⟨gi, 0, none⟩) 1 1 1 1 [0] [0] true _ (by decide) (by decide) (KI.out.call HBB.out).now (RdI.of_blk (HM.out.get (g := gi) (by exact vmemOf)) rfl) (by decide)).mono ?_
            rintro e u ⟨rfl, q, rfl⟩
            have HM2 := Lib.hid (HM.out.below (below_drewN (Below.refl _ _) q))
            have hvc := HVC.out _ (below_drewN HB2.out q)
            have HR10 := Lib.hid ((HR9.out.below HBB.out).below (below_drewN (Below.refl _ _) q))
            clear HM HB HB2 HBB HEQ KI HR9
            have HM := HM2
            clear HM2
            generalize World.drewN _ q = ud at HM hvc HR10 ⊢
            have wg : IntKind.i64.wrap ((G : Int) - 1) = (G2 : Int) := by rw [IntWalk.i64_in _ (by omega)]; have := HGS.out; omega
            go_wp2_with (first | (refine wv_ldA (by rfl) 3 _ rfl rfl oneInt hvc ?_) | (first | (refine jL ?_) | (refine jS ?_; clear HM; intro us HM; simp only [List.set, List.setIfInBounds_toArray, List.set_cons_zero, List.set_cons_succ] at HM) | (refine jN ?_; first | (have q : dV HM = 0 := rfl; clear q HM; intro g1 u1 HG1 HM) | (have q : dV HM = 1 := rfl; clear q HM; intro g2 u2 HG2 HM) | (have q : dV HM = 2 := rfl; clear q HM; intro g3 u3 HG3 HM) | (have q : dV HM = 3 := rfl; clear q HM; intro g4 u4 HG4 HM) | (have q : dV HM = 4 := rfl; clear q HM; intro g5 u5 HG5 HM) | (have q : dV HM = 5 := rfl; clear q HM; intro g6 u6 HG6 HM) | (have q : dV HM = 6 := rfl; clear q HM; intro g7 u7 HG7 HM) | (have q : dV HM = 7 := rfl; clear q HM; intro g8 u8 HG8 HM) | (have q : dV HM = 8 := rfl; clear q HM; intro g9 u9 HG9 HM) | (have q : dV HM = 9 := rfl; clear q HM; intro g10 u10 HG10 HM) | (have q : dV HM = 10 := rfl; clear q HM; intro g11 u11 HG11 HM) | (have q : dV HM = 11 := rfl; clear q HM; intro g12 u12 HG12 HM) | (have q : dV HM = 12 := rfl; clear q HM; intro g13 u13 HG13 HM) | (have q : dV HM = 13 := rfl; clear q HM; intro g14 u14 HG14 HM))))
            refine (has_any A9 G2 c9 g2 v _ HR10 (by have := HGS.out; omega)).mono ?_
            rw [decide_eq_false HF2.out.2]
            rintro e u ⟨rfl, hb⟩
            have HM2 := Lib.hid (HM.out.below hb)
            clear hb HM
            have HM := HM2
            clear HM2
            go_wp2_with (first | (refine jL ?_) | (refine jS ?_; clear HM; intro us HM; simp only [List.set, List.setIfInBounds_toArray, List.set_cons_zero, List.set_cons_succ] at HM) | (refine jN ?_; first | (have q : dV HM = 0 := rfl; clear q HM; intro g1 u1 HG1 HM) | (have q : dV HM = 1 := rfl; clear q HM; intro g2 u2 HG2 HM) | (have q : dV HM = 2 := rfl; clear q HM; intro g3 u3 HG3 HM) | (have q : dV HM = 3 := rfl; clear q HM; intro g4 u4 HG4 HM) | (have q : dV HM = 4 := rfl; clear q HM; intro g5 u5 HG5 HM) | (have q : dV HM = 5 := rfl; clear q HM; intro g6 u6 HG6 HM) | (have q : dV HM = 6 := rfl; clear q HM; intro g7 u7 HG7 HM) | (have q : dV HM = 7 := rfl; clear q HM; intro g8 u8 HG8 HM) | (have q : dV HM = 8 := rfl; clear q HM; intro g9 u9 HG9 HM) | (have q : dV HM = 9 := rfl; clear q HM; intro g10 u10 HG10 HM) | (have q : dV HM = 10 := rfl; clear q HM; intro g11 u11 HG11 HM) | (have q : dV HM = 11 := rfl; clear q HM; intro g12 u12 HG12 HM) | (have q : dV HM = 12 := rfl; clear q HM; intro g13 u13 HG13 HM) | (have q : dV HM = 13 := rfl; clear q HM; intro g14 u14 HG14 HM)))
            go_ret
            exact ⟨rfl, HM.out.1⟩
        | true =>
          go_enter Try.func7, Try.ntmps7
          go_wp2_with (first | (refine jL ?_) | (refine jS ?_; clear HM; intro us HM; simp only [List.set, List.setIfInBounds_toArray, List.set_cons_zero, List.set_cons_succ] at HM) | (refine jN ?_; first | (have q : dV HM = 0 := rfl; clear q HM; intro g1 u1 HG1 HM) | (have q : dV HM = 1 := rfl; clear q HM; intro g2 u2 HG2 HM) | (have q : dV HM = 2 := rfl; clear q HM; intro g3 u3 HG3 HM) | (have q : dV HM = 3 := rfl; clear q HM; intro g4 u4 HG4 HM) | (have q : dV HM = 4 := rfl; clear q HM; intro g5 u5 HG5 HM) | (have q : dV HM = 5 := rfl; clear q HM; intro g6 u6 HG6 HM) | (have q : dV HM = 6 := rfl; clear q HM; intro g7 u7 HG7 HM) | (have q : dV HM = 7 := rfl; clear q HM; intro g8 u8 HG8 HM) | (have q : dV HM = 8 := rfl; clear q HM; intro g9 u9 HG9 HM) | (have q : dV HM = 9 := rfl; clear q HM; intro g10 u10 HG10 HM) | (have q : dV HM = 10 := rfl; clear q HM; intro g11 u11 HG11 HM) | (have q : dV HM = 11 := rfl; clear q HM; intro g12 u12 HG12 HM) | (have q : dV HM = 12 := rfl; clear q HM; intro g13 u13 HG13 HM) | (have q : dV HM = 13 := rfl; clear q HM; intro g14 u14 HG14 HM)))
          refine (live_any _).mono ?_
          rintro e u1 ⟨rfl, hb⟩
          have HM2 := Lib.hid (HM.out.below hb)
          clear hb HM
          have HM := HM2
          clear HM2
          go_wp2_with (first | (refine jL ?_) | (refine jS ?_; clear HM; intro us HM; simp only [List.set, List.setIfInBounds_toArray, List.set_cons_zero, List.set_cons_succ] at HM) | (refine jN ?_; first | (have q : dV HM = 0 := rfl; clear q HM; intro g1 u1 HG1 HM) | (have q : dV HM = 1 := rfl; clear q HM; intro g2 u2 HG2 HM) | (have q : dV HM = 2 := rfl; clear q HM; intro g3 u3 HG3 HM) | (have q : dV HM = 3 := rfl; clear q HM; intro g4 u4 HG4 HM) | (have q : dV HM = 4 := rfl; clear q HM; intro g5 u5 HG5 HM) | (have q : dV HM = 5 := rfl; clear q HM; intro g6 u6 HG6 HM) | (have q : dV HM = 6 := rfl; clear q HM; intro g7 u7 HG7 HM) | (have q : dV HM = 7 := rfl; clear q HM; intro g8 u8 HG8 HM) | (have q : dV HM = 8 := rfl; clear q HM; intro g9 u9 HG9 HM) | (have q : dV HM = 9 := rfl; clear q HM; intro g10 u10 HG10 HM) | (have q : dV HM = 10 := rfl; clear q HM; intro g11 u11 HG11 HM) | (have q : dV HM = 11 := rfl; clear q HM; intro g12 u12 HG12 HM) | (have q : dV HM = 12 := rfl; clear q HM; intro g13 u13 HG13 HM) | (have q : dV HM = 13 := rfl; clear q HM; intro g14 u14 HG14 HM)))
          refine (HFEW.out _ HM.out.1).mono ?_
          rintro e u2 ⟨rfl, hb⟩
          have HM2 := Lib.hid (HM.out.below hb)
          clear hb HM HFEW
          have HM := HM2
          clear HM2
          go_wp2_with (first | (refine jL ?_) | (refine jS ?_; clear HM; intro us HM; simp only [List.set, List.setIfInBounds_toArray, List.set_cons_zero, List.set_cons_succ] at HM) | (refine jN ?_; first | (have q : dV HM = 0 := rfl; clear q HM; intro g1 u1 HG1 HM) | (have q : dV HM = 1 := rfl; clear q HM; intro g2 u2 HG2 HM) | (have q : dV HM = 2 := rfl; clear q HM; intro g3 u3 HG3 HM) | (have q : dV HM = 3 := rfl; clear q HM; intro g4 u4 HG4 HM) | (have q : dV HM = 4 := rfl; clear q HM; intro g5 u5 HG5 HM) | (have q : dV HM = 5 := rfl; clear q HM; intro g6 u6 HG6 HM) | (have q : dV HM = 6 := rfl; clear q HM; intro g7 u7 HG7 HM) | (have q : dV HM = 7 := rfl; clear q HM; intro g8 u8 HG8 HM) | (have q : dV HM = 8 := rfl; clear q HM; intro g9 u9 HG9 HM) | (have q : dV HM = 9 := rfl; clear q HM; intro g10 u10 HG10 HM) | (have q : dV HM = 10 := rfl; clear q HM; intro g11 u11 HG11 HM) | (have q : dV HM = 11 := rfl; clear q HM; intro g12 u12 HG12 HM) | (have q : dV HM = 12 := rfl; clear q HM; intro g13 u13 HG13 HM) | (have q : dV HM = 13 := rfl; clear q HM; intro g14 u14 HG14 HM)))
          refine (HCK.out _ HM.out.1).mono ?_
          rintro e u3 ⟨rfl, hb⟩
          have HM2 := Lib.hid (HM.out.below hb)
          clear hb HM HCK
          have HM := HM2
          clear HM2
          have zc := HZ0.out _ HM.out.1
          go_wp2_with (first | (refine jL ?_) | (refine jS ?_; clear HM; intro us HM; simp only [List.set, List.setIfInBounds_toArray, List.set_cons_zero, List.set_cons_succ] at HM) | (refine jN ?_; first | (have q : dV HM = 0 := rfl; clear q HM; intro g1 u1 HG1 HM) | (have q : dV HM = 1 := rfl; clear q HM; intro g2 u2 HG2 HM) | (have q : dV HM = 2 := rfl; clear q HM; intro g3 u3 HG3 HM) | (have q : dV HM = 3 := rfl; clear q HM; intro g4 u4 HG4 HM) | (have q : dV HM = 4 := rfl; clear q HM; intro g5 u5 HG5 HM) | (have q : dV HM = 5 := rfl; clear q HM; intro g6 u6 HG6 HM) | (have q : dV HM = 6 := rfl; clear q HM; intro g7 u7 HG7 HM) | (have q : dV HM = 7 := rfl; clear q HM; intro g8 u8 HG8 HM) | (have q : dV HM = 8 := rfl; clear q HM; intro g9 u9 HG9 HM) | (have q : dV HM = 9 := rfl; clear q HM; intro g10 u10 HG10 HM) | (have q : dV HM = 10 := rfl; clear q HM; intro g11 u11 HG11 HM) | (have q : dV HM = 11 := rfl; clear q HM; intro g12 u12 HG12 HM) | (have q : dV HM = 12 := rfl; clear q HM; intro g13 u13 HG13 HM) | (have q : dV HM = 13 := rfl; clear q HM; intro g14 u14 HG14 HM)))
          refine (Gaps_any true nx dp dr (some L) n c ls _ (Lib.hid (h.out.keep HM.out.1)) (by omega)).mono ?_
          rintro e u4 hg
          unfold GapP at hg
          obtain ⟨A3, c3, rfl, hg3, hb⟩ := hg
          have HFJ := Lib.hid (show firstJ ⟨true, nx, dp, dr, ls.map pl⟩ = nx by first | rfl | (unfold firstJ; simp only [Bool.false_eq_true, if_false]; rw [head_of (show (ls.map pl)[0]? = some (pl z) by rw [List.getElem?_map, HZ.out]; rfl)]; rfl))
          have HGA := Lib.hid (gaps_all HOK.out (p := pl p) HPQ.out)
          have HFI := Lib.hid (fun v hv => gap_fill HOK.out (p := pl p) HPQ.out (v := v) hv [1] rfl)
          rw [HFJ.out] at HGA
          obtain ⟨gl, hgl⟩ : ∃ gl, gl = gapsJ ⟨true, nx, dp, dr, ls.map pl⟩ := ⟨_, rfl⟩
          rw [← hgl] at HGA HFI hg3 ⊢
          clear hgl HFJ
          obtain ⟨G, hG⟩ : ∃ G, G = gl.length := ⟨_, rfl⟩
          have HFP := Lib.hid (show nx ≤ p.s ∧ p.s < nx + 64 ∧ 0 ≤ nx by
            have h1 := first_le HOK.out (List.mem_of_getElem? HPQ.out)
            have h3 := bad_iff (HOK.out.2.1 _ (List.mem_of_getElem? HPQ.out))
            have h2 : firstJ ⟨true, nx, dp, dr, ls.map pl⟩ = nx := rfl
            have h4 := HOK.out.1.2.2.1
            rw [h2] at h1
            exact ⟨h1.1, h1.2, h4⟩)
          have e1 : (G : Int) + (n : Int) = p.s - nx + 1 := by
            have h1 := HGA.out.1
            simp only [List.length_map] at h1
            rw [h.out.1, ← hG] at h1
            exact h1
          rw [← hG] at hg3 ⊢
          have HRG := Lib.hid hg3
          have HGG := Lib.hid hG
          have HPB := Lib.hid (show 0 ≤ p.s ∧ p.s ≤ 1099511627776 by
            have h3 := bad_iff (HOK.out.2.1 _ (List.mem_of_getElem? HPQ.out))
            exact ⟨h3.1, h3.2.1⟩)
          have HM2 := Lib.hid (HM.out.below hb)
          clear hb HM hg3 hG zc
          have HM := HM2
          clear HM2
          have g64 : (G : Int) ≤ 64 := by have := HFP.out; have := HNM.out; omega
          have E1 := Lib.hid e1
          clear e1
          have pc := HP0.out _ HM.out.1
          go_wp2_with (first | (refine jL ?_) | (refine jS ?_; clear HM; intro us HM; simp only [List.set, List.setIfInBounds_toArray, List.set_cons_zero, List.set_cons_succ] at HM) | (refine jN ?_; first | (have q : dV HM = 0 := rfl; clear q HM; intro g1 u1 HG1 HM) | (have q : dV HM = 1 := rfl; clear q HM; intro g2 u2 HG2 HM) | (have q : dV HM = 2 := rfl; clear q HM; intro g3 u3 HG3 HM) | (have q : dV HM = 3 := rfl; clear q HM; intro g4 u4 HG4 HM) | (have q : dV HM = 4 := rfl; clear q HM; intro g5 u5 HG5 HM) | (have q : dV HM = 5 := rfl; clear q HM; intro g6 u6 HG6 HM) | (have q : dV HM = 6 := rfl; clear q HM; intro g7 u7 HG7 HM) | (have q : dV HM = 7 := rfl; clear q HM; intro g8 u8 HG8 HM) | (have q : dV HM = 8 := rfl; clear q HM; intro g9 u9 HG9 HM) | (have q : dV HM = 9 := rfl; clear q HM; intro g10 u10 HG10 HM) | (have q : dV HM = 10 := rfl; clear q HM; intro g11 u11 HG11 HM) | (have q : dV HM = 11 := rfl; clear q HM; intro g12 u12 HG12 HM) | (have q : dV HM = 12 := rfl; clear q HM; intro g13 u13 HG13 HM) | (have q : dV HM = 13 := rfl; clear q HM; intro g14 u14 HG14 HM)))
          have c44 := HM.out.cell (g := g1) (k := 4) (v := .slice (some L) n c) (by exact vmemOf) rfl
          have w1 : IntKind.i64.wrap ((G : Int) + (n : Int)) = (G : Int) + (n : Int) := IntWalk.i64_in _ (by omega)
          have w2 : IntKind.i64.wrap ((n : Int) - 1) = (m : Int) := by rw [IntWalk.i64_in _ (by omega)]; have := HNM.out; omega
          have w3 : (m : Int) < (n : Int) := by have := HNM.out; omega
          have w5 : IntKind.i64.wrap (p.s - nx) = p.s - nx := IntWalk.i64_in _ (by have := HFP.out; have := HPB.out; omega)
          have w6 : IntKind.i64.wrap (p.s - nx + 1) = p.s - nx + 1 := IntWalk.i64_in _ (by have := HFP.out; have := HPB.out; omega)
          have d1 : ((G : Int) + (n : Int) != p.s - nx + 1) = false := by rw [E1.out]; simp
          go_quiet (fail)
          have HM2 := Lib.hid (HM.out.below (below_drewN (Below.refl _ _) nq))
          have HRG2 := Lib.hid (HRG.out.below (below_drewN (Below.refl _ _) nq))
          clear HM HRG c44 w1 w2 w3 w5 w6 d1 pc
          have HM := HM2
          have HRG := HRG2
          clear HM2 HRG2
          generalize World.drewN _ nq = u5 at HM HRG ⊢
          by_cases hg0 : G = 0
          · subst hg0
            go_wp2_with (first | (refine jL ?_) | (refine jS ?_; clear HM; intro us HM; simp only [List.set, List.setIfInBounds_toArray, List.set_cons_zero, List.set_cons_succ] at HM) | (refine jN ?_; first | (have q : dV HM = 0 := rfl; clear q HM; intro g1 u1 HG1 HM) | (have q : dV HM = 1 := rfl; clear q HM; intro g2 u2 HG2 HM) | (have q : dV HM = 2 := rfl; clear q HM; intro g3 u3 HG3 HM) | (have q : dV HM = 3 := rfl; clear q HM; intro g4 u4 HG4 HM) | (have q : dV HM = 4 := rfl; clear q HM; intro g5 u5 HG5 HM) | (have q : dV HM = 5 := rfl; clear q HM; intro g6 u6 HG6 HM) | (have q : dV HM = 6 := rfl; clear q HM; intro g7 u7 HG7 HM) | (have q : dV HM = 7 := rfl; clear q HM; intro g8 u8 HG8 HM) | (have q : dV HM = 8 := rfl; clear q HM; intro g9 u9 HG9 HM) | (have q : dV HM = 9 := rfl; clear q HM; intro g10 u10 HG10 HM) | (have q : dV HM = 10 := rfl; clear q HM; intro g11 u11 HG11 HM) | (have q : dV HM = 11 := rfl; clear q HM; intro g12 u12 HG12 HM) | (have q : dV HM = 12 := rfl; clear q HM; intro g13 u13 HG13 HM) | (have q : dV HM = 13 := rfl; clear q HM; intro g14 u14 HG14 HM)))
            go_ret
            exact ⟨rfl, HM.out.1⟩
          obtain ⟨R0, K, p1, p2, p3, p4, -, p6⟩ := rem_is x (G : Int) (by omega) (by omega)
          have gp : (0 : Int) < (G : Int) := by omega
          have gz : ¬ ((G : Int) = 0) := by omega
          have gw : ((G : Int) == 0) = false := by simpa using gz
          clear hg0
          go_wp2_with (first | (refine jL ?_) | (refine jS ?_; clear HM; intro us HM; simp only [List.set, List.setIfInBounds_toArray, List.set_cons_zero, List.set_cons_succ] at HM) | (refine jN ?_; first | (have q : dV HM = 0 := rfl; clear q HM; intro g1 u1 HG1 HM) | (have q : dV HM = 1 := rfl; clear q HM; intro g2 u2 HG2 HM) | (have q : dV HM = 2 := rfl; clear q HM; intro g3 u3 HG3 HM) | (have q : dV HM = 3 := rfl; clear q HM; intro g4 u4 HG4 HM) | (have q : dV HM = 4 := rfl; clear q HM; intro g5 u5 HG5 HM) | (have q : dV HM = 5 := rfl; clear q HM; intro g6 u6 HG6 HM) | (have q : dV HM = 6 := rfl; clear q HM; intro g7 u7 HG7 HM) | (have q : dV HM = 7 := rfl; clear q HM; intro g8 u8 HG8 HM) | (have q : dV HM = 8 := rfl; clear q HM; intro g9 u9 HG9 HM) | (have q : dV HM = 9 := rfl; clear q HM; intro g10 u10 HG10 HM) | (have q : dV HM = 10 := rfl; clear q HM; intro g11 u11 HG11 HM) | (have q : dV HM = 11 := rfl; clear q HM; intro g12 u12 HG12 HM) | (have q : dV HM = 12 := rfl; clear q HM; intro g13 u13 HG13 HM) | (have q : dV HM = 13 := rfl; clear q HM; intro g14 u14 HG14 HM)))
          obtain ⟨ad, rfl, -⟩ := HRG.out.2 (by omega)
          obtain ⟨v, hv⟩ : ∃ v, v = gl.getD K 0 := ⟨_, rfl⟩
          have HKL := Lib.hid (show K < G by omega)
          have HVM := Lib.hid (show v ∈ gl by
            have h9 : K < gl.length := by rw [← HGG.out]; exact HKL.out
            rw [hv, List.getD_eq_getElem?_getD, List.getElem?_eq_getElem h9]
            exact List.getElem_mem h9)
          have HFV := Lib.hid (HFI.out v HVM.out)
          have HVC := Lib.hid (fun (u : World) (hu : Below u5.heap.size u5 u) => show u.cell? (ad.add K) = some (.int .i64 v) by rw [hv]; exact (HRG.out.below hu).cell HKL.out)
          have HPOK := Lib.hid (show OkJ ⟨true, nx, dp, dr, ls.map pl⟩ ∧ goodL [(v, [1])] = true from ⟨HOK.out, by unfold goodL; rw [List.any_cons, List.any_nil, HFV.out.2.1]; rfl⟩)
          have HPP := Lib.hid (show (putsJ ⟨true, nx, dp, dr, ls.map pl⟩ [(v, [1])]).q = (putS ⟨true, nx, dp, dr, ls.map pl⟩ (v, [1])).q ∧ outsJ ⟨true, nx, dp, dr, ls.map pl⟩ [(v, [1])] = [0] ∧ (putS ⟨true, nx, dp, dr, ls.map pl⟩ (v, [1])).q.length = n + 1 from ⟨rfl, by show [(putR _ _).1] = [0]; rw [HFV.out.1], by
            have h9 := putR_cases ⟨true, nx, dp, dr, ls.map pl⟩ (v, [1])
            rcases h9 with ⟨_, h8⟩ | ⟨_, h8, _⟩
            · have := HFV.out.1; omega
            · unfold putS
              rw [h8, List.length_append, List.length_cons, List.length_take, List.length_drop]
              have : (ls.map pl).length = n := by rw [List.length_map]; exact h.out.1
              simp only at this ⊢
              omega⟩)
          have HRD := Lib.hid (fun (u : World) (hu : Below u5.heap.size u5 u) => h.out.keep (HM.out.1.trans (hu.mono HM.out.1.size)))
          have HJB := HM.out.get (g := g1) (T := 24) (cs := #[.bool true, .int .i64 nx, .int .i64 dp, .int .i64 dr, .slice (some L) n c]) (by exact vmemOf)
          have HLJ := Lib.hid (fun (u : World) (hu : Below u5.heap.size u5 u) => run_load_blk (T := 24) rowJt (HJB.below hu HJB.lt) rfl)
          have HLV := Lib.hid (fun (u : World) (hu : Below u5.heap.size u5 u) => run_load_int (HVC.out u hu))
          have kg : (K : Int) < (G : Int) := p6
          clear HJB hv p1 p2 p3 p4 p6
          refine wp_region_held_drew (S := fun u => Below u5.heap.size u5 u) (by kernel_rfl) (Below.drew (Below.refl _ _)) (fun hHeld => ?_); have HB := Lib.hid (show Below u5.heap.size u5 (World.drew u5) from Below.drew (Below.refl _ _)); generalize World.drew u5 = u0 at HB hHeld ⊢
          (refine wa_take (i := 0) rfl (by kernel_rfl) (by kernel_rfl) (by kernel_rfl) (fun _ _ _ h => h) (yv_load rfl _ _ rfl rfl (HLJ.out)) hHeld rfl ?_; (try simp only [Act.put, List.setIfInBounds_toArray, List.set_cons_zero, List.set_cons_succ]))
          (refine wa_take (i := 1) (v := .slice (some ad) G c3) rfl (by kernel_rfl) (by kernel_rfl) (by kernel_rfl) (fun _ _ _ h => h) (yi_free rfl (fun u => rfl)) hHeld rfl ?_; (try simp only [Act.put, List.setIfInBounds_toArray, List.set_cons_zero, List.set_cons_succ]))
          (refine wa_take (i := 2) (v := .int .i64 (K : Int)) rfl (by kernel_rfl) (by kernel_rfl) (by kernel_rfl) (fun _ _ _ h => h) (yi_free rfl (fun u => rfl)) hHeld rfl ?_; (try simp only [Act.put, List.setIfInBounds_toArray, List.set_cons_zero, List.set_cons_succ]))
          (refine wa_take (i := 3) (v := .pointer (some (ad.add K))) rfl (by kernel_rfl) (by kernel_rfl) (by kernel_rfl) (fun _ _ _ h => h) (yi_free rfl (fun u => by go_simp)) hHeld rfl ?_; (try simp only [Act.put, List.setIfInBounds_toArray, List.set_cons_zero, List.set_cons_succ]))
          (refine wa_take (i := 4) rfl (by kernel_rfl) (by kernel_rfl) (by kernel_rfl) (fun _ _ _ h => h) (yv_load rfl _ _ rfl rfl (HLV.out)) hHeld rfl ?_; (try simp only [Act.put, List.setIfInBounds_toArray, List.set_cons_zero, List.set_cons_succ]))
          refine wpAnyH_ready (rs := [5, 13]) (by kernel_rfl) (by simp) ?_; refine AllReadyH.cons rfl (fun K hK => ?_) (AllReadyH.cons rfl (fun K hK => ?_) (AllReadyH.nil))
          · rw [if_pos (by rfl)]
            refine ow_b1 _ rfl rfl HB ?_
            intro gb uc HB2 hb9 HBb HGb
            clear HB
            have HB := HB2
            clear HB2 hb9
            refine hK.out _ _ HB.out (fun hHeld => ?_)
            clear hK K
            (try simp only [Act.put, List.setIfInBounds_toArray, List.set_cons_zero, List.set_cons_succ])
            (refine wa_take (i := 6) (v := .agg #[.int .i64 v, .slice (some ⟨gb, 0, none⟩) 1 1]) rfl (by kernel_rfl) (by kernel_rfl) (by kernel_rfl) (fun _ _ _ h => h) (yi_free rfl (fun u => by go_simp)) hHeld rfl ?_; (try simp only [Act.put, List.setIfInBounds_toArray, List.set_cons_zero, List.set_cons_succ]))
            refine wpAnyH_ready (rs := [7, 13]) (by kernel_rfl) (by simp) ?_; refine AllReadyH.cons rfl (fun K hK => ?_) (AllReadyH.cons rfl (fun K hK => ?_) (AllReadyH.nil))
            · rw [if_pos (by rfl)]
              refine ow_k1 _ rfl rfl HB ?_
              intro gp uc HB2 hb9 HBp HGp
              have X2 := Lib.hid (HBb.out.below hb9.out HBb.out.lt)
              clear HBb
              have HBb := X2
              clear X2
              clear HB
              have HB := HB2
              clear HB2 hb9
              refine hK.out _ _ HB.out (fun hHeld => ?_)
              clear hK K
              (try simp only [Act.put, List.setIfInBounds_toArray, List.set_cons_zero, List.set_cons_succ])
              refine wpAnyH_ready (rs := [8, 13]) (by kernel_rfl) (by simp) ?_; refine AllReadyH.cons rfl (fun K hK => ?_) (AllReadyH.cons rfl (fun K hK => ?_) (AllReadyH.nil))
              · rw [if_pos (by rfl)]; go_simp
                refine (Put_to true nx dp dr (some L) n c ls (some ⟨gp, 0, none⟩) 1 1 [⟨v, some ⟨gb, 0, none⟩, 1, 1, [(1 : Int).toNat]⟩] _ (ls.map pl) (putS ⟨true, nx, dp, dr, ls.map pl⟩ (v, [1])).q [(v, [1])] [0] (n + 1) (Lib.hid (HRD.out _ HB.out)) (Lib.hid rfl) (Lib.hid (rdP_two HBp.out HBb.out (by decide) (by decide))) (Lib.hid rfl) (by decide) HPOK (by omega) HPP).mono ?_
                rintro e u6 ⟨A6, c6, l6, B6, rfl, hq6, hk6, hb⟩
                have HQ6 := Lib.hid hq6
                clear hq6
                have hk7 := hk6 [] (fun x hx => (nomatch hx))
                have KR := Lib.hid hk7.1
                have KI := Lib.hid hk7.2
                clear hk6 hk7
                have X2 := Lib.hid (HBb.out.below hb HBb.out.lt)
                clear HBb
                have HBb := X2
                clear X2
                have X2 := Lib.hid (HBp.out.below hb HBp.out.lt)
                clear HBp
                have HBp := X2
                clear X2
                have HB1 := Lib.hid (HB.out.trans (hb.mono HB.out.size)); clear hb HB; have HB := HB1; clear HB1; go_wp2_with fail; refine hK.out _ _ HB.out (fun hHeld => ?_); clear hK K; (try simp only [Act.put, List.setIfInBounds_toArray, List.set_cons_zero, List.set_cons_succ])
                (refine wa_take (i := 9) (v := .tuple #[jtV true nx dp dr A6 (n + 1) c6, .slice B6 1 1, .int .i64 0]) rfl (by kernel_rfl) (by kernel_rfl) (by kernel_rfl) (fun _ _ _ h => h) (yi_free rfl (fun u => rfl)) hHeld rfl ?_; (try simp only [Act.put, List.setIfInBounds_toArray, List.set_cons_zero, List.set_cons_succ]))
                (refine wa_take (i := 10) (v := jtV true nx dp dr A6 (n + 1) c6) rfl (by kernel_rfl) (by kernel_rfl) (by kernel_rfl) (fun _ _ _ h => h) (yi_free rfl (fun u => rfl)) hHeld rfl ?_; (try simp only [Act.put, List.setIfInBounds_toArray, List.set_cons_zero, List.set_cons_succ]))
                (refine wa_take (i := 11) (v := .slice B6 1 1) rfl (by kernel_rfl) (by kernel_rfl) (by kernel_rfl) (fun _ _ _ h => h) (yi_free rfl (fun u => rfl)) hHeld rfl ?_; (try simp only [Act.put, List.setIfInBounds_toArray, List.set_cons_zero, List.set_cons_succ]))
                (refine wa_take (i := 12) (v := .int .i64 0) rfl (by kernel_rfl) (by kernel_rfl) (by kernel_rfl) (fun _ _ _ h => h) (yi_free rfl (fun u => rfl)) hHeld rfl ?_; (try simp only [Act.put, List.setIfInBounds_toArray, List.set_cons_zero, List.set_cons_succ]))
                refine wpAnyH_ready (rs := [13]) (by kernel_rfl) (by simp) ?_; refine AllReadyH.cons rfl (fun K hK => ?_) (AllReadyH.nil)
                rw [if_pos (by rfl)]
                refine ow_al rfl HB ?_
                intro g8 uc HB2 hb9 HBj HGj HGc
                have X2 := Lib.hid (HBb.out.below hb9.out HBb.out.lt)
                clear HBb
                have HBb := X2
                clear X2
                have X2 := Lib.hid (HBp.out.below hb9.out HBp.out.lt)
                clear HBp
                have HBp := X2
                clear X2
                have KR2 := Lib.hid (KR.out.wide (Ch.of_below hb9.out []) (gs := [g8]) (fun x hx => by rw [List.mem_singleton.1 hx]; exact HGc.out))
                have KI2 := Lib.hid (KI.out.wide (Ch.of_below hb9.out []) (gs := [g8]) (fun x hx => by rw [List.mem_singleton.1 hx]; exact HGc.out))
                clear KR KI
                have KR := KR2
                have KI := KI2
                clear KR2 KI2
                clear HGc
                clear HB
                have HB := HB2
                clear HB2 hb9
                refine hK.out _ _ HB.out (fun hHeld => ?_)
                clear hK K
                (try simp only [Act.put, List.setIfInBounds_toArray, List.set_cons_zero, List.set_cons_succ])
                have HMc : Hid (MV w _ [(g8, 24, #[.bool false, .int .i64 0, .int .i64 0, .int .i64 0, .slice none 0 0])] _) := Lib.hid ((HM.out.add HB.out HGj.out HBj.out).sub ((List.Sublist.refl [_]).append (List.nil_sublist _)))
                have HBC := Lib.hid HMc.out.1
                refine wpAnyH_ready (rs := [14]) (by kernel_rfl) (by simp) ?_; refine AllReadyH.cons rfl (fun K hK => ?_) (AllReadyH.nil)
                rw [if_pos (by rfl)]
                refine ov_store _ _ _ rfl rfl rfl (by exact rowOf) HMc (by exact vidxOf) (by exact vsizOf) (by exact vsizOf) (by exact voneOf) rfl ?_
                clear HM
                intro u8 HM
                try dsimp only [List.set] at HM
                have HCS := Lib.hid (Ch.mv HBC.out HM.out (gs := [g8]) mem_one)
                have HB2 := Lib.hid (HCS.out.below HB.out (fun x hx => by rw [List.mem_singleton.1 hx]; exact HGj.out) HB.out.size)
                have KR2 := Lib.hid (KR.out.step HCS.out)
                have KI2 := Lib.hid (KI.out.step HCS.out)
                clear HB KR KI HMc HBC HCS
                have HB := HB2
                have KR := KR2
                have KI := KI2
                clear HB2 KR2 KI2
                refine hK.out _ _ HB.out (fun hHeld => ?_)
                clear hK K
                (try simp only [Act.put, List.setIfInBounds_toArray, List.set_cons_zero, List.set_cons_succ])
                (refine wa_take (i := 15) (v := .slice B6 1 1) rfl (by kernel_rfl) (by kernel_rfl) (by kernel_rfl) (fun _ _ _ h => h) (yi_free rfl (fun u => rfl)) hHeld rfl ?_; (try simp only [Act.put, List.setIfInBounds_toArray, List.set_cons_zero, List.set_cons_succ]))
                (refine wa_take (i := 16) (v := .int .i64 0) rfl (by kernel_rfl) (by kernel_rfl) (by kernel_rfl) (fun _ _ _ h => h) (yi_free rfl (fun u => rfl)) hHeld rfl ?_; (try simp only [Act.put, List.setIfInBounds_toArray, List.set_cons_zero, List.set_cons_succ]))
                refine wpAnyH_done (by kernel_rfl) ?_ _
                clear hHeld
                have HGE := Lib.hid (show gapsJ ⟨true, nx, dp, dr, l6.map pl⟩ = gapsJ (putS ⟨true, nx, dp, dr, ls.map pl⟩ (v, [1])) by rw [HQ6.out]; rfl)
                have HF2 := Lib.hid HFV.out.2.2.2
                obtain ⟨g2, hg2⟩ : ∃ g2, g2 = gapsJ (putS ⟨true, nx, dp, dr, ls.map pl⟩ (v, [1])) := ⟨_, rfl⟩
                rw [← hg2] at HGE HF2
                obtain ⟨G2, hG2⟩ : ∃ G2, G2 = g2.length := ⟨_, rfl⟩
                have HGS := Lib.hid (show G2 + 1 = G by rw [hG2, HGG.out]; exact HF2.out.1)
                have HG2L := Lib.hid hG2
                clear hg2 hG2
                go_wp2_with (first | (refine jL ?_) | (refine jS ?_; clear HM; intro us HM; simp only [List.set, List.setIfInBounds_toArray, List.set_cons_zero, List.set_cons_succ] at HM) | (refine jN ?_; first | (have q : dV HM = 0 := rfl; clear q HM; intro g1 u1 HG1 HM) | (have q : dV HM = 1 := rfl; clear q HM; intro g2 u2 HG2 HM) | (have q : dV HM = 2 := rfl; clear q HM; intro g3 u3 HG3 HM) | (have q : dV HM = 3 := rfl; clear q HM; intro g4 u4 HG4 HM) | (have q : dV HM = 4 := rfl; clear q HM; intro g5 u5 HG5 HM) | (have q : dV HM = 5 := rfl; clear q HM; intro g6 u6 HG6 HM) | (have q : dV HM = 6 := rfl; clear q HM; intro g7 u7 HG7 HM) | (have q : dV HM = 7 := rfl; clear q HM; intro g8 u8 HG8 HM) | (have q : dV HM = 8 := rfl; clear q HM; intro g9 u9 HG9 HM) | (have q : dV HM = 9 := rfl; clear q HM; intro g10 u10 HG10 HM) | (have q : dV HM = 10 := rfl; clear q HM; intro g11 u11 HG11 HM) | (have q : dV HM = 11 := rfl; clear q HM; intro g12 u12 HG12 HM) | (have q : dV HM = 12 := rfl; clear q HM; intro g13 u13 HG13 HM) | (have q : dV HM = 13 := rfl; clear q HM; intro g14 u14 HG14 HM)))
                refine (Gaps_any true nx dp dr A6 (n + 1) c6 l6 _ (Lib.hid KR.out.now) (by omega)).mono ?_
                rintro e u9 hg
                unfold GapP at hg
                rw [HGE.out, ← HG2L.out] at hg
                obtain ⟨A9, c9, rfl, hr9, hb⟩ := hg
                have HR9 := Lib.hid hr9
                have HB2 := Lib.hid (HB.out.trans (hb.mono HB.out.size))
                have KI2 := Lib.hid (KI.out.call hb)
                have HM2 := Lib.hid (HM.out.below hb)
                clear hr9 hb HB KI KR HM
                have HB := HB2
                have KI := KI2
                have HM := HM2
                clear HB2 KI2 HM2
                go_wp2_with (first | (refine wv_i1 (by rfl) _ rfl rfl HM ?_; clear HM; intro gi ub HEQ HBB HM) | (first | (refine jL ?_) | (refine jS ?_; clear HM; intro us HM; simp only [List.set, List.setIfInBounds_toArray, List.set_cons_zero, List.set_cons_succ] at HM) | (refine jN ?_; first | (have q : dV HM = 0 := rfl; clear q HM; intro g1 u1 HG1 HM) | (have q : dV HM = 1 := rfl; clear q HM; intro g2 u2 HG2 HM) | (have q : dV HM = 2 := rfl; clear q HM; intro g3 u3 HG3 HM) | (have q : dV HM = 3 := rfl; clear q HM; intro g4 u4 HG4 HM) | (have q : dV HM = 4 := rfl; clear q HM; intro g5 u5 HG5 HM) | (have q : dV HM = 5 := rfl; clear q HM; intro g6 u6 HG6 HM) | (have q : dV HM = 6 := rfl; clear q HM; intro g7 u7 HG7 HM) | (have q : dV HM = 7 := rfl; clear q HM; intro g8 u8 HG8 HM) | (have q : dV HM = 8 := rfl; clear q HM; intro g9 u9 HG9 HM) | (have q : dV HM = 9 := rfl; clear q HM; intro g10 u10 HG10 HM) | (have q : dV HM = 10 := rfl; clear q HM; intro g11 u11 HG11 HM) | (have q : dV HM = 11 := rfl; clear q HM; intro g12 u12 HG12 HM) | (have q : dV HM = 12 := rfl; clear q HM; intro g13 u13 HG13 HM) | (have q : dV HM = 13 := rfl; clear q HM; intro g14 u14 HG14 HM))))
                have HB2 := Lib.hid (HB.out.trans (HBB.out.mono HB.out.size))
                refine (requal_any B6 (some ⟨gi, 0, none⟩) 1 1 1 1 [0] [0] true _ (by decide) (by decide) (KI.out.call HBB.out).now (RdI.of_blk (HM.out.get (g := gi) (by exact vmemOf)) rfl) (by decide)).mono ?_
                rintro e u ⟨rfl, q, rfl⟩
                have HM2 := Lib.hid (HM.out.below (below_drewN (Below.refl _ _) q))
                have hvc := HVC.out _ (below_drewN HB2.out q)
                have HR10 := Lib.hid ((HR9.out.below HBB.out).below (below_drewN (Below.refl _ _) q))
                clear HM HB HB2 HBB HEQ KI HR9
                have HM := HM2
                clear HM2
                generalize World.drewN _ q = ud at HM hvc HR10 ⊢
                have wg : IntKind.i64.wrap ((G : Int) - 1) = (G2 : Int) := by rw [IntWalk.i64_in _ (by omega)]; have := HGS.out; omega
                go_wp2_with (first | (refine wv_ldA (by rfl) 3 _ rfl rfl oneInt hvc ?_) | (first | (refine jL ?_) | (refine jS ?_; clear HM; intro us HM; simp only [List.set, List.setIfInBounds_toArray, List.set_cons_zero, List.set_cons_succ] at HM) | (refine jN ?_; first | (have q : dV HM = 0 := rfl; clear q HM; intro g1 u1 HG1 HM) | (have q : dV HM = 1 := rfl; clear q HM; intro g2 u2 HG2 HM) | (have q : dV HM = 2 := rfl; clear q HM; intro g3 u3 HG3 HM) | (have q : dV HM = 3 := rfl; clear q HM; intro g4 u4 HG4 HM) | (have q : dV HM = 4 := rfl; clear q HM; intro g5 u5 HG5 HM) | (have q : dV HM = 5 := rfl; clear q HM; intro g6 u6 HG6 HM) | (have q : dV HM = 6 := rfl; clear q HM; intro g7 u7 HG7 HM) | (have q : dV HM = 7 := rfl; clear q HM; intro g8 u8 HG8 HM) | (have q : dV HM = 8 := rfl; clear q HM; intro g9 u9 HG9 HM) | (have q : dV HM = 9 := rfl; clear q HM; intro g10 u10 HG10 HM) | (have q : dV HM = 10 := rfl; clear q HM; intro g11 u11 HG11 HM) | (have q : dV HM = 11 := rfl; clear q HM; intro g12 u12 HG12 HM) | (have q : dV HM = 12 := rfl; clear q HM; intro g13 u13 HG13 HM) | (have q : dV HM = 13 := rfl; clear q HM; intro g14 u14 HG14 HM))))
                refine (has_any A9 G2 c9 g2 v _ HR10 (by have := HGS.out; omega)).mono ?_
                rw [decide_eq_false HF2.out.2]
                rintro e u ⟨rfl, hb⟩
                have HM2 := Lib.hid (HM.out.below hb)
                clear hb HM
                have HM := HM2
                clear HM2
                go_wp2_with (first | (refine jL ?_) | (refine jS ?_; clear HM; intro us HM; simp only [List.set, List.setIfInBounds_toArray, List.set_cons_zero, List.set_cons_succ] at HM) | (refine jN ?_; first | (have q : dV HM = 0 := rfl; clear q HM; intro g1 u1 HG1 HM) | (have q : dV HM = 1 := rfl; clear q HM; intro g2 u2 HG2 HM) | (have q : dV HM = 2 := rfl; clear q HM; intro g3 u3 HG3 HM) | (have q : dV HM = 3 := rfl; clear q HM; intro g4 u4 HG4 HM) | (have q : dV HM = 4 := rfl; clear q HM; intro g5 u5 HG5 HM) | (have q : dV HM = 5 := rfl; clear q HM; intro g6 u6 HG6 HM) | (have q : dV HM = 6 := rfl; clear q HM; intro g7 u7 HG7 HM) | (have q : dV HM = 7 := rfl; clear q HM; intro g8 u8 HG8 HM) | (have q : dV HM = 8 := rfl; clear q HM; intro g9 u9 HG9 HM) | (have q : dV HM = 9 := rfl; clear q HM; intro g10 u10 HG10 HM) | (have q : dV HM = 10 := rfl; clear q HM; intro g11 u11 HG11 HM) | (have q : dV HM = 11 := rfl; clear q HM; intro g12 u12 HG12 HM) | (have q : dV HM = 12 := rfl; clear q HM; intro g13 u13 HG13 HM) | (have q : dV HM = 13 := rfl; clear q HM; intro g14 u14 HG14 HM)))
                go_ret
                exact ⟨rfl, HM.out.1⟩
              · rw [if_pos (by rfl)]
                refine ow_al rfl HB ?_
                intro g8 uc HB2 hb9 HBj HGj HGc
                have X2 := Lib.hid (HBb.out.below hb9.out HBb.out.lt)
                clear HBb
                have HBb := X2
                clear X2
                have X2 := Lib.hid (HBp.out.below hb9.out HBp.out.lt)
                clear HBp
                have HBp := X2
                clear X2
                clear HGc
                clear HB
                have HB := HB2
                clear HB2 hb9
                refine hK.out _ _ HB.out (fun hHeld => ?_)
                clear hK K
                (try simp only [Act.put, List.setIfInBounds_toArray, List.set_cons_zero, List.set_cons_succ])
                refine wpAnyH_ready (rs := [8]) (by kernel_rfl) (by simp) ?_; refine AllReadyH.cons rfl (fun K hK => ?_) (AllReadyH.nil)
                rw [if_pos (by rfl)]; go_simp
                have hl8 := HBj.out.lt
                refine (Put_to true nx dp dr (some L) n c ls (some ⟨gp, 0, none⟩) 1 1 [⟨v, some ⟨gb, 0, none⟩, 1, 1, [(1 : Int).toNat]⟩] _ (ls.map pl) (putS ⟨true, nx, dp, dr, ls.map pl⟩ (v, [1])).q [(v, [1])] [0] (n + 1) (Lib.hid (HRD.out _ HB.out)) (Lib.hid rfl) (Lib.hid (rdP_two HBp.out HBb.out (by decide) (by decide))) (Lib.hid rfl) (by decide) HPOK (by omega) HPP).mono ?_
                rintro e u6 ⟨A6, c6, l6, B6, rfl, hq6, hk6, hb⟩
                have HQ6 := Lib.hid hq6
                clear hq6
                have hk7 := hk6 [g8] (fun x hx => by rw [List.mem_singleton.1 hx]; exact hl8)
                clear hl8
                have KR := Lib.hid hk7.1
                have KI := Lib.hid hk7.2
                clear hk6 hk7
                have X2 := Lib.hid (HBb.out.below hb HBb.out.lt)
                clear HBb
                have HBb := X2
                clear X2
                have X2 := Lib.hid (HBp.out.below hb HBp.out.lt)
                clear HBp
                have HBp := X2
                clear X2
                have X2 := Lib.hid (HBj.out.below hb HBj.out.lt)
                clear HBj
                have HBj := X2
                clear X2
                have HB1 := Lib.hid (HB.out.trans (hb.mono HB.out.size)); clear hb HB; have HB := HB1; clear HB1; go_wp2_with fail; refine hK.out _ _ HB.out (fun hHeld => ?_); clear hK K; (try simp only [Act.put, List.setIfInBounds_toArray, List.set_cons_zero, List.set_cons_succ])
                (refine wa_take (i := 9) (v := .tuple #[jtV true nx dp dr A6 (n + 1) c6, .slice B6 1 1, .int .i64 0]) rfl (by kernel_rfl) (by kernel_rfl) (by kernel_rfl) (fun _ _ _ h => h) (yi_free rfl (fun u => rfl)) hHeld rfl ?_; (try simp only [Act.put, List.setIfInBounds_toArray, List.set_cons_zero, List.set_cons_succ]))
                (refine wa_take (i := 10) (v := jtV true nx dp dr A6 (n + 1) c6) rfl (by kernel_rfl) (by kernel_rfl) (by kernel_rfl) (fun _ _ _ h => h) (yi_free rfl (fun u => rfl)) hHeld rfl ?_; (try simp only [Act.put, List.setIfInBounds_toArray, List.set_cons_zero, List.set_cons_succ]))
                (refine wa_take (i := 11) (v := .slice B6 1 1) rfl (by kernel_rfl) (by kernel_rfl) (by kernel_rfl) (fun _ _ _ h => h) (yi_free rfl (fun u => rfl)) hHeld rfl ?_; (try simp only [Act.put, List.setIfInBounds_toArray, List.set_cons_zero, List.set_cons_succ]))
                (refine wa_take (i := 12) (v := .int .i64 0) rfl (by kernel_rfl) (by kernel_rfl) (by kernel_rfl) (fun _ _ _ h => h) (yi_free rfl (fun u => rfl)) hHeld rfl ?_; (try simp only [Act.put, List.setIfInBounds_toArray, List.set_cons_zero, List.set_cons_succ]))
                have HMc : Hid (MV w _ [(g8, 24, #[.bool false, .int .i64 0, .int .i64 0, .int .i64 0, .slice none 0 0])] _) := Lib.hid ((HM.out.add HB.out HGj.out HBj.out).sub ((List.Sublist.refl [_]).append (List.nil_sublist _)))
                have HBC := Lib.hid HMc.out.1
                refine wpAnyH_ready (rs := [14]) (by kernel_rfl) (by simp) ?_; refine AllReadyH.cons rfl (fun K hK => ?_) (AllReadyH.nil)
                rw [if_pos (by rfl)]
                refine ov_store _ _ _ rfl rfl rfl (by exact rowOf) HMc (by exact vidxOf) (by exact vsizOf) (by exact vsizOf) (by exact voneOf) rfl ?_
                clear HM
                intro u8 HM
                try dsimp only [List.set] at HM
                have HCS := Lib.hid (Ch.mv HBC.out HM.out (gs := [g8]) mem_one)
                have HB2 := Lib.hid (HCS.out.below HB.out (fun x hx => by rw [List.mem_singleton.1 hx]; exact HGj.out) HB.out.size)
                have KR2 := Lib.hid (KR.out.step HCS.out)
                have KI2 := Lib.hid (KI.out.step HCS.out)
                clear HB KR KI HMc HBC HCS
                have HB := HB2
                have KR := KR2
                have KI := KI2
                clear HB2 KR2 KI2
                refine hK.out _ _ HB.out (fun hHeld => ?_)
                clear hK K
                (try simp only [Act.put, List.setIfInBounds_toArray, List.set_cons_zero, List.set_cons_succ])
                (refine wa_take (i := 15) (v := .slice B6 1 1) rfl (by kernel_rfl) (by kernel_rfl) (by kernel_rfl) (fun _ _ _ h => h) (yi_free rfl (fun u => rfl)) hHeld rfl ?_; (try simp only [Act.put, List.setIfInBounds_toArray, List.set_cons_zero, List.set_cons_succ]))
                (refine wa_take (i := 16) (v := .int .i64 0) rfl (by kernel_rfl) (by kernel_rfl) (by kernel_rfl) (fun _ _ _ h => h) (yi_free rfl (fun u => rfl)) hHeld rfl ?_; (try simp only [Act.put, List.setIfInBounds_toArray, List.set_cons_zero, List.set_cons_succ]))
                refine wpAnyH_done (by kernel_rfl) ?_ _
                clear hHeld
                have HGE := Lib.hid (show gapsJ ⟨true, nx, dp, dr, l6.map pl⟩ = gapsJ (putS ⟨true, nx, dp, dr, ls.map pl⟩ (v, [1])) by rw [HQ6.out]; rfl)
                have HF2 := Lib.hid HFV.out.2.2.2
                obtain ⟨g2, hg2⟩ : ∃ g2, g2 = gapsJ (putS ⟨true, nx, dp, dr, ls.map pl⟩ (v, [1])) := ⟨_, rfl⟩
                rw [← hg2] at HGE HF2
                obtain ⟨G2, hG2⟩ : ∃ G2, G2 = g2.length := ⟨_, rfl⟩
                have HGS := Lib.hid (show G2 + 1 = G by rw [hG2, HGG.out]; exact HF2.out.1)
                have HG2L := Lib.hid hG2
                clear hg2 hG2
                go_wp2_with (first | (refine jL ?_) | (refine jS ?_; clear HM; intro us HM; simp only [List.set, List.setIfInBounds_toArray, List.set_cons_zero, List.set_cons_succ] at HM) | (refine jN ?_; first | (have q : dV HM = 0 := rfl; clear q HM; intro g1 u1 HG1 HM) | (have q : dV HM = 1 := rfl; clear q HM; intro g2 u2 HG2 HM) | (have q : dV HM = 2 := rfl; clear q HM; intro g3 u3 HG3 HM) | (have q : dV HM = 3 := rfl; clear q HM; intro g4 u4 HG4 HM) | (have q : dV HM = 4 := rfl; clear q HM; intro g5 u5 HG5 HM) | (have q : dV HM = 5 := rfl; clear q HM; intro g6 u6 HG6 HM) | (have q : dV HM = 6 := rfl; clear q HM; intro g7 u7 HG7 HM) | (have q : dV HM = 7 := rfl; clear q HM; intro g8 u8 HG8 HM) | (have q : dV HM = 8 := rfl; clear q HM; intro g9 u9 HG9 HM) | (have q : dV HM = 9 := rfl; clear q HM; intro g10 u10 HG10 HM) | (have q : dV HM = 10 := rfl; clear q HM; intro g11 u11 HG11 HM) | (have q : dV HM = 11 := rfl; clear q HM; intro g12 u12 HG12 HM) | (have q : dV HM = 12 := rfl; clear q HM; intro g13 u13 HG13 HM) | (have q : dV HM = 13 := rfl; clear q HM; intro g14 u14 HG14 HM)))
                refine (Gaps_any true nx dp dr A6 (n + 1) c6 l6 _ (Lib.hid KR.out.now) (by omega)).mono ?_
                rintro e u9 hg
                unfold GapP at hg
                rw [HGE.out, ← HG2L.out] at hg
                obtain ⟨A9, c9, rfl, hr9, hb⟩ := hg
                have HR9 := Lib.hid hr9
                have HB2 := Lib.hid (HB.out.trans (hb.mono HB.out.size))
                have KI2 := Lib.hid (KI.out.call hb)
                have HM2 := Lib.hid (HM.out.below hb)
                clear hr9 hb HB KI KR HM
                have HB := HB2
                have KI := KI2
                have HM := HM2
                clear HB2 KI2 HM2
                go_wp2_with (first | (refine wv_i1 (by rfl) _ rfl rfl HM ?_; clear HM; intro gi ub HEQ HBB HM) | (first | (refine jL ?_) | (refine jS ?_; clear HM; intro us HM; simp only [List.set, List.setIfInBounds_toArray, List.set_cons_zero, List.set_cons_succ] at HM) | (refine jN ?_; first | (have q : dV HM = 0 := rfl; clear q HM; intro g1 u1 HG1 HM) | (have q : dV HM = 1 := rfl; clear q HM; intro g2 u2 HG2 HM) | (have q : dV HM = 2 := rfl; clear q HM; intro g3 u3 HG3 HM) | (have q : dV HM = 3 := rfl; clear q HM; intro g4 u4 HG4 HM) | (have q : dV HM = 4 := rfl; clear q HM; intro g5 u5 HG5 HM) | (have q : dV HM = 5 := rfl; clear q HM; intro g6 u6 HG6 HM) | (have q : dV HM = 6 := rfl; clear q HM; intro g7 u7 HG7 HM) | (have q : dV HM = 7 := rfl; clear q HM; intro g8 u8 HG8 HM) | (have q : dV HM = 8 := rfl; clear q HM; intro g9 u9 HG9 HM) | (have q : dV HM = 9 := rfl; clear q HM; intro g10 u10 HG10 HM) | (have q : dV HM = 10 := rfl; clear q HM; intro g11 u11 HG11 HM) | (have q : dV HM = 11 := rfl; clear q HM; intro g12 u12 HG12 HM) | (have q : dV HM = 12 := rfl; clear q HM; intro g13 u13 HG13 HM) | (have q : dV HM = 13 := rfl; clear q HM; intro g14 u14 HG14 HM))))
                have HB2 := Lib.hid (HB.out.trans (HBB.out.mono HB.out.size))
                refine (requal_any B6 (some ⟨gi, 0, none⟩) 1 1 1 1 [0] [0] true _ (by decide) (by decide) (KI.out.call HBB.out).now (RdI.of_blk (HM.out.get (g := gi) (by exact vmemOf)) rfl) (by decide)).mono ?_
                rintro e u ⟨rfl, q, rfl⟩
                have HM2 := Lib.hid (HM.out.below (below_drewN (Below.refl _ _) q))
                have hvc := HVC.out _ (below_drewN HB2.out q)
                have HR10 := Lib.hid ((HR9.out.below HBB.out).below (below_drewN (Below.refl _ _) q))
                clear HM HB HB2 HBB HEQ KI HR9
                have HM := HM2
                clear HM2
                generalize World.drewN _ q = ud at HM hvc HR10 ⊢
                have wg : IntKind.i64.wrap ((G : Int) - 1) = (G2 : Int) := by rw [IntWalk.i64_in _ (by omega)]; have := HGS.out; omega
                go_wp2_with (first | (refine wv_ldA (by rfl) 3 _ rfl rfl oneInt hvc ?_) | (first | (refine jL ?_) | (refine jS ?_; clear HM; intro us HM; simp only [List.set, List.setIfInBounds_toArray, List.set_cons_zero, List.set_cons_succ] at HM) | (refine jN ?_; first | (have q : dV HM = 0 := rfl; clear q HM; intro g1 u1 HG1 HM) | (have q : dV HM = 1 := rfl; clear q HM; intro g2 u2 HG2 HM) | (have q : dV HM = 2 := rfl; clear q HM; intro g3 u3 HG3 HM) | (have q : dV HM = 3 := rfl; clear q HM; intro g4 u4 HG4 HM) | (have q : dV HM = 4 := rfl; clear q HM; intro g5 u5 HG5 HM) | (have q : dV HM = 5 := rfl; clear q HM; intro g6 u6 HG6 HM) | (have q : dV HM = 6 := rfl; clear q HM; intro g7 u7 HG7 HM) | (have q : dV HM = 7 := rfl; clear q HM; intro g8 u8 HG8 HM) | (have q : dV HM = 8 := rfl; clear q HM; intro g9 u9 HG9 HM) | (have q : dV HM = 9 := rfl; clear q HM; intro g10 u10 HG10 HM) | (have q : dV HM = 10 := rfl; clear q HM; intro g11 u11 HG11 HM) | (have q : dV HM = 11 := rfl; clear q HM; intro g12 u12 HG12 HM) | (have q : dV HM = 12 := rfl; clear q HM; intro g13 u13 HG13 HM) | (have q : dV HM = 13 := rfl; clear q HM; intro g14 u14 HG14 HM))))
                refine (has_any A9 G2 c9 g2 v _ HR10 (by have := HGS.out; omega)).mono ?_
                rw [decide_eq_false HF2.out.2]
                rintro e u ⟨rfl, hb⟩
                have HM2 := Lib.hid (HM.out.below hb)
                clear hb HM
                have HM := HM2
                clear HM2
                go_wp2_with (first | (refine jL ?_) | (refine jS ?_; clear HM; intro us HM; simp only [List.set, List.setIfInBounds_toArray, List.set_cons_zero, List.set_cons_succ] at HM) | (refine jN ?_; first | (have q : dV HM = 0 := rfl; clear q HM; intro g1 u1 HG1 HM) | (have q : dV HM = 1 := rfl; clear q HM; intro g2 u2 HG2 HM) | (have q : dV HM = 2 := rfl; clear q HM; intro g3 u3 HG3 HM) | (have q : dV HM = 3 := rfl; clear q HM; intro g4 u4 HG4 HM) | (have q : dV HM = 4 := rfl; clear q HM; intro g5 u5 HG5 HM) | (have q : dV HM = 5 := rfl; clear q HM; intro g6 u6 HG6 HM) | (have q : dV HM = 6 := rfl; clear q HM; intro g7 u7 HG7 HM) | (have q : dV HM = 7 := rfl; clear q HM; intro g8 u8 HG8 HM) | (have q : dV HM = 8 := rfl; clear q HM; intro g9 u9 HG9 HM) | (have q : dV HM = 9 := rfl; clear q HM; intro g10 u10 HG10 HM) | (have q : dV HM = 10 := rfl; clear q HM; intro g11 u11 HG11 HM) | (have q : dV HM = 11 := rfl; clear q HM; intro g12 u12 HG12 HM) | (have q : dV HM = 12 := rfl; clear q HM; intro g13 u13 HG13 HM) | (have q : dV HM = 13 := rfl; clear q HM; intro g14 u14 HG14 HM)))
                go_ret
                exact ⟨rfl, HM.out.1⟩
            · rw [if_pos (by rfl)]
              refine ow_al rfl HB ?_
              intro g8 uc HB2 hb9 HBj HGj HGc
              have X2 := Lib.hid (HBb.out.below hb9.out HBb.out.lt)
              clear HBb
              have HBb := X2
              clear X2
              clear HGc
              clear HB
              have HB := HB2
              clear HB2 hb9
              refine hK.out _ _ HB.out (fun hHeld => ?_)
              clear hK K
              (try simp only [Act.put, List.setIfInBounds_toArray, List.set_cons_zero, List.set_cons_succ])
              refine wpAnyH_ready (rs := [7]) (by kernel_rfl) (by simp) ?_; refine AllReadyH.cons rfl (fun K hK => ?_) (AllReadyH.nil)
              rw [if_pos (by rfl)]
              refine ow_k1 _ rfl rfl HB ?_
              intro gp uc HB2 hb9 HBp HGp
              have X2 := Lib.hid (HBb.out.below hb9.out HBb.out.lt)
              clear HBb
              have HBb := X2
              clear X2
              have X2 := Lib.hid (HBj.out.below hb9.out HBj.out.lt)
              clear HBj
              have HBj := X2
              clear X2
              clear HB
              have HB := HB2
              clear HB2 hb9
              refine hK.out _ _ HB.out (fun hHeld => ?_)
              clear hK K
              (try simp only [Act.put, List.setIfInBounds_toArray, List.set_cons_zero, List.set_cons_succ])
              refine wpAnyH_ready (rs := [8]) (by kernel_rfl) (by simp) ?_; refine AllReadyH.cons rfl (fun K hK => ?_) (AllReadyH.nil)
              rw [if_pos (by rfl)]; go_simp
              have hl8 := HBj.out.lt
              refine (Put_to true nx dp dr (some L) n c ls (some ⟨gp, 0, none⟩) 1 1 [⟨v, some ⟨gb, 0, none⟩, 1, 1, [(1 : Int).toNat]⟩] _ (ls.map pl) (putS ⟨true, nx, dp, dr, ls.map pl⟩ (v, [1])).q [(v, [1])] [0] (n + 1) (Lib.hid (HRD.out _ HB.out)) (Lib.hid rfl) (Lib.hid (rdP_two HBp.out HBb.out (by decide) (by decide))) (Lib.hid rfl) (by decide) HPOK (by omega) HPP).mono ?_
              rintro e u6 ⟨A6, c6, l6, B6, rfl, hq6, hk6, hb⟩
              have HQ6 := Lib.hid hq6
              clear hq6
              have hk7 := hk6 [g8] (fun x hx => by rw [List.mem_singleton.1 hx]; exact hl8)
              clear hl8
              have KR := Lib.hid hk7.1
              have KI := Lib.hid hk7.2
              clear hk6 hk7
              have X2 := Lib.hid (HBb.out.below hb HBb.out.lt)
              clear HBb
              have HBb := X2
              clear X2
              have X2 := Lib.hid (HBj.out.below hb HBj.out.lt)
              clear HBj
              have HBj := X2
              clear X2
              have X2 := Lib.hid (HBp.out.below hb HBp.out.lt)
              clear HBp
              have HBp := X2
              clear X2
              have HB1 := Lib.hid (HB.out.trans (hb.mono HB.out.size)); clear hb HB; have HB := HB1; clear HB1; go_wp2_with fail; refine hK.out _ _ HB.out (fun hHeld => ?_); clear hK K; (try simp only [Act.put, List.setIfInBounds_toArray, List.set_cons_zero, List.set_cons_succ])
              (refine wa_take (i := 9) (v := .tuple #[jtV true nx dp dr A6 (n + 1) c6, .slice B6 1 1, .int .i64 0]) rfl (by kernel_rfl) (by kernel_rfl) (by kernel_rfl) (fun _ _ _ h => h) (yi_free rfl (fun u => rfl)) hHeld rfl ?_; (try simp only [Act.put, List.setIfInBounds_toArray, List.set_cons_zero, List.set_cons_succ]))
              (refine wa_take (i := 10) (v := jtV true nx dp dr A6 (n + 1) c6) rfl (by kernel_rfl) (by kernel_rfl) (by kernel_rfl) (fun _ _ _ h => h) (yi_free rfl (fun u => rfl)) hHeld rfl ?_; (try simp only [Act.put, List.setIfInBounds_toArray, List.set_cons_zero, List.set_cons_succ]))
              (refine wa_take (i := 11) (v := .slice B6 1 1) rfl (by kernel_rfl) (by kernel_rfl) (by kernel_rfl) (fun _ _ _ h => h) (yi_free rfl (fun u => rfl)) hHeld rfl ?_; (try simp only [Act.put, List.setIfInBounds_toArray, List.set_cons_zero, List.set_cons_succ]))
              (refine wa_take (i := 12) (v := .int .i64 0) rfl (by kernel_rfl) (by kernel_rfl) (by kernel_rfl) (fun _ _ _ h => h) (yi_free rfl (fun u => rfl)) hHeld rfl ?_; (try simp only [Act.put, List.setIfInBounds_toArray, List.set_cons_zero, List.set_cons_succ]))
              have HMc : Hid (MV w _ [(g8, 24, #[.bool false, .int .i64 0, .int .i64 0, .int .i64 0, .slice none 0 0])] _) := Lib.hid ((HM.out.add HB.out HGj.out HBj.out).sub ((List.Sublist.refl [_]).append (List.nil_sublist _)))
              have HBC := Lib.hid HMc.out.1
              refine wpAnyH_ready (rs := [14]) (by kernel_rfl) (by simp) ?_; refine AllReadyH.cons rfl (fun K hK => ?_) (AllReadyH.nil)
              rw [if_pos (by rfl)]
              refine ov_store _ _ _ rfl rfl rfl (by exact rowOf) HMc (by exact vidxOf) (by exact vsizOf) (by exact vsizOf) (by exact voneOf) rfl ?_
              clear HM
              intro u8 HM
              try dsimp only [List.set] at HM
              have HCS := Lib.hid (Ch.mv HBC.out HM.out (gs := [g8]) mem_one)
              have HB2 := Lib.hid (HCS.out.below HB.out (fun x hx => by rw [List.mem_singleton.1 hx]; exact HGj.out) HB.out.size)
              have KR2 := Lib.hid (KR.out.step HCS.out)
              have KI2 := Lib.hid (KI.out.step HCS.out)
              clear HB KR KI HMc HBC HCS
              have HB := HB2
              have KR := KR2
              have KI := KI2
              clear HB2 KR2 KI2
              refine hK.out _ _ HB.out (fun hHeld => ?_)
              clear hK K
              (try simp only [Act.put, List.setIfInBounds_toArray, List.set_cons_zero, List.set_cons_succ])
              (refine wa_take (i := 15) (v := .slice B6 1 1) rfl (by kernel_rfl) (by kernel_rfl) (by kernel_rfl) (fun _ _ _ h => h) (yi_free rfl (fun u => rfl)) hHeld rfl ?_; (try simp only [Act.put, List.setIfInBounds_toArray, List.set_cons_zero, List.set_cons_succ]))
              (refine wa_take (i := 16) (v := .int .i64 0) rfl (by kernel_rfl) (by kernel_rfl) (by kernel_rfl) (fun _ _ _ h => h) (yi_free rfl (fun u => rfl)) hHeld rfl ?_; (try simp only [Act.put, List.setIfInBounds_toArray, List.set_cons_zero, List.set_cons_succ]))
              refine wpAnyH_done (by kernel_rfl) ?_ _
              clear hHeld
              have HGE := Lib.hid (show gapsJ ⟨true, nx, dp, dr, l6.map pl⟩ = gapsJ (putS ⟨true, nx, dp, dr, ls.map pl⟩ (v, [1])) by rw [HQ6.out]; rfl)
              have HF2 := Lib.hid HFV.out.2.2.2
              obtain ⟨g2, hg2⟩ : ∃ g2, g2 = gapsJ (putS ⟨true, nx, dp, dr, ls.map pl⟩ (v, [1])) := ⟨_, rfl⟩
              rw [← hg2] at HGE HF2
              obtain ⟨G2, hG2⟩ : ∃ G2, G2 = g2.length := ⟨_, rfl⟩
              have HGS := Lib.hid (show G2 + 1 = G by rw [hG2, HGG.out]; exact HF2.out.1)
              have HG2L := Lib.hid hG2
              clear hg2 hG2
              go_wp2_with (first | (refine jL ?_) | (refine jS ?_; clear HM; intro us HM; simp only [List.set, List.setIfInBounds_toArray, List.set_cons_zero, List.set_cons_succ] at HM) | (refine jN ?_; first | (have q : dV HM = 0 := rfl; clear q HM; intro g1 u1 HG1 HM) | (have q : dV HM = 1 := rfl; clear q HM; intro g2 u2 HG2 HM) | (have q : dV HM = 2 := rfl; clear q HM; intro g3 u3 HG3 HM) | (have q : dV HM = 3 := rfl; clear q HM; intro g4 u4 HG4 HM) | (have q : dV HM = 4 := rfl; clear q HM; intro g5 u5 HG5 HM) | (have q : dV HM = 5 := rfl; clear q HM; intro g6 u6 HG6 HM) | (have q : dV HM = 6 := rfl; clear q HM; intro g7 u7 HG7 HM) | (have q : dV HM = 7 := rfl; clear q HM; intro g8 u8 HG8 HM) | (have q : dV HM = 8 := rfl; clear q HM; intro g9 u9 HG9 HM) | (have q : dV HM = 9 := rfl; clear q HM; intro g10 u10 HG10 HM) | (have q : dV HM = 10 := rfl; clear q HM; intro g11 u11 HG11 HM) | (have q : dV HM = 11 := rfl; clear q HM; intro g12 u12 HG12 HM) | (have q : dV HM = 12 := rfl; clear q HM; intro g13 u13 HG13 HM) | (have q : dV HM = 13 := rfl; clear q HM; intro g14 u14 HG14 HM)))
              refine (Gaps_any true nx dp dr A6 (n + 1) c6 l6 _ (Lib.hid KR.out.now) (by omega)).mono ?_
              rintro e u9 hg
              unfold GapP at hg
              rw [HGE.out, ← HG2L.out] at hg
              obtain ⟨A9, c9, rfl, hr9, hb⟩ := hg
              have HR9 := Lib.hid hr9
              have HB2 := Lib.hid (HB.out.trans (hb.mono HB.out.size))
              have KI2 := Lib.hid (KI.out.call hb)
              have HM2 := Lib.hid (HM.out.below hb)
              clear hr9 hb HB KI KR HM
              have HB := HB2
              have KI := KI2
              have HM := HM2
              clear HB2 KI2 HM2
              go_wp2_with (first | (refine wv_i1 (by rfl) _ rfl rfl HM ?_; clear HM; intro gi ub HEQ HBB HM) | (first | (refine jL ?_) | (refine jS ?_; clear HM; intro us HM; simp only [List.set, List.setIfInBounds_toArray, List.set_cons_zero, List.set_cons_succ] at HM) | (refine jN ?_; first | (have q : dV HM = 0 := rfl; clear q HM; intro g1 u1 HG1 HM) | (have q : dV HM = 1 := rfl; clear q HM; intro g2 u2 HG2 HM) | (have q : dV HM = 2 := rfl; clear q HM; intro g3 u3 HG3 HM) | (have q : dV HM = 3 := rfl; clear q HM; intro g4 u4 HG4 HM) | (have q : dV HM = 4 := rfl; clear q HM; intro g5 u5 HG5 HM) | (have q : dV HM = 5 := rfl; clear q HM; intro g6 u6 HG6 HM) | (have q : dV HM = 6 := rfl; clear q HM; intro g7 u7 HG7 HM) | (have q : dV HM = 7 := rfl; clear q HM; intro g8 u8 HG8 HM) | (have q : dV HM = 8 := rfl; clear q HM; intro g9 u9 HG9 HM) | (have q : dV HM = 9 := rfl; clear q HM; intro g10 u10 HG10 HM) | (have q : dV HM = 10 := rfl; clear q HM; intro g11 u11 HG11 HM) | (have q : dV HM = 11 := rfl; clear q HM; intro g12 u12 HG12 HM) | (have q : dV HM = 12 := rfl; clear q HM; intro g13 u13 HG13 HM) | (have q : dV HM = 13 := rfl; clear q HM; intro g14 u14 HG14 HM))))
              have HB2 := Lib.hid (HB.out.trans (HBB.out.mono HB.out.size))
              refine (requal_any B6 (some ⟨gi, 0, none⟩) 1 1 1 1 [0] [0] true _ (by decide) (by decide) (KI.out.call HBB.out).now (RdI.of_blk (HM.out.get (g := gi) (by exact vmemOf)) rfl) (by decide)).mono ?_
              rintro e u ⟨rfl, q, rfl⟩
              have HM2 := Lib.hid (HM.out.below (below_drewN (Below.refl _ _) q))
              have hvc := HVC.out _ (below_drewN HB2.out q)
              have HR10 := Lib.hid ((HR9.out.below HBB.out).below (below_drewN (Below.refl _ _) q))
              clear HM HB HB2 HBB HEQ KI HR9
              have HM := HM2
              clear HM2
              generalize World.drewN _ q = ud at HM hvc HR10 ⊢
              have wg : IntKind.i64.wrap ((G : Int) - 1) = (G2 : Int) := by rw [IntWalk.i64_in _ (by omega)]; have := HGS.out; omega
              go_wp2_with (first | (refine wv_ldA (by rfl) 3 _ rfl rfl oneInt hvc ?_) | (first | (refine jL ?_) | (refine jS ?_; clear HM; intro us HM; simp only [List.set, List.setIfInBounds_toArray, List.set_cons_zero, List.set_cons_succ] at HM) | (refine jN ?_; first | (have q : dV HM = 0 := rfl; clear q HM; intro g1 u1 HG1 HM) | (have q : dV HM = 1 := rfl; clear q HM; intro g2 u2 HG2 HM) | (have q : dV HM = 2 := rfl; clear q HM; intro g3 u3 HG3 HM) | (have q : dV HM = 3 := rfl; clear q HM; intro g4 u4 HG4 HM) | (have q : dV HM = 4 := rfl; clear q HM; intro g5 u5 HG5 HM) | (have q : dV HM = 5 := rfl; clear q HM; intro g6 u6 HG6 HM) | (have q : dV HM = 6 := rfl; clear q HM; intro g7 u7 HG7 HM) | (have q : dV HM = 7 := rfl; clear q HM; intro g8 u8 HG8 HM) | (have q : dV HM = 8 := rfl; clear q HM; intro g9 u9 HG9 HM) | (have q : dV HM = 9 := rfl; clear q HM; intro g10 u10 HG10 HM) | (have q : dV HM = 10 := rfl; clear q HM; intro g11 u11 HG11 HM) | (have q : dV HM = 11 := rfl; clear q HM; intro g12 u12 HG12 HM) | (have q : dV HM = 12 := rfl; clear q HM; intro g13 u13 HG13 HM) | (have q : dV HM = 13 := rfl; clear q HM; intro g14 u14 HG14 HM))))
              refine (has_any A9 G2 c9 g2 v _ HR10 (by have := HGS.out; omega)).mono ?_
              rw [decide_eq_false HF2.out.2]
              rintro e u ⟨rfl, hb⟩
              have HM2 := Lib.hid (HM.out.below hb)
              clear hb HM
              have HM := HM2
              clear HM2
              go_wp2_with (first | (refine jL ?_) | (refine jS ?_; clear HM; intro us HM; simp only [List.set, List.setIfInBounds_toArray, List.set_cons_zero, List.set_cons_succ] at HM) | (refine jN ?_; first | (have q : dV HM = 0 := rfl; clear q HM; intro g1 u1 HG1 HM) | (have q : dV HM = 1 := rfl; clear q HM; intro g2 u2 HG2 HM) | (have q : dV HM = 2 := rfl; clear q HM; intro g3 u3 HG3 HM) | (have q : dV HM = 3 := rfl; clear q HM; intro g4 u4 HG4 HM) | (have q : dV HM = 4 := rfl; clear q HM; intro g5 u5 HG5 HM) | (have q : dV HM = 5 := rfl; clear q HM; intro g6 u6 HG6 HM) | (have q : dV HM = 6 := rfl; clear q HM; intro g7 u7 HG7 HM) | (have q : dV HM = 7 := rfl; clear q HM; intro g8 u8 HG8 HM) | (have q : dV HM = 8 := rfl; clear q HM; intro g9 u9 HG9 HM) | (have q : dV HM = 9 := rfl; clear q HM; intro g10 u10 HG10 HM) | (have q : dV HM = 10 := rfl; clear q HM; intro g11 u11 HG11 HM) | (have q : dV HM = 11 := rfl; clear q HM; intro g12 u12 HG12 HM) | (have q : dV HM = 12 := rfl; clear q HM; intro g13 u13 HG13 HM) | (have q : dV HM = 13 := rfl; clear q HM; intro g14 u14 HG14 HM)))
              go_ret
              exact ⟨rfl, HM.out.1⟩
          · rw [if_pos (by rfl)]
            refine ow_al rfl HB ?_
            intro g8 uc HB2 hb9 HBj HGj HGc
            clear HGc
            clear HB
            have HB := HB2
            clear HB2 hb9
            refine hK.out _ _ HB.out (fun hHeld => ?_)
            clear hK K
            (try simp only [Act.put, List.setIfInBounds_toArray, List.set_cons_zero, List.set_cons_succ])
            refine wpAnyH_ready (rs := [5]) (by kernel_rfl) (by simp) ?_; refine AllReadyH.cons rfl (fun K hK => ?_) (AllReadyH.nil)
            rw [if_pos (by rfl)]
            refine ow_b1 _ rfl rfl HB ?_
            intro gb uc HB2 hb9 HBb HGb
            have X2 := Lib.hid (HBj.out.below hb9.out HBj.out.lt)
            clear HBj
            have HBj := X2
            clear X2
            clear HB
            have HB := HB2
            clear HB2 hb9
            refine hK.out _ _ HB.out (fun hHeld => ?_)
            clear hK K
            (try simp only [Act.put, List.setIfInBounds_toArray, List.set_cons_zero, List.set_cons_succ])
            (refine wa_take (i := 6) (v := .agg #[.int .i64 v, .slice (some ⟨gb, 0, none⟩) 1 1]) rfl (by kernel_rfl) (by kernel_rfl) (by kernel_rfl) (fun _ _ _ h => h) (yi_free rfl (fun u => by go_simp)) hHeld rfl ?_; (try simp only [Act.put, List.setIfInBounds_toArray, List.set_cons_zero, List.set_cons_succ]))
            refine wpAnyH_ready (rs := [7]) (by kernel_rfl) (by simp) ?_; refine AllReadyH.cons rfl (fun K hK => ?_) (AllReadyH.nil)
            rw [if_pos (by rfl)]
            refine ow_k1 _ rfl rfl HB ?_
            intro gp uc HB2 hb9 HBp HGp
            have X2 := Lib.hid (HBj.out.below hb9.out HBj.out.lt)
            clear HBj
            have HBj := X2
            clear X2
            have X2 := Lib.hid (HBb.out.below hb9.out HBb.out.lt)
            clear HBb
            have HBb := X2
            clear X2
            clear HB
            have HB := HB2
            clear HB2 hb9
            refine hK.out _ _ HB.out (fun hHeld => ?_)
            clear hK K
            (try simp only [Act.put, List.setIfInBounds_toArray, List.set_cons_zero, List.set_cons_succ])
            refine wpAnyH_ready (rs := [8]) (by kernel_rfl) (by simp) ?_; refine AllReadyH.cons rfl (fun K hK => ?_) (AllReadyH.nil)
            rw [if_pos (by rfl)]; go_simp
            have hl8 := HBj.out.lt
            refine (Put_to true nx dp dr (some L) n c ls (some ⟨gp, 0, none⟩) 1 1 [⟨v, some ⟨gb, 0, none⟩, 1, 1, [(1 : Int).toNat]⟩] _ (ls.map pl) (putS ⟨true, nx, dp, dr, ls.map pl⟩ (v, [1])).q [(v, [1])] [0] (n + 1) (Lib.hid (HRD.out _ HB.out)) (Lib.hid rfl) (Lib.hid (rdP_two HBp.out HBb.out (by decide) (by decide))) (Lib.hid rfl) (by decide) HPOK (by omega) HPP).mono ?_
            rintro e u6 ⟨A6, c6, l6, B6, rfl, hq6, hk6, hb⟩
            have HQ6 := Lib.hid hq6
            clear hq6
            have hk7 := hk6 [g8] (fun x hx => by rw [List.mem_singleton.1 hx]; exact hl8)
            clear hl8
            have KR := Lib.hid hk7.1
            have KI := Lib.hid hk7.2
            clear hk6 hk7
            have X2 := Lib.hid (HBj.out.below hb HBj.out.lt)
            clear HBj
            have HBj := X2
            clear X2
            have X2 := Lib.hid (HBb.out.below hb HBb.out.lt)
            clear HBb
            have HBb := X2
            clear X2
            have X2 := Lib.hid (HBp.out.below hb HBp.out.lt)
            clear HBp
            have HBp := X2
            clear X2
            have HB1 := Lib.hid (HB.out.trans (hb.mono HB.out.size)); clear hb HB; have HB := HB1; clear HB1; go_wp2_with fail; refine hK.out _ _ HB.out (fun hHeld => ?_); clear hK K; (try simp only [Act.put, List.setIfInBounds_toArray, List.set_cons_zero, List.set_cons_succ])
            (refine wa_take (i := 9) (v := .tuple #[jtV true nx dp dr A6 (n + 1) c6, .slice B6 1 1, .int .i64 0]) rfl (by kernel_rfl) (by kernel_rfl) (by kernel_rfl) (fun _ _ _ h => h) (yi_free rfl (fun u => rfl)) hHeld rfl ?_; (try simp only [Act.put, List.setIfInBounds_toArray, List.set_cons_zero, List.set_cons_succ]))
            (refine wa_take (i := 10) (v := jtV true nx dp dr A6 (n + 1) c6) rfl (by kernel_rfl) (by kernel_rfl) (by kernel_rfl) (fun _ _ _ h => h) (yi_free rfl (fun u => rfl)) hHeld rfl ?_; (try simp only [Act.put, List.setIfInBounds_toArray, List.set_cons_zero, List.set_cons_succ]))
            (refine wa_take (i := 11) (v := .slice B6 1 1) rfl (by kernel_rfl) (by kernel_rfl) (by kernel_rfl) (fun _ _ _ h => h) (yi_free rfl (fun u => rfl)) hHeld rfl ?_; (try simp only [Act.put, List.setIfInBounds_toArray, List.set_cons_zero, List.set_cons_succ]))
            (refine wa_take (i := 12) (v := .int .i64 0) rfl (by kernel_rfl) (by kernel_rfl) (by kernel_rfl) (fun _ _ _ h => h) (yi_free rfl (fun u => rfl)) hHeld rfl ?_; (try simp only [Act.put, List.setIfInBounds_toArray, List.set_cons_zero, List.set_cons_succ]))
            have HMc : Hid (MV w _ [(g8, 24, #[.bool false, .int .i64 0, .int .i64 0, .int .i64 0, .slice none 0 0])] _) := Lib.hid ((HM.out.add HB.out HGj.out HBj.out).sub ((List.Sublist.refl [_]).append (List.nil_sublist _)))
            have HBC := Lib.hid HMc.out.1
            refine wpAnyH_ready (rs := [14]) (by kernel_rfl) (by simp) ?_; refine AllReadyH.cons rfl (fun K hK => ?_) (AllReadyH.nil)
            rw [if_pos (by rfl)]
            refine ov_store _ _ _ rfl rfl rfl (by exact rowOf) HMc (by exact vidxOf) (by exact vsizOf) (by exact vsizOf) (by exact voneOf) rfl ?_
            clear HM
            intro u8 HM
            try dsimp only [List.set] at HM
            have HCS := Lib.hid (Ch.mv HBC.out HM.out (gs := [g8]) mem_one)
            have HB2 := Lib.hid (HCS.out.below HB.out (fun x hx => by rw [List.mem_singleton.1 hx]; exact HGj.out) HB.out.size)
            have KR2 := Lib.hid (KR.out.step HCS.out)
            have KI2 := Lib.hid (KI.out.step HCS.out)
            clear HB KR KI HMc HBC HCS
            have HB := HB2
            have KR := KR2
            have KI := KI2
            clear HB2 KR2 KI2
            refine hK.out _ _ HB.out (fun hHeld => ?_)
            clear hK K
            (try simp only [Act.put, List.setIfInBounds_toArray, List.set_cons_zero, List.set_cons_succ])
            (refine wa_take (i := 15) (v := .slice B6 1 1) rfl (by kernel_rfl) (by kernel_rfl) (by kernel_rfl) (fun _ _ _ h => h) (yi_free rfl (fun u => rfl)) hHeld rfl ?_; (try simp only [Act.put, List.setIfInBounds_toArray, List.set_cons_zero, List.set_cons_succ]))
            (refine wa_take (i := 16) (v := .int .i64 0) rfl (by kernel_rfl) (by kernel_rfl) (by kernel_rfl) (fun _ _ _ h => h) (yi_free rfl (fun u => rfl)) hHeld rfl ?_; (try simp only [Act.put, List.setIfInBounds_toArray, List.set_cons_zero, List.set_cons_succ]))
            refine wpAnyH_done (by kernel_rfl) ?_ _
            clear hHeld
            have HGE := Lib.hid (show gapsJ ⟨true, nx, dp, dr, l6.map pl⟩ = gapsJ (putS ⟨true, nx, dp, dr, ls.map pl⟩ (v, [1])) by rw [HQ6.out]; rfl)
            have HF2 := Lib.hid HFV.out.2.2.2
            obtain ⟨g2, hg2⟩ : ∃ g2, g2 = gapsJ (putS ⟨true, nx, dp, dr, ls.map pl⟩ (v, [1])) := ⟨_, rfl⟩
            rw [← hg2] at HGE HF2
            obtain ⟨G2, hG2⟩ : ∃ G2, G2 = g2.length := ⟨_, rfl⟩
            have HGS := Lib.hid (show G2 + 1 = G by rw [hG2, HGG.out]; exact HF2.out.1)
            have HG2L := Lib.hid hG2
            clear hg2 hG2
            go_wp2_with (first | (refine jL ?_) | (refine jS ?_; clear HM; intro us HM; simp only [List.set, List.setIfInBounds_toArray, List.set_cons_zero, List.set_cons_succ] at HM) | (refine jN ?_; first | (have q : dV HM = 0 := rfl; clear q HM; intro g1 u1 HG1 HM) | (have q : dV HM = 1 := rfl; clear q HM; intro g2 u2 HG2 HM) | (have q : dV HM = 2 := rfl; clear q HM; intro g3 u3 HG3 HM) | (have q : dV HM = 3 := rfl; clear q HM; intro g4 u4 HG4 HM) | (have q : dV HM = 4 := rfl; clear q HM; intro g5 u5 HG5 HM) | (have q : dV HM = 5 := rfl; clear q HM; intro g6 u6 HG6 HM) | (have q : dV HM = 6 := rfl; clear q HM; intro g7 u7 HG7 HM) | (have q : dV HM = 7 := rfl; clear q HM; intro g8 u8 HG8 HM) | (have q : dV HM = 8 := rfl; clear q HM; intro g9 u9 HG9 HM) | (have q : dV HM = 9 := rfl; clear q HM; intro g10 u10 HG10 HM) | (have q : dV HM = 10 := rfl; clear q HM; intro g11 u11 HG11 HM) | (have q : dV HM = 11 := rfl; clear q HM; intro g12 u12 HG12 HM) | (have q : dV HM = 12 := rfl; clear q HM; intro g13 u13 HG13 HM) | (have q : dV HM = 13 := rfl; clear q HM; intro g14 u14 HG14 HM)))
            refine (Gaps_any true nx dp dr A6 (n + 1) c6 l6 _ (Lib.hid KR.out.now) (by omega)).mono ?_
            rintro e u9 hg
            unfold GapP at hg
            rw [HGE.out, ← HG2L.out] at hg
            obtain ⟨A9, c9, rfl, hr9, hb⟩ := hg
            have HR9 := Lib.hid hr9
            have HB2 := Lib.hid (HB.out.trans (hb.mono HB.out.size))
            have KI2 := Lib.hid (KI.out.call hb)
            have HM2 := Lib.hid (HM.out.below hb)
            clear hr9 hb HB KI KR HM
            have HB := HB2
            have KI := KI2
            have HM := HM2
            clear HB2 KI2 HM2
            go_wp2_with (first | (refine wv_i1 (by rfl) _ rfl rfl HM ?_; clear HM; intro gi ub HEQ HBB HM) | (first | (refine jL ?_) | (refine jS ?_; clear HM; intro us HM; simp only [List.set, List.setIfInBounds_toArray, List.set_cons_zero, List.set_cons_succ] at HM) | (refine jN ?_; first | (have q : dV HM = 0 := rfl; clear q HM; intro g1 u1 HG1 HM) | (have q : dV HM = 1 := rfl; clear q HM; intro g2 u2 HG2 HM) | (have q : dV HM = 2 := rfl; clear q HM; intro g3 u3 HG3 HM) | (have q : dV HM = 3 := rfl; clear q HM; intro g4 u4 HG4 HM) | (have q : dV HM = 4 := rfl; clear q HM; intro g5 u5 HG5 HM) | (have q : dV HM = 5 := rfl; clear q HM; intro g6 u6 HG6 HM) | (have q : dV HM = 6 := rfl; clear q HM; intro g7 u7 HG7 HM) | (have q : dV HM = 7 := rfl; clear q HM; intro g8 u8 HG8 HM) | (have q : dV HM = 8 := rfl; clear q HM; intro g9 u9 HG9 HM) | (have q : dV HM = 9 := rfl; clear q HM; intro g10 u10 HG10 HM) | (have q : dV HM = 10 := rfl; clear q HM; intro g11 u11 HG11 HM) | (have q : dV HM = 11 := rfl; clear q HM; intro g12 u12 HG12 HM) | (have q : dV HM = 12 := rfl; clear q HM; intro g13 u13 HG13 HM) | (have q : dV HM = 13 := rfl; clear q HM; intro g14 u14 HG14 HM))))
            have HB2 := Lib.hid (HB.out.trans (HBB.out.mono HB.out.size))
            refine (requal_any B6 (some ⟨gi, 0, none⟩) 1 1 1 1 [0] [0] true _ (by decide) (by decide) (KI.out.call HBB.out).now (RdI.of_blk (HM.out.get (g := gi) (by exact vmemOf)) rfl) (by decide)).mono ?_
            rintro e u ⟨rfl, q, rfl⟩
            have HM2 := Lib.hid (HM.out.below (below_drewN (Below.refl _ _) q))
            have hvc := HVC.out _ (below_drewN HB2.out q)
            have HR10 := Lib.hid ((HR9.out.below HBB.out).below (below_drewN (Below.refl _ _) q))
            clear HM HB HB2 HBB HEQ KI HR9
            have HM := HM2
            clear HM2
            generalize World.drewN _ q = ud at HM hvc HR10 ⊢
            have wg : IntKind.i64.wrap ((G : Int) - 1) = (G2 : Int) := by rw [IntWalk.i64_in _ (by omega)]; have := HGS.out; omega
            go_wp2_with (first | (refine wv_ldA (by rfl) 3 _ rfl rfl oneInt hvc ?_) | (first | (refine jL ?_) | (refine jS ?_; clear HM; intro us HM; simp only [List.set, List.setIfInBounds_toArray, List.set_cons_zero, List.set_cons_succ] at HM) | (refine jN ?_; first | (have q : dV HM = 0 := rfl; clear q HM; intro g1 u1 HG1 HM) | (have q : dV HM = 1 := rfl; clear q HM; intro g2 u2 HG2 HM) | (have q : dV HM = 2 := rfl; clear q HM; intro g3 u3 HG3 HM) | (have q : dV HM = 3 := rfl; clear q HM; intro g4 u4 HG4 HM) | (have q : dV HM = 4 := rfl; clear q HM; intro g5 u5 HG5 HM) | (have q : dV HM = 5 := rfl; clear q HM; intro g6 u6 HG6 HM) | (have q : dV HM = 6 := rfl; clear q HM; intro g7 u7 HG7 HM) | (have q : dV HM = 7 := rfl; clear q HM; intro g8 u8 HG8 HM) | (have q : dV HM = 8 := rfl; clear q HM; intro g9 u9 HG9 HM) | (have q : dV HM = 9 := rfl; clear q HM; intro g10 u10 HG10 HM) | (have q : dV HM = 10 := rfl; clear q HM; intro g11 u11 HG11 HM) | (have q : dV HM = 11 := rfl; clear q HM; intro g12 u12 HG12 HM) | (have q : dV HM = 12 := rfl; clear q HM; intro g13 u13 HG13 HM) | (have q : dV HM = 13 := rfl; clear q HM; intro g14 u14 HG14 HM))))
            refine (has_any A9 G2 c9 g2 v _ HR10 (by have := HGS.out; omega)).mono ?_
            rw [decide_eq_false HF2.out.2]
            rintro e u ⟨rfl, hb⟩
            have HM2 := Lib.hid (HM.out.below hb)
            clear hb HM
            have HM := HM2
            clear HM2
            go_wp2_with (first | (refine jL ?_) | (refine jS ?_; clear HM; intro us HM; simp only [List.set, List.setIfInBounds_toArray, List.set_cons_zero, List.set_cons_succ] at HM) | (refine jN ?_; first | (have q : dV HM = 0 := rfl; clear q HM; intro g1 u1 HG1 HM) | (have q : dV HM = 1 := rfl; clear q HM; intro g2 u2 HG2 HM) | (have q : dV HM = 2 := rfl; clear q HM; intro g3 u3 HG3 HM) | (have q : dV HM = 3 := rfl; clear q HM; intro g4 u4 HG4 HM) | (have q : dV HM = 4 := rfl; clear q HM; intro g5 u5 HG5 HM) | (have q : dV HM = 5 := rfl; clear q HM; intro g6 u6 HG6 HM) | (have q : dV HM = 6 := rfl; clear q HM; intro g7 u7 HG7 HM) | (have q : dV HM = 7 := rfl; clear q HM; intro g8 u8 HG8 HM) | (have q : dV HM = 8 := rfl; clear q HM; intro g9 u9 HG9 HM) | (have q : dV HM = 9 := rfl; clear q HM; intro g10 u10 HG10 HM) | (have q : dV HM = 10 := rfl; clear q HM; intro g11 u11 HG11 HM) | (have q : dV HM = 11 := rfl; clear q HM; intro g12 u12 HG12 HM) | (have q : dV HM = 12 := rfl; clear q HM; intro g13 u13 HG13 HM) | (have q : dV HM = 13 := rfl; clear q HM; intro g14 u14 HG14 HM)))
            go_ret
            exact ⟨rfl, HM.out.1⟩
    · obtain rfl : ck = 1 := by rw [HCE.out]; exact if_neg hok
      clear hok
      go_enter Try.func7, Try.ntmps7
      go_wp2_with (first | (refine jL ?_) | (refine jS ?_; clear HM; intro us HM; simp only [List.set, List.setIfInBounds_toArray, List.set_cons_zero, List.set_cons_succ] at HM) | (refine jN ?_; first | (have q : dV HM = 0 := rfl; clear q HM; intro g1 u1 HG1 HM) | (have q : dV HM = 1 := rfl; clear q HM; intro g2 u2 HG2 HM) | (have q : dV HM = 2 := rfl; clear q HM; intro g3 u3 HG3 HM) | (have q : dV HM = 3 := rfl; clear q HM; intro g4 u4 HG4 HM) | (have q : dV HM = 4 := rfl; clear q HM; intro g5 u5 HG5 HM) | (have q : dV HM = 5 := rfl; clear q HM; intro g6 u6 HG6 HM) | (have q : dV HM = 6 := rfl; clear q HM; intro g7 u7 HG7 HM) | (have q : dV HM = 7 := rfl; clear q HM; intro g8 u8 HG8 HM) | (have q : dV HM = 8 := rfl; clear q HM; intro g9 u9 HG9 HM) | (have q : dV HM = 9 := rfl; clear q HM; intro g10 u10 HG10 HM) | (have q : dV HM = 10 := rfl; clear q HM; intro g11 u11 HG11 HM) | (have q : dV HM = 11 := rfl; clear q HM; intro g12 u12 HG12 HM) | (have q : dV HM = 12 := rfl; clear q HM; intro g13 u13 HG13 HM) | (have q : dV HM = 13 := rfl; clear q HM; intro g14 u14 HG14 HM)))
      refine (live_any _).mono ?_
      rintro e u1 ⟨rfl, hb⟩
      have HM2 := Lib.hid (HM.out.below hb)
      clear hb HM
      have HM := HM2
      clear HM2
      go_wp2_with (first | (refine jL ?_) | (refine jS ?_; clear HM; intro us HM; simp only [List.set, List.setIfInBounds_toArray, List.set_cons_zero, List.set_cons_succ] at HM) | (refine jN ?_; first | (have q : dV HM = 0 := rfl; clear q HM; intro g1 u1 HG1 HM) | (have q : dV HM = 1 := rfl; clear q HM; intro g2 u2 HG2 HM) | (have q : dV HM = 2 := rfl; clear q HM; intro g3 u3 HG3 HM) | (have q : dV HM = 3 := rfl; clear q HM; intro g4 u4 HG4 HM) | (have q : dV HM = 4 := rfl; clear q HM; intro g5 u5 HG5 HM) | (have q : dV HM = 5 := rfl; clear q HM; intro g6 u6 HG6 HM) | (have q : dV HM = 6 := rfl; clear q HM; intro g7 u7 HG7 HM) | (have q : dV HM = 7 := rfl; clear q HM; intro g8 u8 HG8 HM) | (have q : dV HM = 8 := rfl; clear q HM; intro g9 u9 HG9 HM) | (have q : dV HM = 9 := rfl; clear q HM; intro g10 u10 HG10 HM) | (have q : dV HM = 10 := rfl; clear q HM; intro g11 u11 HG11 HM) | (have q : dV HM = 11 := rfl; clear q HM; intro g12 u12 HG12 HM) | (have q : dV HM = 12 := rfl; clear q HM; intro g13 u13 HG13 HM) | (have q : dV HM = 13 := rfl; clear q HM; intro g14 u14 HG14 HM)))
      refine (HFEW.out _ HM.out.1).mono ?_
      rintro e u2 ⟨rfl, hb⟩
      have HM2 := Lib.hid (HM.out.below hb)
      clear hb HM HFEW
      have HM := HM2
      clear HM2
      go_wp2_with (first | (refine jL ?_) | (refine jS ?_; clear HM; intro us HM; simp only [List.set, List.setIfInBounds_toArray, List.set_cons_zero, List.set_cons_succ] at HM) | (refine jN ?_; first | (have q : dV HM = 0 := rfl; clear q HM; intro g1 u1 HG1 HM) | (have q : dV HM = 1 := rfl; clear q HM; intro g2 u2 HG2 HM) | (have q : dV HM = 2 := rfl; clear q HM; intro g3 u3 HG3 HM) | (have q : dV HM = 3 := rfl; clear q HM; intro g4 u4 HG4 HM) | (have q : dV HM = 4 := rfl; clear q HM; intro g5 u5 HG5 HM) | (have q : dV HM = 5 := rfl; clear q HM; intro g6 u6 HG6 HM) | (have q : dV HM = 6 := rfl; clear q HM; intro g7 u7 HG7 HM) | (have q : dV HM = 7 := rfl; clear q HM; intro g8 u8 HG8 HM) | (have q : dV HM = 8 := rfl; clear q HM; intro g9 u9 HG9 HM) | (have q : dV HM = 9 := rfl; clear q HM; intro g10 u10 HG10 HM) | (have q : dV HM = 10 := rfl; clear q HM; intro g11 u11 HG11 HM) | (have q : dV HM = 11 := rfl; clear q HM; intro g12 u12 HG12 HM) | (have q : dV HM = 12 := rfl; clear q HM; intro g13 u13 HG13 HM) | (have q : dV HM = 13 := rfl; clear q HM; intro g14 u14 HG14 HM)))
      refine (HCK.out _ HM.out.1).mono ?_
      rintro e u3 ⟨rfl, hb⟩
      have HM2 := Lib.hid (HM.out.below hb)
      clear hb HM HCK
      have HM := HM2
      clear HM2
      go_wp2_with (first | (refine jL ?_) | (refine jS ?_; clear HM; intro us HM; simp only [List.set, List.setIfInBounds_toArray, List.set_cons_zero, List.set_cons_succ] at HM) | (refine jN ?_; first | (have q : dV HM = 0 := rfl; clear q HM; intro g1 u1 HG1 HM) | (have q : dV HM = 1 := rfl; clear q HM; intro g2 u2 HG2 HM) | (have q : dV HM = 2 := rfl; clear q HM; intro g3 u3 HG3 HM) | (have q : dV HM = 3 := rfl; clear q HM; intro g4 u4 HG4 HM) | (have q : dV HM = 4 := rfl; clear q HM; intro g5 u5 HG5 HM) | (have q : dV HM = 5 := rfl; clear q HM; intro g6 u6 HG6 HM) | (have q : dV HM = 6 := rfl; clear q HM; intro g7 u7 HG7 HM) | (have q : dV HM = 7 := rfl; clear q HM; intro g8 u8 HG8 HM) | (have q : dV HM = 8 := rfl; clear q HM; intro g9 u9 HG9 HM) | (have q : dV HM = 9 := rfl; clear q HM; intro g10 u10 HG10 HM) | (have q : dV HM = 10 := rfl; clear q HM; intro g11 u11 HG11 HM) | (have q : dV HM = 11 := rfl; clear q HM; intro g12 u12 HG12 HM) | (have q : dV HM = 12 := rfl; clear q HM; intro g13 u13 HG13 HM) | (have q : dV HM = 13 := rfl; clear q HM; intro g14 u14 HG14 HM)))
      go_ret
      exact ⟨rfl, HM.out.1⟩
end Go.Proofs.Ytjbdmhbahdibgaa.Lp
