/-
  What Gaps and Flush answer.
-/
import Derived.Test.YtffapinabidkiaaUV
set_option linter.unusedSimpArgs false
set_option linter.unusedVariables false
/- UW -/
namespace Go.Proofs.Ytffapinabidkiaa.Lp
open Go.RowKit Go.Proofs.Ytffapinabidkiaa.Fq
theorem run_build_i1 (v : Int) (w : World) : (Instr.buildSlice 35 1 #[(0, .int .i64 v)]).run Try.prog w = .ok (.slice (some ⟨w.heap.size, 0, none⟩) 1 1) (w.alloc (.cells (icells [v]) 3)) := by
  have hz : (zeroValue 3).run Try.prog w = .ok (.int .i64 0) w := by kernel_rfl
  simp only [Instr.buildSlice, Sem.run_bind, run_underlying Try.underlying35 w, Result.andThen_ok, arn_elem w]
  rw [if_neg (by decide), if_neg (by decide)]
  simp only [Sem.run_bind, hz, Result.andThen_ok, Sem.run_pure, Value.cells]
  have hf : Instr.fill (fun i => some (i * 1, 1)) ((Array.range (1 * 1)).map (fun x => #[Value.int IntKind.i64 0][x % #[Value.int IntKind.i64 0].size]!)) [(0, Value.int IntKind.i64 v)] = some (icells [v]) := by kernel_rfl
  rw [hf]
  rfl
section
variable {ops : Array Oper} {rest : List Oper} {o : Oper} {a : Act} {w w0 w1 : World} {Q : Exit → Act → World → Prop} {L : List Ent}
theorem wv_i1 (hgd : Region.wanted o (yielded ops a.tmps) = true) (x : Operand) (ho : o.op = .buildSlice 35 1 #[(0, x)]) {v : Int} (hx : a.eval x = .int .i64 v) (hm : Hid (MV w0 w1 L w))
    (h : ∀ g w', Hid (w.heap.size = g) → Hid (Below w.heap.size w w') → Hid (MV w0 w1 ((g, 3, icells [v]) :: L) w') → wpList Try.prog ops Q rest (a.put o.dst (.slice (some ⟨g, 0, none⟩) 1 1)) w') : wpList Try.prog ops Q (o :: rest) a w :=
  wl_step hgd fun K hK => by
    have := hK _ _ (h w.heap.size _ (Lib.hid rfl) (Lib.hid ((Below.refl w.heap.size w).alloc (Nat.le_refl _) _)) (Lib.hid (hm.out.alloc 3 _)))
    unfold Oper.wp execOp
    simp only [ho, List.map_toArray, List.map_cons, List.map_nil, hx, Sem.run_bind, run_build_i1 v w, Result.andThen_ok, Sem.run_pure]
    exact this
end
def iV (x : Int) : Value := .int .i64 x
theorem iV_one (zs : List Int) : ∀ u ∈ zs.map iV, u.oneCell' = true := by
  intro u hu
  obtain ⟨x, _, rfl⟩ := List.mem_map.1 hu
  rfl
theorem own_below {w w' : World} {base n k : Nat} {T : TypeId} {v : Value} {xs : List Value} (h : w.ownsRow base T k v n xs) (hb : Below w.heap.size w w') : w'.ownsRow base T k v n xs :=
  h.kept (only_of_below hb none) (by cases v.ownBlock with | none => exact .inl rfl | some k => exact .inr (by simp))
theorem own_ne {w : World} {base n k : Nat} {T T' : TypeId} {v : Value} {xs : List Value} (h : w.ownsRow base T k v n xs) {r : Nat} {cs : Array Value} (hb : Blk w r T' cs) (hT : T' ≠ T) : v.ownBlock ≠ some r := by
  intro he
  rcases h.2 with ⟨rfl, -⟩ | ⟨g, cap, cur, rfl, -, hg, -⟩
  · cases he
  · have : g = r := by simpa [Value.ownBlock] using he
    subst this
    have h1 : w.heap[g]? = some (.cells cs T' (0, 0)) := hb
    rw [h1] at hg
    injection hg with hg
    injection hg with _ hg _
    exact hT hg
theorem own_rdI {w : World} {base n : Nat} {v : Value} {zs : List Int} (h : w.ownsRow base 3 1 v n (zs.map iV)) : ∃ A c, v = .slice A n c ∧ RdI w A n zs := by
  have hlen : zs.length = n := by have := h.1; rw [List.length_map, Nat.mul_one] at this; exact this
  rcases h.2 with ⟨rfl, h0⟩ | ⟨g, cap, cur, rfl, hb, hh, hnc, hcm, hcs, ht⟩
  · subst h0
    exact ⟨none, 0, rfl, hlen, fun h => absurd h (by omega)⟩
  · refine ⟨some ⟨g, 0, none⟩, cap, rfl, hlen, fun _ => ⟨_, rfl, fun j x hx => ?_⟩⟩
    exact World.ownsRow.cells h (g := g) rfl j (iV x) (by rw [List.getElem?_map, hx]; rfl)
theorem MV.grown {w0 w1 w w' : World} {L : List Ent} (h : MV w0 w1 L w) {row : Option Nat} (hb : w.grownBy w' row) (hr : ∀ k, row = some k → w0.heap.size ≤ k ∧ ∀ e ∈ L, e.1 ≠ k) : MV w0 w' L w' :=
  ⟨⟨hb.os.trans h.1.os, hb.tape.trans h.1.tape, hb.output.trans h.1.output, Nat.le_trans h.1.size hb.size, fun i hi => (hb.block i (Nat.lt_of_lt_of_le hi h.1.size) (fun e => by have := (hr i e.symm).1; omega)).trans (h.1.block i hi)⟩,
    fun e he => (hb.block e.1 (h.2.1 e he).lt (fun e' => (hr e.1 e'.symm).2 e he rfl)).trans (h.2.1 e he), h.2.2.1, h.2.2.2.1, MF.refl _ _⟩
theorem cells_one {w : World} {g : Nat} {T : TypeId} {x : Int} (h : Blk w g T (icells [x])) : ∀ (j : Nat) (u : Value), [iV x][j]? = some u → w.cell? ((⟨g, 0, none⟩ : Addr).add j) = some u := by
  intro j u hu
  rw [add_own, h.cell]
  unfold icells
  rw [List.getElem?_toArray]
  exact hu
/-- the numbers of which there is none -/
def GapP (w : World) (j : Jp) (e : Ending) (w' : World) : Prop := ∃ A c, e = .returned (.slice A (gapsJ j).length c) ∧ RdI w' A (gapsJ j).length (gapsJ j) ∧ Below w.heap.size w w'
theorem take_all {q : List Pq} {n : Nat} (h : q.length = n) : q.take n = q := by rw [← h, List.take_length]
set_option maxRecDepth 100000 in
set_option maxHeartbeats 8000000 in
theorem Gaps_any (on : Bool) (nx dp dr : Int) (A : Option Addr) (n c : Nat) (ls : List Pk) (w : World) (h : Hid (RdP w A n ls)) (hn : n ≤ 281474976710656) :
    Calls Try.prog 21 #[jtV on nx dp dr A n c] w (GapP w ⟨on, nx, dp, dr, ls.map pl⟩) := by
  have HM := Lib.hid (MV.start w)
  have HN := Lib.hid hn
  have hlen := Lib.hid h.out.1
  obtain ⟨ck, hck⟩ : ∃ ck, ck = ckE ⟨on, nx, dp, dr, ls.map pl⟩ := ⟨_, rfl⟩
  have HCK := Lib.hid (fun u (hu : Below w.heap.size w u) => check_any on nx dp dr A n c ls u (Lib.hid (h.out.keep hu)) hn)
  rw [← hck] at HCK
  have HCE := Lib.hid hck
  clear hn hck
  by_cases hok : OkJ ⟨on, nx, dp, dr, ls.map pl⟩
  · obtain rfl : ck = 0 := by rw [HCE.out]; exact if_pos hok
    have HOK := Lib.hid hok
    clear hok
    rcases Nat.eq_zero_or_pos n with h0 | h0
    · subst h0
      have HG := Lib.hid (show gapsJ ⟨on, nx, dp, dr, ls.map pl⟩ = [] from if_neg fun hh => hh.2 (by have := List.eq_nil_of_length_eq_zero hlen.out; rw [this]; rfl))
      go_enter Try.func21, Try.ntmps21
      go_wp2_with (first | (refine jL ?_) | (refine jS ?_; clear HM; intro us HM; simp only [List.set, List.setIfInBounds_toArray, List.set_cons_zero, List.set_cons_succ] at HM) | (refine jN ?_; first | (have q : dV HM = 0 := rfl; clear q HM; intro g1 u1 HG1 HM) | (have q : dV HM = 1 := rfl; clear q HM; intro g2 u2 HG2 HM) | (have q : dV HM = 2 := rfl; clear q HM; intro g3 u3 HG3 HM) | (have q : dV HM = 3 := rfl; clear q HM; intro g4 u4 HG4 HM) | (have q : dV HM = 4 := rfl; clear q HM; intro g5 u5 HG5 HM) | (have q : dV HM = 5 := rfl; clear q HM; intro g6 u6 HG6 HM) | (have q : dV HM = 6 := rfl; clear q HM; intro g7 u7 HG7 HM) | (have q : dV HM = 7 := rfl; clear q HM; intro g8 u8 HG8 HM) | (have q : dV HM = 8 := rfl; clear q HM; intro g9 u9 HG9 HM) | (have q : dV HM = 9 := rfl; clear q HM; intro g10 u10 HG10 HM) | (have q : dV HM = 10 := rfl; clear q HM; intro g11 u11 HG11 HM) | (have q : dV HM = 11 := rfl; clear q HM; intro g12 u12 HG12 HM) | (have q : dV HM = 12 := rfl; clear q HM; intro g13 u13 HG13 HM) | (have q : dV HM = 13 := rfl; clear q HM; intro g14 u14 HG14 HM)))
      refine (HCK.out _ HM.out.1).mono ?_
      rintro e u3 ⟨rfl, hb⟩
      have HM2 := Lib.hid (HM.out.below hb)
      clear hb HM
      have HM := HM2
      clear HM2
      go_wp2_with (first | (refine jL ?_) | (refine jS ?_; clear HM; intro us HM; simp only [List.set, List.setIfInBounds_toArray, List.set_cons_zero, List.set_cons_succ] at HM) | (refine jN ?_; first | (have q : dV HM = 0 := rfl; clear q HM; intro g1 u1 HG1 HM) | (have q : dV HM = 1 := rfl; clear q HM; intro g2 u2 HG2 HM) | (have q : dV HM = 2 := rfl; clear q HM; intro g3 u3 HG3 HM) | (have q : dV HM = 3 := rfl; clear q HM; intro g4 u4 HG4 HM) | (have q : dV HM = 4 := rfl; clear q HM; intro g5 u5 HG5 HM) | (have q : dV HM = 5 := rfl; clear q HM; intro g6 u6 HG6 HM) | (have q : dV HM = 6 := rfl; clear q HM; intro g7 u7 HG7 HM) | (have q : dV HM = 7 := rfl; clear q HM; intro g8 u8 HG8 HM) | (have q : dV HM = 8 := rfl; clear q HM; intro g9 u9 HG9 HM) | (have q : dV HM = 9 := rfl; clear q HM; intro g10 u10 HG10 HM) | (have q : dV HM = 10 := rfl; clear q HM; intro g11 u11 HG11 HM) | (have q : dV HM = 11 := rfl; clear q HM; intro g12 u12 HG12 HM) | (have q : dV HM = 12 := rfl; clear q HM; intro g13 u13 HG13 HM) | (have q : dV HM = 13 := rfl; clear q HM; intro g14 u14 HG14 HM)))
      go_ret
      exact ⟨none, 0, by rw [HG.out]; rfl, by rw [HG.out]; exact RdI.none_, HM.out.1⟩
    · have HG := Lib.hid (show gapsJ ⟨on, nx, dp, dr, ls.map pl⟩ = (gst (firstJ ⟨on, nx, dp, dr, ls.map pl⟩) (ls.map pl)).2 from if_pos ⟨HOK.out, by intro he; rw [List.map_eq_nil_iff] at he; have := hlen.out; rw [he] at this; simp at this; omega⟩)
      have n0 : ((n : Int) == 0) = false := by simp; omega
      have n1 : ¬ n = 0 := by omega
      have HL64 := Lib.hid (show n ≤ 64 by have h1 := okJ_len HOK.out; have h3 := hlen.out; simp only [List.length_map] at h1; omega)
      obtain ⟨x0, hx0⟩ : ∃ x0, ls[0]? = some x0 := ⟨_, List.getElem?_eq_getElem (by rw [hlen.out]; exact h0)⟩
      have HX0 := Lib.hid hx0
      have HF := Lib.hid (show (if on then nx else x0.s) = firstJ ⟨on, nx, dp, dr, ls.map pl⟩ by
        unfold firstJ
        rw [show (ls.map pl).headD (0, []) = pl x0 from head_of (by rw [List.getElem?_map, hx0]; rfl)]
        rfl)
      have H0 := Lib.hid h0
      obtain ⟨i0, hi0, hz0, hz1, hz2⟩ := info_partsT (show (Try.prog.info? 3).map (fun i => (i.zero, i.size, i.bytes)) = some (some (.int .i64 0), 1, 8) by kernel_rfl)
      have HI := Lib.hid hi0
      have HZ := Lib.hid hz0
      have HZ1 := Lib.hid hz1
      have HZ2 := Lib.hid hz2
      clear hx0 hi0 hz0 hz1 hz2 h0
      go_enter Try.func21, Try.ntmps21
      go_wp2_with (first | (refine jL ?_) | (refine jS ?_; clear HM; intro us HM; simp only [List.set, List.setIfInBounds_toArray, List.set_cons_zero, List.set_cons_succ] at HM) | (refine jN ?_; first | (have q : dV HM = 0 := rfl; clear q HM; intro g1 u1 HG1 HM) | (have q : dV HM = 1 := rfl; clear q HM; intro g2 u2 HG2 HM) | (have q : dV HM = 2 := rfl; clear q HM; intro g3 u3 HG3 HM) | (have q : dV HM = 3 := rfl; clear q HM; intro g4 u4 HG4 HM) | (have q : dV HM = 4 := rfl; clear q HM; intro g5 u5 HG5 HM) | (have q : dV HM = 5 := rfl; clear q HM; intro g6 u6 HG6 HM) | (have q : dV HM = 6 := rfl; clear q HM; intro g7 u7 HG7 HM) | (have q : dV HM = 7 := rfl; clear q HM; intro g8 u8 HG8 HM) | (have q : dV HM = 8 := rfl; clear q HM; intro g9 u9 HG9 HM) | (have q : dV HM = 9 := rfl; clear q HM; intro g10 u10 HG10 HM) | (have q : dV HM = 10 := rfl; clear q HM; intro g11 u11 HG11 HM) | (have q : dV HM = 11 := rfl; clear q HM; intro g12 u12 HG12 HM) | (have q : dV HM = 12 := rfl; clear q HM; intro g13 u13 HG13 HM) | (have q : dV HM = 13 := rfl; clear q HM; intro g14 u14 HG14 HM)))
      refine (HCK.out _ HM.out.1).mono ?_
      rintro e u3 ⟨rfl, hb⟩
      have HM2 := Lib.hid (HM.out.below hb)
      clear hb HM
      have HM := HM2
      clear HM2
      go_wp2_with (first | (refine jL ?_) | (refine jS ?_; clear HM; intro us HM; simp only [List.set, List.setIfInBounds_toArray, List.set_cons_zero, List.set_cons_succ] at HM) | (refine jN ?_; first | (have q : dV HM = 0 := rfl; clear q HM; intro g1 u1 HG1 HM) | (have q : dV HM = 1 := rfl; clear q HM; intro g2 u2 HG2 HM) | (have q : dV HM = 2 := rfl; clear q HM; intro g3 u3 HG3 HM) | (have q : dV HM = 3 := rfl; clear q HM; intro g4 u4 HG4 HM) | (have q : dV HM = 4 := rfl; clear q HM; intro g5 u5 HG5 HM) | (have q : dV HM = 5 := rfl; clear q HM; intro g6 u6 HG6 HM) | (have q : dV HM = 6 := rfl; clear q HM; intro g7 u7 HG7 HM) | (have q : dV HM = 7 := rfl; clear q HM; intro g8 u8 HG8 HM) | (have q : dV HM = 8 := rfl; clear q HM; intro g9 u9 HG9 HM) | (have q : dV HM = 9 := rfl; clear q HM; intro g10 u10 HG10 HM) | (have q : dV HM = 10 := rfl; clear q HM; intro g11 u11 HG11 HM) | (have q : dV HM = 11 := rfl; clear q HM; intro g12 u12 HG12 HM) | (have q : dV HM = 12 := rfl; clear q HM; intro g13 u13 HG13 HM) | (have q : dV HM = 13 := rfl; clear q HM; intro g14 u14 HG14 HM)))
      refine (first_any on nx dp dr A n c ls x0 _ (Lib.hid (h.out.keep HM.out.1)) (fun _ => H0.out) (Lib.hid (fun _ => HX0.out))).mono ?_
      rw [HF.out]
      rintro e u4 ⟨rfl, hb⟩
      have HM2 := Lib.hid (HM.out.below hb)
      clear hb HM
      have HM := HM2
      clear HM2
      obtain ⟨F, hF⟩ : ∃ F, F = firstJ ⟨on, nx, dp, dr, ls.map pl⟩ := ⟨_, rfl⟩
      rw [← hF] at HG ⊢
      have HINV := Lib.hid (gst_inv HOK.out)
      rw [← hF] at HINV
      have HFB := Lib.hid (fun (k : Nat) (x : Pk) (hx : ls[k]? = some x) => first_le HOK.out (List.mem_map.2 ⟨x, List.mem_of_getElem? hx, rfl⟩))
      rw [← hF] at HFB
      have HPB := Lib.hid (fun (k : Nat) (x : Pk) (hx : ls[k]? = some x) => bad_iff (HOK.out.2.1 (pl x) (List.mem_map.2 ⟨x, List.mem_of_getElem? hx, rfl⟩)))
      have HFR := Lib.hid (show 0 ≤ F ∧ F ≤ 1099511627776 by
        have h1 := HFB.out 0 x0 HX0.out
        have h2 := HPB.out 0 x0 HX0.out
        refine ⟨?_, by omega⟩
        rw [hF]
        unfold firstJ
        cases on
        · rw [show (ls.map pl).headD (0, []) = pl x0 from head_of (by rw [List.getElem?_map, HX0.out]; rfl)]
          exact h2.1
        · exact HOK.out.1.2.2.1)
      clear hF
      go_wp2_with (first | (refine jL ?_) | (refine jS ?_; clear HM; intro us HM; simp only [List.set, List.setIfInBounds_toArray, List.set_cons_zero, List.set_cons_succ] at HM) | (refine jN ?_; first | (have q : dV HM = 0 := rfl; clear q HM; intro g1 u1 HG1 HM) | (have q : dV HM = 1 := rfl; clear q HM; intro g2 u2 HG2 HM) | (have q : dV HM = 2 := rfl; clear q HM; intro g3 u3 HG3 HM) | (have q : dV HM = 3 := rfl; clear q HM; intro g4 u4 HG4 HM) | (have q : dV HM = 4 := rfl; clear q HM; intro g5 u5 HG5 HM) | (have q : dV HM = 5 := rfl; clear q HM; intro g6 u6 HG6 HM) | (have q : dV HM = 6 := rfl; clear q HM; intro g7 u7 HG7 HM) | (have q : dV HM = 7 := rfl; clear q HM; intro g8 u8 HG8 HM) | (have q : dV HM = 8 := rfl; clear q HM; intro g9 u9 HG9 HM) | (have q : dV HM = 9 := rfl; clear q HM; intro g10 u10 HG10 HM) | (have q : dV HM = 10 := rfl; clear q HM; intro g11 u11 HG11 HM) | (have q : dV HM = 11 := rfl; clear q HM; intro g12 u12 HG12 HM) | (have q : dV HM = 12 := rfl; clear q HM; intro g13 u13 HG13 HM) | (have q : dV HM = 13 := rfl; clear q HM; intro g14 u14 HG14 HM)))
      go_loopw [3, 4, 21] (fun v3 v4 vk wr => ∃ k : Nat, vk = .int .i64 (k : Int) ∧ k ≤ n ∧ v4 = .int .i64 (gst F ((ls.map pl).take k)).1 ∧ Hid (wr.ownsRow w.heap.size 3 1 v3 (gst F ((ls.map pl).take k)).2.length ((gst F ((ls.map pl).take k)).2.map iV)) ∧ Hid (MV w wr [(g1, 24, #[.bool on, .int .i64 nx, .int .i64 dp, .int .i64 dr, .slice A n c])] wr)) (fun _ _ vk _ => n - (intOf vk).toNat)
      case atStart => exact ⟨0, rfl, by omega, rfl, Lib.hid (World.ownsRow_nil _ _ _ _), Lib.hid HM.out.base⟩
      case round =>
        clear HM
        obtain ⟨k, rfl, hk, rfl, HO, HM⟩ := hrel
        by_cases hlt : k < n
        · have kn : (k : Int) < (n : Int) := by omega
          have n64 : (n : Int) ≤ 64 := by have := HL64.out; omega
          obtain ⟨L, x, rfl, hL, hx, c0, c1, -, -⟩ := (h.out.keep HM.out.1).at_ hlt
          have hL2 : (L.add (k * 2)).block < wr.heap.size := by rw [block_of_add]; exact hL
          have HX := Lib.hid hx
          have hxp : (ls.map pl)[k]? = some (pl x) := by rw [List.getElem?_map, hx]; rfl
          have HSN := Lib.hid (show gst F ((ls.map pl).take (k + 1)) = gstep (gst F ((ls.map pl).take k)) (pl x) by rw [take_snocP _ _ hxp, gst_snoc])
          have HIV := Lib.hid (HINV.out k (by rw [List.length_map, hlen.out]; exact hk))
          have hle : (gst F ((ls.map pl).take k)).1 ≤ x.s := HIV.out.2.2.2 _ hxp
          have hxb := HFB.out k x hx
          obtain ⟨S1, hS1⟩ : ∃ S1, S1 = (gst F ((ls.map pl).take k)).1 := ⟨_, rfl⟩
          obtain ⟨S2, hS2⟩ : ∃ S2, S2 = (gst F ((ls.map pl).take k)).2 := ⟨_, rfl⟩
          have HSS := Lib.hid (show gstep (gst F ((ls.map pl).take k)) (pl x) = (x.s + 1, S2 ++ irange S1 (x.s - S1).toNat) by rw [hS1, hS2]; rfl)
          have hiv := HIV.out
          rw [← hS1, ← hS2] at hiv
          rw [← hS1] at hle ⊢
          rw [← hS2] at HO
          obtain ⟨i1, i2, i3, -⟩ := hiv
          have hxb' : F ≤ x.s ∧ x.s < F + 64 := hxb
          have HB1 := Lib.hid (show F ≤ S1 ∧ (S2.length : Int) ≤ S1 - F ∧ S1 ≤ F + 64 ∧ S1 ≤ x.s ∧ x.s < F + 64 from ⟨i1, i2, i3, hle, hxb'.2⟩)
          clear hx hxp HIV hxb hxb' hS1 hS2 i1 i2 i3 hle
          have HM0 := HM
          go_wp2_with (first | (refine jL ?_) | (refine jS ?_; clear HM; intro us HM; simp only [List.set, List.setIfInBounds_toArray, List.set_cons_zero, List.set_cons_succ] at HM) | (refine jN ?_; first | (have q : dV HM = 0 := rfl; clear q HM; intro g1 u1 HG1 HM) | (have q : dV HM = 1 := rfl; clear q HM; intro g2 u2 HG2 HM) | (have q : dV HM = 2 := rfl; clear q HM; intro g3 u3 HG3 HM) | (have q : dV HM = 3 := rfl; clear q HM; intro g4 u4 HG4 HM) | (have q : dV HM = 4 := rfl; clear q HM; intro g5 u5 HG5 HM) | (have q : dV HM = 5 := rfl; clear q HM; intro g6 u6 HG6 HM) | (have q : dV HM = 6 := rfl; clear q HM; intro g7 u7 HG7 HM) | (have q : dV HM = 7 := rfl; clear q HM; intro g8 u8 HG8 HM) | (have q : dV HM = 8 := rfl; clear q HM; intro g9 u9 HG9 HM) | (have q : dV HM = 9 := rfl; clear q HM; intro g10 u10 HG10 HM) | (have q : dV HM = 10 := rfl; clear q HM; intro g11 u11 HG11 HM) | (have q : dV HM = 11 := rfl; clear q HM; intro g12 u12 HG12 HM) | (have q : dV HM = 12 := rfl; clear q HM; intro g13 u13 HG13 HM) | (have q : dV HM = 13 := rfl; clear q HM; intro g14 u14 HG14 HM)))
          have HBU := Lib.hid (HM0.out.same HM.out HG2.out)
          have HO2 := Lib.hid (own_below HO.out HBU.out)
          clear HO HM0 HBU c0 c1 hL hL2
          obtain ⟨m, hm⟩ : ∃ m : Nat, (m : Int) = x.s - S1 := ⟨(x.s - S1).toNat, by have := HB1.out; omega⟩
          have HMM := Lib.hid hm
          have HM3 := Lib.hid HM.out.base
          clear HM hm
          (try simp only [Act.put, List.setIfInBounds_toArray, List.set_cons_zero, List.set_cons_succ])
          go_loopw [3, 4] (fun v3 v4 wt => ∃ t : Nat, v4 = .int .i64 (S1 + (t : Int)) ∧ t ≤ m ∧ Hid (wt.ownsRow w.heap.size 3 1 v3 (S2.length + t) ((S2 ++ irange S1 t).map iV)) ∧ Hid (MV w wt [(g2, 46, #[.int .i64 x.s, .slice x.A x.n x.c]), (g1, 24, #[.bool on, .int .i64 nx, .int .i64 dp, .int .i64 dr, .slice (some L) n c])] wt)) (fun _ v4 _ => (x.s - intOf v4).toNat)
          case atStart => exact ⟨0, by simp, by omega, Lib.hid (by rw [show irange S1 0 = [] from rfl, List.append_nil]; exact HO2.out), HM3⟩
          case round =>
            clear HO2 HM3
            obtain ⟨t, rfl, ht, HO, HM⟩ := hrel
            by_cases htm : t < m
            · have q1 : S1 + (t : Int) < x.s := by have := HMM.out; omega
              have q2 : 0 ≤ S1 + (t : Int) := by have := HB1.out; have := HFR.out; omega
              have q3 : S1 + (t : Int) ≤ 1099511627900 := by have := HB1.out; have := HFR.out; have := HMM.out; omega
              have HQ := Lib.hid (show S2.length + t ≤ 200 by have := HB1.out; have := HMM.out; omega)
              have HIR := Lib.hid (irange_snoc S1 t)
              have q4 : S1 + (t : Int) + 1 ≤ 1099511627901 := by omega
              go_wp2_with (first | (first | (refine jL ?_) | (refine jS ?_; clear HM; intro us HM; simp only [List.set, List.setIfInBounds_toArray, List.set_cons_zero, List.set_cons_succ] at HM) | (refine jN ?_; first | (have q : dV HM = 0 := rfl; clear q HM; intro g1 u1 HG1 HM) | (have q : dV HM = 1 := rfl; clear q HM; intro g2 u2 HG2 HM) | (have q : dV HM = 2 := rfl; clear q HM; intro g3 u3 HG3 HM) | (have q : dV HM = 3 := rfl; clear q HM; intro g4 u4 HG4 HM) | (have q : dV HM = 4 := rfl; clear q HM; intro g5 u5 HG5 HM) | (have q : dV HM = 5 := rfl; clear q HM; intro g6 u6 HG6 HM) | (have q : dV HM = 6 := rfl; clear q HM; intro g7 u7 HG7 HM) | (have q : dV HM = 7 := rfl; clear q HM; intro g8 u8 HG8 HM) | (have q : dV HM = 8 := rfl; clear q HM; intro g9 u9 HG9 HM) | (have q : dV HM = 9 := rfl; clear q HM; intro g10 u10 HG10 HM) | (have q : dV HM = 10 := rfl; clear q HM; intro g11 u11 HG11 HM) | (have q : dV HM = 11 := rfl; clear q HM; intro g12 u12 HG12 HM) | (have q : dV HM = 12 := rfl; clear q HM; intro g13 u13 HG13 HM) | (have q : dV HM = 13 := rfl; clear q HM; intro g14 u14 HG14 HM))) | (refine wv_i1 (by rfl) _ rfl rfl HM ?_; clear HM; intro gb ub HGB HBB HM; have HO3 := Lib.hid (own_below HO.out HBB.out); have HNW := Lib.hid (cells_one (HM.out.get (g := gb) (T := 3) (cs := icells [S1 + (t : Int)]) (by exact vmemOf)))) | (at_builtin; refine wpList_append_own_at _ rfl (.tmp 31) (.tmp 33) 35 rfl w.heap.size 3 i0 _ 1 8 Try.underlying35 HI.out HZ.out HZ1.out HZ2.out rfl (by omega) _ (S2.length + t) _ rfl HO3.out ⟨gb, 0, none⟩ 1 1 [iV (S1 + (t : Int))] rfl rfl HNW.out (by intro u hu; rw [List.mem_singleton.1 hu]; rfl) (by have := HQ.out; unfold maxLen; omega) (by have := HQ.out; omega) HM.out.1.size ?_; intro va w2 ho2 hg2 _ _; have HO4 := Lib.hid ho2; have HG4 := Lib.hid hg2; clear ho2 hg2))
              have HM4 := Lib.hid ((HM.out.sub (List.sublist_cons_self _ _)).grown HG4.out (fun kk hkk => ⟨(HO3.out.lt kk hkk).1, fun e he => by
                simp only [List.mem_cons, List.not_mem_nil, or_false] at he
                rcases he with rfl | rfl
                · exact fun e' => own_ne HO3.out (HM.out.get (g := g2) (by exact vmemOf)) (by decide) (Eq.trans hkk (congrArg some e'.symm))
                · exact fun e' => own_ne HO3.out (HM.out.get (g := g1) (by exact vmemOf)) (by decide) (Eq.trans hkk (congrArg some e'.symm))⟩))
              go_roundw
              case rel =>
                refine ⟨t + 1, by first | rfl | go_num | (congr 1; omega), by omega, Lib.hid ?_, HM4⟩
                have h9 := HO4.out
                rw [HIR.out, ← List.append_assoc, List.map_append]
                exact h9
              case measure => simp [intOf]; omega
            · obtain rfl : t = m := by omega
              have q1 : S1 + (t : Int) = x.s := by have := HMM.out; omega
              have q2 : 0 ≤ x.s := by have := HB1.out; have := HFR.out; omega
              have q3 : x.s ≤ 1099511627900 := by have := HB1.out; have := HFR.out; omega
              rw [q1]
              have HEQ := Lib.hid (show gst F ((ls.map pl).take (k + 1)) = (x.s + 1, S2 ++ irange S1 t) by
                rw [HSN.out, HSS.out, show (x.s - S1).toNat = t by omega])
              clear q1
              go_wp2_with (first | (refine jL ?_) | (refine jS ?_; clear HM; intro us HM; simp only [List.set, List.setIfInBounds_toArray, List.set_cons_zero, List.set_cons_succ] at HM) | (refine jN ?_; first | (have q : dV HM = 0 := rfl; clear q HM; intro g1 u1 HG1 HM) | (have q : dV HM = 1 := rfl; clear q HM; intro g2 u2 HG2 HM) | (have q : dV HM = 2 := rfl; clear q HM; intro g3 u3 HG3 HM) | (have q : dV HM = 3 := rfl; clear q HM; intro g4 u4 HG4 HM) | (have q : dV HM = 4 := rfl; clear q HM; intro g5 u5 HG5 HM) | (have q : dV HM = 5 := rfl; clear q HM; intro g6 u6 HG6 HM) | (have q : dV HM = 6 := rfl; clear q HM; intro g7 u7 HG7 HM) | (have q : dV HM = 7 := rfl; clear q HM; intro g8 u8 HG8 HM) | (have q : dV HM = 8 := rfl; clear q HM; intro g9 u9 HG9 HM) | (have q : dV HM = 9 := rfl; clear q HM; intro g10 u10 HG10 HM) | (have q : dV HM = 10 := rfl; clear q HM; intro g11 u11 HG11 HM) | (have q : dV HM = 11 := rfl; clear q HM; intro g12 u12 HG12 HM) | (have q : dV HM = 12 := rfl; clear q HM; intro g13 u13 HG13 HM) | (have q : dV HM = 13 := rfl; clear q HM; intro g14 u14 HG14 HM)))
              go_roundw
              case rel =>
                refine ⟨k + 1, by first | rfl | go_num, by omega, by rw [HEQ.out], Lib.hid ?_, Lib.hid (HM.out.sub (List.sublist_cons_self _ _))⟩
                rw [HEQ.out]
                have h9 := HO.out
                rw [show (S2 ++ irange S1 t).length = S2.length + t by rw [List.length_append, irange_length]]
                exact h9
              case measure => simp [intOf]; omega
        · obtain rfl : k = n := by omega
          obtain ⟨A3, c3, rfl, h3⟩ := own_rdI HO.out
          have HR3 := Lib.hid h3
          have HTA := Lib.hid (take_all (n := k) (q := ls.map pl) (by rw [List.length_map]; exact hlen.out))
          rw [HTA.out] at HR3 ⊢
          clear h3
          go_wp2_with (first | (refine jL ?_) | (refine jS ?_; clear HM; intro us HM; simp only [List.set, List.setIfInBounds_toArray, List.set_cons_zero, List.set_cons_succ] at HM) | (refine jN ?_; first | (have q : dV HM = 0 := rfl; clear q HM; intro g1 u1 HG1 HM) | (have q : dV HM = 1 := rfl; clear q HM; intro g2 u2 HG2 HM) | (have q : dV HM = 2 := rfl; clear q HM; intro g3 u3 HG3 HM) | (have q : dV HM = 3 := rfl; clear q HM; intro g4 u4 HG4 HM) | (have q : dV HM = 4 := rfl; clear q HM; intro g5 u5 HG5 HM) | (have q : dV HM = 5 := rfl; clear q HM; intro g6 u6 HG6 HM) | (have q : dV HM = 6 := rfl; clear q HM; intro g7 u7 HG7 HM) | (have q : dV HM = 7 := rfl; clear q HM; intro g8 u8 HG8 HM) | (have q : dV HM = 8 := rfl; clear q HM; intro g9 u9 HG9 HM) | (have q : dV HM = 9 := rfl; clear q HM; intro g10 u10 HG10 HM) | (have q : dV HM = 10 := rfl; clear q HM; intro g11 u11 HG11 HM) | (have q : dV HM = 11 := rfl; clear q HM; intro g12 u12 HG12 HM) | (have q : dV HM = 12 := rfl; clear q HM; intro g13 u13 HG13 HM) | (have q : dV HM = 13 := rfl; clear q HM; intro g14 u14 HG14 HM)))
          go_ret
          refine ⟨A3, c3, by rw [HG.out]; rfl, by rw [HG.out]; exact HR3.out, HM.out.1⟩
  · obtain rfl : ck = 1 := by rw [HCE.out]; exact if_neg hok
    have HG := Lib.hid (show gapsJ ⟨on, nx, dp, dr, ls.map pl⟩ = [] from if_neg fun hh => hok hh.1)
    clear hok
    go_enter Try.func21, Try.ntmps21
    go_wp2_with (first | (refine jL ?_) | (refine jS ?_; clear HM; intro us HM; simp only [List.set, List.setIfInBounds_toArray, List.set_cons_zero, List.set_cons_succ] at HM) | (refine jN ?_; first | (have q : dV HM = 0 := rfl; clear q HM; intro g1 u1 HG1 HM) | (have q : dV HM = 1 := rfl; clear q HM; intro g2 u2 HG2 HM) | (have q : dV HM = 2 := rfl; clear q HM; intro g3 u3 HG3 HM) | (have q : dV HM = 3 := rfl; clear q HM; intro g4 u4 HG4 HM) | (have q : dV HM = 4 := rfl; clear q HM; intro g5 u5 HG5 HM) | (have q : dV HM = 5 := rfl; clear q HM; intro g6 u6 HG6 HM) | (have q : dV HM = 6 := rfl; clear q HM; intro g7 u7 HG7 HM) | (have q : dV HM = 7 := rfl; clear q HM; intro g8 u8 HG8 HM) | (have q : dV HM = 8 := rfl; clear q HM; intro g9 u9 HG9 HM) | (have q : dV HM = 9 := rfl; clear q HM; intro g10 u10 HG10 HM) | (have q : dV HM = 10 := rfl; clear q HM; intro g11 u11 HG11 HM) | (have q : dV HM = 11 := rfl; clear q HM; intro g12 u12 HG12 HM) | (have q : dV HM = 12 := rfl; clear q HM; intro g13 u13 HG13 HM) | (have q : dV HM = 13 := rfl; clear q HM; intro g14 u14 HG14 HM)))
    refine (HCK.out _ HM.out.1).mono ?_
    rintro e u3 ⟨rfl, hb⟩
    have HM2 := Lib.hid (HM.out.below hb)
    clear hb HM
    have HM := HM2
    clear HM2
    go_wp2_with (first | (refine jL ?_) | (refine jS ?_; clear HM; intro us HM; simp only [List.set, List.setIfInBounds_toArray, List.set_cons_zero, List.set_cons_succ] at HM) | (refine jN ?_; first | (have q : dV HM = 0 := rfl; clear q HM; intro g1 u1 HG1 HM) | (have q : dV HM = 1 := rfl; clear q HM; intro g2 u2 HG2 HM) | (have q : dV HM = 2 := rfl; clear q HM; intro g3 u3 HG3 HM) | (have q : dV HM = 3 := rfl; clear q HM; intro g4 u4 HG4 HM) | (have q : dV HM = 4 := rfl; clear q HM; intro g5 u5 HG5 HM) | (have q : dV HM = 5 := rfl; clear q HM; intro g6 u6 HG6 HM) | (have q : dV HM = 6 := rfl; clear q HM; intro g7 u7 HG7 HM) | (have q : dV HM = 7 := rfl; clear q HM; intro g8 u8 HG8 HM) | (have q : dV HM = 8 := rfl; clear q HM; intro g9 u9 HG9 HM) | (have q : dV HM = 9 := rfl; clear q HM; intro g10 u10 HG10 HM) | (have q : dV HM = 10 := rfl; clear q HM; intro g11 u11 HG11 HM) | (have q : dV HM = 11 := rfl; clear q HM; intro g12 u12 HG12 HM) | (have q : dV HM = 12 := rfl; clear q HM; intro g13 u13 HG13 HM) | (have q : dV HM = 13 := rfl; clear q HM; intro g14 u14 HG14 HM)))
    go_ret
    exact ⟨none, 0, by rw [HG.out]; rfl, by rw [HG.out]; exact RdI.none_, HM.out.1⟩
theorem flush_any (on : Bool) (nx dp dr : Int) (A : Option Addr) (n c : Nat) (ls : List Pk) (w : World) (h : Hid (RdP w A n ls)) (hn : n ≤ 281474976710656) :
    Calls Try.prog 23 #[jtV on nx dp dr A n c] w (ValQ w (if OkJ ⟨on, nx, dp, dr, ls.map pl⟩ then jtV false 0 dp 0 none 0 0 else zeroJ)) := by
  have HM := Lib.hid (MV.start w)
  obtain ⟨ck, hck⟩ : ∃ ck, ck = ckE ⟨on, nx, dp, dr, ls.map pl⟩ := ⟨_, rfl⟩
  have HCK := Lib.hid (fun u (hu : Below w.heap.size w u) => check_any on nx dp dr A n c ls u (Lib.hid (h.out.keep hu)) hn)
  rw [← hck] at HCK
  have HCE := Lib.hid hck
  clear hn hck
  by_cases hok : OkJ ⟨on, nx, dp, dr, ls.map pl⟩
  · obtain rfl : ck = 0 := by rw [HCE.out]; exact if_pos hok
    rw [if_pos hok]
    clear hok
    go_enter Try.func23, Try.ntmps23
    go_wp2_with (first | (refine jL ?_) | (refine jS ?_; clear HM; intro us HM; simp only [List.set, List.setIfInBounds_toArray, List.set_cons_zero, List.set_cons_succ] at HM) | (refine jN ?_; first | (have q : dV HM = 0 := rfl; clear q HM; intro g1 u1 HG1 HM) | (have q : dV HM = 1 := rfl; clear q HM; intro g2 u2 HG2 HM) | (have q : dV HM = 2 := rfl; clear q HM; intro g3 u3 HG3 HM) | (have q : dV HM = 3 := rfl; clear q HM; intro g4 u4 HG4 HM) | (have q : dV HM = 4 := rfl; clear q HM; intro g5 u5 HG5 HM) | (have q : dV HM = 5 := rfl; clear q HM; intro g6 u6 HG6 HM) | (have q : dV HM = 6 := rfl; clear q HM; intro g7 u7 HG7 HM) | (have q : dV HM = 7 := rfl; clear q HM; intro g8 u8 HG8 HM) | (have q : dV HM = 8 := rfl; clear q HM; intro g9 u9 HG9 HM) | (have q : dV HM = 9 := rfl; clear q HM; intro g10 u10 HG10 HM) | (have q : dV HM = 10 := rfl; clear q HM; intro g11 u11 HG11 HM) | (have q : dV HM = 11 := rfl; clear q HM; intro g12 u12 HG12 HM) | (have q : dV HM = 12 := rfl; clear q HM; intro g13 u13 HG13 HM) | (have q : dV HM = 13 := rfl; clear q HM; intro g14 u14 HG14 HM)))
    refine (HCK.out _ HM.out.1).mono ?_
    rintro e u3 ⟨rfl, hb⟩
    have HM2 := Lib.hid (HM.out.below hb)
    clear hb HM
    have HM := HM2
    clear HM2
    go_wp2_with (first | (refine jL ?_) | (refine jS ?_; clear HM; intro us HM; simp only [List.set, List.setIfInBounds_toArray, List.set_cons_zero, List.set_cons_succ] at HM) | (refine jN ?_; first | (have q : dV HM = 0 := rfl; clear q HM; intro g1 u1 HG1 HM) | (have q : dV HM = 1 := rfl; clear q HM; intro g2 u2 HG2 HM) | (have q : dV HM = 2 := rfl; clear q HM; intro g3 u3 HG3 HM) | (have q : dV HM = 3 := rfl; clear q HM; intro g4 u4 HG4 HM) | (have q : dV HM = 4 := rfl; clear q HM; intro g5 u5 HG5 HM) | (have q : dV HM = 5 := rfl; clear q HM; intro g6 u6 HG6 HM) | (have q : dV HM = 6 := rfl; clear q HM; intro g7 u7 HG7 HM) | (have q : dV HM = 7 := rfl; clear q HM; intro g8 u8 HG8 HM) | (have q : dV HM = 8 := rfl; clear q HM; intro g9 u9 HG9 HM) | (have q : dV HM = 9 := rfl; clear q HM; intro g10 u10 HG10 HM) | (have q : dV HM = 10 := rfl; clear q HM; intro g11 u11 HG11 HM) | (have q : dV HM = 11 := rfl; clear q HM; intro g12 u12 HG12 HM) | (have q : dV HM = 12 := rfl; clear q HM; intro g13 u13 HG13 HM) | (have q : dV HM = 13 := rfl; clear q HM; intro g14 u14 HG14 HM)))
    refine (fresh_any dp _).mono ?_
    rintro e u4 ⟨rfl, hb⟩
    have HM2 := Lib.hid (HM.out.below hb)
    clear hb HM
    have HM := HM2
    clear HM2
    go_wp2_with (first | (refine jL ?_) | (refine jS ?_; clear HM; intro us HM; simp only [List.set, List.setIfInBounds_toArray, List.set_cons_zero, List.set_cons_succ] at HM) | (refine jN ?_; first | (have q : dV HM = 0 := rfl; clear q HM; intro g1 u1 HG1 HM) | (have q : dV HM = 1 := rfl; clear q HM; intro g2 u2 HG2 HM) | (have q : dV HM = 2 := rfl; clear q HM; intro g3 u3 HG3 HM) | (have q : dV HM = 3 := rfl; clear q HM; intro g4 u4 HG4 HM) | (have q : dV HM = 4 := rfl; clear q HM; intro g5 u5 HG5 HM) | (have q : dV HM = 5 := rfl; clear q HM; intro g6 u6 HG6 HM) | (have q : dV HM = 6 := rfl; clear q HM; intro g7 u7 HG7 HM) | (have q : dV HM = 7 := rfl; clear q HM; intro g8 u8 HG8 HM) | (have q : dV HM = 8 := rfl; clear q HM; intro g9 u9 HG9 HM) | (have q : dV HM = 9 := rfl; clear q HM; intro g10 u10 HG10 HM) | (have q : dV HM = 10 := rfl; clear q HM; intro g11 u11 HG11 HM) | (have q : dV HM = 11 := rfl; clear q HM; intro g12 u12 HG12 HM) | (have q : dV HM = 12 := rfl; clear q HM; intro g13 u13 HG13 HM) | (have q : dV HM = 13 := rfl; clear q HM; intro g14 u14 HG14 HM)))
    exact bodyPost_ret (v := jtV false 0 dp 0 none 0 0) (vres_one rfl _ rfl rowJt HM (by exact vmemOf) (Lib.hid rfl)) rfl ⟨rfl, HM.out.1⟩
  · obtain rfl : ck = 1 := by rw [HCE.out]; exact if_neg hok
    rw [if_neg hok]
    clear hok
    go_enter Try.func23, Try.ntmps23
    go_wp2_with (first | (refine jL ?_) | (refine jS ?_; clear HM; intro us HM; simp only [List.set, List.setIfInBounds_toArray, List.set_cons_zero, List.set_cons_succ] at HM) | (refine jN ?_; first | (have q : dV HM = 0 := rfl; clear q HM; intro g1 u1 HG1 HM) | (have q : dV HM = 1 := rfl; clear q HM; intro g2 u2 HG2 HM) | (have q : dV HM = 2 := rfl; clear q HM; intro g3 u3 HG3 HM) | (have q : dV HM = 3 := rfl; clear q HM; intro g4 u4 HG4 HM) | (have q : dV HM = 4 := rfl; clear q HM; intro g5 u5 HG5 HM) | (have q : dV HM = 5 := rfl; clear q HM; intro g6 u6 HG6 HM) | (have q : dV HM = 6 := rfl; clear q HM; intro g7 u7 HG7 HM) | (have q : dV HM = 7 := rfl; clear q HM; intro g8 u8 HG8 HM) | (have q : dV HM = 8 := rfl; clear q HM; intro g9 u9 HG9 HM) | (have q : dV HM = 9 := rfl; clear q HM; intro g10 u10 HG10 HM) | (have q : dV HM = 10 := rfl; clear q HM; intro g11 u11 HG11 HM) | (have q : dV HM = 11 := rfl; clear q HM; intro g12 u12 HG12 HM) | (have q : dV HM = 12 := rfl; clear q HM; intro g13 u13 HG13 HM) | (have q : dV HM = 13 := rfl; clear q HM; intro g14 u14 HG14 HM)))
    refine (HCK.out _ HM.out.1).mono ?_
    rintro e u3 ⟨rfl, hb⟩
    have HM2 := Lib.hid (HM.out.below hb)
    clear hb HM
    have HM := HM2
    clear HM2
    go_wp2_with (first | (refine wv_zeroJ (by rfl) rfl ?_) | (first | (refine jL ?_) | (refine jS ?_; clear HM; intro us HM; simp only [List.set, List.setIfInBounds_toArray, List.set_cons_zero, List.set_cons_succ] at HM) | (refine jN ?_; first | (have q : dV HM = 0 := rfl; clear q HM; intro g1 u1 HG1 HM) | (have q : dV HM = 1 := rfl; clear q HM; intro g2 u2 HG2 HM) | (have q : dV HM = 2 := rfl; clear q HM; intro g3 u3 HG3 HM) | (have q : dV HM = 3 := rfl; clear q HM; intro g4 u4 HG4 HM) | (have q : dV HM = 4 := rfl; clear q HM; intro g5 u5 HG5 HM) | (have q : dV HM = 5 := rfl; clear q HM; intro g6 u6 HG6 HM) | (have q : dV HM = 6 := rfl; clear q HM; intro g7 u7 HG7 HM) | (have q : dV HM = 7 := rfl; clear q HM; intro g8 u8 HG8 HM) | (have q : dV HM = 8 := rfl; clear q HM; intro g9 u9 HG9 HM) | (have q : dV HM = 9 := rfl; clear q HM; intro g10 u10 HG10 HM) | (have q : dV HM = 10 := rfl; clear q HM; intro g11 u11 HG11 HM) | (have q : dV HM = 11 := rfl; clear q HM; intro g12 u12 HG12 HM) | (have q : dV HM = 12 := rfl; clear q HM; intro g13 u13 HG13 HM) | (have q : dV HM = 13 := rfl; clear q HM; intro g14 u14 HG14 HM))))
    exact bodyPost_ret (v := zeroJ) (vres_one rfl _ rfl rowJt HM (by exact vmemOf) (Lib.hid rfl)) rfl ⟨rfl, HM.out.1⟩
end Go.Proofs.Ytffapinabidkiaa.Lp
