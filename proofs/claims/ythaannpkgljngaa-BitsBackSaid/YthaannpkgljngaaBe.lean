/-
  The walk of BitsBack: its loops and its end.
-/
import Derived.Test.YthaannpkgljngaaBf
namespace Go.Proofs.Ythaannpkgljngaa
open Go.RowKit

section
variable {w w1 w2 : World} {v0 v1 t0 t1 : Value}
theorem Bx.drew (h : Bx w v0 v1 t0 t1 w1) : Bx w v0 v1 t0 t1 w1.drew := ⟨h.1, h.2.1, Below.drew h.2.2⟩
theorem Bx.row {v : Value} (h : Bx w v0 v1 t0 t1 w1) (hg : w1.grownBy w2 v.ownBlock) (hv : v.ownBlock = none) : Bx w v0 v1 t0 t1 w2 := by
  rw [hv] at hg
  exact ⟨h.1.row hg (by simp), h.2.1.row hg (by simp), h.2.2.grown hg (Nat.le_of_lt h.1.lt) (fun k hk => by cases hk)⟩
end
theorem info_item : (Try.prog.info? 43).map (fun i => (i.zero, i.size, i.bytes)) = some (some (.agg #[.int .u64 0, .int .i64 0]), 2, 16) := by kernel_rfl
theorem info_int : (Try.prog.info? 3).map (fun i => (i.zero, i.size, i.bytes)) = some (some (.int .i64 0), 1, 8) := by kernel_rfl
theorem news_one (w : World) (a : Value) (t : TypeId) : ∀ j u, [a][j]? = some u → (w.alloc (.cells #[a] t)).cell? ((⟨w.heap.size, 0, none⟩ : Addr).add j) = some u := by
  intro j u hj
  rw [add_own, (Blk.new w t #[a]).cell]
  simpa using hj
theorem news_twoAt (w : World) (g : Nat) (a b : Value) (t : TypeId) (hg : g = w.heap.size) : ∀ j u, [a, b][j]? = some u → (w.alloc (.cells #[a, b] t)).cell? ((⟨g, 0, none⟩ : Addr).add j) = some u := by
  subst hg
  exact news_two w a b t
theorem add_succ (L : Addr) (k : Nat) : L.add (k + 1) = ⟨L.block, L.off + (k + 1), none⟩ := by
  unfold Addr.add
  simp
theorem one_item (p : Pt) : ∀ u ∈ p.cells, u.oneCell' = true := by
  intro u hu
  simp only [Pt.cells, List.mem_cons, List.not_mem_nil, or_false] at hu
  rcases hu with rfl | rfl <;> rfl
theorem one_int (x : Int) : ∀ u ∈ [Value.int .i64 x], u.oneCell' = true := by
  intro u hu
  rw [List.mem_singleton.1 hu]
  rfl
theorem bs_start {w w' : World} {l0 l1 : List Bool} {A1 A : Option Addr} {n1 c1 gb n c : Nat} (hb : Below w.heap.size w w') (ht : Blk w' (w.heap.size + 1) 24 #[.slice A1 n1 c1, .int .i64 (l1.length : Int)]) (hg : w.heap.size + 1 < gb)
    (hB : Blk w' gb 24 #[.slice A n c, .int .i64 (l0.length : Int)]) (hr : Rd w' A n (pack l0)) (hl : l0.length ≤ 65536) : BS w l0 l1 A1 n1 c1 gb [] (.slice none 0 0) (.slice none 0 0) w' := by
  have e : l0 ++ flatT [] = l0 := by simp [flatT]
  refine ⟨hb, World.ownsRow_nil _ _ _ _, World.ownsRow_nil _ _ _ _, ⟨ht, hg⟩, ⟨A, n, c, ?_, ?_⟩, ?_, fun p hp => by cases hp⟩
  · rw [e]; exact hB
  · rw [e]; exact hr
  · rw [e]; exact hl
theorem own_rd {w : World} {base g n cap : Nat} {l : List Bool} (h : w.ownsRow base 5 1 (.slice (some ⟨g, 0, none⟩) (0 + n) cap) (0 + n) ([] ++ (pack l).map byteV)) (hn : (pack l).length = n) : Rd w (some ⟨g, 0, none⟩) n (pack l) := by
  subst hn
  rw [Nat.zero_add, List.nil_append] at h
  exact (OwnB.rd h).1
theorem bs_start1 {w wa : World} {l0 l1 : List Bool} {A1 : Option Addr} {n1 c1 g n cap : Nat} {v0 v1 : Value} (hX : Bx w v0 v1 (.slice A1 n1 c1) (.int .i64 (l1.length : Int)) wa)
    (h : wa.ownsRow w.heap.size 5 1 (.slice (some ⟨g, 0, none⟩) (0 + n) cap) (0 + n) ([] ++ (pack l0).map byteV)) (hn : (pack l0).length = n) (hl : l0.length ≤ 65536) :
    BS w l0 l1 A1 n1 c1 wa.heap.size [] (.slice none 0 0) (.slice none 0 0) (wa.alloc (.cells #[.slice (some ⟨g, 0, none⟩) n cap, .int .i64 (l0.length : Int)] 24)) :=
  bs_start (hX.2.2.alloc hX.2.2.size _) (hX.2.1.alloc _) hX.2.1.lt (Blk.new _ _ _) ((own_rd h hn).alloc _) hl
theorem bs_start2 {w wa : World} {l0 l1 : List Bool} {A1 : Option Addr} {n1 c1 g gb n cap : Nat} {v0 v1 : Value} (hX : Bx w v0 v1 (.slice A1 n1 c1) (.int .i64 (l1.length : Int)) wa) (hB : Blk wa gb 24 #[.slice none 0 0, .int .i64 0]) (hg : w.heap.size + 1 < gb)
    (h : wa.ownsRow w.heap.size 5 1 (.slice (some ⟨g, 0, none⟩) (0 + n) cap) (0 + n) ([] ++ (pack l0).map byteV)) (hn : (pack l0).length = n) (hl : l0.length ≤ 65536) :
    BS w l0 l1 A1 n1 c1 gb [] (.slice none 0 0) (.slice none 0 0) ((wa.setCell ⟨gb, 0, none⟩ (.slice (some ⟨g, 0, none⟩) n cap)).setCell ⟨gb, 1, none⟩ (.int .i64 (l0.length : Int))) := by
  have y0 : wa.cell? ⟨gb, 0, none⟩ = some (.slice none 0 0) := hB.cell 0
  have y1 : wa.cell? ⟨gb, 1, none⟩ = some (.int .i64 0) := hB.cell 1
  refine bs_start ((hX.2.2.setCell (by show _ ≤ gb; omega) _).setCell (by show _ ≤ gb; omega) _) (hX.2.1.other (by omega) _ _) hg (hB.box _ _) ?_ hl
  exact ((own_rd h hn).setCell _ (fun x => by rw [y0]; simp [byteV])).setCell _ (fun x => by rw [World.cell?_setCell_other _ _ _ _ (by simp), y1]; simp [byteV])
set_option maxRecDepth 100000 in
set_option maxHeartbeats 20000000 in
theorem back_core (A0 A1 AL : Option Addr) (n0 c0 n1 c1 n cap : Nat) (l0 l1 : List Bool) (ls : List Itm) (w : World) (hr0 : Hid (Rd w A0 n0 (pack l0))) (hr1 : Hid (Rd w A1 n1 (pack l1))) (hn : n ≤ 100) (hl0 : Hid (l0.length ≤ 65536)) (hl1 : Hid (l1.length ≤ 65536)) (hn0 : n0 ≤ 8192) (hR : Hid (RdI w AL n ls))
    (hf : Hid (true = decide (lenW [⟨A0, n0, c0, (l0.length : Int), pack l0⟩, ⟨A1, n1, c1, (l1.length : Int), pack l1⟩] ≤ 20000))) :
    Calls Try.prog 5 #[.agg #[.slice A0 n0 c0, .int .i64 (l0.length : Int)], .slice AL n cap, .agg #[.slice A1 n1 c1, .int .i64 (l1.length : Int)]] w fun e w' => e = .returned (.bool true) ∧ Below w.heap.size w w' := by
  obtain ⟨i1, hj0, hy0, hy1, hy2⟩ := info_parts info_u8
  obtain ⟨i2, hi0, hz0, hz1, hz2⟩ := info_parts info_item
  obtain ⟨i3, hk0, hx0, hx1, hx2⟩ := info_parts info_int
  have hd : decide ((100 : Int) < (n : Int)) = false := by simp; omega
  go_enter Try.func5, Try.ntmps5
  go_wp2_with fail
  refine (live_any _).mono ?_
  rintro e w0 ⟨rfl, hb0⟩
  have H0 := Lib.hid ((Bx.start w (.slice A0 n0 c0) (.int .i64 (l0.length : Int)) (.slice A1 n1 c1) (.int .i64 (l1.length : Int))).next hb0)
  have HR0 := Lib.hid (((hr0.out.alloc _).alloc _).below hb0)
  have HR1 := Lib.hid (((hr1.out.alloc _).alloc _).below hb0)
  obtain ⟨b0, b1, b2, b3⟩ := H0.out.cells
  clear hb0
  go_wp2_with fail
  refine (few_two A0 A1 n0 c0 n1 c1 _ _ _ _ true _ HR0.out HR1.out hf.out).mono ?_
  rintro e w1 ⟨rfl, hb1⟩
  have H1 := Lib.hid ((Bx.alloc H0.out _).next hb1)
  have HR01 := Lib.hid ((HR0.out.alloc _).below hb1)
  have HR11 := Lib.hid ((HR1.out.alloc _).below hb1)
  obtain ⟨b10, b11, b12, b13⟩ := H1.out.cells
  clear hb1 b0 b1 b2 b3
  go_wp2_with fail
  refine (check_yes _ _ _ _ (pack l0) _ HR01.out (okB_pack l0 hl0.out)).mono ?_
  rintro e w2 ⟨rfl, hb2⟩
  have H2 := Lib.hid (H1.out.next hb2)
  have HR02 := Lib.hid (HR01.out.below hb2)
  have HR12 := Lib.hid (HR11.out.below hb2)
  obtain ⟨b20, b21, b22, b23⟩ := H2.out.cells
  clear hb2 b10 b11 b12 b13
  go_wp2_with fail
  refine (check_yes _ _ _ _ (pack l1) _ HR12.out (okB_pack l1 hl1.out)).mono ?_
  rintro e w3 ⟨rfl, hb3⟩
  have H3 := Lib.hid (H2.out.next hb3)
  have HR03 := Lib.hid (HR02.out.below hb3)
  have HR13 := Lib.hid (HR12.out.below hb3)
  obtain ⟨b30, b31, b32, b33⟩ := H3.out.cells
  clear hb3 b20 b21 b22 b23 HR0 HR1 HR01 HR11 HR02 HR12 H0 H1 H2
  go_wp2_with fail
  go_cut [8] (fun s8 wc => ∃ gb, s8 = .pointer (some ⟨gb, 0, none⟩) ∧ BS w l0 l1 A1 n1 c1 gb [] (.slice none 0 0) (.slice none 0 0) wc)
  case first =>
    by_cases h0 : 0 < n0
    · obtain ⟨ad, rfl, hlt, _, _⟩ := HR03.out.at_ h0
      have HLN := Lib.hid (show ((pack l0).map byteV).length = n0 * 1 by rw [List.length_map, HR03.out.1, Nat.mul_one])
      have z30 : w.heap.size < w3.heap.size := H3.out.1.lt
      have z31 : w.heap.size + 1 < w3.heap.size := H3.out.2.1.lt
      have HSZ := Lib.hid (show w.heap.size ≤ w3.heap.size from Nat.le_of_lt H3.out.1.lt)
      go_region_law (first
        | (refine step_append_lies _ rfl (.const (.slice none 0 0)) (.tmp 51) 22 rfl w.heap.size 5 i1 _ 1 1 Try.underlying22 hj0 hy0 hy1 hy2 rfl (by omega) (.slice none 0 0) 0 [] rfl (World.ownsRow_nil _ _ _ _) ad n0 c0 ((pack l0).map byteV) rfl HLN.out (rd_news HR03.out.drew) (one_bytes _) h0 (by unfold maxLen; omega) (by omega) HSZ.out _ rfl ?_
           intro g cap' wa hown hg hat hlt1
           have HX := Lib.hid (Bx.row (Bx.drew H3.out) hg rfl)
           have HOWN := Lib.hid hown
           have HAT := Lib.hid hat
           have HLT := Lib.hid hlt1
           obtain ⟨x0, x1, x2, x3⟩ := HX.out.cells
           have z0 : w.heap.size < wa.heap.size := HX.out.1.lt
           have z1 : w.heap.size + 1 < wa.heap.size := HX.out.2.1.lt
           clear hown hg hat hlt1)
        | (refine step_append_lies _ rfl (.const (.slice none 0 0)) (.tmp 51) 22 rfl w.heap.size 5 i1 _ 1 1 Try.underlying22 hj0 hy0 hy1 hy2 rfl (by omega) (.slice none 0 0) 0 [] rfl (World.ownsRow_nil _ _ _ _) ad n0 c0 ((pack l0).map byteV) rfl HLN.out (rd_news (HR03.out.drew.alloc _)) (one_bytes _) h0 (by unfold maxLen; omega) (by omega) (by have := HSZ.out; simp; omega) _ rfl ?_
           intro g cap' wa hown hg hat hlt1
           have HX := Lib.hid (Bx.row (Bx.alloc (Bx.drew H3.out) _) hg rfl)
           have HBB := Lib.hid ((Blk.newAt (w := w3.drew) (g := w3.heap.size) rfl).row hg (by simp [Value.ownBlock]))
           have HOWN := Lib.hid hown
           have HAT := Lib.hid hat
           have HLT := Lib.hid hlt1
           obtain ⟨x0, x1, x2, x3⟩ := HX.out.cells
           have z0 : w.heap.size < wa.heap.size := HX.out.1.lt
           have z1 : w.heap.size + 1 < wa.heap.size := HX.out.2.1.lt
           have y0 := HBB.out.cell 0
           have y1 := HBB.out.cell 1
           have y2 := HBB.out.frozen 0
           have y3 := HBB.out.frozen 1
           clear hown hg hat hlt1))

      all_goals
        have HPL := Lib.hid HR03.out.1
        have HG3 := Lib.hid z31
        clear x0 x1 x2 x3 z0 z1 z30 z31
        go_wp2_with fail
        go_meet
        first
        | exact ⟨_, rfl, bs_start1 HX.out HOWN.out HPL.out hl0.out⟩
        | exact ⟨_, rfl, bs_start2 HX.out HBB.out HG3.out HOWN.out HPL.out hl0.out⟩
    · obtain rfl : n0 = 0 := by omega
      have HP0 := Lib.hid (show pack l0 = [] from List.eq_nil_of_length_eq_zero HR03.out.1)
      have HG3 := Lib.hid (show w.heap.size + 1 < w3.heap.size from H3.out.2.1.lt)
      have z30 : w.heap.size < w3.heap.size := H3.out.1.lt
      have z31 : w.heap.size + 1 < w3.heap.size := H3.out.2.1.lt
      cases A0
      all_goals
        go_region
        go_wp2_with fail
        go_meet
        exact ⟨_, rfl, bs_start (Below.drew (H3.out.2.2.alloc H3.out.2.2.size _)) (H3.out.2.1.alloc _) HG3.out (Blk.new w3 _ _) (by rw [HP0.out]; exact Rd.none_) hl0.out⟩
  case rest =>
    obtain ⟨gb, rfl, hbs⟩ := hcut
    have HBS := Lib.hid hbs
    clear hbs H3 HR03 HR13 b30 b31 b32 b33
    go_wp2
    go_loopw [9, 10, 12, 13, 14, 58] (fun vp va _ _ _ i wr => ∃ (k : Nat) (ps : List Pt), k ≤ n ∧ ps.length ≤ k ∧ i = .int .i64 (k : Int) ∧ BS w l0 l1 A1 n1 c1 gb ps vp va wr)
      (fun _ _ _ _ _ i _ => n - (intOf i).toNat)
    case atStart => exact ⟨0, [], Nat.zero_le _, Nat.le_refl _, rfl, HBS.out⟩
    case round =>
      obtain ⟨k, ps, hk, hpk, rfl, hbs⟩ := hrel
      have HBR := Lib.hid hbs
      have HPK := Lib.hid hpk
      obtain ⟨A, nb, cb, hB, hrd⟩ := hbs.2.2.2.2.1
      have hlen := hbs.2.2.2.2.2.1
      have HLEN := Lib.hid hlen
      have hgb : gb < wr.heap.size := hB.lt
      obtain ⟨N, hN⟩ : ∃ N : Nat, N = (l0 ++ flatT ps).length := ⟨_, rfl⟩
      have HN := Lib.hid hN
      rw [← hN] at hB
      have y0 : wr.cell? ⟨gb, 0, none⟩ = some (.slice A nb cb) := hB.cell 0
      have y1 : wr.cell? ⟨gb, 1, none⟩ = some (.int .i64 (N : Int)) := hB.cell 1
      have HB := Lib.hid hB
      have HRD := Lib.hid hrd
      clear hB hrd hlen hN
      by_cases hlt : k < n
      · have hRr := hR.out.below hbs.1
        obtain ⟨L, hL, hc⟩ := hRr.2 (by omega)
        subst hL
        have hkx : k < ls.length := by have := hRr.1; omega
        obtain ⟨x, hx⟩ : ∃ x, ls[k]? = some x := ⟨_, List.getElem?_eq_getElem hkx⟩
        obtain ⟨c0', c1', hV⟩ := hc k x hx
        obtain ⟨V, W⟩ := x
        have HV := Lib.hid hV
        clear hc hx hRr hbs hkx hV hpk
        by_cases hgood : ∃ cs, itemCode V W = some cs ∧ ((l0 ++ flatT ps) ++ cs).length ≤ 65536
        · obtain ⟨cs, hcs, hfit⟩ := hgood
          obtain ⟨m, hm⟩ : ∃ m : Nat, m = (pack ((l0 ++ flatT ps) ++ cs)).length := ⟨_, rfl⟩
          obtain ⟨M, hM⟩ : ∃ M : Nat, M = ((l0 ++ flatT ps) ++ cs).length := ⟨_, rfl⟩
          have HCS := Lib.hid hcs
          have HFIT := Lib.hid hfit
          have HM := Lib.hid hm
          have HMM := Lib.hid hM
          clear hcs hfit hm hM
          go_wp2_with fail
          refine (put_good_item A nb cb (l0 ++ flatT ps) cs V m M W _ _ (HRD.out.alloc _) HLEN.out (by rw [HN.out]) HV.out HCS.out HFIT.out HM.out HMM.out).mono ?_
          rintro e w1' ⟨A2, c2, rfl, hb1, hr1, hfr1⟩
          have HS1 := Lib.hid (((HBR.out.alloc (.cells #[.int .u64 (V : Int), .int .i64 W] 43)).next hb1).alloc (.cells #[.slice A2 m c2, .int .i64 (M : Int)] 24))
          have HX1 := Lib.hid ((Blk.new wr 43 #[.int .u64 (V : Int), .int .i64 W]).below hb1 (by simp))
          have HB1 := Lib.hid ((HB.out.alloc (.cells #[.int .u64 (V : Int), .int .i64 W] 43)).below hb1 (HB.out.alloc _).lt)
          have HR1 := Lib.hid hr1
          have HF1 := Lib.hid (show ∀ ad, A2 = some ad → 0 < m → u9.ownBlock ≠ some ad.block ∧ u10.ownBlock ≠ some ad.block from fun ad ha hpos => by
            have h := hfr1 ad ha hpos
            simp at h
            exact ⟨fun e => by have := (World.ownsRow.lt HBR.out.2.1 _ e).2; omega, fun e => by have := (World.ownsRow.lt HBR.out.2.2.1 _ e).2; omega⟩)
          have x0 : w1'.cell? ⟨wr.heap.size, 0, none⟩ = some (.int .u64 (V : Int)) := HX1.out.cell 0
          have x1 : w1'.cell? ⟨wr.heap.size, 1, none⟩ = some (.int .i64 W) := HX1.out.cell 1
          have hz : wr.heap.size < w1'.heap.size := HX1.out.lt
          have hgb1 : gb < w1'.heap.size := HB1.out.lt
          clear hb1 hr1 hfr1 y0 y1 c0' c1' hgb
          have HSA := Lib.hid (HS1.out.alloc (.cells #[.int .u64 (V : Int), .int .i64 W] 43))
          have HBASE := Lib.hid HSA.out.1.size
          have HBA := Lib.hid ((HB1.out.alloc (.cells #[.slice A2 m c2, .int .i64 (M : Int)] 24)).alloc (.cells #[.int .u64 (V : Int), .int .i64 W] 43))
          have HYA := Lib.hid ((Blk.new w1' 24 #[.slice A2 m c2, .int .i64 (M : Int)]).alloc (.cells #[.int .u64 (V : Int), .int .i64 W] 43))
          have HRA := Lib.hid ((HR1.out.alloc (.cells #[.slice A2 m c2, .int .i64 (M : Int)] 24)).alloc (.cells #[.int .u64 (V : Int), .int .i64 W] 43))
          go_wp2_with (first
            | (at_builtin; refine wpList_append_own_at _ rfl (.tmp 70) (.tmp 72) 40 rfl w.heap.size 43 i2 _ 2 16 Try.underlying40 hi0 hz0 hz1 hz2 rfl (by omega) u9 ps.length (cellsT ps) rfl HSA.out.2.1 ⟨w1'.heap.size + 1, 0, none⟩ 1 1 (Pt.cells ⟨V, W, cs⟩) rfl rfl (news_twoAt _ _ _ _ _ (by simp)) (one_item _) (by have := HPK.out; unfold maxLen; omega) (by have := HPK.out; omega) HBASE.out ?_; intro vp' w2' ho2 hg2 _ _; have HO2 := Lib.hid ho2; have HG2 := Lib.hid hg2; have HB2 := Lib.hid (HBA.out.row hg2 (row_blk HSA.out.2.1 HBA.out (by decide))); have HY2 := Lib.hid (HYA.out.row hg2 (row_blk HSA.out.2.1 HYA.out (by decide))); have HVA2 := Lib.hid (World.ownsRow.alloc (World.ownsRow.kept HSA.out.2.2.1 hg2 (row_ne HSA.out.2.2.1 HSA.out.2.1 (by decide))) (.cells #[.int .i64 (N : Int)] 3)); have HBE2 := Lib.hid (HSA.out.1.grown hg2 HBASE.out (fun k hk => (World.ownsRow.lt HSA.out.2.1 k hk).1)); have HBE2' := Lib.hid (HBE2.out.alloc HBE2.out.size (.cells #[.int .i64 (N : Int)] 3)).size; have y20 : w2'.cell? ⟨gb, 0, none⟩ = some (.slice A nb cb) := HB2.out.cell 0; have y21 : w2'.cell? ⟨gb, 1, none⟩ = some (.int .i64 (N : Int)) := HB2.out.cell 1; clear ho2 hg2)
            | (at_builtin; go_loud (refine wpList_append_own_at _ rfl (.tmp 74) (.tmp 77) 41 rfl w.heap.size 3 i3 _ 1 8 Try.underlying41 hk0 hx0 hx1 hx2 rfl (by omega) u10 ps.length (startsT l0 ps) rfl HVA2.out ⟨w2'.heap.size, 0, none⟩ 1 1 [.int .i64 (N : Int)] rfl rfl (news_one _ _ _) (one_int _) (by have := HPK.out; unfold maxLen; omega) (by have := HPK.out; omega) HBE2'.out ?_); intro va' w3' ho3 hg3 _ _; have HO3 := Lib.hid ho3; have HG3 := Lib.hid hg3; have HB3 := Lib.hid ((HB2.out.alloc (.cells #[.int .i64 (N : Int)] 3)).row hg3 (row_blk HVA2.out (HB2.out.alloc _) (by decide))); have HY3 := Lib.hid ((HY2.out.alloc (.cells #[.int .i64 (N : Int)] 3)).row hg3 (row_blk HVA2.out (HY2.out.alloc _) (by decide))); have y30 : w3'.cell? ⟨gb, 0, none⟩ = some (.slice A nb cb) := HB3.out.cell 0; have y31 : w3'.cell? ⟨gb, 1, none⟩ = some (.int .i64 (N : Int)) := HB3.out.cell 1; have y32 := HB3.out.frozen 0; have y33 := HB3.out.frozen 1; have y34 : w3'.cell? ⟨w1'.heap.size, 0, none⟩ = some (.slice A2 m c2) := HY3.out.cell 0; have y35 : w3'.cell? ⟨w1'.heap.size, 1, none⟩ = some (.int .i64 (M : Int)) := HY3.out.cell 1; clear ho3 hg3))
          go_roundw
          case rel => exact ⟨k + 1, ps ++ [⟨V, W, cs⟩], by omega, by have := HPK.out; rw [List.length_append]; simp; omega, by go_num, BS.more HSA.out HCS.out HV.out HFIT.out HMM.out HO2.out HG2.out (by have := HO3.out; rwa [HN.out] at this) HG3.out (by rw [HM.out] at HRA ⊢; exact HRA.out) HF1.out⟩
          case measure => simp [intOf]; omega
        · go_wp2_with fail
          refine (put_bad_item A nb cb (l0 ++ flatT ps) V W _ _ (HRD.out.alloc _) HLEN.out (by rw [HN.out]) HV.out (fun cs hcs hl => hgood ⟨cs, hcs, hl⟩)).mono ?_
          rintro e w1' ⟨A2, n2, c2, E, rfl, hE, hb1⟩
          have HS1 := Lib.hid (((HBR.out.alloc (.cells #[.int .u64 (V : Int), .int .i64 W] 43)).next hb1).alloc (.cells #[.slice A2 n2 c2, .int .i64 0] 24))
          have hE' : (E != 0) = true := by simp at hE ⊢; exact hE
          clear hb1 hE y0 y1 c0' c1' hgb hgood
          go_wp2_with fail
          go_roundw
          case rel => exact ⟨k + 1, ps, by omega, by have := HPK.out; omega, by go_num, HS1.out⟩
          case measure => simp [intOf]; omega
      · obtain rfl : k = n := by omega
        obtain ⟨A9, n9, c9, rfl⟩ : ∃ A n c, u9 = .slice A n c := by
          rcases hbs.2.1.2 with ⟨rfl, _⟩ | ⟨g, cap, cur, rfl, _⟩ <;> exact ⟨_, _, _, rfl⟩
        obtain ⟨A10, n10, c10, rfl⟩ : ∃ A n c, u10 = .slice A n c := by
          rcases hbs.2.2.1.2 with ⟨rfl, _⟩ | ⟨g, cap, cur, rfl, _⟩ <;> exact ⟨_, _, _, rfl⟩
        obtain rfl : n9 = ps.length := by
          rcases hbs.2.1.2 with ⟨e, h⟩ | ⟨g, cap, cur, e, _⟩
          · injection e with _ e _; omega
          · injection e
        obtain rfl : n10 = ps.length := by
          rcases hbs.2.2.1.2 with ⟨e, h⟩ | ⟨g, cap, cur, e, _⟩
          · injection e with _ e _; omega
          · injection e
        have t0 : wr.cell? ⟨w.heap.size + 1, 0, none⟩ = some (.slice A1 n1 c1) := hbs.2.2.2.1.1.cell 0
        have t1 : wr.cell? ⟨w.heap.size + 1, 1, none⟩ = some (.int .i64 (l1.length : Int)) := hbs.2.2.2.1.1.cell 1
        have HR1 := Lib.hid (hr1.out.below hbs.1)
        clear hbs hpk
        go_wp2_with fail
        rw [HN.out]
        refine (join_two A A1 cb c1 nb n1 (l0 ++ flatT ps) l1 _ HRD.out.1.symm HR1.out.1.symm HRD.out HR1.out HLEN.out hl1.out).mono ?_
        rintro e w1' ⟨A3, n3, c3, N3, er, rfl, hb1, hq⟩
        rcases hq with ⟨hT, rfl, hNw⟩ | ⟨hT, rfl, hv⟩
        · have hB3 := hNw.isB
          obtain rfl : N3 = (((l0 ++ flatT ps) ++ l1).length : Int) := by
            obtain ⟨A', c', e', _, _⟩ := hB3
            simp only [Value.agg.injEq, Array.mk.injEq, List.cons.injEq, Value.int.injEq, and_true, true_and] at e'
            exact e'.2
          have HS1 := HBR.out.alloc (.cells #[.slice A nb cb, .int .i64 ((l0 ++ flatT ps).length : Int), .slice A1 n1 c1, .int .i64 (l1.length : Int)] 24) |>.next hb1
          have HBB := (HB.out.alloc (.cells #[.slice A nb cb, .int .i64 ((l0 ++ flatT ps).length : Int), .slice A1 n1 c1, .int .i64 (l1.length : Int)] 24)).below hb1 (HB.out.alloc _).lt
          rw [HN.out] at HBB
          obtain ⟨NT, hNT⟩ : ∃ NT : Nat, NT = ((l0 ++ flatT ps) ++ l1).length := ⟨_, rfl⟩
          rw [← hNT] at hB3 ⊢
          have HQ := Lib.hid (show QS w l0 l1 gb w1'.heap.size ps (.slice A9 ps.length c9) (.slice A10 ps.length c10) (.slice A nb cb) A3 n3 c3 NT (w1'.alloc (.cells #[.slice A3 n3 c3, .int .i64 (NT : Int)] 24)) from
            ⟨HS1.1.alloc HS1.1.size _, World.ownsRow.alloc HS1.2.1 _, World.ownsRow.alloc HS1.2.2.1 _, HBB.alloc _, Blk.new _ _ _, hB3.alloc _⟩)
          have HPS := Lib.hid HS1.2.2.2.2.2.2
          have HNT := Lib.hid hNT
          have HT := Lib.hid hT
          generalize hga : w1'.heap.size = ga at HQ
          have hl100 : ps.length ≤ 100 := by have := HPK.out; omega
          clear HS1 HBB hNw hB3 hT hb1 y0 y1 t0 t1 HBR HB HRD HR1 hr0 hr1 hR HLEN hk hlt hd HBS HPK hn hj0 hy0 hy1 hy2 hi0 hz0 hz1 hz2 hk0 hx0 hx1 hx2 hgb HN hNT
          go_wp2
          clear hga
          go_loopw [17, 18, 19, 20, 21, 22, 23, 24, 25, 26, 27, 97] (fun _ _ _ _ _ _ _ _ _ _ _ i wr => ∃ k : Nat, k ≤ ps.length ∧ i = .int .i64 (k : Int) ∧ QS w l0 l1 gb ga ps (.slice A9 ps.length c9) (.slice A10 ps.length c10) (.slice A nb cb) A3 n3 c3 NT wr)
            (fun _ _ _ _ _ _ _ _ _ _ _ i _ => ps.length - (intOf i).toNat)
          case atStart => exact ⟨0, Nat.zero_le _, rfl, HQ.out⟩
          case round =>
            obtain ⟨k, hk, rfl, hq⟩ := hrel
            by_cases hlt : k < ps.length
            · obtain ⟨p, hp⟩ : ∃ p, ps[k]? = some p := ⟨_, List.getElem?_eq_getElem hlt⟩
              obtain ⟨⟨L9, rfl⟩, L10, rfl⟩ := hq.some_ (by omega)
              obtain ⟨V, W, c⟩ := p
              obtain ⟨i0, i1'⟩ := hq.item hp
              have p0 := hq.place hlt
              obtain ⟨a, ha⟩ : ∃ a : Nat, a = (l0 ++ flatT (ps.take k)).length := ⟨_, rfl⟩
              obtain ⟨NB, hNB⟩ : ∃ NB : Nat, NB = (l0 ++ flatT ps).length := ⟨_, rfl⟩
              obtain ⟨E, hE⟩ : ∃ E : Nat, E = a + c.length := ⟨_, rfl⟩
              have b1 : wr.cell? ⟨gb, 1, none⟩ = some (.int .i64 (NB : Int)) := by rw [hNB]; exact hq.2.2.2.1.cell 1
              have g0 : wr.cell? ⟨ga, 0, none⟩ = some (.slice A3 n3 c3) := hq.2.2.2.2.1.cell 0
              have g1 : wr.cell? ⟨ga, 1, none⟩ = some (.int .i64 (NT : Int)) := hq.2.2.2.2.1.cell 1
              have hgb : gb < wr.heap.size := hq.2.2.2.1.lt
              have hga : ga < wr.heap.size := hq.2.2.2.2.1.lt
              have hall := QS.parts (l0 := l0) (l1 := l1) hp
              obtain ⟨P, hP⟩ : ∃ P, P = l0 ++ flatT (ps.take k) := ⟨_, rfl⟩
              obtain ⟨T, hT⟩ : ∃ T, T = flatT (ps.drop (k + 1)) ++ l1 := ⟨_, rfl⟩
              rw [← hP, ← hT] at hall
              simp only at hall
              have hcode : itemCode V W = some c := (HPS.out _ (List.mem_of_getElem? hp)).1
              have hEN : a + c.length ≤ NT := by rw [HNT.out, hall, ha, ← hP]; simp
              have hNT' : NT ≤ 65536 := by rw [HNT.out]; exact HT.out
              have hE0 : k + 1 < ps.length → (l0 ++ flatT (ps.take (k + 1))).length = E := fun _ => by
                rw [flatT_take_succ ps k _ hp, ← List.append_assoc, List.length_append, ← ha, hE]
              have hE1 : ¬ k + 1 < ps.length → NB = E := fun h => by
                have e : ps.take (k + 1) = ps := List.take_of_length_le (by omega)
                have e2 := flatT_take_succ ps k _ hp
                rw [e] at e2
                rw [hNB, e2, ← List.append_assoc, List.length_append, ← ha, hE]
              rw [← ha] at p0
              have hL10 : L10.block < wr.heap.size := by have := World.block_lt_of_cell? _ _ p0; rwa [block_of_add] at this
              have hL10k : (L10.add k).block < wr.heap.size := World.block_lt_of_cell? _ _ p0
              have HQ' := Lib.hid hq
              have HA := Lib.hid (show a = P.length by rw [ha, hP])
              have HALL := Lib.hid hall
              have HC := Lib.hid hcode
              have HE := Lib.hid hE
              have haT : a ≤ 65536 := by omega
              have HQA := Lib.hid (hq.alloc (.cells #[.int .u64 (V : Int), .int .i64 W] 43))
              have HXA := Lib.hid (Blk.new wr 43 #[.int .u64 (V : Int), .int .i64 W])
              have hE2 : E ≤ 65536 := by omega
              have hEN' := hEN
              have HA' := Lib.hid ha
              have HE0 := Lib.hid hE0
              have HP := Lib.hid hp
              have HE1 := Lib.hid hE1
              clear hP hT hcode hE hEN hNT' hall hE0 hE1 hq ha hNB hp
              go_upto_if 108 with fail
              go_cut [19] from 98 to 201 (fun en wx => en = .int .i64 (E : Int) ∧ wx = wr.alloc (.cells #[.int .u64 (V : Int), .int .i64 W] 43))
              case first =>
                by_cases hl2 : k + 1 < ps.length
                · have d2 : decide ((k : Int) + 1 < (ps.length : Int)) = true := by simp; omega
                  have p1 := HQ'.out.place hl2
                  rw [HE0.out hl2, add_succ] at p1
                  go_wp2_with fail
                  go_meet
                  exact ⟨rfl, rfl⟩
                · have d2 : decide ((k : Int) + 1 < (ps.length : Int)) = false := by simp; omega
                  have HNE := Lib.hid (HE1.out hl2)
                  go_wp2_with fail
                  go_meet
                  exact ⟨by rw [HNE.out], rfl⟩
              case rest =>
                obtain ⟨rfl, rfl⟩ := hcut
                clear p0 i0 i1' b1 g0 g1 HQ'
                generalize hwA : wr.alloc (.cells #[.int .u64 (V : Int), .int .i64 W] 43) = wA at HQA HXA ⊢
                generalize hgx : wr.heap.size = gx at HXA hgb hga hL10 hL10k ⊢
                have e0 : wA.cell? ⟨ga, 0, none⟩ = some (.slice A3 n3 c3) := HQA.out.2.2.2.2.1.cell 0
                have e1 : wA.cell? ⟨ga, 1, none⟩ = some (.int .i64 (NT : Int)) := HQA.out.2.2.2.2.1.cell 1
                have e2 : wA.cell? (L10.add k) = some (.int .i64 (a : Int)) := by have := HQA.out.place hlt; rw [← HA'.out] at this; exact this
                have e3 : wA.cell? ⟨gx, 0, none⟩ = some (.int .u64 (V : Int)) := HXA.out.cell 0
                have e4 : wA.cell? ⟨gx, 1, none⟩ = some (.int .i64 W) := HXA.out.cell 1
                clear hwA hgx hgb hga hL10 hL10k
                by_cases hW : 0 ≤ W
                · have dW : decide (0 ≤ W) = true := by simp; omega
                  have HKW := Lib.hid (show W ≤ 64 ∧ (W.toNat : Int) = W ∧ c.length = W.toNat ∧ V = num ((((l0 ++ flatT ps) ++ l1).drop a).take W.toNat) by rw [HALL.out, HA.out]; exact kind_w HC.out hW)
                  have HAL := Lib.hid (show a + W.toNat ≤ ((l0 ++ flatT ps) ++ l1).length by rw [← HKW.out.2.2.1, ← HNT.out]; exact hEN')
                  go_wp2_with fail
                  go_cut [20, 21] from 98 to 201 (fun v f wx => v = .int .u64 (V : Int) ∧ f = .int .i64 0 ∧ QS w l0 l1 gb ga ps (.slice (some L9) ps.length c9) (.slice (some L10) ps.length c10) (.slice A nb cb) A3 n3 c3 NT wx ∧ Blk wx gx 43 #[.int .u64 (V : Int), .int .i64 W])
                  case first =>
                    go_region_held3 (fun w' => w'.cell? ⟨ga, 0, none⟩ = some (.slice A3 n3 c3) ∧ w'.cell? ⟨ga, 1, none⟩ = some (.int .i64 (NT : Int)) ∧ w'.cell? (L10.add k) = some (.int .i64 (a : Int)) ∧ w'.cell? ⟨gx, 1, none⟩ = some (.int .i64 W)) (first | exact ⟨e0, e1, e2, e4⟩ | exact ⟨e50, e51, e52, e54⟩ | go_keep) (first
                      | (go_at_call 24
                         refine (get_n _ ((l0 ++ flatT ps) ++ l1) _ _ a W.toNat V _ HQA.out.drew.2.2.2.2.2 rfl HKW.out.2.1.symm (by have := HKW.out.1; omega) HAL.out HKW.out.2.2.2).mono ?_
                         rintro e w5 ⟨rfl, hb5⟩
                         have HQ5 := Lib.hid (HQA.out.drew.next hb5)
                         have HX5 := Lib.hid (HXA.out.drew.below hb5 HXA.out.drew.lt)
                         have e50 : w5.cell? ⟨ga, 0, none⟩ = some (.slice A3 n3 c3) := HQ5.out.2.2.2.2.1.cell 0
                         have e51 : w5.cell? ⟨ga, 1, none⟩ = some (.int .i64 (NT : Int)) := HQ5.out.2.2.2.2.1.cell 1
                         have e52 : w5.cell? (L10.add k) = some (.int .i64 (a : Int)) := by have := HQ5.out.place hlt; rw [← HA'.out] at this; exact this
                         have e54 : w5.cell? ⟨gx, 1, none⟩ = some (.int .i64 W) := HX5.out.cell 1
                         clear hb5))
                    all_goals
                      clear e0 e1 e2 e3 e4
                      go_wp2_with fail
                      go_meet
                      exact ⟨rfl, rfl, HQ5.out, HX5.out⟩
                  case rest =>
                    obtain ⟨rfl, rfl, hq5, hx5⟩ := hcut
                    have f0 : wc.cell? ⟨gx, 0, none⟩ = some (.int .u64 (V : Int)) := hx5.cell 0
                    have f1 : wc.cell? ⟨gx, 1, none⟩ = some (.int .i64 W) := hx5.cell 1
                    have f2 : wc.cell? (L10.add k) = some (.int .i64 (a : Int)) := by have := hq5.place hlt; rw [← HA'.out] at this; exact this
                    have hwrap : IntKind.i64.wrap ((a : Int) + W) = (E : Int) := by have h1 := HKW.out; have h2 := HE.out; rw [IntKind.wrap_i64]; omega
                    have HQ5 := Lib.hid hq5
                    clear hq5 hx5 e0 e1 e2 e3 e4
                    go_wp2_with fail
                    go_quiet (fail)
                    go_wp2_with fail
                    go_roundw
                    case rel => exact ⟨k + 1, by omega, by go_num, HQ5.out.drewN nq⟩
                    case measure => simp [intOf]; omega
                · have dW : decide (0 ≤ W) = false := by simp; omega
                  by_cases hW1 : W < -1
                  · have dW1 : decide (W < -1) = true := by simp; omega
                    obtain ⟨sx, hsx⟩ : ∃ sx : Int, sx = (V : Int) % 2147483648 - 1073741824 := ⟨_, rfl⟩
                    have HSX := Lib.hid hsx
                    have HG := Lib.hid (show gc ((l0 ++ flatT ps) ++ l1) a = (zig sx, E, 0) by rw [HALL.out, HA.out, HE.out, hsx, HA.out]; exact kind_s HC.out hW1)
                    have HAL := Lib.hid (show a ≤ ((l0 ++ flatT ps) ++ l1).length by rw [← HNT.out]; omega)
                    have HZ := Lib.hid (show zig sx ≤ 2147483648 from zig_le sx (by omega) (by omega))
                    clear hsx
                    go_wp2_with fail
                    go_cut [22, 23, 24] from 98 to 201 (fun v n f wx => v = .int .i64 sx ∧ n = .int .i64 (E : Int) ∧ f = .int .i64 0 ∧ QS w l0 l1 gb ga ps (.slice (some L9) ps.length c9) (.slice (some L10) ps.length c10) (.slice A nb cb) A3 n3 c3 NT wx ∧ Blk wx gx 43 #[.int .u64 (V : Int), .int .i64 W])
                    case first =>
                      go_region_held3 (fun w' => w'.cell? ⟨ga, 0, none⟩ = some (.slice A3 n3 c3) ∧ w'.cell? ⟨ga, 1, none⟩ = some (.int .i64 (NT : Int)) ∧ w'.cell? (L10.add k) = some (.int .i64 (a : Int))) (first | exact ⟨e0, e1, e2⟩ | exact ⟨e50, e51, e52⟩ | go_keep) (first
                        | (go_at_call 25
                           refine (getSigned_good A3 n3 c3 (zig sx) E (NT : Int) (a : Int) sx _ HZ.out (Lib.hid (unzig_zig sx).symm) (Lib.hid (getCode_n _ ((l0 ++ flatT ps) ++ l1) _ a (zig sx) E 0 _ (HQA.out.drew.2.2.2.2.2.alloc _) HAL.out rfl HG.out))).mono ?_
                           rintro e w5 ⟨rfl, hb5⟩
                           have HQ5 := Lib.hid (HQA.out.drew.next hb5)
                           have HX5 := Lib.hid (HXA.out.drew.below hb5 HXA.out.drew.lt)
                           have e50 : w5.cell? ⟨ga, 0, none⟩ = some (.slice A3 n3 c3) := HQ5.out.2.2.2.2.1.cell 0
                           have e51 : w5.cell? ⟨ga, 1, none⟩ = some (.int .i64 (NT : Int)) := HQ5.out.2.2.2.2.1.cell 1
                           have e52 : w5.cell? (L10.add k) = some (.int .i64 (a : Int)) := by have := HQ5.out.place hlt; rw [← HA'.out] at this; exact this
                           clear hb5))
                      all_goals
                        clear e0 e1 e2 e3 e4
                        go_wp2_with fail
                        go_meet
                        exact ⟨rfl, rfl, rfl, HQ5.out, HX5.out⟩
                    case rest =>
                      obtain ⟨rfl, rfl, rfl, hq5, hx5⟩ := hcut
                      have f0 : wc.cell? ⟨gx, 0, none⟩ = some (.int .u64 (V : Int)) := hx5.cell 0
                      have f1 : wc.cell? ⟨gx, 1, none⟩ = some (.int .i64 W) := hx5.cell 1
                      have HQ5 := Lib.hid hq5
                      have hV64 : (V : Int) < 18446744073709551616 := by have := (HPS.out _ (List.mem_of_getElem? HP.out)).2; simp at this; omega
                      rw [HSX.out]
                      clear hq5 hx5 e0 e1 e2 e3 e4
                      go_wp2_with fail
                      go_roundw
                      case rel => exact ⟨k + 1, by omega, by go_num, HQ5.out⟩
                      case measure => simp [intOf]; omega
                  · obtain rfl : W = -1 := by omega
                    have dW1 : decide ((-1 : Int) < -1) = false := by simp
                    have HG := Lib.hid (show gc ((l0 ++ flatT ps) ++ l1) a = (V, E, 0) by rw [HALL.out, HA.out, HE.out, HA.out]; exact kind_c HC.out)
                    have HAL := Lib.hid (show a ≤ ((l0 ++ flatT ps) ++ l1).length by rw [← HNT.out]; omega)
                    go_wp2_with fail
                    go_cut [25, 26, 27] from 98 to 201 (fun v n f wx => v = .int .u64 (V : Int) ∧ n = .int .i64 (E : Int) ∧ f = .int .i64 0 ∧ QS w l0 l1 gb ga ps (.slice (some L9) ps.length c9) (.slice (some L10) ps.length c10) (.slice A nb cb) A3 n3 c3 NT wx ∧ Blk wx gx 43 #[.int .u64 (V : Int), .int .i64 (-1)])
                    case first =>
                      go_region_held3 (fun w' => w'.cell? ⟨ga, 0, none⟩ = some (.slice A3 n3 c3) ∧ w'.cell? ⟨ga, 1, none⟩ = some (.int .i64 (NT : Int)) ∧ w'.cell? (L10.add k) = some (.int .i64 (a : Int))) (first | exact ⟨e0, e1, e2⟩ | exact ⟨e50, e51, e52⟩ | go_keep) (first
                        | (go_at_call 26
                           refine (getCode_n _ ((l0 ++ flatT ps) ++ l1) _ a V E 0 _ HQA.out.drew.2.2.2.2.2 HAL.out rfl HG.out).mono ?_
                           rintro e w5 ⟨rfl, hb5⟩
                           have HQ5 := Lib.hid (HQA.out.drew.next hb5)
                           have HX5 := Lib.hid (HXA.out.drew.below hb5 HXA.out.drew.lt)
                           have e50 : w5.cell? ⟨ga, 0, none⟩ = some (.slice A3 n3 c3) := HQ5.out.2.2.2.2.1.cell 0
                           have e51 : w5.cell? ⟨ga, 1, none⟩ = some (.int .i64 (NT : Int)) := HQ5.out.2.2.2.2.1.cell 1
                           have e52 : w5.cell? (L10.add k) = some (.int .i64 (a : Int)) := by have := HQ5.out.place hlt; rw [← HA'.out] at this; exact this
                           clear hb5))
                      all_goals
                        clear e0 e1 e2 e3 e4
                        go_wp2_with fail
                        go_meet
                        exact ⟨rfl, rfl, rfl, HQ5.out, HX5.out⟩
                    case rest =>
                      obtain ⟨rfl, rfl, rfl, hq5, hx5⟩ := hcut
                      have f0 : wc.cell? ⟨gx, 0, none⟩ = some (.int .u64 (V : Int)) := hx5.cell 0
                      have f1 : wc.cell? ⟨gx, 1, none⟩ = some (.int .i64 (-1)) := hx5.cell 1
                      have HQ5 := Lib.hid hq5
                      clear hq5 hx5 e0 e1 e2 e3 e4
                      go_wp2_with fail
                      go_roundw
                      case rel => exact ⟨k + 1, by omega, by go_num, HQ5.out⟩
                      case measure => simp [intOf]; omega
            · have HB5 := Lib.hid hq.1
              clear hq
              go_wp2
              go_ret
              exact ⟨rfl, HB5.out⟩
        · have HBE := Lib.hid ((HBR.out.alloc (.cells #[.slice A nb cb, .int .i64 ((l0 ++ flatT ps).length : Int), .slice A1 n1 c1, .int .i64 (l1.length : Int)] 24)).next hb1).1
          clear hb1 hv hT y0 y1 t0 t1
          go_wp2
          go_ret
          exact ⟨rfl, HBE.out.alloc HBE.out.size _⟩
end Go.Proofs.Ythaannpkgljngaa
