/-
  The walk of BitsPieces, its loop and its end.
-/
import Derived.Test.YthaannpkgljngaaPb
import Derived.Laws.AppendOwnNone
namespace Go.Proofs.Ythaannpkgljngaa
open Go.RowKit

theorem info_bits : (Try.prog.info? 24).map (fun i => (i.zero, i.size, i.bytes)) = some (some (.agg #[.slice none 0 0, .int .i64 0]), 2, 32) := by kernel_rfl
theorem news_two (w : World) (a b : Value) (t : TypeId) : ∀ j u, [a, b][j]? = some u → (w.alloc (.cells #[a, b] t)).cell? ((⟨w.heap.size, 0, none⟩ : Addr).add j) = some u := by
  intro j u hj
  rw [add_own, (Blk.new w t #[a, b]).cell]
  simpa using hj
theorem one_two (p : Pc) : ∀ u ∈ p.cells, u.oneCell' = true := by
  intro u hu
  simp only [Pc.cells, List.mem_cons, List.not_mem_nil, or_false] at hu
  rcases hu with rfl | rfl <;> rfl
theorem one_bytes (bs : List Nat) : ∀ u ∈ bs.map byteV, u.oneCell' = true := by
  intro u hu
  obtain ⟨x, _, rfl⟩ := List.mem_map.1 hu
  rfl
theorem rd_news {w : World} {ad : Addr} {n : Nat} {bs : List Nat} (h : Rd w (some ad) n bs) : ∀ j u, (bs.map byteV)[j]? = some u → w.cell? (ad.add j) = some u := by
  intro j u hu
  rw [List.getElem?_map] at hu
  obtain ⟨x, hx, rfl⟩ := Option.map_eq_some_iff.1 hu
  have hpos : 0 < n := by have := h.1; have := (List.getElem?_eq_some_iff.1 hx).1; omega
  obtain ⟨ad', e, hc⟩ := h.2.2 hpos
  injection e with e
  subst e
  exact hc j x hx
theorem PS.len {w wr : World} {ps : List Pc} {vp va : Value} (h : PS w ps vp va wr) : (flatP ps).length ≤ 300 * ps.length :=
  flatP_le ps fun p hp => by have := h.2.2.2 p hp; omega

def Pc.it (p : Pc) : It := ⟨some ⟨p.g, 0, none⟩, p.n, p.n, 8 * (p.n : Int), p.bs⟩
theorem bitsIn_append (a b : List Nat) : bitsIn (a ++ b) (8 * (a.length + b.length)) = bitsIn a (8 * a.length) ++ bitsIn b (8 * b.length) := by
  refine bitF_ext (by rw [List.length_append, bitsIn_length, bitsIn_length, bitsIn_length]; omega) fun i hi => ?_
  rw [bitsIn_length] at hi
  rw [bitF_append, bitsIn_length, bitF_bitsIn, bitF_bitsIn, bitF_bitsIn]
  by_cases h : i < 8 * a.length
  · have e : (a ++ b).getD (i / 8) 0 = a.getD (i / 8) 0 := by simp [List.getD_eq_getElem?_getD, List.getElem?_append, show i / 8 < a.length by omega]
    rw [if_pos h, e]
    simp [h, hi]
  · have e : (a ++ b).getD (i / 8) 0 = b.getD ((i - 8 * a.length) / 8) 0 := by
      have h1 : ¬ i / 8 < a.length := by omega
      have h2 : i / 8 - a.length = (i - 8 * a.length) / 8 := by omega
      simp [List.getD_eq_getElem?_getD, List.getElem?_append, h1, h2]
    have e2 : (i - 8 * a.length) % 8 = i % 8 := by omega
    have h3 : i - 8 * a.length < 8 * b.length := by omega
    rw [if_neg h, e, e2]
    simp [hi, h3]
theorem pieces_bits (ps : List Pc) (h : ∀ p ∈ ps, p.bs.length = p.n) : allBits (ps.map Pc.it) = bitsIn (flatP ps) (8 * (flatP ps).length) := by
  induction ps with
  | nil => rfl
  | cons p ps ih =>
    have h1 := ih fun q hq => h q (List.mem_cons_of_mem _ hq)
    have h2 := h p List.mem_cons_self
    have e1 : allBits ((p :: ps).map Pc.it) = p.it.bits ++ allBits (ps.map Pc.it) := by simp [allBits]
    have e2 : flatP (p :: ps) = p.bs ++ flatP ps := by simp [flatP]
    have e3 : p.it.bits = bitsIn p.bs (8 * p.bs.length) := by
      unfold It.bits Pc.it
      congr 1
      show (8 * (p.n : Int)).toNat = _
      omega
    rw [e1, e2, e3, h1, List.length_append, bitsIn_append]
theorem cellsP_get (ps : List Pc) (j : Nat) (p : Pc) (h : ps[j]? = some p) : (cellsP ps)[j * 2]? = some (.slice (some ⟨p.g, 0, none⟩) p.n p.n) ∧ (cellsP ps)[j * 2 + 1]? = some (.int .i64 (8 * (p.n : Int))) := by
  induction ps generalizing j with
  | nil => simp at h
  | cons q ps ih =>
    have e : cellsP (q :: ps) = .slice (some ⟨q.g, 0, none⟩) q.n q.n :: .int .i64 (8 * (q.n : Int)) :: cellsP ps := by simp [cellsP, Pc.cells]
    cases j with
    | zero =>
      simp only [List.getElem?_cons_zero, Option.some.injEq] at h
      subst h
      rw [e]
      exact ⟨rfl, rfl⟩
    | succ j =>
      simp only [List.getElem?_cons_succ] at h
      have := ih j h
      rw [e, show (j + 1) * 2 = j * 2 + 1 + 1 by omega, show j * 2 + 1 + 1 + 1 = (j * 2 + 1) + 1 + 1 by omega]
      exact this
theorem PS.rdl {w wr : World} {ps : List Pc} {A : Option Addr} {n c : Nat} {va : Value} (h : PS w ps (.slice A n c) va wr) : RdL wr A n (ps.map Pc.it) ∧ n = ps.length := by
  have hn : n = ps.length := by
    rcases h.2.1.2 with ⟨e, h⟩ | ⟨g, cap, cur, e, _⟩
    · injection e with _ e _; omega
    · injection e
  refine ⟨⟨by rw [List.length_map, hn], fun hpos => ?_⟩, hn⟩
  obtain ⟨g, cap, e, _, _⟩ := World.ownsRow.form h.2.1 (by omega)
  injection e with e1 e2 e3
  subst e1
  refine ⟨_, rfl, fun j x hx => ?_⟩
  rw [List.getElem?_map] at hx
  obtain ⟨p, hp, rfl⟩ := Option.map_eq_some_iff.1 hx
  obtain ⟨c0, c1⟩ := cellsP_get ps j p hp
  obtain ⟨hb, _, hl, _, h256⟩ := h.2.2.2 p (List.mem_of_getElem? hp)
  refine ⟨?_, ?_, ?_⟩
  · exact World.ownsRow.cells h.2.1 (g := g) rfl _ _ c0
  · have := World.ownsRow.cells h.2.1 (g := g) rfl _ _ c1
    rw [add_own] at this ⊢
    exact this
  · have := Rd.of_blk hb h256
    rw [hl] at this
    exact this
theorem PS.ok {w wr : World} {ps : List Pc} {vp va : Value} (h : PS w ps vp va wr) : ∀ x ∈ ps.map Pc.it, x.ok = true := by
  intro x hx
  obtain ⟨p, hp, rfl⟩ := List.mem_map.1 hx
  obtain ⟨_, _, hl, h300, h256⟩ := h.2.2.2 p hp
  have := okB_pack (bitsIn p.bs (8 * p.bs.length)) (by rw [bitsIn_length]; omega)
  rw [pack_bitsIn_whole p.bs h256, bitsIn_length] at this
  have e : ((8 * p.bs.length : Nat) : Int) = 8 * (p.n : Int) := by omega
  rw [e] at this
  exact this
theorem PS.all {w wr : World} {ps : List Pc} {A : Option Addr} {n c : Nat} {vp : Value} (h : PS w ps vp (.slice A n c) wr) : Rd wr A n (flatP ps) ∧ pack (allBits (ps.map Pc.it)) = flatP ps ∧ (allBits (ps.map Pc.it)).length = 8 * (flatP ps).length := by
  have h256 : ∀ x ∈ flatP ps, x < 256 := by
    intro x hx
    unfold flatP at hx
    obtain ⟨p, hp, hx⟩ := List.mem_flatMap.1 hx
    exact (h.2.2.2 p hp).2.2.2.2 x hx
  have hb := pieces_bits ps fun p hp => (h.2.2.2 p hp).2.2.1
  refine ⟨?_, by rw [hb, pack_bitsIn_whole _ h256], by rw [hb, bitsIn_length]⟩
  have hn : n = (flatP ps).length := by
    rcases h.2.2.1.2 with ⟨e, h⟩ | ⟨g, cap, cur, e, _⟩
    · injection e with _ e _; omega
    · injection e
  refine ⟨hn.symm, h256, fun hpos => ?_⟩
  obtain ⟨g, cap, e, _, _⟩ := World.ownsRow.form h.2.2.1 (by omega)
  injection e with e1 e2 e3
  subst e1
  refine ⟨_, rfl, fun j x hx => ?_⟩
  exact World.ownsRow.cells h.2.2.1 (g := g) rfl j (byteV x) (by rw [List.getElem?_map, hx]; rfl)

set_option maxHeartbeats 2000000 in
theorem pieces_core (AL : Option Addr) (n cap : Nat) (ls : List Bt) (w : World) (hn : n ≤ 50) (hR : Hid (RdB w AL n ls)) :
    Calls Try.prog 8 #[.slice AL n cap] w fun e w' => e = .returned (.bool true) ∧ Below w.heap.size w w' := by
  obtain ⟨i0, hi0, hz0, hz1, hz2⟩ := info_parts info_bits
  obtain ⟨i1, hj0, hy0, hy1, hy2⟩ := info_parts info_u8
  have hd : decide ((50 : Int) < (n : Int)) = false := by simp; omega
  go_enter Try.func8, Try.ntmps8
  go_wp2_with fail
  refine (live_any _).mono ?_
  rintro e w0 ⟨rfl, hb0⟩
  have H0 := Lib.hid hb0
  clear hb0
  go_wp2
  go_loopw [4, 5, 7, 19] (fun vp va _ i wr => ∃ (k : Nat) (ps : List Pc), k ≤ n ∧ i = .int .i64 (k : Int) ∧ ps.length = k ∧ PS w ps vp va wr)
    (fun _ _ _ i _ => n - (intOf i).toNat)
  case atStart => exact ⟨0, [], Nat.zero_le _, rfl, rfl, H0.out, World.ownsRow_nil _ _ _ _, World.ownsRow_nil _ _ _ _, fun p hp => by cases hp⟩
  case round =>
    obtain ⟨k, ps, hk, rfl, hpk, hps⟩ := hrel
    have HPS := Lib.hid hps
    have HPK := Lib.hid hpk
    by_cases hlt : k < n
    · have hRr := hR.out.below hps.1
      obtain ⟨L, hL, hc⟩ := hRr.2 (by omega)
      subst hL
      have hkx : k < ls.length := by have := hRr.1; omega
      obtain ⟨x, hx⟩ : ∃ x, ls[k]? = some x := ⟨_, List.getElem?_eq_getElem hkx⟩
      obtain ⟨c0, hrd, hnil⟩ := hc k x hx
      obtain ⟨xA, xn, xc, xbs⟩ := x
      have HRD := Lib.hid hrd
      have HRDW := Lib.hid (show Rd w xA xn xbs from by
        obtain ⟨L', _, hc'⟩ := hR.out.2 (by omega)
        exact (hc' k _ hx).2.1)
      clear hc hrd hx hRr hpk hps
      by_cases h300 : xn ≤ 300
      · have h300' : decide ((300 : Int) < (xn : Int)) = false := by simp; omega
        have hlen : (flatP ps).length ≤ 15000 := by have := HPS.out.len; have := HPK.out; omega
        have HLEN := Lib.hid hlen
        clear hlen
        cases xA with
        | some ad =>
          go_wp2_with fail
          refine (of_any (some ad) xn xc xbs _ HRD.out (by omega)).mono ?_
          rintro e w1 ⟨g, rfl, hg, hblk, hb1⟩
          have HP1 := Lib.hid ((HPS.out.next hb1).alloc (.cells #[.slice (some ⟨g, 0, none⟩) xn xn, .int .i64 (8 * (xn : Int))] 24))
          have HB1 := Lib.hid (hblk.alloc (.cells #[.slice (some ⟨g, 0, none⟩) xn xn, .int .i64 (8 * (xn : Int))] 24))
          have HNE := Lib.hid (show u5.ownBlock ≠ some g from fun e => by have := (World.ownsRow.lt HPS.out.2.2.1 g e).2; omega)
          have HR1 := Lib.hid ((HRD.out.below hb1).alloc (.cells #[.slice (some ⟨g, 0, none⟩) xn xn, .int .i64 (8 * (xn : Int))] 24))
          have HBASE := Lib.hid (HP1.out.1.size)
          clear hg hblk hb1
          go_wp2_with (first
            | (at_builtin; refine wpList_append_own_at _ rfl (.tmp 27) (.tmp 30) 37 rfl w.heap.size 24 i0 _ 2 32 Try.underlying37 hi0 hz0 hz1 hz2 rfl (by omega) u4 ps.length (cellsP ps) rfl HP1.out.2.1 ⟨w1.heap.size, 0, none⟩ 1 1 (Pc.cells ⟨g, xn, xbs⟩) rfl rfl (news_two _ _ _ _) (one_two _) (by have := HPK.out; unfold maxLen; omega) (by have := HPK.out; omega) HBASE.out ?_; intro vp' w2 ho2 hg2 _ _; have HO2 := Lib.hid ho2; have HG2 := Lib.hid hg2; have HVA2 := Lib.hid (World.ownsRow.kept HP1.out.2.2.1 hg2 (row_ne HP1.out.2.2.1 HP1.out.2.1 (by decide))); have HB2 := Lib.hid (HP1.out.1.grown hg2 HBASE.out (fun k hk => (World.ownsRow.lt HP1.out.2.1 k hk).1)); have HRD2 := Lib.hid (show Rd w2 (some ad) xn xbs from HRDW.out.below HB2.out); clear ho2 hg2)
            | (at_builtin; refine wpList_append_own_at _ rfl (.tmp 32) (.tmp 33) 22 rfl w.heap.size 5 i1 _ 1 1 Try.underlying22 hj0 hy0 hy1 hy2 rfl (by omega) u5 (flatP ps).length ((flatP ps).map byteV) rfl HVA2.out ad xn xc (xbs.map byteV) rfl (by rw [List.length_map, HRD2.out.1, Nat.mul_one]) (rd_news HRD2.out) (one_bytes _) (by have := HLEN.out; unfold maxLen; omega) (by have := HLEN.out; omega) HB2.out.size ?_; intro va' w3 ho3 hg3 _ hat3; have HM := Lib.hid (HP1.out.more (p := ⟨g, xn, xbs⟩) HB1.out HNE.out HRD.out.1 h300 HRD.out.2.1 HO2.out HG2.out ho3 hg3 hat3); clear ho3 hg3 hat3))
          go_roundw
          case rel => exact ⟨k + 1, ps ++ [⟨g, xn, xbs⟩], by omega, by go_num, by rw [List.length_append, HPK.out]; rfl, HM.out⟩
          case measure => simp [intOf]; omega
        | none =>
          obtain rfl : xc = 0 := hnil rfl
          obtain rfl : xn = 0 := by
            rcases Nat.eq_zero_or_pos xn with h | h
            · exact h
            · obtain ⟨ad, e, _⟩ := HRD.out.2.2 h
              cases e
          obtain rfl : xbs = [] := List.eq_nil_of_length_eq_zero HRD.out.1
          clear hnil
          go_wp2_with fail
          refine (of_any none 0 0 [] _ HRD.out (by omega)).mono ?_
          rintro e w1 ⟨g, rfl, hg, hblk, hb1⟩
          have HP1 := Lib.hid ((HPS.out.next hb1).alloc (.cells #[.slice (some ⟨g, 0, none⟩) 0 0, .int .i64 0] 24))
          have HB1 := Lib.hid (hblk.alloc (.cells #[.slice (some ⟨g, 0, none⟩) 0 0, .int .i64 0] 24))
          have HNE := Lib.hid (show u5.ownBlock ≠ some g from fun e => by have := (World.ownsRow.lt HPS.out.2.2.1 g e).2; omega)
          have HBASE := Lib.hid (HP1.out.1.size)
          clear hg hblk hb1
          go_wp2_with (first
            | (at_builtin; refine wpList_append_own_at _ rfl (.tmp 27) (.tmp 30) 37 rfl w.heap.size 24 i0 _ 2 32 Try.underlying37 hi0 hz0 hz1 hz2 rfl (by omega) u4 ps.length (cellsP ps) rfl HP1.out.2.1 ⟨w1.heap.size, 0, none⟩ 1 1 (Pc.cells ⟨g, 0, []⟩) rfl rfl (news_two _ _ _ _) (one_two _) (by have := HPK.out; unfold maxLen; omega) (by have := HPK.out; omega) HBASE.out ?_; intro vp' w2 ho2 hg2 _ _; have HO2 := Lib.hid ho2; have HG2 := Lib.hid hg2; have HVA2 := Lib.hid (World.ownsRow.kept HP1.out.2.2.1 hg2 (row_ne HP1.out.2.2.1 HP1.out.2.1 (by decide))); clear ho2 hg2)
            | (at_builtin; refine wpList_append_own_none rfl (.tmp 32) (.tmp 33) 22 rfl w.heap.size 5 i1 1 Try.underlying22 hj0 u5 (flatP ps).length ((flatP ps).map byteV) rfl HVA2.out rfl ?_; have HM := Lib.hid (HP1.out.more (p := ⟨g, 0, []⟩) HB1.out HNE.out rfl (by omega) (by simp) HO2.out HG2.out (by simpa using HVA2.out) (World.grownBy.refl _ _) (.inl rfl))))
          go_roundw
          case rel => exact ⟨k + 1, ps ++ [⟨g, 0, []⟩], by omega, by go_num, by rw [List.length_append, HPK.out]; rfl, HM.out⟩
          case measure => simp [intOf]; omega
      · go_wp2
        go_ret
        exact ⟨rfl, HPS.out.1⟩
    · obtain rfl : k = n := by omega
      obtain ⟨A4, n4, c4, rfl⟩ : ∃ A n c, u4 = .slice A n c := by
        rcases hps.2.1.2 with ⟨rfl, _⟩ | ⟨g, cap, cur, rfl, _⟩ <;> exact ⟨_, _, _, rfl⟩
      obtain ⟨A5, n5, c5, rfl⟩ : ∃ A n c, u5 = .slice A n c := by
        rcases hps.2.2.1.2 with ⟨rfl, _⟩ | ⟨g, cap, cur, rfl, _⟩ <;> exact ⟨_, _, _, rfl⟩
      have hlen := HPS.out.len
      have h5 : n5 = (flatP ps).length := by
        rcases hps.2.2.1.2 with ⟨e, h⟩ | ⟨g, cap, cur, e, _⟩
        · injection e with _ e _; omega
        · injection e
      have h5l : n5 ≤ 15000 := by omega
      have H5 := Lib.hid h5
      clear hpk hps hlen h5
      by_cases h8 : n5 ≤ 8000
      · have hd8 : decide ((8000 : Int) < (n5 : Int)) = false := by simp; omega
        obtain ⟨hall, hpk, hbl⟩ := HPS.out.all
        have HALL := Lib.hid hall
        have HPKK := Lib.hid hpk
        have HBL := Lib.hid hbl
        have HRL := Lib.hid HPS.out.rdl
        have HOK := Lib.hid HPS.out.ok
        have H8 := Lib.hid h8
        have HNL := Lib.hid (show n4 ≤ 1000000 by have := HPS.out.rdl.2; have := HPK.out; omega)
        clear hall hpk hbl
        go_wp2_with fail
        refine ((join_out A4 n4 c4 (ps.map Pc.it) _ HNL.out HRL.out.1 HOK.out).mono fun _ _ h => h.good (n := n5) (N := 8 * n5) (by have := HBL.out; have := H5.out; have := H8.out; omega) (by rw [HPKK.out, H5.out]) (by rw [HBL.out, H5.out])).mono ?_
        rintro e w2 ⟨Ax, cx, rfl, hBx, hb2⟩
        have HB2 := Lib.hid (HPS.out.1.trans (hb2.mono HPS.out.1.size))
        have HX2 := Lib.hid (show Rd w2 Ax n5 (flatP ps) from by have := hBx.rd; rw [HPKK.out] at this; exact this)
        have HA2 := Lib.hid (HALL.out.below hb2)
        clear hb2 hBx
        have HX3 := Lib.hid (HX2.out.alloc (.cells #[.slice Ax n5 cx, .int .i64 (8 * (n5 : Int))] 24))
        have HA3 := Lib.hid (HA2.out.alloc (.cells #[.slice Ax n5 cx, .int .i64 (8 * (n5 : Int))] 24))
        have HBX3 := Lib.hid (Blk.new w2 24 #[.slice Ax n5 cx, .int .i64 (8 * (n5 : Int))])
        have HB3 := Lib.hid (HB2.out.alloc HB2.out.size (.cells #[.slice Ax n5 cx, .int .i64 (8 * (n5 : Int))] 24))
        have hw8 : IntKind.i64.wrap (8 * (n5 : Int)) = 8 * (n5 : Int) := by rw [IntKind.wrap_i64]; omega
        have H58 := Lib.hid (show n5 ≤ 8192 by omega)
        go_wp2
        generalize hw3 : w2.alloc (.cells #[.slice Ax n5 cx, .int .i64 (8 * (n5 : Int))] 24) = w3 at HX3 HA3 HBX3 HB3 ⊢
        generalize w2.heap.size = g8 at HBX3 ⊢
        have x0 : w3.cell? ⟨g8, 0, none⟩ = some (.slice Ax n5 cx) := HBX3.out.cell 0
        have x1 : w3.cell? ⟨g8, 1, none⟩ = some (.int .i64 (8 * (n5 : Int))) := HBX3.out.cell 1
        clear hw3 HRL HOK H8 HNL HB2 HX2 HA2 HALL HPKK HBL hi0 hz0 hz1 hz2 hj0 hy0 hy1 hy2 hd hd8 HPS H5 HPK hR hlt hk hn h5l h8 H0
        go_region_held3 (fun w' => w'.cell? ⟨g8, 0, none⟩ = some (.slice Ax n5 cx) ∧ w'.cell? ⟨g8, 1, none⟩ = some (.int .i64 (8 * (n5 : Int))) ∧ (convert 22 9 (.slice Ax n5 cx)).run Try.prog w' = .ok (.string (strOf (flatP ps))) w' ∧ (convert 22 9 (.slice A5 n5 c5)).run Try.prog w' = .ok (.string (strOf (flatP ps))) w') (first | exact ⟨x0, x1, run_str cx HX3.out, run_str c5 HA3.out⟩ | exact ⟨x40, x41, run_str cx HX4.out, run_str c5 HA4.out⟩ | exact ⟨x50, x51, run_str cx HX5.out, run_str c5 HA5.out⟩ | go_keep)
          (first
          | (go_at_call 27
             refine (of_any A5 n5 c5 (flatP ps) _ HA3.out.drew H58.out).mono ?_
             rintro e w4 ⟨g, rfl, hg, hblk, hb4⟩
             have HB4 := Lib.hid (HB3.out.trans ((undrew hb4).mono HB3.out.size))
             have HX4 := Lib.hid (HX3.out.below (undrew hb4))
             have HA4 := Lib.hid (HA3.out.below (undrew hb4))
             have HY4 := Lib.hid (show Rd w4 (some ⟨g, 0, none⟩) n5 (flatP ps) from by have := Rd.of_blk hblk HA3.out.2.1; rw [HA3.out.1] at this; exact this)
             have HBX4 := Lib.hid (HBX3.out.below (undrew hb4) HBX3.out.lt)
             have x40 : w4.cell? ⟨g8, 0, none⟩ = some (.slice Ax n5 cx) := HBX4.out.cell 0
             have x41 : w4.cell? ⟨g8, 1, none⟩ = some (.int .i64 (8 * (n5 : Int))) := HBX4.out.cell 1
             clear hg hblk hb4)
          | (go_at_call 14
             refine (same_yes Ax (some ⟨g, 0, none⟩) n5 n5 cx n5 _ (flatP ps) _ HX4 HY4).mono ?_
             rintro e w5 ⟨rfl, hb5⟩
             have HB5 := Lib.hid (HB4.out.trans (hb5.mono HB4.out.size))
             have HX5 := Lib.hid (HX4.out.below hb5)
             have HA5 := Lib.hid (HA4.out.below hb5)
             have HBX5 := (HBX4.out.below hb5 HBX4.out.lt)
             have x50 : w5.cell? ⟨g8, 0, none⟩ = some (.slice Ax n5 cx) := HBX5.cell 0
             have x51 : w5.cell? ⟨g8, 1, none⟩ = some (.int .i64 (8 * (n5 : Int))) := HBX5.cell 1
             clear hb5 HBX5))
        all_goals
          go_wp2
          go_ret
          exact ⟨rfl, HB5.out⟩
      · have hd8 : decide ((8000 : Int) < (n5 : Int)) = true := by simp; omega
        go_wp2
        go_ret
        exact ⟨rfl, HPS.out.1⟩

end Go.Proofs.Ythaannpkgljngaa
