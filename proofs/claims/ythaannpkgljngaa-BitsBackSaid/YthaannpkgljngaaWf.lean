/-
  What PutCode and PutSigned answer.
-/
import Derived.Test.YthaannpkgljngaaWe
namespace Go.Proofs.Ythaannpkgljngaa
open Go.RowKit

/-- a number's code -/
def codeOf (v : Nat) : List Bool := bitsOf (Lib.bitLen (v + 1) - 1) 0 ++ bitsOf (Lib.bitLen (v + 1)) (v + 1)

theorem number_at (x wd : Int) (v width : Nat) (w : World) (hx : x = (v : Int)) (hwd : wd = (width : Int)) (hw : width ≤ 64) (hv : v < 2 ^ width) :
    Calls Try.prog 30 #[.int .u64 x, .int .i64 wd] w fun e w' => ∃ x, e = .returned x ∧ IsB w' x (bitsOf width v) ∧ Below w.heap.size w w' := by
  subst hx hwd
  exact number_any v width w hw hv
theorem RdL.three {w : World} {g : Nat} {A1 A2 A3 : Option Addr} {c1 c2 c3 n1 n2 n3 : Nat} {l1 l2 l3 : List Bool} {t : TypeId} (e1 : n1 = (pack l1).length) (e2 : n2 = (pack l2).length) (e3 : n3 = (pack l3).length)
    (h1 : Rd w A1 n1 (pack l1)) (h2 : Rd w A2 n2 (pack l2)) (h3 : Rd w A3 n3 (pack l3))
    (hb : Blk w g t #[.slice A1 n1 c1, .int .i64 (l1.length : Int), .slice A2 n2 c2, .int .i64 (l2.length : Int), .slice A3 n3 c3, .int .i64 (l3.length : Int)]) :
    RdL w (some ⟨g, 0, none⟩) 3 [It.of A1 c1 l1, It.of A2 c2 l2, It.of A3 c3 l3] := by
  subst e1 e2 e3
  refine ⟨rfl, fun _ => ⟨_, rfl, fun j x hx => ?_⟩⟩
  match j, hx with
  | 0, hx =>
    simp only [List.getElem?_cons_zero, Option.some.injEq] at hx
    subst hx
    refine ⟨?_, ?_, h1⟩
    · rw [add_own, hb.cell]; rfl
    · rw [add_own]; exact (hb.cell 1).trans rfl
  | 1, hx =>
    simp only [List.getElem?_cons_succ, List.getElem?_cons_zero, Option.some.injEq] at hx
    subst hx
    refine ⟨?_, ?_, h2⟩
    · rw [add_own, hb.cell]; rfl
    · rw [add_own]; exact (hb.cell 3).trans rfl
  | 2, hx =>
    simp only [List.getElem?_cons_succ, List.getElem?_cons_zero, Option.some.injEq] at hx
    subst hx
    refine ⟨?_, ?_, h3⟩
    · rw [add_own, hb.cell]; rfl
    · rw [add_own]; exact (hb.cell 5).trans rfl
theorem join_three (A1 A2 A3 : Option Addr) (c1 c2 c3 n1 n2 n3 : Nat) (l1 l2 l3 : List Bool) (w : World) (e1 : n1 = (pack l1).length) (e2 : n2 = (pack l2).length) (e3 : n3 = (pack l3).length)
    (h1 : Rd w A1 n1 (pack l1)) (h2 : Rd w A2 n2 (pack l2)) (h3 : Rd w A3 n3 (pack l3)) (hl1 : l1.length ≤ 65536) (hl2 : l2.length ≤ 65536) (hl3 : l3.length ≤ 65536) :
    Calls Try.prog 21 #[.slice (some ⟨w.heap.size, 0, none⟩) 3 3] (w.alloc (.cells #[.slice A1 n1 c1, .int .i64 (l1.length : Int), .slice A2 n2 c2, .int .i64 (l2.length : Int), .slice A3 n3 c3, .int .i64 (l3.length : Int)] 24))
      (BOut (w.alloc (.cells #[.slice A1 n1 c1, .int .i64 (l1.length : Int), .slice A2 n2 c2, .int .i64 (l2.length : Int), .slice A3 n3 c3, .int .i64 (l3.length : Int)] 24)) (JQ (w.alloc (.cells #[.slice A1 n1 c1, .int .i64 (l1.length : Int), .slice A2 n2 c2, .int .i64 (l2.length : Int), .slice A3 n3 c3, .int .i64 (l3.length : Int)] 24)).heap.size (l1 ++ (l2 ++ l3)))) := by
  have h := join_out (some ⟨w.heap.size, 0, none⟩) 3 3 [It.of A1 c1 l1, It.of A2 c2 l2, It.of A3 c3 l3] _ (by omega) (RdL.three e1 e2 e3 (h1.alloc _) (h2.alloc _) (h3.alloc _) (Blk.new w 24 _)) (by
    intro x hx
    rcases List.mem_cons.1 hx with rfl | hx
    · exact It.of_ok _ _ _ hl1
    · rcases List.mem_cons.1 hx with rfl | hx
      · exact It.of_ok _ _ _ hl2
      · rcases List.mem_cons.1 hx with rfl | hx
        · exact It.of_ok _ _ _ hl3
        · cases hx)
  have e : allBits [It.of A1 c1 l1, It.of A2 c2 l2, It.of A3 c3 l3] = l1 ++ (l2 ++ l3) := by simp [allBits, It.of_bits]
  rw [e] at h
  exact h
theorem bitLen_pos (v : Nat) (h : 0 < v) : 1 ≤ Lib.bitLen v := by
  unfold Lib.bitLen
  rw [show (64 : Nat) = 63 + 1 from rfl]
  simp only [Lib.bitLenAux]
  rw [if_neg (by omega)]
  omega

theorem len64_at (x : Int) (v q : Nat) (w : World) (hx : x = (v : Int)) (hv : v < 2 ^ 64) (hk : q + 1 = Lib.bitLen v) :
    Calls Try.prog 29 #[.int .u64 x] w fun e w' => e = .returned (.int .i64 ((q : Int) + 1)) ∧ w = w' := by
  subst hx
  refine (len64_nat v (q + 1) w hv hk).mono ?_
  rintro e w' ⟨rfl, rfl⟩
  exact ⟨by simp, rfl⟩

set_option maxHeartbeats 1000000 in
theorem putCode_core (A : Option Addr) (n c : Nat) (l : List Bool) (v q : Nat) (w : World) (hr : Hid (Rd w A n (pack l))) (hn : Hid (n = (pack l).length)) (hl : l.length ≤ 65536)
    (hv : v ≤ 4294967295) (hq : Hid (q + 1 = Lib.bitLen (v + 1))) (hq32 : q ≤ 32) (hvq : Hid (v + 1 < 2 ^ (q + 1))) :
    Calls Try.prog 15 #[.agg #[.slice A n c, .int .i64 (l.length : Int)], .int .u64 (v : Int)] w (BOut w (JQ w.heap.size (l ++ (bitsOf q 0 ++ bitsOf (q + 1) (v + 1))))) := by
  have hv' : (v : Int) ≤ 4294967295 := by omega
  go_enter Try.func15, Try.ntmps15
  go_wp2_with fail
  refine (check_yes _ _ _ _ (pack l) _ ((hr.out.alloc _).alloc _) (okB_pack l hl)).mono ?_
  rintro e w1 ⟨rfl, hb1⟩
  have T1 := (Two.start w (.slice A n c) (.int .i64 (l.length : Int))).next hb1
  have hr1 := ((hr.out.alloc _).alloc _).below hb1
  have H1 := Lib.hid T1
  have HR1 := Lib.hid hr1
  clear T1 hr1 hb1
  go_wp2_with (go_at_call 29; refine (len64_at _ (v + 1) q _ (by simp) (by omega) hq.out).mono ?_; rintro e w' ⟨rfl, rfl⟩)
  obtain ⟨b0, b1⟩ := H1.out.cells
  have HL := Lib.hid hl
  have HV33 := Lib.hid (show q + 1 ≤ 64 by omega)
  have HV32 := Lib.hid (show q ≤ 64 by omega)
  have w1e : IntKind.i64.wrap (q : Int) = (q : Int) := by rw [IntKind.wrap_i64]; omega
  have w2e : IntKind.u64.wrap ((v : Int) + 1) = (v : Int) + 1 := by rw [IntKind.wrap_u64]; omega
  clear hl
  go_region_with (first
    | (go_at_call 30
       (with_reducible refine (number_at 0 (q : Int) 0 q _ rfl rfl HV32.out (Nat.pow_pos (Nat.zero_lt_succ 1))).mono ?_)
       rintro e w2 ⟨x, rfl, ⟨A2, c2, rfl, hr2, hl2⟩, hb2⟩
       obtain ⟨b20, b21⟩ := (H1.out.next (undrew hb2)).cells
       have H2 := Lib.hid (H1.out.next (undrew hb2))
       have HR12 := Lib.hid (HR1.out.below (undrew hb2))
       have HR2 := Lib.hid hr2
       have HL2 := Lib.hid hl2
       clear hr2 hl2 hb2)
    | (go_at_call 30
       (with_reducible refine (number_at ((v : Int) + 1) ((q : Int) + 1) (v + 1) (q + 1) _ rfl rfl HV33.out hvq.out).mono ?_)
       rintro e w3 ⟨x, rfl, ⟨A3, c3, rfl, hr3, hl3⟩, hb3⟩
       obtain ⟨b30, b31⟩ := (H2.out.next hb3).cells
       have H3 := Lib.hid (H2.out.next hb3)
       have HR13 := Lib.hid (HR12.out.below hb3)
       have HR23 := Lib.hid (HR2.out.below hb3)
       have HR3 := Lib.hid hr3
       have HL3 := Lib.hid hl3
       clear hr3 hl3 hb3)
    | (go_at_call 21
       refine (join_three A A2 A3 c c2 c3 n _ _ l _ _ _ hn.out rfl rfl HR13.out HR23.out HR3.out HL.out HL2.out HL3.out).mono ?_
       rintro e w4 ⟨A4, n4, c4, N4, er, rfl, hb4, hq⟩
       obtain ⟨y0, y1, y2, y3⟩ := ((H3.out.alloc _).next hb4).res
       have H4 := Lib.hid ((H3.out.alloc _).next hb4)
       have HQ := Lib.hid hq
       clear hb4 hq))
  all_goals
    go_wp2
    refine bodyPost_ret (v := .tuple #[.agg #[.slice A4 n4 c4, .int .i64 N4], .int .i64 er]) (by simp [results, Try.results15, go_sem, y0, y1]) rfl ⟨_, _, _, _, _, rfl, ?_, ?_⟩
    · exact (H4.out.2.2.setCell (by simp) _).setCell (by simp) _
    · exact (HQ.out.res (by have := H3.out.2.1.lt; simp; omega) _ _).mono (by have := H3.out.2.1.lt; simp; omega)
theorem putCode_any (v : Value) (l : List Bool) (x : Nat) (w : World) (h : IsB w v l) (hx : x < 2 ^ 32) :
    Calls Try.prog 15 #[v, .int .u64 (x : Int)] w (BOut w (JQ w.heap.size (l ++ codeOf x))) := by
  obtain ⟨A, c, rfl, hr, hl⟩ := h
  have h1 := bitLen_pos (x + 1) (by omega)
  have h2 := Lib.bitLen_le (x + 1) 33 (by omega) (by omega)
  have e : Lib.bitLen (x + 1) - 1 + 1 = Lib.bitLen (x + 1) := by omega
  have := putCode_core A _ c l x (Lib.bitLen (x + 1) - 1) w (Lib.hid hr) (Lib.hid rfl) hl (by omega) (Lib.hid e) (by omega) (Lib.hid (by rw [e]; exact (bitLen_le_iff (x + 1) _ (by omega) (by omega)).1 (Nat.le_refl _)))
  unfold codeOf
  rw [e] at this
  exact this
theorem put_any (v : Value) (l : List Bool) (x width : Nat) (w : World) (h : IsB w v l) (hw : width ≤ 64) (hx : x < 2 ^ width) :
    Calls Try.prog 12 #[v, .int .u64 (x : Int), .int .i64 (width : Int)] w (BOut w (JQ w.heap.size (l ++ bitsOf width x))) := by
  obtain ⟨A, c, rfl, hr, hl⟩ := h
  have h64 : x < 2 ^ 64 := Nat.lt_of_lt_of_le hx (Nat.pow_le_pow_right (by omega) hw)
  exact put_core A _ c l x width (Lib.bitLen x) w (Lib.hid hr) (Lib.hid rfl) hl hw (Lib.hid hx) (Lib.hid h64) (Lib.hid rfl) ((bitLen_le_iff x width h64 hw).2 hx)

end Go.Proofs.Ythaannpkgljngaa
