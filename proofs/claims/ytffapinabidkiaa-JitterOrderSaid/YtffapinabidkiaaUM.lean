/-
  Whether the program is there.
-/
import Derived.Test.YtffapinabidkiaaUL
set_option linter.unusedSimpArgs false
set_option linter.unusedVariables false
/- UM -/
namespace Go.Proofs.Ytffapinabidkiaa.Lp
open Go.RowKit Go.Proofs.Ytffapinabidkiaa.Fq
set_option maxRecDepth 100000 in
set_option maxHeartbeats 8000000 in
theorem live_any (w : World) : Calls Try.prog 8 #[] w (ValQ w (.bool true)) := by
  have HM := Lib.hid (MV.start w)
  have HNV := Lib.hid (show newV 2 = .tuple #[jtV false 0 2 0 none 0 0, .int .i64 0] from if_pos (by decide))
  have HP0 := Lib.hid (show (putsJ ⟨false, 0, 2, 0, []⟩ [(5, [5])]).q = [(5, [5])] ∧ outsJ ⟨false, 0, 2, 0, []⟩ [(5, [5])] = [0] ∧ [((5 : Int), [5])].length = 1 by decide)
  have HO0 := Lib.hid (show OkJ ⟨false, 0, 2, 0, []⟩ ∧ goodL [(5, [5])] = true by decide)
  have HP1 := Lib.hid (show pullR ⟨false, 0, 2, 0, [(5, [5])]⟩ = (0, [], ⟨false, 0, 2, 0, [(5, [5])]⟩) ∧ [((5 : Int), [5])].length = 1 ∧ ([] : List Nat).length = 0 from ⟨rfl, rfl, rfl⟩)
  have HO1 := Lib.hid (show OkJ ⟨false, 0, 2, 0, [(5, [5])]⟩ by decide)
  have HP2 := Lib.hid (show (putsJ ⟨false, 0, 2, 0, [(5, [5])]⟩ [(4, [4])]).q = [(4, [4]), (5, [5])] ∧ outsJ ⟨false, 0, 2, 0, [(5, [5])]⟩ [(4, [4])] = [0] ∧ [((4 : Int), [4]), ((5 : Int), [5])].length = 2 by decide)
  have HO2 := Lib.hid (show OkJ ⟨false, 0, 2, 0, [(5, [5])]⟩ ∧ goodL [(4, [4])] = true by decide)
  have HP3 := Lib.hid (show pullR ⟨false, 0, 2, 0, [(4, [4]), (5, [5])]⟩ = (1, [4], ⟨true, 5, 2, 0, [(5, [5])]⟩) ∧ [((5 : Int), [5])].length = 1 ∧ [4].length = 1 from ⟨rfl, rfl, rfl⟩)
  have HO3 := Lib.hid (show OkJ ⟨false, 0, 2, 0, [(4, [4]), (5, [5])]⟩ by decide)
  have HP4 := Lib.hid (show pullR ⟨true, 5, 2, 0, [(5, [5])]⟩ = (1, [5], ⟨true, 6, 2, 0, []⟩) ∧ ([] : List Pq).length = 0 ∧ [5].length = 1 from ⟨rfl, rfl, rfl⟩)
  have HO4 := Lib.hid (show OkJ ⟨true, 5, 2, 0, [(5, [5])]⟩ by decide)
  have HP5 := Lib.hid (show pullR ⟨true, 6, 2, 0, []⟩ = (2, [], ⟨true, 7, 2, 1, []⟩) ∧ ([] : List Pq).length = 0 ∧ ([] : List Nat).length = 0 from ⟨rfl, rfl, rfl⟩)
  have HO5 := Lib.hid (show OkJ ⟨true, 6, 2, 0, []⟩ by decide)
  have HS4 := Lib.hid (show strOf [4] = { data := #[4] } from rfl)
  have HS5 := Lib.hid (show strOf [5] = { data := #[5] } from rfl)
  go_enter Try.func8, Try.ntmps8
  go_wp2_with (first | (refine jL ?_) | (refine jS ?_; clear HM; intro us HM; simp only [List.set, List.setIfInBounds_toArray, List.set_cons_zero, List.set_cons_succ] at HM) | (refine jN ?_; first | (have q : dV HM = 0 := rfl; clear q HM; intro g1 u1 HG1 HM) | (have q : dV HM = 1 := rfl; clear q HM; intro g2 u2 HG2 HM) | (have q : dV HM = 2 := rfl; clear q HM; intro g3 u3 HG3 HM) | (have q : dV HM = 3 := rfl; clear q HM; intro g4 u4 HG4 HM) | (have q : dV HM = 4 := rfl; clear q HM; intro g5 u5 HG5 HM) | (have q : dV HM = 5 := rfl; clear q HM; intro g6 u6 HG6 HM) | (have q : dV HM = 6 := rfl; clear q HM; intro g7 u7 HG7 HM) | (have q : dV HM = 7 := rfl; clear q HM; intro g8 u8 HG8 HM) | (have q : dV HM = 8 := rfl; clear q HM; intro g9 u9 HG9 HM) | (have q : dV HM = 9 := rfl; clear q HM; intro g10 u10 HG10 HM) | (have q : dV HM = 10 := rfl; clear q HM; intro g11 u11 HG11 HM) | (have q : dV HM = 11 := rfl; clear q HM; intro g12 u12 HG12 HM) | (have q : dV HM = 12 := rfl; clear q HM; intro g13 u13 HG13 HM) | (have q : dV HM = 13 := rfl; clear q HM; intro g14 u14 HG14 HM)))
  refine (New_any 2 _).mono ?_
  rw [HNV.out]
  rintro e u0 ⟨rfl, hb⟩
  have HM2 := Lib.hid (HM.out.below hb).base
  have HBU := Lib.hid HM2.out.1
  clear hb HM HNV
  have HM := HM2
  clear HM2
  go_wp2_with (first | (refine wv_b1 (by rfl) _ rfl rfl HM ?_; clear HM; intro gb0 ub HGB HM) | (refine wv_k1 (by rfl) _ rfl rfl HM ?_; clear HM; intro gp0 ub HGP HM) | (first | (refine jL ?_) | (refine jS ?_; clear HM; intro us HM; simp only [List.set, List.setIfInBounds_toArray, List.set_cons_zero, List.set_cons_succ] at HM) | (refine jN ?_; first | (have q : dV HM = 0 := rfl; clear q HM; intro g1 u1 HG1 HM) | (have q : dV HM = 1 := rfl; clear q HM; intro g2 u2 HG2 HM) | (have q : dV HM = 2 := rfl; clear q HM; intro g3 u3 HG3 HM) | (have q : dV HM = 3 := rfl; clear q HM; intro g4 u4 HG4 HM) | (have q : dV HM = 4 := rfl; clear q HM; intro g5 u5 HG5 HM) | (have q : dV HM = 5 := rfl; clear q HM; intro g6 u6 HG6 HM) | (have q : dV HM = 6 := rfl; clear q HM; intro g7 u7 HG7 HM) | (have q : dV HM = 7 := rfl; clear q HM; intro g8 u8 HG8 HM) | (have q : dV HM = 8 := rfl; clear q HM; intro g9 u9 HG9 HM) | (have q : dV HM = 9 := rfl; clear q HM; intro g10 u10 HG10 HM) | (have q : dV HM = 10 := rfl; clear q HM; intro g11 u11 HG11 HM) | (have q : dV HM = 11 := rfl; clear q HM; intro g12 u12 HG12 HM) | (have q : dV HM = 12 := rfl; clear q HM; intro g13 u13 HG13 HM) | (have q : dV HM = 13 := rfl; clear q HM; intro g14 u14 HG14 HM))))
  have hl1 := (HM.out.get (g := g1) (by exact vmemOf)).lt
  refine (Put_to false 0 2 0 none 0 0 [] (some ⟨gp0, 0, none⟩) 1 1 [⟨5, some ⟨gb0, 0, none⟩, 1, 1, [(5 : Int).toNat]⟩] _ [] [(5, [5])] [(5, [5])] [0] 1 (Lib.hid RdP.none_) (Lib.hid rfl) (Lib.hid (rdP_one HM.out (by exact vmemOf) (by exact vmemOf) (by decide) (by decide))) (Lib.hid rfl) (by decide) HO0 (by decide) HP0).mono ?_
  rintro e u1 ⟨A0, c0, l0, B0, rfl, hq, hk, hb⟩
  have hk2 := hk [g1] (fun x hx => by rw [List.mem_singleton.1 hx]; exact hl1)
  have KR0 := Lib.hid hk2.1
  have KX0 := Lib.hid hk2.2
  have HQ0 := Lib.hid hq
  have HM2 := Lib.hid ((HM.out.below hb).sub ((List.sublist_cons_self _ _).trans (List.sublist_cons_self _ _))).base
  have HBU2 := Lib.hid HM2.out.1
  clear hb hk hk2 hq hl1 HM HBU HGP HGB HO0 HP0
  have HM := HM2
  have HBU := HBU2
  clear HM2 HBU2
  go_wp2_with (first | (refine jL ?_) | (refine jS ?_; clear HM; intro us HM; simp only [List.set, List.setIfInBounds_toArray, List.set_cons_zero, List.set_cons_succ] at HM) | (refine jN ?_; first | (have q : dV HM = 0 := rfl; clear q HM; intro g1 u1 HG1 HM) | (have q : dV HM = 1 := rfl; clear q HM; intro g2 u2 HG2 HM) | (have q : dV HM = 2 := rfl; clear q HM; intro g3 u3 HG3 HM) | (have q : dV HM = 3 := rfl; clear q HM; intro g4 u4 HG4 HM) | (have q : dV HM = 4 := rfl; clear q HM; intro g5 u5 HG5 HM) | (have q : dV HM = 5 := rfl; clear q HM; intro g6 u6 HG6 HM) | (have q : dV HM = 6 := rfl; clear q HM; intro g7 u7 HG7 HM) | (have q : dV HM = 7 := rfl; clear q HM; intro g8 u8 HG8 HM) | (have q : dV HM = 8 := rfl; clear q HM; intro g9 u9 HG9 HM) | (have q : dV HM = 9 := rfl; clear q HM; intro g10 u10 HG10 HM) | (have q : dV HM = 10 := rfl; clear q HM; intro g11 u11 HG11 HM) | (have q : dV HM = 11 := rfl; clear q HM; intro g12 u12 HG12 HM) | (have q : dV HM = 12 := rfl; clear q HM; intro g13 u13 HG13 HM) | (have q : dV HM = 13 := rfl; clear q HM; intro g14 u14 HG14 HM)))
  have H9 := Lib.hid (KR0.out.walk HBU.out HM.out (fun e he => by
    simp only [List.mem_cons, List.not_mem_nil, or_false] at he
    rcases he with rfl
    exact .inl (by simp)))
  clear KR0
  have KR0 := H9
  clear H9
  have H9 := Lib.hid (KX0.out.walk HBU.out HM.out (fun e he => by
    simp only [List.mem_cons, List.not_mem_nil, or_false] at he
    rcases he with rfl
    exact .inl (by simp)))
  clear KX0
  have KX0 := H9
  clear H9
  have hl1 := (HM.out.get (g := g1) (by exact vmemOf)).lt
  refine (Pull_to false 0 2 0 A0 1 c0 l0 _ [(5, [5])] [(5, [5])] false 0 2 0 0 [] 1 0 (Lib.hid KR0.out.now) (HQ0) HO1 (by decide) HP1).mono ?_
  rintro e u2 ⟨A1, c1, l1, B1, cb1, rfl, hq, hk, hb⟩
  clear KR0
  have H9 := Lib.hid (KX0.out.call hb)
  clear KX0
  have KX0 := H9
  clear H9
  have hk2 := hk [g1] (fun x hx => by rw [List.mem_singleton.1 hx]; exact hl1)
  have KR1 := Lib.hid hk2.1
  have KX1 := Lib.hid hk2.2
  have HQ1 := Lib.hid hq
  have HM2 := Lib.hid ((HM.out.below hb).sub (List.Sublist.refl _)).base
  have HBU2 := Lib.hid HM2.out.1
  clear hb hk hk2 hq hl1 HM HBU HO1 HP1
  have HM := HM2
  have HBU := HBU2
  clear HM2 HBU2
  go_wp2_with (first | (refine wv_b1 (by rfl) _ rfl rfl HM ?_; clear HM; intro gb2 ub HGB HM) | (refine wv_k1 (by rfl) _ rfl rfl HM ?_; clear HM; intro gp2 ub HGP HM) | (first | (refine jL ?_) | (refine jS ?_; clear HM; intro us HM; simp only [List.set, List.setIfInBounds_toArray, List.set_cons_zero, List.set_cons_succ] at HM) | (refine jN ?_; first | (have q : dV HM = 0 := rfl; clear q HM; intro g1 u1 HG1 HM) | (have q : dV HM = 1 := rfl; clear q HM; intro g2 u2 HG2 HM) | (have q : dV HM = 2 := rfl; clear q HM; intro g3 u3 HG3 HM) | (have q : dV HM = 3 := rfl; clear q HM; intro g4 u4 HG4 HM) | (have q : dV HM = 4 := rfl; clear q HM; intro g5 u5 HG5 HM) | (have q : dV HM = 5 := rfl; clear q HM; intro g6 u6 HG6 HM) | (have q : dV HM = 6 := rfl; clear q HM; intro g7 u7 HG7 HM) | (have q : dV HM = 7 := rfl; clear q HM; intro g8 u8 HG8 HM) | (have q : dV HM = 8 := rfl; clear q HM; intro g9 u9 HG9 HM) | (have q : dV HM = 9 := rfl; clear q HM; intro g10 u10 HG10 HM) | (have q : dV HM = 10 := rfl; clear q HM; intro g11 u11 HG11 HM) | (have q : dV HM = 11 := rfl; clear q HM; intro g12 u12 HG12 HM) | (have q : dV HM = 12 := rfl; clear q HM; intro g13 u13 HG13 HM) | (have q : dV HM = 13 := rfl; clear q HM; intro g14 u14 HG14 HM))))
  have H9 := Lib.hid (KX0.out.walk HBU.out HM.out (fun e he => by
    simp only [List.mem_cons, List.not_mem_nil, or_false] at he
    rcases he with rfl | rfl | rfl
    · exact .inr HGP.out
    · exact .inr HGB.out
    · exact .inl (by simp)))
  clear KX0
  have KX0 := H9
  clear H9
  have H9 := Lib.hid (KR1.out.walk HBU.out HM.out (fun e he => by
    simp only [List.mem_cons, List.not_mem_nil, or_false] at he
    rcases he with rfl | rfl | rfl
    · exact .inr HGP.out
    · exact .inr HGB.out
    · exact .inl (by simp)))
  clear KR1
  have KR1 := H9
  clear H9
  have H9 := Lib.hid (KX1.out.walk HBU.out HM.out (fun e he => by
    simp only [List.mem_cons, List.not_mem_nil, or_false] at he
    rcases he with rfl | rfl | rfl
    · exact .inr HGP.out
    · exact .inr HGB.out
    · exact .inl (by simp)))
  clear KX1
  have KX1 := H9
  clear H9
  have hl1 := (HM.out.get (g := g1) (by exact vmemOf)).lt
  refine (Put_to false 0 2 0 A1 1 c1 l1 (some ⟨gp2, 0, none⟩) 1 1 [⟨4, some ⟨gb2, 0, none⟩, 1, 1, [(4 : Int).toNat]⟩] _ [(5, [5])] [(4, [4]), (5, [5])] [(4, [4])] [0] 2 (Lib.hid KR1.out.now) (HQ1) (Lib.hid (rdP_one HM.out (by exact vmemOf) (by exact vmemOf) (by decide) (by decide))) (Lib.hid rfl) (by decide) HO2 (by decide) HP2).mono ?_
  rintro e u3 ⟨A2, c2, l2, B2, rfl, hq, hk, hb⟩
  have H9 := Lib.hid (KX0.out.call hb)
  clear KX0
  have KX0 := H9
  clear H9
  clear KR1
  have H9 := Lib.hid (KX1.out.call hb)
  clear KX1
  have KX1 := H9
  clear H9
  have hk2 := hk [g1] (fun x hx => by rw [List.mem_singleton.1 hx]; exact hl1)
  have KR2 := Lib.hid hk2.1
  have KX2 := Lib.hid hk2.2
  have HQ2 := Lib.hid hq
  have HM2 := Lib.hid ((HM.out.below hb).sub ((List.sublist_cons_self _ _).trans (List.sublist_cons_self _ _))).base
  have HBU2 := Lib.hid HM2.out.1
  clear hb hk hk2 hq hl1 HM HBU HGP HGB HO2 HP2
  have HM := HM2
  have HBU := HBU2
  clear HM2 HBU2
  go_wp2_with (first | (refine jL ?_) | (refine jS ?_; clear HM; intro us HM; simp only [List.set, List.setIfInBounds_toArray, List.set_cons_zero, List.set_cons_succ] at HM) | (refine jN ?_; first | (have q : dV HM = 0 := rfl; clear q HM; intro g1 u1 HG1 HM) | (have q : dV HM = 1 := rfl; clear q HM; intro g2 u2 HG2 HM) | (have q : dV HM = 2 := rfl; clear q HM; intro g3 u3 HG3 HM) | (have q : dV HM = 3 := rfl; clear q HM; intro g4 u4 HG4 HM) | (have q : dV HM = 4 := rfl; clear q HM; intro g5 u5 HG5 HM) | (have q : dV HM = 5 := rfl; clear q HM; intro g6 u6 HG6 HM) | (have q : dV HM = 6 := rfl; clear q HM; intro g7 u7 HG7 HM) | (have q : dV HM = 7 := rfl; clear q HM; intro g8 u8 HG8 HM) | (have q : dV HM = 8 := rfl; clear q HM; intro g9 u9 HG9 HM) | (have q : dV HM = 9 := rfl; clear q HM; intro g10 u10 HG10 HM) | (have q : dV HM = 10 := rfl; clear q HM; intro g11 u11 HG11 HM) | (have q : dV HM = 11 := rfl; clear q HM; intro g12 u12 HG12 HM) | (have q : dV HM = 12 := rfl; clear q HM; intro g13 u13 HG13 HM) | (have q : dV HM = 13 := rfl; clear q HM; intro g14 u14 HG14 HM)))
  have H9 := Lib.hid (KX0.out.walk HBU.out HM.out (fun e he => by
    simp only [List.mem_cons, List.not_mem_nil, or_false] at he
    rcases he with rfl
    exact .inl (by simp)))
  clear KX0
  have KX0 := H9
  clear H9
  have H9 := Lib.hid (KX1.out.walk HBU.out HM.out (fun e he => by
    simp only [List.mem_cons, List.not_mem_nil, or_false] at he
    rcases he with rfl
    exact .inl (by simp)))
  clear KX1
  have KX1 := H9
  clear H9
  have H9 := Lib.hid (KR2.out.walk HBU.out HM.out (fun e he => by
    simp only [List.mem_cons, List.not_mem_nil, or_false] at he
    rcases he with rfl
    exact .inl (by simp)))
  clear KR2
  have KR2 := H9
  clear H9
  have H9 := Lib.hid (KX2.out.walk HBU.out HM.out (fun e he => by
    simp only [List.mem_cons, List.not_mem_nil, or_false] at he
    rcases he with rfl
    exact .inl (by simp)))
  clear KX2
  have KX2 := H9
  clear H9
  have hl1 := (HM.out.get (g := g1) (by exact vmemOf)).lt
  refine (Pull_to false 0 2 0 A2 2 c2 l2 _ [(4, [4]), (5, [5])] [(5, [5])] true 5 2 0 1 [4] 1 1 (Lib.hid KR2.out.now) (HQ2) HO3 (by decide) HP3).mono ?_
  rintro e u4 ⟨A3, c3, l3, B3, cb3, rfl, hq, hk, hb⟩
  have H9 := Lib.hid (KX0.out.call hb)
  clear KX0
  have KX0 := H9
  clear H9
  have H9 := Lib.hid (KX1.out.call hb)
  clear KX1
  have KX1 := H9
  clear H9
  clear KR2
  have H9 := Lib.hid (KX2.out.call hb)
  clear KX2
  have KX2 := H9
  clear H9
  have hk2 := hk [g1] (fun x hx => by rw [List.mem_singleton.1 hx]; exact hl1)
  have KR3 := Lib.hid hk2.1
  have KX3 := Lib.hid hk2.2
  have HQ3 := Lib.hid hq
  have HM2 := Lib.hid ((HM.out.below hb).sub (List.Sublist.refl _)).base
  have HBU2 := Lib.hid HM2.out.1
  clear hb hk hk2 hq hl1 HM HBU HO3 HP3
  have HM := HM2
  have HBU := HBU2
  clear HM2 HBU2
  go_wp2_with (first | (refine jL ?_) | (refine jS ?_; clear HM; intro us HM; simp only [List.set, List.setIfInBounds_toArray, List.set_cons_zero, List.set_cons_succ] at HM) | (refine jN ?_; first | (have q : dV HM = 0 := rfl; clear q HM; intro g1 u1 HG1 HM) | (have q : dV HM = 1 := rfl; clear q HM; intro g2 u2 HG2 HM) | (have q : dV HM = 2 := rfl; clear q HM; intro g3 u3 HG3 HM) | (have q : dV HM = 3 := rfl; clear q HM; intro g4 u4 HG4 HM) | (have q : dV HM = 4 := rfl; clear q HM; intro g5 u5 HG5 HM) | (have q : dV HM = 5 := rfl; clear q HM; intro g6 u6 HG6 HM) | (have q : dV HM = 6 := rfl; clear q HM; intro g7 u7 HG7 HM) | (have q : dV HM = 7 := rfl; clear q HM; intro g8 u8 HG8 HM) | (have q : dV HM = 8 := rfl; clear q HM; intro g9 u9 HG9 HM) | (have q : dV HM = 9 := rfl; clear q HM; intro g10 u10 HG10 HM) | (have q : dV HM = 10 := rfl; clear q HM; intro g11 u11 HG11 HM) | (have q : dV HM = 11 := rfl; clear q HM; intro g12 u12 HG12 HM) | (have q : dV HM = 12 := rfl; clear q HM; intro g13 u13 HG13 HM) | (have q : dV HM = 13 := rfl; clear q HM; intro g14 u14 HG14 HM)))
  have H9 := Lib.hid (KX0.out.walk HBU.out HM.out (fun e he => by
    simp only [List.mem_cons, List.not_mem_nil, or_false] at he
    rcases he with rfl
    exact .inl (by simp)))
  clear KX0
  have KX0 := H9
  clear H9
  have H9 := Lib.hid (KX1.out.walk HBU.out HM.out (fun e he => by
    simp only [List.mem_cons, List.not_mem_nil, or_false] at he
    rcases he with rfl
    exact .inl (by simp)))
  clear KX1
  have KX1 := H9
  clear H9
  have H9 := Lib.hid (KX2.out.walk HBU.out HM.out (fun e he => by
    simp only [List.mem_cons, List.not_mem_nil, or_false] at he
    rcases he with rfl
    exact .inl (by simp)))
  clear KX2
  have KX2 := H9
  clear H9
  have H9 := Lib.hid (KR3.out.walk HBU.out HM.out (fun e he => by
    simp only [List.mem_cons, List.not_mem_nil, or_false] at he
    rcases he with rfl
    exact .inl (by simp)))
  clear KR3
  have KR3 := H9
  clear H9
  have H9 := Lib.hid (KX3.out.walk HBU.out HM.out (fun e he => by
    simp only [List.mem_cons, List.not_mem_nil, or_false] at he
    rcases he with rfl
    exact .inl (by simp)))
  clear KX3
  have KX3 := H9
  clear H9
  have hl1 := (HM.out.get (g := g1) (by exact vmemOf)).lt
  refine (Pull_to true 5 2 0 A3 1 c3 l3 _ [(5, [5])] [] true 6 2 0 1 [5] 0 1 (Lib.hid KR3.out.now) (HQ3) HO4 (by decide) HP4).mono ?_
  rintro e u5 ⟨A4, c4, l4, B4, cb4, rfl, hq, hk, hb⟩
  have H9 := Lib.hid (KX0.out.call hb)
  clear KX0
  have KX0 := H9
  clear H9
  have H9 := Lib.hid (KX1.out.call hb)
  clear KX1
  have KX1 := H9
  clear H9
  have H9 := Lib.hid (KX2.out.call hb)
  clear KX2
  have KX2 := H9
  clear H9
  clear KR3
  have H9 := Lib.hid (KX3.out.call hb)
  clear KX3
  have KX3 := H9
  clear H9
  have hk2 := hk [g1] (fun x hx => by rw [List.mem_singleton.1 hx]; exact hl1)
  have KR4 := Lib.hid hk2.1
  have KX4 := Lib.hid hk2.2
  have HQ4 := Lib.hid hq
  have HM2 := Lib.hid ((HM.out.below hb).sub (List.Sublist.refl _)).base
  have HBU2 := Lib.hid HM2.out.1
  clear hb hk hk2 hq hl1 HM HBU HO4 HP4
  have HM := HM2
  have HBU := HBU2
  clear HM2 HBU2
  go_wp2_with (first | (refine jL ?_) | (refine jS ?_; clear HM; intro us HM; simp only [List.set, List.setIfInBounds_toArray, List.set_cons_zero, List.set_cons_succ] at HM) | (refine jN ?_; first | (have q : dV HM = 0 := rfl; clear q HM; intro g1 u1 HG1 HM) | (have q : dV HM = 1 := rfl; clear q HM; intro g2 u2 HG2 HM) | (have q : dV HM = 2 := rfl; clear q HM; intro g3 u3 HG3 HM) | (have q : dV HM = 3 := rfl; clear q HM; intro g4 u4 HG4 HM) | (have q : dV HM = 4 := rfl; clear q HM; intro g5 u5 HG5 HM) | (have q : dV HM = 5 := rfl; clear q HM; intro g6 u6 HG6 HM) | (have q : dV HM = 6 := rfl; clear q HM; intro g7 u7 HG7 HM) | (have q : dV HM = 7 := rfl; clear q HM; intro g8 u8 HG8 HM) | (have q : dV HM = 8 := rfl; clear q HM; intro g9 u9 HG9 HM) | (have q : dV HM = 9 := rfl; clear q HM; intro g10 u10 HG10 HM) | (have q : dV HM = 10 := rfl; clear q HM; intro g11 u11 HG11 HM) | (have q : dV HM = 11 := rfl; clear q HM; intro g12 u12 HG12 HM) | (have q : dV HM = 12 := rfl; clear q HM; intro g13 u13 HG13 HM) | (have q : dV HM = 13 := rfl; clear q HM; intro g14 u14 HG14 HM)))
  have H9 := Lib.hid (KX0.out.walk HBU.out HM.out (fun e he => by
    simp only [List.mem_cons, List.not_mem_nil, or_false] at he
    rcases he with rfl
    exact .inl (by simp)))
  clear KX0
  have KX0 := H9
  clear H9
  have H9 := Lib.hid (KX1.out.walk HBU.out HM.out (fun e he => by
    simp only [List.mem_cons, List.not_mem_nil, or_false] at he
    rcases he with rfl
    exact .inl (by simp)))
  clear KX1
  have KX1 := H9
  clear H9
  have H9 := Lib.hid (KX2.out.walk HBU.out HM.out (fun e he => by
    simp only [List.mem_cons, List.not_mem_nil, or_false] at he
    rcases he with rfl
    exact .inl (by simp)))
  clear KX2
  have KX2 := H9
  clear H9
  have H9 := Lib.hid (KX3.out.walk HBU.out HM.out (fun e he => by
    simp only [List.mem_cons, List.not_mem_nil, or_false] at he
    rcases he with rfl
    exact .inl (by simp)))
  clear KX3
  have KX3 := H9
  clear H9
  have H9 := Lib.hid (KR4.out.walk HBU.out HM.out (fun e he => by
    simp only [List.mem_cons, List.not_mem_nil, or_false] at he
    rcases he with rfl
    exact .inl (by simp)))
  clear KR4
  have KR4 := H9
  clear H9
  have H9 := Lib.hid (KX4.out.walk HBU.out HM.out (fun e he => by
    simp only [List.mem_cons, List.not_mem_nil, or_false] at he
    rcases he with rfl
    exact .inl (by simp)))
  clear KX4
  have KX4 := H9
  clear H9
  have hl1 := (HM.out.get (g := g1) (by exact vmemOf)).lt
  refine (Pull_to true 6 2 0 A4 0 c4 l4 _ [] [] true 7 2 1 2 [] 0 0 (Lib.hid KR4.out.now) (HQ4) HO5 (by decide) HP5).mono ?_
  rintro e u6 ⟨A5, c5, l5, B5, cb5, rfl, hq, hk, hb⟩
  have H9 := Lib.hid (KX0.out.call hb)
  clear KX0
  have KX0 := H9
  clear H9
  have H9 := Lib.hid (KX1.out.call hb)
  clear KX1
  have KX1 := H9
  clear H9
  have H9 := Lib.hid (KX2.out.call hb)
  clear KX2
  have KX2 := H9
  clear H9
  have H9 := Lib.hid (KX3.out.call hb)
  clear KX3
  have KX3 := H9
  clear H9
  clear KR4
  have H9 := Lib.hid (KX4.out.call hb)
  clear KX4
  have KX4 := H9
  clear H9
  have hk2 := hk [g1] (fun x hx => by rw [List.mem_singleton.1 hx]; exact hl1)
  have KR5 := Lib.hid hk2.1
  have KX5 := Lib.hid hk2.2
  have HQ5 := Lib.hid hq
  have HM2 := Lib.hid ((HM.out.below hb).sub (List.Sublist.refl _)).base
  have HBU2 := Lib.hid HM2.out.1
  clear hb hk hk2 hq hl1 HM HBU HO5 HP5
  have HM := HM2
  have HBU := HBU2
  clear HM2 HBU2
  go_wp2_with (first | (refine wv_i1 (by rfl) _ rfl rfl HM ?_; have HZ1 := Lib.hid HM.out.2.2.2.2.1; clear HM; intro gi1 ub HE1 HBB HM; clear HBB) | (refine wv_str (by rfl) _ rfl rfl HR4 HS4 ?_) | (refine wv_str (by rfl) _ rfl rfl HR5 HS5 ?_) | (first | (refine jL ?_) | (refine jS ?_; clear HM; intro us HM; simp only [List.set, List.setIfInBounds_toArray, List.set_cons_zero, List.set_cons_succ] at HM) | (refine jN ?_; first | (have q : dV HM = 0 := rfl; clear q HM; intro g1 u1 HG1 HM) | (have q : dV HM = 1 := rfl; clear q HM; intro g2 u2 HG2 HM) | (have q : dV HM = 2 := rfl; clear q HM; intro g3 u3 HG3 HM) | (have q : dV HM = 3 := rfl; clear q HM; intro g4 u4 HG4 HM) | (have q : dV HM = 4 := rfl; clear q HM; intro g5 u5 HG5 HM) | (have q : dV HM = 5 := rfl; clear q HM; intro g6 u6 HG6 HM) | (have q : dV HM = 6 := rfl; clear q HM; intro g7 u7 HG7 HM) | (have q : dV HM = 7 := rfl; clear q HM; intro g8 u8 HG8 HM) | (have q : dV HM = 8 := rfl; clear q HM; intro g9 u9 HG9 HM) | (have q : dV HM = 9 := rfl; clear q HM; intro g10 u10 HG10 HM) | (have q : dV HM = 10 := rfl; clear q HM; intro g11 u11 HG11 HM) | (have q : dV HM = 11 := rfl; clear q HM; intro g12 u12 HG12 HM) | (have q : dV HM = 12 := rfl; clear q HM; intro g13 u13 HG13 HM) | (have q : dV HM = 13 := rfl; clear q HM; intro g14 u14 HG14 HM))))
  refine (requal_any B0 (some ⟨gi1, 0, none⟩) 1 1 1 1 [0] [0] true _ (by decide) (by decide) (KX0.out.walk HBU.out HM.out (fun e he => by
    simp only [List.mem_cons, List.not_mem_nil, or_false] at he
    rcases he with rfl | rfl | rfl
    · exact .inr (by have := HZ1.out; have := HE1.out; omega)
    · exact .inr HG2.out
    · exact .inl (by simp))).now (RdI.of_blk (HM.out.get (g := gi1) (by exact vmemOf)) rfl) (by decide)).mono ?_
  rintro e u ⟨rfl, q, rfl⟩
  have HM2 := Lib.hid (HM.out.below (below_drewN (Below.refl _ _) q))
  clear HM
  have HM := HM2
  clear HM2
  go_wp2_with (first | (refine wv_i1 (by rfl) _ rfl rfl HM ?_; have HZ2 := Lib.hid HM.out.2.2.2.2.1; clear HM; intro gi2 ub HE2 HBB HM; clear HBB) | (refine wv_str (by rfl) _ rfl rfl HR4 HS4 ?_) | (refine wv_str (by rfl) _ rfl rfl HR5 HS5 ?_) | (first | (refine jL ?_) | (refine jS ?_; clear HM; intro us HM; simp only [List.set, List.setIfInBounds_toArray, List.set_cons_zero, List.set_cons_succ] at HM) | (refine jN ?_; first | (have q : dV HM = 0 := rfl; clear q HM; intro g1 u1 HG1 HM) | (have q : dV HM = 1 := rfl; clear q HM; intro g2 u2 HG2 HM) | (have q : dV HM = 2 := rfl; clear q HM; intro g3 u3 HG3 HM) | (have q : dV HM = 3 := rfl; clear q HM; intro g4 u4 HG4 HM) | (have q : dV HM = 4 := rfl; clear q HM; intro g5 u5 HG5 HM) | (have q : dV HM = 5 := rfl; clear q HM; intro g6 u6 HG6 HM) | (have q : dV HM = 6 := rfl; clear q HM; intro g7 u7 HG7 HM) | (have q : dV HM = 7 := rfl; clear q HM; intro g8 u8 HG8 HM) | (have q : dV HM = 8 := rfl; clear q HM; intro g9 u9 HG9 HM) | (have q : dV HM = 9 := rfl; clear q HM; intro g10 u10 HG10 HM) | (have q : dV HM = 10 := rfl; clear q HM; intro g11 u11 HG11 HM) | (have q : dV HM = 11 := rfl; clear q HM; intro g12 u12 HG12 HM) | (have q : dV HM = 12 := rfl; clear q HM; intro g13 u13 HG13 HM) | (have q : dV HM = 13 := rfl; clear q HM; intro g14 u14 HG14 HM))))
  refine (requal_any B2 (some ⟨gi2, 0, none⟩) 1 1 1 1 [0] [0] true _ (by decide) (by decide) (KX2.out.walk HBU.out HM.out (fun e he => by
    simp only [List.mem_cons, List.not_mem_nil, or_false] at he
    rcases he with rfl | rfl | rfl | rfl
    · exact .inr (by have := HZ2.out; have := HE2.out; omega)
    · exact .inr (by have := HZ1.out; have := HE1.out; omega)
    · exact .inr HG2.out
    · exact .inl (by simp))).now (RdI.of_blk (HM.out.get (g := gi2) (by exact vmemOf)) rfl) (by decide)).mono ?_
  rintro e u ⟨rfl, q, rfl⟩
  have HM2 := Lib.hid (HM.out.below (below_drewN (Below.refl _ _) q))
  clear HM
  have HM := HM2
  clear HM2
  have HR4 := Lib.hid (KX3.out.walk HBU.out HM.out (fun e he => by
    simp only [List.mem_cons, List.not_mem_nil, or_false] at he
    rcases he with rfl | rfl | rfl | rfl
    · exact .inr (by have := HZ2.out; have := HE2.out; omega)
    · exact .inr (by have := HZ1.out; have := HE1.out; omega)
    · exact .inr HG2.out
    · exact .inl (by simp))).now
  have HR5 := Lib.hid (KX4.out.walk HBU.out HM.out (fun e he => by
    simp only [List.mem_cons, List.not_mem_nil, or_false] at he
    rcases he with rfl | rfl | rfl | rfl
    · exact .inr (by have := HZ2.out; have := HE2.out; omega)
    · exact .inr (by have := HZ1.out; have := HE1.out; omega)
    · exact .inr HG2.out
    · exact .inl (by simp))).now
  go_wp2_with (first | (refine wv_i1 (by rfl) _ rfl rfl HM ?_; have HZ3 := Lib.hid HM.out.2.2.2.2.1; clear HM; intro gi3 ub HE3 HBB HM; clear HBB) | (refine wv_str (by rfl) _ rfl rfl HR4 HS4 ?_) | (refine wv_str (by rfl) _ rfl rfl HR5 HS5 ?_) | (first | (refine jL ?_) | (refine jS ?_; clear HM; intro us HM; simp only [List.set, List.setIfInBounds_toArray, List.set_cons_zero, List.set_cons_succ] at HM) | (refine jN ?_; first | (have q : dV HM = 0 := rfl; clear q HM; intro g1 u1 HG1 HM) | (have q : dV HM = 1 := rfl; clear q HM; intro g2 u2 HG2 HM) | (have q : dV HM = 2 := rfl; clear q HM; intro g3 u3 HG3 HM) | (have q : dV HM = 3 := rfl; clear q HM; intro g4 u4 HG4 HM) | (have q : dV HM = 4 := rfl; clear q HM; intro g5 u5 HG5 HM) | (have q : dV HM = 5 := rfl; clear q HM; intro g6 u6 HG6 HM) | (have q : dV HM = 6 := rfl; clear q HM; intro g7 u7 HG7 HM) | (have q : dV HM = 7 := rfl; clear q HM; intro g8 u8 HG8 HM) | (have q : dV HM = 8 := rfl; clear q HM; intro g9 u9 HG9 HM) | (have q : dV HM = 9 := rfl; clear q HM; intro g10 u10 HG10 HM) | (have q : dV HM = 10 := rfl; clear q HM; intro g11 u11 HG11 HM) | (have q : dV HM = 11 := rfl; clear q HM; intro g12 u12 HG12 HM) | (have q : dV HM = 12 := rfl; clear q HM; intro g13 u13 HG13 HM) | (have q : dV HM = 13 := rfl; clear q HM; intro g14 u14 HG14 HM))))
  go_ret
  exact ⟨rfl, HM.out.1⟩
end Go.Proofs.Ytffapinabidkiaa.Lp
