/-
  All that was put comes again.
-/
import Derived.Test.YtffapinabidkiaaUN
set_option linter.unusedSimpArgs false
set_option linter.unusedVariables false
/- UO -/
namespace Go.Proofs.Ytffapinabidkiaa.Lp
open Go.RowKit Go.Proofs.Ytffapinabidkiaa.Fq
theorem oneByte : OneT 5 := ⟨fun w => by kernel_rfl, fun w => by kernel_rfl⟩
section
variable {ops : Array Oper} {rest : List Oper} {o : Oper} {a : Act} {w : World} {Q : Exit → Act → World → Prop}
theorem wv_ldA (hgd : Region.wanted o (yielded ops a.tmps) = true) (T : TypeId) (x : Operand) (ho : o.op = .load T x) {ad : Addr} (hx : a.eval x = .pointer (some ad)) (hT : OneT T) {v : Value} (hc : w.cell? ad = some v)
    (h : wpList Try.prog ops Q rest (a.put o.dst v) w) : wpList Try.prog ops Q (o :: rest) a w :=
  wl_step hgd fun K hK => by
    have := hK _ _ h
    unfold Oper.wp execOp
    simp only [ho, hx, Instr.loadAt, Instr.sureAddr, Sem.run_bind, Sem.run_pure, Result.andThen_ok, run_load_one hT hc]
    exact this
end
theorem rdI_head {u : World} {ad : Addr} {n : Nat} {x : Int} {l : List Int} (h : RdI u (some ad) (n + 1) (x :: l)) : u.cell? ad = some (.int .i64 x) := by
  obtain ⟨ad', e, hc⟩ := h.2 (by omega)
  injection e with e
  subst e
  have := hc 0 x rfl
  rwa [Addr.add_zero'] at this
theorem rd_head {u : World} {ad : Addr} {n b : Nat} {l : List Nat} (h : Rd u (some ad) (n + 1) (b :: l)) : u.cell? ad = some (.int .u8 (b : Int)) := by
  obtain ⟨ad', e, hc⟩ := h.2.2 (by omega)
  injection e with e
  subst e
  have := hc 0 b rfl
  rwa [Addr.add_zero'] at this
theorem mem_one {g1 B : Nat} {a1 : TypeId × Array Value} : ∀ e ∈ ([(g1, a1)] : List Ent), e.1 ∈ [g1] ∨ B ≤ e.1 := fun e he => .inl (by rw [List.mem_singleton.1 he]; exact List.mem_singleton.2 rfl)
theorem mem_two {g1 g2 B : Nat} {a1 a2 : TypeId × Array Value} (h : Hid (B ≤ g2)) : ∀ e ∈ ([(g2, a2), (g1, a1)] : List Ent), e.1 ∈ [g1] ∨ B ≤ e.1 := fun e he => by
  rcases List.mem_cons.1 he with rfl | he
  · exact .inr h.out
  · exact mem_one e he
theorem mem_three {g1 g2 g3 B : Nat} {a1 a2 a3 : TypeId × Array Value} (h3 : Hid (B ≤ g3)) (h : Hid (B ≤ g2)) : ∀ e ∈ ([(g3, a3), (g2, a2), (g1, a1)] : List Ent), e.1 ∈ [g1] ∨ B ≤ e.1 := fun e he => by
  rcases List.mem_cons.1 he with rfl | he
  · exact .inr h3.out
  · exact mem_two h e he
theorem newV_ok {d : Int} (h : 1 ≤ d ∧ d ≤ 16) : newV d = .tuple #[jtV false 0 d 0 none 0 0, .int .i64 0] := if_pos h
set_option maxRecDepth 100000 in
set_option maxHeartbeats 8000000 in
theorem all_any (a0 a1 a2 : Int) (w : World) (b0 : -9223372036854775808 ≤ a0 ∧ a0 ≤ 9223372036854775807) (b1 : -9223372036854775808 ≤ a1 ∧ a1 ≤ 9223372036854775807) (b2 : -9223372036854775808 ≤ a2 ∧ a2 ≤ 9223372036854775807) :
    Calls Try.prog 6 #[.int .i64 a0, .int .i64 a1, .int .i64 a2] w (ValQ w (.bool true)) := by
  have HM := Lib.hid (MV.start w)
  obtain ⟨R0, D, p1, p2, p3, p4, -, p6⟩ := rem_is a0 16 (by omega) (by omega)
  obtain ⟨R1, S, q1, q2, q3, q4, -, q6⟩ := rem_is a1 1099511627776 (by omega) (by omega)
  obtain ⟨R2, N, r1, r2, r3, r4, -, r6⟩ := rem_is a2 40 (by omega) (by omega)
  clear b0 b1 b2
  go_enter Try.func6, Try.ntmps6
  go_wp2_with (first | (refine jL ?_) | (refine jS ?_; clear HM; intro us HM; simp only [List.set, List.setIfInBounds_toArray, List.set_cons_zero, List.set_cons_succ] at HM) | (refine jN ?_; first | (have q : dV HM = 0 := rfl; clear q HM; intro g1 u1 HG1 HM) | (have q : dV HM = 1 := rfl; clear q HM; intro g2 u2 HG2 HM) | (have q : dV HM = 2 := rfl; clear q HM; intro g3 u3 HG3 HM) | (have q : dV HM = 3 := rfl; clear q HM; intro g4 u4 HG4 HM) | (have q : dV HM = 4 := rfl; clear q HM; intro g5 u5 HG5 HM) | (have q : dV HM = 5 := rfl; clear q HM; intro g6 u6 HG6 HM) | (have q : dV HM = 6 := rfl; clear q HM; intro g7 u7 HG7 HM) | (have q : dV HM = 7 := rfl; clear q HM; intro g8 u8 HG8 HM) | (have q : dV HM = 8 := rfl; clear q HM; intro g9 u9 HG9 HM) | (have q : dV HM = 9 := rfl; clear q HM; intro g10 u10 HG10 HM) | (have q : dV HM = 10 := rfl; clear q HM; intro g11 u11 HG11 HM) | (have q : dV HM = 11 := rfl; clear q HM; intro g12 u12 HG12 HM) | (have q : dV HM = 12 := rfl; clear q HM; intro g13 u13 HG13 HM) | (have q : dV HM = 13 := rfl; clear q HM; intro g14 u14 HG14 HM)))
  refine (live_any _).mono ?_
  rintro e u0 ⟨rfl, hb⟩
  have HM2 := Lib.hid (HM.out.below hb)
  clear hb HM
  have HM := HM2
  clear HM2
  go_wp2_with (first | (refine jL ?_) | (refine jS ?_; clear HM; intro us HM; simp only [List.set, List.setIfInBounds_toArray, List.set_cons_zero, List.set_cons_succ] at HM) | (refine jN ?_; first | (have q : dV HM = 0 := rfl; clear q HM; intro g1 u1 HG1 HM) | (have q : dV HM = 1 := rfl; clear q HM; intro g2 u2 HG2 HM) | (have q : dV HM = 2 := rfl; clear q HM; intro g3 u3 HG3 HM) | (have q : dV HM = 3 := rfl; clear q HM; intro g4 u4 HG4 HM) | (have q : dV HM = 4 := rfl; clear q HM; intro g5 u5 HG5 HM) | (have q : dV HM = 5 := rfl; clear q HM; intro g6 u6 HG6 HM) | (have q : dV HM = 6 := rfl; clear q HM; intro g7 u7 HG7 HM) | (have q : dV HM = 7 := rfl; clear q HM; intro g8 u8 HG8 HM) | (have q : dV HM = 8 := rfl; clear q HM; intro g9 u9 HG9 HM) | (have q : dV HM = 9 := rfl; clear q HM; intro g10 u10 HG10 HM) | (have q : dV HM = 10 := rfl; clear q HM; intro g11 u11 HG11 HM) | (have q : dV HM = 11 := rfl; clear q HM; intro g12 u12 HG12 HM) | (have q : dV HM = 12 := rfl; clear q HM; intro g13 u13 HG13 HM) | (have q : dV HM = 13 := rfl; clear q HM; intro g14 u14 HG14 HM)))
  refine (New_any (1 + (D : Int)) _).mono ?_
  rw [newV_ok (by omega)]
  rintro e u1 ⟨rfl, hb⟩
  have HM2 := Lib.hid (HM.out.below hb).base
  have HBU := Lib.hid HM2.out.1
  clear hb HM
  have HM := HM2
  clear HM2
  by_cases hbig : (1099511627676 : Int) < (S : Int)
  · go_wp2_with (first | (refine jL ?_) | (refine jS ?_; clear HM; intro us HM; simp only [List.set, List.setIfInBounds_toArray, List.set_cons_zero, List.set_cons_succ] at HM) | (refine jN ?_; first | (have q : dV HM = 0 := rfl; clear q HM; intro g1 u1 HG1 HM) | (have q : dV HM = 1 := rfl; clear q HM; intro g2 u2 HG2 HM) | (have q : dV HM = 2 := rfl; clear q HM; intro g3 u3 HG3 HM) | (have q : dV HM = 3 := rfl; clear q HM; intro g4 u4 HG4 HM) | (have q : dV HM = 4 := rfl; clear q HM; intro g5 u5 HG5 HM) | (have q : dV HM = 5 := rfl; clear q HM; intro g6 u6 HG6 HM) | (have q : dV HM = 6 := rfl; clear q HM; intro g7 u7 HG7 HM) | (have q : dV HM = 7 := rfl; clear q HM; intro g8 u8 HG8 HM) | (have q : dV HM = 8 := rfl; clear q HM; intro g9 u9 HG9 HM) | (have q : dV HM = 9 := rfl; clear q HM; intro g10 u10 HG10 HM) | (have q : dV HM = 10 := rfl; clear q HM; intro g11 u11 HG11 HM) | (have q : dV HM = 11 := rfl; clear q HM; intro g12 u12 HG12 HM) | (have q : dV HM = 12 := rfl; clear q HM; intro g13 u13 HG13 HM) | (have q : dV HM = 13 := rfl; clear q HM; intro g14 u14 HG14 HM)))
    go_ret
    exact ⟨rfl, HM.out.1⟩
  obtain ⟨C, hC⟩ : ∃ C : Nat, (16 : Int) + (N : Int) = (C : Int) := ⟨16 + N, by omega⟩
  obtain ⟨d, hd⟩ : ∃ d : Int, d = 1 + (D : Int) := ⟨_, rfl⟩
  rw [hC, ← hd]
  have hsm : (S : Int) ≤ 1099511627676 := by omega
  have HD := Lib.hid (show 1 ≤ d ∧ d ≤ 16 by omega)
  have HC1 := Lib.hid (show 16 ≤ C ∧ C ≤ 55 by omega)
  clear hbig p1 p2 p3 p4 p6 q1 q2 q3 q4 q6 r1 r2 r3 r4 r6 hC hd
  go_wp2_with (first | (refine jL ?_) | (refine jS ?_; clear HM; intro us HM; simp only [List.set, List.setIfInBounds_toArray, List.set_cons_zero, List.set_cons_succ] at HM) | (refine jN ?_; first | (have q : dV HM = 0 := rfl; clear q HM; intro g1 u1 HG1 HM) | (have q : dV HM = 1 := rfl; clear q HM; intro g2 u2 HG2 HM) | (have q : dV HM = 2 := rfl; clear q HM; intro g3 u3 HG3 HM) | (have q : dV HM = 3 := rfl; clear q HM; intro g4 u4 HG4 HM) | (have q : dV HM = 4 := rfl; clear q HM; intro g5 u5 HG5 HM) | (have q : dV HM = 5 := rfl; clear q HM; intro g6 u6 HG6 HM) | (have q : dV HM = 6 := rfl; clear q HM; intro g7 u7 HG7 HM) | (have q : dV HM = 7 := rfl; clear q HM; intro g8 u8 HG8 HM) | (have q : dV HM = 8 := rfl; clear q HM; intro g9 u9 HG9 HM) | (have q : dV HM = 9 := rfl; clear q HM; intro g10 u10 HG10 HM) | (have q : dV HM = 10 := rfl; clear q HM; intro g11 u11 HG11 HM) | (have q : dV HM = 11 := rfl; clear q HM; intro g12 u12 HG12 HM) | (have q : dV HM = 12 := rfl; clear q HM; intro g13 u13 HG13 HM) | (have q : dV HM = 13 := rfl; clear q HM; intro g14 u14 HG14 HM)))
  have HM2 := Lib.hid HM.out.base
  clear HM
  go_loopw [57] (fun vi wr => ∃ (k c : Nat) (A : Option Addr) (ls : List Pk), vi = .int .i64 (k : Int) ∧ k ≤ C ∧ Hid (ls.map pl = rowQ k ((S : Int) + (C : Int) - (k : Int))) ∧ Hid (Kp (fun u => RdP u A k ls) [g1] wr) ∧
    Hid (MV w wr [(g1, 24, #[.bool false, .int .i64 0, .int .i64 d, .int .i64 0, .slice A k c])] wr)) (fun vi _ => C - (intOf vi).toNat)
  case atStart => exact ⟨0, 0, none, [], rfl, by omega, Lib.hid rfl, Lib.hid (fun u _ => RdP.none_), HM2⟩
  case round =>
    clear HM2 HBU
    obtain ⟨k, c, A, ls, rfl, hk, HQ, HK, HM⟩ := hrel
    have HBU := Lib.hid HM.out.1
    by_cases hlt : k < C
    · have kn : (k : Int) < (C : Int) := by omega
      have h55 : (C : Int) ≤ 55 := by have := HC1.out; omega
      obtain ⟨s, hs⟩ : ∃ s : Int, s = (S : Int) + (C : Int) - 1 - (k : Int) := ⟨_, rfl⟩
      have hs0 : 0 ≤ s := by omega
      have hs1 : s ≤ 1099511627735 := by omega
      have hk8 : (k : Int) ≤ 255 := by omega
      go_wp2_with (first | (refine wv_b1 (by rfl) _ rfl rfl HM ?_; clear HM; intro gb ub HGB HM) | (refine wv_k1 (by rfl) _ rfl rfl HM ?_; clear HM; intro gp ub HGP HM) | (first | (refine jL ?_) | (refine jS ?_; clear HM; intro us HM; simp only [List.set, List.setIfInBounds_toArray, List.set_cons_zero, List.set_cons_succ] at HM) | (refine jN ?_; first | (have q : dV HM = 0 := rfl; clear q HM; intro g1 u1 HG1 HM) | (have q : dV HM = 1 := rfl; clear q HM; intro g2 u2 HG2 HM) | (have q : dV HM = 2 := rfl; clear q HM; intro g3 u3 HG3 HM) | (have q : dV HM = 3 := rfl; clear q HM; intro g4 u4 HG4 HM) | (have q : dV HM = 4 := rfl; clear q HM; intro g5 u5 HG5 HM) | (have q : dV HM = 5 := rfl; clear q HM; intro g6 u6 HG6 HM) | (have q : dV HM = 6 := rfl; clear q HM; intro g7 u7 HG7 HM) | (have q : dV HM = 7 := rfl; clear q HM; intro g8 u8 HG8 HM) | (have q : dV HM = 8 := rfl; clear q HM; intro g9 u9 HG9 HM) | (have q : dV HM = 9 := rfl; clear q HM; intro g10 u10 HG10 HM) | (have q : dV HM = 10 := rfl; clear q HM; intro g11 u11 HG11 HM) | (have q : dV HM = 11 := rfl; clear q HM; intro g12 u12 HG12 HM) | (have q : dV HM = 12 := rfl; clear q HM; intro g13 u13 HG13 HM) | (have q : dV HM = 13 := rfl; clear q HM; intro g14 u14 HG14 HM))))
      have HK1 := Lib.hid (HK.out.walk HBU.out HM.out (fun e he => by
        simp only [List.mem_cons, List.not_mem_nil, or_false] at he
        rcases he with rfl | rfl | rfl
        · exact .inr HGP.out
        · exact .inr HGB.out
        · exact .inl (by simp)))
      have hl1 := (HM.out.get (g := g1) (by exact vmemOf)).lt
      have e1 : (S : Int) + (C : Int) - (k : Int) = s + 1 := by omega
      have HP := Lib.hid (show (putsJ ⟨false, 0, d, 0, rowQ k (s + 1)⟩ [(s, [k])]).q = rowQ (k + 1) s ∧ outsJ ⟨false, 0, d, 0, rowQ k (s + 1)⟩ [(s, [k])] = [0] ∧ (rowQ (k + 1) s).length = k + 1 from by
        have h9 := rowQ_put (n := k) (s := s) (d := d) (by omega)
        exact ⟨congrArg Prod.snd h9, by show [(putR _ _).1] = [0]; rw [h9], rowQ_length _ _⟩)
      have HOK := Lib.hid (show OkJ ⟨false, 0, d, 0, rowQ k (s + 1)⟩ ∧ goodL [(s, [k])] = true from ⟨rowQ_ok HD.out.1 HD.out.2 (by omega) (by omega) (by omega) (.inl ⟨rfl, rfl⟩), good_one hs0 (by omega)⟩)
      have HE := Lib.hid e1
      rw [e1] at HQ
      refine (Put_to false 0 d 0 A k c ls (some ⟨gp, 0, none⟩) 1 1 [⟨s, some ⟨gb, 0, none⟩, 1, 1, [(k : Int).toNat]⟩] _ (rowQ k (s + 1)) (rowQ (k + 1) s) [(s, [k])] [0] (k + 1) (Lib.hid HK1.out.now) HQ (Lib.hid (by rw [hs]; exact rdP_one HM.out (by exact vmemOf) (by exact vmemOf) (by omega) (by omega))) (Lib.hid rfl) (by decide) HOK (by omega) HP).mono ?_
      rintro e u2 ⟨A2, c2, l2, B2, rfl, hq, hk2, hb⟩
      have hk3 := hk2 [g1] (fun x hx => by rw [List.mem_singleton.1 hx]; exact hl1)
      have KR := Lib.hid hk3.1
      have KI := Lib.hid hk3.2
      obtain ⟨ad, rfl, -⟩ := KI.out.now.2 (by omega)
      have HQ2 := Lib.hid hq
      have HM2 := Lib.hid ((HM.out.below hb).sub ((List.sublist_cons_self _ _).trans (List.sublist_cons_self _ _))).base
      have HBU2 := Lib.hid HM2.out.1
      clear hb hk2 hk3 hq hl1 HM HBU HGP HGB HOK HP HK HK1 HQ e1
      have HM := HM2
      have HBU := HBU2
      clear HM2 HBU2
      go_wp2_with (first | (first | (refine jL ?_) | (refine jS ?_; clear HM; intro us HM; simp only [List.set, List.setIfInBounds_toArray, List.set_cons_zero, List.set_cons_succ] at HM) | (refine jN ?_; first | (have q : dV HM = 0 := rfl; clear q HM; intro g1 u1 HG1 HM) | (have q : dV HM = 1 := rfl; clear q HM; intro g2 u2 HG2 HM) | (have q : dV HM = 2 := rfl; clear q HM; intro g3 u3 HG3 HM) | (have q : dV HM = 3 := rfl; clear q HM; intro g4 u4 HG4 HM) | (have q : dV HM = 4 := rfl; clear q HM; intro g5 u5 HG5 HM) | (have q : dV HM = 5 := rfl; clear q HM; intro g6 u6 HG6 HM) | (have q : dV HM = 6 := rfl; clear q HM; intro g7 u7 HG7 HM) | (have q : dV HM = 7 := rfl; clear q HM; intro g8 u8 HG8 HM) | (have q : dV HM = 8 := rfl; clear q HM; intro g9 u9 HG9 HM) | (have q : dV HM = 9 := rfl; clear q HM; intro g10 u10 HG10 HM) | (have q : dV HM = 10 := rfl; clear q HM; intro g11 u11 HG11 HM) | (have q : dV HM = 11 := rfl; clear q HM; intro g12 u12 HG12 HM) | (have q : dV HM = 12 := rfl; clear q HM; intro g13 u13 HG13 HM) | (have q : dV HM = 13 := rfl; clear q HM; intro g14 u14 HG14 HM))) | (refine wv_ldA (by rfl) 3 _ rfl rfl oneInt (rdI_head (KI.out.walk HBU.out HM.out (mem_two HG2)).now) ?_))
      have HK2 := Lib.hid (KR.out.walk HBU.out HM.out (mem_two HG2))
      clear KI
      have HGJ := Lib.hid (show gapsJ ⟨false, 0, d, 0, l2.map pl⟩ = [] by rw [HQ2.out]; exact rowQ_gaps _ _ _)
      refine (Gaps_any false 0 d 0 A2 (k + 1) c2 l2 _ (Lib.hid HK2.out.now) (by omega)).mono ?_
      rintro e u3 hg
      unfold GapP at hg
      rw [HGJ.out] at hg
      obtain ⟨A3, c3, rfl, -, hb⟩ := hg
      have HM2 := Lib.hid (HM.out.below hb)
      clear hb HM HK2 HGJ
      have HM := HM2
      clear HM2
      go_wp2_with (first | (refine jL ?_) | (refine jS ?_; clear HM; intro us HM; simp only [List.set, List.setIfInBounds_toArray, List.set_cons_zero, List.set_cons_succ] at HM) | (refine jN ?_; first | (have q : dV HM = 0 := rfl; clear q HM; intro g1 u1 HG1 HM) | (have q : dV HM = 1 := rfl; clear q HM; intro g2 u2 HG2 HM) | (have q : dV HM = 2 := rfl; clear q HM; intro g3 u3 HG3 HM) | (have q : dV HM = 3 := rfl; clear q HM; intro g4 u4 HG4 HM) | (have q : dV HM = 4 := rfl; clear q HM; intro g5 u5 HG5 HM) | (have q : dV HM = 5 := rfl; clear q HM; intro g6 u6 HG6 HM) | (have q : dV HM = 6 := rfl; clear q HM; intro g7 u7 HG7 HM) | (have q : dV HM = 7 := rfl; clear q HM; intro g8 u8 HG8 HM) | (have q : dV HM = 8 := rfl; clear q HM; intro g9 u9 HG9 HM) | (have q : dV HM = 9 := rfl; clear q HM; intro g10 u10 HG10 HM) | (have q : dV HM = 10 := rfl; clear q HM; intro g11 u11 HG11 HM) | (have q : dV HM = 11 := rfl; clear q HM; intro g12 u12 HG12 HM) | (have q : dV HM = 12 := rfl; clear q HM; intro g13 u13 HG13 HM) | (have q : dV HM = 13 := rfl; clear q HM; intro g14 u14 HG14 HM)))
      have HK4 := Lib.hid (KR.out.walk HBU.out HM.out (mem_two HG2))
      go_roundw
      case rel =>
        refine ⟨k + 1, c2, A2, l2, by first | rfl | go_num, by omega, Lib.hid ?_, HK4, Lib.hid (HM.out.sub (List.sublist_cons_self _ _)).base⟩
        rw [HQ2.out]
        congr 1
        omega
      case measure => simp [intOf]; omega
    · obtain rfl : k = C := by omega
      have h55 : (k : Int) ≤ 55 := by have := HC1.out; omega
      go_wp2_with (first | (refine jL ?_) | (refine jS ?_; clear HM; intro us HM; simp only [List.set, List.setIfInBounds_toArray, List.set_cons_zero, List.set_cons_succ] at HM) | (refine jN ?_; first | (have q : dV HM = 0 := rfl; clear q HM; intro g1 u1 HG1 HM) | (have q : dV HM = 1 := rfl; clear q HM; intro g2 u2 HG2 HM) | (have q : dV HM = 2 := rfl; clear q HM; intro g3 u3 HG3 HM) | (have q : dV HM = 3 := rfl; clear q HM; intro g4 u4 HG4 HM) | (have q : dV HM = 4 := rfl; clear q HM; intro g5 u5 HG5 HM) | (have q : dV HM = 5 := rfl; clear q HM; intro g6 u6 HG6 HM) | (have q : dV HM = 6 := rfl; clear q HM; intro g7 u7 HG7 HM) | (have q : dV HM = 7 := rfl; clear q HM; intro g8 u8 HG8 HM) | (have q : dV HM = 8 := rfl; clear q HM; intro g9 u9 HG9 HM) | (have q : dV HM = 9 := rfl; clear q HM; intro g10 u10 HG10 HM) | (have q : dV HM = 10 := rfl; clear q HM; intro g11 u11 HG11 HM) | (have q : dV HM = 11 := rfl; clear q HM; intro g12 u12 HG12 HM) | (have q : dV HM = 12 := rfl; clear q HM; intro g13 u13 HG13 HM) | (have q : dV HM = 13 := rfl; clear q HM; intro g14 u14 HG14 HM)))
      have HQ1 := Lib.hid (show ls.map pl = rowQ k ((S : Int) + ((0 : Nat) : Int)) by rw [HQ.out]; congr 1; omega)
      clear HQ HBU
      go_loopw [99] (fun vi wr => ∃ (i m c : Nat) (A : Option Addr) (ls : List Pk) (on : Bool) (nx : Int), vi = .int .i64 (i : Int) ∧ i + m = k ∧ Hid ((on = false ∧ nx = 0 ∧ i = 0) ∨ (on = true ∧ nx = (S : Int) + (i : Int))) ∧ Hid (ls.map pl = rowQ m ((S : Int) + (i : Int))) ∧ Hid (Kp (fun u => RdP u A m ls) [g1] wr) ∧
        Hid (MV w wr [(g1, 24, #[.bool on, .int .i64 nx, .int .i64 d, .int .i64 0, .slice A m c])] wr)) (fun vi _ => k - (intOf vi).toNat)
      case atStart => exact ⟨0, k, c, A, ls, false, 0, rfl, by omega, Lib.hid (.inl ⟨rfl, rfl, rfl⟩), HQ1, HK, HM⟩
      case round =>
        clear HQ1 HK HM
        obtain ⟨i, m, c2, A2, l2, on, nx, rfl, him, HS, HQ, HK, HM⟩ := hrel
        have HBU := Lib.hid HM.out.1
        obtain ⟨s, hs⟩ : ∃ s : Int, s = (S : Int) + (i : Int) := ⟨_, rfl⟩
        rw [← hs] at HQ HS
        have hl1 := (HM.out.get (g := g1) (by exact vmemOf)).lt
        by_cases hlt : i < k
        · obtain ⟨m, rfl⟩ : ∃ m', m = m' + 1 := ⟨m - 1, by omega⟩
          have kn : (i : Int) < (k : Int) := by omega
          have e9 : ((m : Int) != (k : Int) - 1 - (i : Int)) = false := by simp; omega
          have hm8 : (m : Int) ≤ 255 := by omega
          have HP := Lib.hid (show pullR ⟨on, nx, d, 0, rowQ (m + 1) s⟩ = (1, [m], ⟨true, s + 1, d, 0, rowQ m (s + 1)⟩) ∧ (rowQ m (s + 1)).length = m ∧ [m].length = 1 from
            ⟨rowQ_pull (by rcases HS.out with ⟨h1, h2, h3⟩ | ⟨h1, h2⟩; exact .inl ⟨h1, h2, by have := HD.out; have := HC1.out; omega⟩; exact .inr ⟨h1, h2⟩), rowQ_length _ _, rfl⟩)
          have HOK := Lib.hid (show OkJ ⟨on, nx, d, 0, rowQ (m + 1) s⟩ from rowQ_ok HD.out.1 HD.out.2 (by omega) (by omega) (by omega) (by rcases HS.out with ⟨h1, h2, h3⟩ | ⟨h1, h2⟩; exact .inl ⟨h1, h2⟩; exact .inr ⟨h1, h2⟩))
          go_wp2_with (first | (refine jL ?_) | (refine jS ?_; clear HM; intro us HM; simp only [List.set, List.setIfInBounds_toArray, List.set_cons_zero, List.set_cons_succ] at HM) | (refine jN ?_; first | (have q : dV HM = 0 := rfl; clear q HM; intro g1 u1 HG1 HM) | (have q : dV HM = 1 := rfl; clear q HM; intro g2 u2 HG2 HM) | (have q : dV HM = 2 := rfl; clear q HM; intro g3 u3 HG3 HM) | (have q : dV HM = 3 := rfl; clear q HM; intro g4 u4 HG4 HM) | (have q : dV HM = 4 := rfl; clear q HM; intro g5 u5 HG5 HM) | (have q : dV HM = 5 := rfl; clear q HM; intro g6 u6 HG6 HM) | (have q : dV HM = 6 := rfl; clear q HM; intro g7 u7 HG7 HM) | (have q : dV HM = 7 := rfl; clear q HM; intro g8 u8 HG8 HM) | (have q : dV HM = 8 := rfl; clear q HM; intro g9 u9 HG9 HM) | (have q : dV HM = 9 := rfl; clear q HM; intro g10 u10 HG10 HM) | (have q : dV HM = 10 := rfl; clear q HM; intro g11 u11 HG11 HM) | (have q : dV HM = 11 := rfl; clear q HM; intro g12 u12 HG12 HM) | (have q : dV HM = 12 := rfl; clear q HM; intro g13 u13 HG13 HM) | (have q : dV HM = 13 := rfl; clear q HM; intro g14 u14 HG14 HM)))
          refine (Pull_to on nx d 0 A2 (m + 1) c2 l2 _ (rowQ (m + 1) s) (rowQ m (s + 1)) true (s + 1) d 0 1 [m] m 1 (Lib.hid HK.out.now) HQ HOK (by omega) HP).mono ?_
          rintro e u2 ⟨A3, c3, l3, B3, cb3, rfl, hq, hk2, hb⟩
          have hk3 := hk2 [g1] (fun x hx => by rw [List.mem_singleton.1 hx]; exact hl1)
          have KR := Lib.hid hk3.1
          have KI := Lib.hid hk3.2
          obtain ⟨ad, rfl, -⟩ := KI.out.now.2.2 (by omega)
          have HQ2 := Lib.hid hq
          have HM2 := Lib.hid (HM.out.below hb).base
          have HBU2 := Lib.hid HM2.out.1
          clear hb hk2 hk3 hq hl1 HM HBU HOK HP HK HQ HS
          have HM := HM2
          have HBU := HBU2
          clear HM2 HBU2
          have HIM := Lib.hid (And.intro him hs)
          clear him hs
          go_wp2_with (first | (first | (refine jL ?_) | (refine jS ?_; clear HM; intro us HM; simp only [List.set, List.setIfInBounds_toArray, List.set_cons_zero, List.set_cons_succ] at HM) | (refine jN ?_; first | (have q : dV HM = 0 := rfl; clear q HM; intro g1 u1 HG1 HM) | (have q : dV HM = 1 := rfl; clear q HM; intro g2 u2 HG2 HM) | (have q : dV HM = 2 := rfl; clear q HM; intro g3 u3 HG3 HM) | (have q : dV HM = 3 := rfl; clear q HM; intro g4 u4 HG4 HM) | (have q : dV HM = 4 := rfl; clear q HM; intro g5 u5 HG5 HM) | (have q : dV HM = 5 := rfl; clear q HM; intro g6 u6 HG6 HM) | (have q : dV HM = 6 := rfl; clear q HM; intro g7 u7 HG7 HM) | (have q : dV HM = 7 := rfl; clear q HM; intro g8 u8 HG8 HM) | (have q : dV HM = 8 := rfl; clear q HM; intro g9 u9 HG9 HM) | (have q : dV HM = 9 := rfl; clear q HM; intro g10 u10 HG10 HM) | (have q : dV HM = 10 := rfl; clear q HM; intro g11 u11 HG11 HM) | (have q : dV HM = 11 := rfl; clear q HM; intro g12 u12 HG12 HM) | (have q : dV HM = 12 := rfl; clear q HM; intro g13 u13 HG13 HM) | (have q : dV HM = 13 := rfl; clear q HM; intro g14 u14 HG14 HM))) | (refine wv_ldA (by rfl) 5 _ rfl rfl oneByte (rd_head (KI.out.walk HBU.out HM.out (mem_two HG2)).now) ?_))
          have HK4 := Lib.hid (KR.out.walk HBU.out HM.out (mem_two HG2))
          go_roundw
          case rel =>
            refine ⟨i + 1, m, c3, A3, l3, true, s + 1, by first | rfl | go_num, by have := HIM.out; omega, Lib.hid (.inr ⟨rfl, by have := HIM.out; omega⟩), Lib.hid ?_, HK4, Lib.hid (HM.out.sub (List.sublist_cons_self _ _)).base⟩
            rw [HQ2.out]
            congr 1
            have := HIM.out
            omega
          case measure => simp [intOf]; omega
        · obtain rfl : i = k := by omega
          obtain rfl : m = 0 := by omega
          obtain ⟨rfl, rfl⟩ : on = true ∧ nx = s := by
            rcases HS.out with ⟨h1, h2, h3⟩ | ⟨h1, h2⟩
            · have := HC1.out; omega
            · exact ⟨h1, h2⟩
          have HP := Lib.hid (show pullR ⟨true, nx, d, 0, []⟩ = (2, [], ⟨true, nx + 1, d, 1, []⟩) ∧ ([] : List Pq).length = 0 ∧ ([] : List Nat).length = 0 from ⟨rowQ_end, rfl, rfl⟩)
          have HOK := Lib.hid (show OkJ ⟨true, nx, d, 0, []⟩ from rowQ_ok (n := 0) HD.out.1 HD.out.2 (by omega) (by omega) (by omega) (.inr ⟨rfl, rfl⟩))
          have hii : ¬ ((i : Int) < (i : Int)) := by omega
          clear him hlt hs HS
          go_wp2_with (first | (refine jL ?_) | (refine jS ?_; clear HM; intro us HM; simp only [List.set, List.setIfInBounds_toArray, List.set_cons_zero, List.set_cons_succ] at HM) | (refine jN ?_; first | (have q : dV HM = 0 := rfl; clear q HM; intro g1 u1 HG1 HM) | (have q : dV HM = 1 := rfl; clear q HM; intro g2 u2 HG2 HM) | (have q : dV HM = 2 := rfl; clear q HM; intro g3 u3 HG3 HM) | (have q : dV HM = 3 := rfl; clear q HM; intro g4 u4 HG4 HM) | (have q : dV HM = 4 := rfl; clear q HM; intro g5 u5 HG5 HM) | (have q : dV HM = 5 := rfl; clear q HM; intro g6 u6 HG6 HM) | (have q : dV HM = 6 := rfl; clear q HM; intro g7 u7 HG7 HM) | (have q : dV HM = 7 := rfl; clear q HM; intro g8 u8 HG8 HM) | (have q : dV HM = 8 := rfl; clear q HM; intro g9 u9 HG9 HM) | (have q : dV HM = 9 := rfl; clear q HM; intro g10 u10 HG10 HM) | (have q : dV HM = 10 := rfl; clear q HM; intro g11 u11 HG11 HM) | (have q : dV HM = 11 := rfl; clear q HM; intro g12 u12 HG12 HM) | (have q : dV HM = 12 := rfl; clear q HM; intro g13 u13 HG13 HM) | (have q : dV HM = 13 := rfl; clear q HM; intro g14 u14 HG14 HM)))
          refine (Pull_to true nx d 0 A2 0 c2 l2 _ [] [] true (nx + 1) d 1 2 [] 0 0 (Lib.hid HK.out.now) HQ HOK (by omega) HP).mono ?_
          rintro e u2 ⟨A3, c3, l3, B3, cb3, rfl, hq, hk2, hb⟩
          have HM2 := Lib.hid (HM.out.below hb)
          clear hb HM hq hk2
          have HM := HM2
          clear HM2
          go_wp2_with (first | (refine jL ?_) | (refine jS ?_; clear HM; intro us HM; simp only [List.set, List.setIfInBounds_toArray, List.set_cons_zero, List.set_cons_succ] at HM) | (refine jN ?_; first | (have q : dV HM = 0 := rfl; clear q HM; intro g1 u1 HG1 HM) | (have q : dV HM = 1 := rfl; clear q HM; intro g2 u2 HG2 HM) | (have q : dV HM = 2 := rfl; clear q HM; intro g3 u3 HG3 HM) | (have q : dV HM = 3 := rfl; clear q HM; intro g4 u4 HG4 HM) | (have q : dV HM = 4 := rfl; clear q HM; intro g5 u5 HG5 HM) | (have q : dV HM = 5 := rfl; clear q HM; intro g6 u6 HG6 HM) | (have q : dV HM = 6 := rfl; clear q HM; intro g7 u7 HG7 HM) | (have q : dV HM = 7 := rfl; clear q HM; intro g8 u8 HG8 HM) | (have q : dV HM = 8 := rfl; clear q HM; intro g9 u9 HG9 HM) | (have q : dV HM = 9 := rfl; clear q HM; intro g10 u10 HG10 HM) | (have q : dV HM = 10 := rfl; clear q HM; intro g11 u11 HG11 HM) | (have q : dV HM = 11 := rfl; clear q HM; intro g12 u12 HG12 HM) | (have q : dV HM = 12 := rfl; clear q HM; intro g13 u13 HG13 HM) | (have q : dV HM = 13 := rfl; clear q HM; intro g14 u14 HG14 HM)))
          go_ret
          exact ⟨rfl, HM.out.1⟩
end Go.Proofs.Ytffapinabidkiaa.Lp
