/-
  Whether packets are few.
-/
import Derived.Test.YtffapinabidkiaaUO
import Derived.Deep.AppendSrc
set_option linter.unusedSimpArgs false
set_option linter.unusedVariables false
/- UZ -/
namespace Go.Proofs.Ytffapinabidkiaa.Lp
open Go.RowKit Go.Proofs.Ytffapinabidkiaa.Fq
/-- the cells of packets that are read -/
theorem RdP.cells {w : World} {L : Addr} {n : Nat} {ls : List Pk} (h : RdP w (some L) n ls) : ∀ j u, (pcs ls)[j]? = some u → w.cell? (L.add j) = some u := by
  intro j u hj
  have hlt := (List.getElem?_eq_some_iff.1 hj).1
  rw [pcs_length] at hlt
  have hk : j / 2 < ls.length := by omega
  have hn : 0 < n := by rw [← h.1]; omega
  obtain ⟨L', e, hc⟩ := h.2 hn
  injection e with e
  subst e
  have hx := List.getElem?_eq_getElem hk
  obtain ⟨c0, c1, -⟩ := hc _ _ hx
  obtain ⟨p0, p1⟩ := pcs_at hx
  rcases Nat.mod_two_eq_zero_or_one j with h0 | h0
  · have e : j / 2 * 2 = j := by omega
    rw [e] at c0 p0
    rw [hj] at p0
    injection p0 with p0
    rw [c0, p0]
  · have e : j / 2 * 2 + 1 = j := by omega
    rw [e, hj] at p1
    injection p1 with p1
    have ea : (⟨(L.add (j / 2 * 2)).block, (L.add (j / 2 * 2)).off + 1, none⟩ : Addr) = L.add j := by
      unfold Addr.add
      by_cases hz : j / 2 * 2 = 0
      · rw [if_pos hz, if_neg (by omega)]
        show (⟨L.block, L.off + 1, none⟩ : Addr) = ⟨L.block, L.off + j, none⟩
        rw [show j = 1 by omega]
      · rw [if_neg hz, if_neg (by omega)]
        show (⟨L.block, L.off + j / 2 * 2 + 1, none⟩ : Addr) = ⟨L.block, L.off + j, none⟩
        rw [show L.off + j / 2 * 2 + 1 = L.off + j by omega]
    rw [ea] at c1
    rw [c1, p1]
theorem app_pk {w : World} {base k : Nat} {v : Value} {xs : List Pk} (hown : w.ownsRow base 46 2 v k (pcs xs)) {A : Option Addr} {n : Nat} (c : Nat) {ls : List Pk} (h : RdP w A n ls) (hk : (k + n) * 32 ≤ 140737488355328) (hb : base ≤ w.heap.size) (ty : TypeId) :
    ∃ v' w', (Builtin.append_ #[22, 22] ty #[v, .slice A n c]).run Try.prog w = .ok v' w' ∧ w'.ownsRow base 46 2 v' (k + n) (pcs (xs ++ ls)) ∧ w.grownBy w' v.ownBlock := by
  obtain ⟨i0, hi0, hz0, hz1, hz2⟩ := info_partsT info_pk
  have ht := Try.underlying22
  cases A with
  | none =>
    have hn : n = 0 := by
      rcases Nat.eq_zero_or_pos n with h0 | h0
      · exact h0
      · obtain ⟨L, e, _⟩ := h.2 h0
        cases e
    subst hn
    have hls : ls = [] := List.eq_nil_of_length_eq_zero h.1
    subst hls
    refine ⟨v, w, ?_, by rw [List.append_nil]; exact hown, World.grownBy.refl _ _⟩
    rcases hown.2 with ⟨rfl, rfl⟩ | ⟨g, cap, cur, rfl, -, -, hnc, -⟩
    · simp [Builtin.append_, run_underlying ht, sizeOf, typeInfo, hi0, Builtin.lenOf, Builtin.firstCells]
    · have := run_append_room_src w 22 22 ty 46 i0 ht hi0 g 0 k cap (.slice none 0 c) 0 [] (Src.ofNil w ht c) hnc (fun j hj => absurd hj (by simp)) (fun j hj => absurd hj (by simp))
      exact this
  | some L =>
    have h63 : k + n ≤ maxLen := by unfold maxLen; omega
    obtain ⟨v', w', h1, h2, h3, -⟩ := run_append_own_at (P := Try.prog) w base 22 ty 46 i0 _ 2 32 ht hi0 hz0 hz1 hz2 rfl (by omega) v k (pcs xs) hown L n c (pcs ls) (by rw [pcs_length, h.1]) h.cells (pcs_one ls) h63 hk hb
    exact ⟨v', w', h1, by rw [pcs_append]; exact h2, h3⟩
section
variable {ops : Array Oper} {rest : List Oper} {o : Oper} {a : Act} {w : World} {Q : Exit → Act → World → Prop}
theorem wv_app (hgd : Region.wanted o (yielded ops a.tmps) = true) (x y : Operand) (ho : o.op = .call { callee := .builtin .append, args := #[x, y], argTypes := #[22, 22] }) {v : Value} (hx : a.eval x = v) {A : Option Addr} {n c : Nat} (hy : a.eval y = .slice A n c) {base k : Nat} {xs ls : List Pk} (hown : Hid (w.ownsRow base 46 2 v k (pcs xs))) (h : Hid (RdP w A n ls)) (hk : Hid ((k + n) * 32 ≤ 140737488355328)) (hb : Hid (base ≤ w.heap.size))
    (hn : ∀ v' w', Hid (w'.ownsRow base 46 2 v' (k + n) (pcs (xs ++ ls))) → Hid (w.grownBy w' v.ownBlock) → wpList Try.prog ops Q rest (a.put o.dst v') w') : wpList Try.prog ops Q (o :: rest) a w :=
  wl_step hgd fun K hK => by
    obtain ⟨v', w', h1, h2, h3⟩ := app_pk hown.out c h.out hk.out hb.out o.type
    have := hK _ _ (hn v' w' (Lib.hid h2) (Lib.hid h3))
    unfold Oper.wp execOp
    simp only [ho, resolve, invoke, builtin, Sem.run_bind, Sem.run_pure, Result.andThen_ok, List.map_toArray, List.map_cons, List.map_nil, hx, hy, h1]
    exact this
end
theorem RdP.rd {w : World} {A : Option Addr} {n : Nat} {ls : List Pk} (h : RdP w A n ls) {x : Pk} (hx : x ∈ ls) : Rd w x.A x.n x.bs ∧ x.n ≤ maxLen := by
  obtain ⟨j, hj⟩ := List.mem_iff_getElem?.1 hx
  have h0 : 0 < n := by rw [← h.1]; exact Nat.lt_of_le_of_lt (Nat.zero_le _) (List.getElem?_eq_some_iff.1 hj).1
  obtain ⟨L, -, hc⟩ := h.2 h0
  exact (hc j x hj).2.2
theorem rdP_own {w : World} {base n : Nat} {v : Value} {ls : List Pk} (h : w.ownsRow base 46 2 v n (pcs ls)) (hb : ∀ x ∈ ls, Rd w x.A x.n x.bs ∧ x.n ≤ maxLen) : ∃ A c, v = .slice A n c ∧ RdP w A n ls := by
  have hl : ls.length = n := by have := h.1; rw [pcs_length] at this; omega
  rcases Nat.eq_zero_or_pos n with h0 | h0
  · subst h0
    rcases h.2 with ⟨rfl, -⟩ | ⟨g, cap, cur, rfl, -⟩
    · exact ⟨none, 0, rfl, hl, fun h => absurd h (by omega)⟩
    · exact ⟨_, cap, rfl, hl, fun h => absurd h (by omega)⟩
  · obtain ⟨g, c, cs, rfl, hB, hr, -⟩ := own_row h h0
    refine ⟨_, c, rfl, hl, fun _ => ⟨_, rfl, fun j x hx => ?_⟩⟩
    obtain ⟨h1, h2⟩ := hr.at_ hx
    obtain ⟨h3, h4⟩ := hb x (List.mem_of_getElem? hx)
    refine ⟨by rw [add_own, hB.cell]; exact h1, ?_, h3, h4⟩
    rw [add_own]
    show w.cell? ⟨g, j * 2 + 1, none⟩ = _
    rw [hB.cell]
    exact h2
/-- whether packets are few -/
def fewP (l : List Pk) : Bool := l.all (fun x => decide (x.n ≤ 1000))
theorem few_iff {l : List Pk} : fewP l = true ↔ ∀ x ∈ l, x.n ≤ 1000 := by unfold fewP; rw [List.all_eq_true]; simp
theorem few_no {l : List Pk} {x : Pk} (hx : x ∈ l) (h : ¬ x.n ≤ 1000) : fewP l = false := by
  cases hf : fewP l with
  | false => rfl
  | true => exact absurd (few_iff.1 hf x hx) h
theorem app_zero {w : World} {B n : Nat} {v : Value} {ls : List Pk} (h : w.ownsRow B 46 2 v (0 + n) (pcs ([] ++ ls))) : w.ownsRow B 46 2 v n (pcs ls) := by rwa [Nat.zero_add, List.nil_append] at h
theorem app_sum {w : World} {B n n2 N : Nat} {v : Value} {ls : List Pk} (h : w.ownsRow B 46 2 v (n + n2) (pcs ls)) (hN : n + n2 = N) : w.ownsRow B 46 2 v N (pcs ls) := by rwa [hN] at h
theorem rd_both {w : World} {A A2 : Option Addr} {n n2 : Nat} {ls lp : List Pk} (h : RdP w A n ls) (h2 : RdP w A2 n2 lp) : ∀ x ∈ ls ++ lp, Rd w x.A x.n x.bs ∧ x.n ≤ maxLen := fun x hx => by
  rcases List.mem_append.1 hx with hx | hx
  · exact h.rd hx
  · exact h2.rd hx
set_option maxRecDepth 100000 in
set_option maxHeartbeats 4000000 in
theorem few_any (on : Bool) (nx dp dr : Int) (A : Option Addr) (n c : Nat) (ls : List Pk) (A2 : Option Addr) (n2 c2 : Nat) (lp : List Pk) (w : World) (h : Hid (RdP w A n ls)) (h2 : Hid (RdP w A2 n2 lp)) (hb : Hid ((n + n2) * 32 ≤ 140737488355328)) :
    Calls Try.prog 9 #[jtV on nx dp dr A n c, .slice A2 n2 c2] w (ValQ w (.bool (fewP (ls ++ lp) && decide (n ≤ 100) && decide (n2 ≤ 100)))) := by
  have HM := Lib.hid (MV.start w)
  obtain ⟨b, hbv⟩ : ∃ b, b = (fewP (ls ++ lp) && decide (n ≤ 100) && decide (n2 ≤ 100)) := ⟨_, rfl⟩
  rw [← hbv]
  have HBV := Lib.hid hbv
  clear hbv
  obtain ⟨N, hN⟩ : ∃ N, n + n2 = N := ⟨_, rfl⟩
  have HNN := Lib.hid hN
  clear hN
  have HBA := Lib.hid (show (0 + n) * 32 ≤ 140737488355328 by have := hb.out; omega)
  go_enter Try.func9, Try.ntmps9
  go_wp2_with (first | (first | (refine jL ?_) | (refine jS ?_; clear HM; intro us HM; simp only [List.set, List.setIfInBounds_toArray, List.set_cons_zero, List.set_cons_succ] at HM) | (refine jN ?_; first | (have q : dV HM = 0 := rfl; clear q HM; intro g1 u1 HG1 HM) | (have q : dV HM = 1 := rfl; clear q HM; intro g2 u2 HG2 HM) | (have q : dV HM = 2 := rfl; clear q HM; intro g3 u3 HG3 HM) | (have q : dV HM = 3 := rfl; clear q HM; intro g4 u4 HG4 HM) | (have q : dV HM = 4 := rfl; clear q HM; intro g5 u5 HG5 HM) | (have q : dV HM = 5 := rfl; clear q HM; intro g6 u6 HG6 HM) | (have q : dV HM = 6 := rfl; clear q HM; intro g7 u7 HG7 HM) | (have q : dV HM = 7 := rfl; clear q HM; intro g8 u8 HG8 HM) | (have q : dV HM = 8 := rfl; clear q HM; intro g9 u9 HG9 HM) | (have q : dV HM = 9 := rfl; clear q HM; intro g10 u10 HG10 HM) | (have q : dV HM = 10 := rfl; clear q HM; intro g11 u11 HG11 HM) | (have q : dV HM = 11 := rfl; clear q HM; intro g12 u12 HG12 HM) | (have q : dV HM = 12 := rfl; clear q HM; intro g13 u13 HG13 HM) | (have q : dV HM = 13 := rfl; clear q HM; intro g14 u14 HG14 HM))) | (refine wv_app (by rfl) _ _ rfl (v := .slice none 0 0) rfl rfl (base := w.heap.size) (k := 0) (xs := []) (Lib.hid ⟨rfl, .inl ⟨rfl, rfl⟩⟩) (Lib.hid (h.out.keep HM.out.1)) HBA (Lib.hid HM.out.1.size) ?_; intro v1 w1 HOA HGA; have HO1 := Lib.hid (app_zero HOA.out); have HM2 := Lib.hid (HM.out.grown HGA.out (fun kk hkk => by cases hkk)); clear HM HOA HGA; have HM := HM2; clear HM2) | (refine wv_app (by rfl) _ _ rfl (v := v1) rfl rfl HO1 (Lib.hid (h2.out.keep HM.out.1)) hb (Lib.hid HM.out.1.size) ?_; intro v2 w2 HO2 HGB; have HM2 := Lib.hid (HM.out.grown HGB.out (fun kk hkk => ⟨(HO1.out.lt kk hkk).1, fun e he => fun e' => own_ne HO1.out (HM.out.get (g := g1) (by exact vmemOf)) (by decide) (hkk.trans (congrArg some (e'.symm.trans (congrArg Prod.fst (List.mem_singleton.1 he)))))⟩)); clear HM HO1 HGB; have HM := HM2; clear HM2; obtain ⟨A3, c3, rfl, hr3⟩ := rdP_own (app_sum HO2.out HNN.out) (rd_both (h.out.keep HM.out.1) (h2.out.keep HM.out.1)); have HRX := Lib.hid hr3; clear hr3 HO2))
  have HNB := Lib.hid (show N ≤ 4398046511104 by have := hb.out; have := HNN.out; omega)
  have HSZ := Lib.hid (show n ≤ 4398046511104 ∧ n2 ≤ 4398046511104 by have := hb.out; omega)
  clear HBA hb h h2 HNN
  obtain ⟨lst, hlst⟩ : ∃ lst, lst = ls ++ lp := ⟨_, rfl⟩
  rw [← hlst] at HRX HBV
  clear hlst
  go_loopw [13] (fun vi wr => ∃ k : Nat, vi = .int .i64 (k : Int) ∧ k ≤ N ∧ Hid (∀ j x, j < k → lst[j]? = some x → x.n ≤ 1000) ∧ Hid (Below w2.heap.size w2 wr) ∧ Hid (MV w wr [(g1, 24, #[.bool on, .int .i64 nx, .int .i64 dp, .int .i64 dr, .slice A n c])] wr)) (fun vi _ => N - (intOf vi).toNat)
  case atStart => exact ⟨0, rfl, by omega, Lib.hid (fun j x hj => absurd hj (by omega)), Lib.hid (Below.refl _ _), HM⟩
  case round =>
    clear HM
    obtain ⟨k, rfl, hk, HK, HBW, HM⟩ := hrel
    have hN9 : (N : Int) ≤ 4398046511104 := by have := HNB.out; omega
    by_cases hlt : k < N
    · have kn : (k : Int) < (N : Int) := by omega
      obtain ⟨L, x, rfl, hL, hx, c0, c1, -, hxm⟩ := (HRX.out.keep HBW.out).at_ hlt
      have hL2 : (L.add (k * 2)).block < wr.heap.size := by rw [block_of_add]; exact hL
      have HX := Lib.hid hx
      have HXM := Lib.hid hxm
      have HM0 := HM
      clear hx hxm
      by_cases hx9 : x.n ≤ 1000
      · have hx8 : (x.n : Int) ≤ 1000 := by omega
        have HX9 := Lib.hid hx9
        clear hx9
        go_wp2_with (first | (refine jL ?_) | (refine jS ?_; clear HM; intro us HM; simp only [List.set, List.setIfInBounds_toArray, List.set_cons_zero, List.set_cons_succ] at HM) | (refine jN ?_; first | (have q : dV HM = 0 := rfl; clear q HM; intro g1 u1 HG1 HM) | (have q : dV HM = 1 := rfl; clear q HM; intro g2 u2 HG2 HM) | (have q : dV HM = 2 := rfl; clear q HM; intro g3 u3 HG3 HM) | (have q : dV HM = 3 := rfl; clear q HM; intro g4 u4 HG4 HM) | (have q : dV HM = 4 := rfl; clear q HM; intro g5 u5 HG5 HM) | (have q : dV HM = 5 := rfl; clear q HM; intro g6 u6 HG6 HM) | (have q : dV HM = 6 := rfl; clear q HM; intro g7 u7 HG7 HM) | (have q : dV HM = 7 := rfl; clear q HM; intro g8 u8 HG8 HM) | (have q : dV HM = 8 := rfl; clear q HM; intro g9 u9 HG9 HM) | (have q : dV HM = 9 := rfl; clear q HM; intro g10 u10 HG10 HM) | (have q : dV HM = 10 := rfl; clear q HM; intro g11 u11 HG11 HM) | (have q : dV HM = 11 := rfl; clear q HM; intro g12 u12 HG12 HM) | (have q : dV HM = 12 := rfl; clear q HM; intro g13 u13 HG13 HM) | (have q : dV HM = 13 := rfl; clear q HM; intro g14 u14 HG14 HM)))
        have HBU := Lib.hid (HM0.out.same HM.out HG2.out)
        go_roundw
        case rel =>
          refine ⟨k + 1, by first | rfl | go_num, by omega, Lib.hid fun j y hj hy => ?_, Lib.hid (HBW.out.trans (HBU.out.mono HBW.out.size)), Lib.hid (HM.out.sub (List.sublist_cons_self _ _)).base⟩
          by_cases hjk : j < k
          · exact HK.out j y hjk hy
          · obtain rfl : j = k := by omega
            rw [HX.out] at hy
            injection hy with hy
            rw [← hy]
            exact HX9.out
        case measure => simp [intOf]; omega
      · have hx8 : (1000 : Int) < (x.n : Int) := by omega
        have HV := Lib.hid (show b = false by rw [HBV.out, few_no (List.mem_of_getElem? HX.out) hx9]; rfl)
        clear hx9
        go_wp2_with (first | (refine jL ?_) | (refine jS ?_; clear HM; intro us HM; simp only [List.set, List.setIfInBounds_toArray, List.set_cons_zero, List.set_cons_succ] at HM) | (refine jN ?_; first | (have q : dV HM = 0 := rfl; clear q HM; intro g1 u1 HG1 HM) | (have q : dV HM = 1 := rfl; clear q HM; intro g2 u2 HG2 HM) | (have q : dV HM = 2 := rfl; clear q HM; intro g3 u3 HG3 HM) | (have q : dV HM = 3 := rfl; clear q HM; intro g4 u4 HG4 HM) | (have q : dV HM = 4 := rfl; clear q HM; intro g5 u5 HG5 HM) | (have q : dV HM = 5 := rfl; clear q HM; intro g6 u6 HG6 HM) | (have q : dV HM = 6 := rfl; clear q HM; intro g7 u7 HG7 HM) | (have q : dV HM = 7 := rfl; clear q HM; intro g8 u8 HG8 HM) | (have q : dV HM = 8 := rfl; clear q HM; intro g9 u9 HG9 HM) | (have q : dV HM = 9 := rfl; clear q HM; intro g10 u10 HG10 HM) | (have q : dV HM = 10 := rfl; clear q HM; intro g11 u11 HG11 HM) | (have q : dV HM = 11 := rfl; clear q HM; intro g12 u12 HG12 HM) | (have q : dV HM = 12 := rfl; clear q HM; intro g13 u13 HG13 HM) | (have q : dV HM = 13 := rfl; clear q HM; intro g14 u14 HG14 HM)))
        go_ret
        exact ⟨by rw [HV.out]; rfl, HM.out.1⟩
    · obtain rfl : k = N := by omega
      have HV := Lib.hid (show fewP lst = true from few_iff.2 fun x hx => by
        obtain ⟨j, hj⟩ := List.mem_iff_getElem?.1 hx
        exact HK.out j x (by rw [← HRX.out.1]; exact (List.getElem?_eq_some_iff.1 hj).1) hj)
      have hn9 : (n : Int) ≤ 4398046511104 := by have := HSZ.out.1; omega
      have hn8 : (n2 : Int) ≤ 4398046511104 := by have := HSZ.out.2; omega
      by_cases hq : n ≤ 100
      · have hq8 : (n : Int) ≤ 100 := by omega
        have HB1 := Lib.hid (show b = decide ((n2 : Int) ≤ 100) by
          rw [HBV.out, HV.out, decide_eq_true hq, Bool.true_and, Bool.true_and]
          refine decide_eq_decide.2 ?_
          omega)
        clear hq
        go_wp2_with (first | (refine jL ?_) | (refine jS ?_; clear HM; intro us HM; simp only [List.set, List.setIfInBounds_toArray, List.set_cons_zero, List.set_cons_succ] at HM) | (refine jN ?_; first | (have q : dV HM = 0 := rfl; clear q HM; intro g1 u1 HG1 HM) | (have q : dV HM = 1 := rfl; clear q HM; intro g2 u2 HG2 HM) | (have q : dV HM = 2 := rfl; clear q HM; intro g3 u3 HG3 HM) | (have q : dV HM = 3 := rfl; clear q HM; intro g4 u4 HG4 HM) | (have q : dV HM = 4 := rfl; clear q HM; intro g5 u5 HG5 HM) | (have q : dV HM = 5 := rfl; clear q HM; intro g6 u6 HG6 HM) | (have q : dV HM = 6 := rfl; clear q HM; intro g7 u7 HG7 HM) | (have q : dV HM = 7 := rfl; clear q HM; intro g8 u8 HG8 HM) | (have q : dV HM = 8 := rfl; clear q HM; intro g9 u9 HG9 HM) | (have q : dV HM = 9 := rfl; clear q HM; intro g10 u10 HG10 HM) | (have q : dV HM = 10 := rfl; clear q HM; intro g11 u11 HG11 HM) | (have q : dV HM = 11 := rfl; clear q HM; intro g12 u12 HG12 HM) | (have q : dV HM = 12 := rfl; clear q HM; intro g13 u13 HG13 HM) | (have q : dV HM = 13 := rfl; clear q HM; intro g14 u14 HG14 HM)))
        go_ret
        exact ⟨by rw [HB1.out]; rfl, HM.out.1⟩
      · have hq8 : (100 : Int) < (n : Int) := by omega
        have HB1 := Lib.hid (show b = false by rw [HBV.out, HV.out, decide_eq_false hq]; rfl)
        clear hq
        go_wp2_with (first | (refine jL ?_) | (refine jS ?_; clear HM; intro us HM; simp only [List.set, List.setIfInBounds_toArray, List.set_cons_zero, List.set_cons_succ] at HM) | (refine jN ?_; first | (have q : dV HM = 0 := rfl; clear q HM; intro g1 u1 HG1 HM) | (have q : dV HM = 1 := rfl; clear q HM; intro g2 u2 HG2 HM) | (have q : dV HM = 2 := rfl; clear q HM; intro g3 u3 HG3 HM) | (have q : dV HM = 3 := rfl; clear q HM; intro g4 u4 HG4 HM) | (have q : dV HM = 4 := rfl; clear q HM; intro g5 u5 HG5 HM) | (have q : dV HM = 5 := rfl; clear q HM; intro g6 u6 HG6 HM) | (have q : dV HM = 6 := rfl; clear q HM; intro g7 u7 HG7 HM) | (have q : dV HM = 7 := rfl; clear q HM; intro g8 u8 HG8 HM) | (have q : dV HM = 8 := rfl; clear q HM; intro g9 u9 HG9 HM) | (have q : dV HM = 9 := rfl; clear q HM; intro g10 u10 HG10 HM) | (have q : dV HM = 10 := rfl; clear q HM; intro g11 u11 HG11 HM) | (have q : dV HM = 11 := rfl; clear q HM; intro g12 u12 HG12 HM) | (have q : dV HM = 12 := rfl; clear q HM; intro g13 u13 HG13 HM) | (have q : dV HM = 13 := rfl; clear q HM; intro g14 u14 HG14 HM)))
        go_ret
        exact ⟨by rw [HB1.out]; rfl, HM.out.1⟩
end Go.Proofs.Ytffapinabidkiaa.Lp
