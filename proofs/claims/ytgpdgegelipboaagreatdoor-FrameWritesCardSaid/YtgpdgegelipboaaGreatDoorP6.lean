/-
  Own texts, laid together: Jb, Jf, Yn, Yf, Yj, Ys, Yl, Ym, Yo, Je, Yk.
-/
import Derived.Test.YtgpdgegelipboaaGreatDoorP5
set_option linter.unusedSimpArgs false
set_option linter.unusedVariables false
set_option maxRecDepth 100000
namespace Go.Proofs.YtgpdgegelipboaaGreatDoor.Cd
open Go.RowKit
def FrB (w : World) (A : Option Addr) (n : Nat) (bs : List Nat) (w' : World) : Prop := n = 0 ∨ ∃ g, A = some ⟨g, 0, none⟩ ∧ w.heap.size ≤ g ∧ bs.length = n ∧ Blk w' g 5 (bcells bs)
theorem FrB.five {w u : World} {A : Option Addr} {n br : Nat} {bs : List Nat} (h : FrB w A n bs u) (hb : br < w.heap.size) (x0 x1 x2 x3 x4 : Value) : FrB w A n bs (((((u.setCell ⟨br, 0, none⟩ x0).setCell ⟨br, 1, none⟩ x1).setCell ⟨br, 2, none⟩ x2).setCell ⟨br, 3, none⟩ x3).setCell ⟨br, 4, none⟩ x4) := by
  rcases h with h | ⟨g, e, hg, hl, hB⟩
  · exact .inl h
  · have hn : ∀ i, g ≠ (⟨br, i, none⟩ : Addr).block := fun i => by show g ≠ br; omega
    exact .inr ⟨g, e, hg, hl, ((((hB.far (hn 0) x0).far (hn 1) x1).far (hn 2) x2).far (hn 3) x3).far (hn 4) x4⟩
theorem FrB.mono {w w0 u : World} {A : Option Addr} {n : Nat} {bs : List Nat} (h : FrB w A n bs u) (hb : w0.heap.size ≤ w.heap.size) : FrB w0 A n bs u := by
  rcases h with h | ⟨g, e, hg, hl, hB⟩
  · exact .inl h
  · exact .inr ⟨g, e, Nat.le_trans hb hg, hl, hB⟩
theorem FrB.next {w u u' : World} {A : Option Addr} {n : Nat} {bs : List Nat} (h : FrB w A n bs u) (hb : Below u.heap.size u u') : FrB w A n bs u' := by
  rcases h with h | ⟨g, e, hg, hl, hB⟩
  · exact .inl h
  · exact .inr ⟨g, e, hg, hl, hB.below hb hB.lt⟩
def EOutF (w : World) (lo hi : Nat) (wt N E : Int) (bs : List Nat) (e : Ending) (w' : World) : Prop :=
  ∃ A n c, e = .returned (.tuple #[encV lo hi wt A n c N, .int .i64 E]) ∧ Below w.heap.size w w' ∧ Rd w' A n bs ∧ FrB w A n bs w'
theorem EOutF.err {w w' : World} {E : Int} (hb : Below w.heap.size w w') : EOutF w 0 0 0 0 E [] (.returned (.tuple #[encV 0 0 0 none 0 0 0, .int .i64 E])) w' := ⟨none, 0, 0, rfl, hb, Rd.none_, .inl rfl⟩
theorem PutS.base {w w' u : World} {be bf br : Nat} {low high : Nat} {wt : Int} {A C : Option Addr} {n c m d : Nat} {N : Int} {bs : List Nat} {xs : List Int} (h : PutS w u be bf br low high wt A C n c m d N bs xs) (hb : Below u.heap.size u w') : PutS w w' be bf br low high wt A C n c m d N bs xs := h.next hb
end Go.Proofs.YtgpdgegelipboaaGreatDoor.Cd
namespace Go.Proofs.YtgpdgegelipboaaGreatDoor.Cd
open Go.RowKit
theorem rbegin_any (w : World) : Calls Tryz.prog 47 #[] w fun e w' => e = .returned (encV 0 4294967295 0 none 0 0 0) ∧ Below w.heap.size w w' := by
  go_enter Tryz.func47, Tryz.ntmps47
  go_wp2
  exact bodyPost_ret (v := encV 0 4294967295 0 none 0 0 0) (by simp [results, Tryz.results47, go_sem, encV]) rfl ⟨rfl, by
    first
    | exact (Below.refl w.heap.size w).alloc (Nat.le_refl _) _
    | exact below5 ((Below.refl w.heap.size w).alloc (Nat.le_refl _) _) (Nat.le_refl _) _ _ _ _ _⟩
theorem mk_isB {l : List Bool} (hl : l.length ≤ 65536) {w : World} {A : Option Addr} {n : Nat} (c : Nat) (hr : Rd w A n (pack l)) : IsB w (.agg #[.slice A n c, .int .i64 ((l.length : Nat) : Int)]) l := by
  obtain ⟨h1, h2⟩ := hr
  subst h1
  exact ⟨A, c, rfl, ⟨rfl, h2⟩, hl⟩
end Go.Proofs.YtgpdgegelipboaaGreatDoor.Cd
namespace Go.Proofs.YtgpdgegelipboaaGreatDoor.Cd
open Go.RowKit
theorem widD_at (m : Nat) {l : List Bool} : ∀ {d : De}, Ok d.low d.high → d.low ≤ d.code → d.code ≤ d.high → ∃ k, (widD m l d).at_ = d.at_ + k ∧ (widD m l d).high - (widD m l d).low + 1 = (d.high - d.low + 1) * 2 ^ k := by
  induction m with
  | zero => intro d _ _ _; exact ⟨0, rfl, by simp [widD]⟩
  | succ m ih =>
    intro d hok h1 h2
    unfold widD
    by_cases hk : kind d.low d.high = 3
    · rw [if_pos hk]; exact ⟨0, rfl, by simp⟩
    · rw [if_neg hk]
      obtain ⟨_, b1, b2, b3, b4, b5⟩ := stepD_facts (l := l) hok hk h1 h2
      obtain ⟨k, e1, e2⟩ := ih (d := stepD l d) ⟨b5, b3⟩ b1 b2
      refine ⟨k + 1, ?_, ?_⟩
      · rw [e1]; show d.at_ + 1 + k = _; omega
      · rw [e2, b4, Nat.pow_succ, Nat.mul_comm 2 (d.high - d.low + 1), Nat.mul_assoc, Nat.mul_comm 2]
theorem nxE_at {l : List Bool} {d : De} {xs : List Int} (h : FineD d) (ho : Fq.okF xs = true) : d.at_ ≤ (nxE l d xs).at_ ∧ (nxE l d xs).at_ ≤ d.at_ + 16 := by
  obtain ⟨_, h1, h2, h3, _⟩ := next_sym h ho
  have hS := (symP_of h1).2.2.2
  obtain ⟨n1, n2, n3, _⟩ := narD_in h hS h2 h3
  obtain ⟨k, e1, e2⟩ := widD_at 40 (l := l) n3 n1 n2
  have hf := (nxE_fine (l := l) h ho).1
  obtain ⟨_, w2⟩ := fineD_wid hf
  have e1' : (nxE l d xs).at_ = d.at_ + k := e1
  have e2' : (nxE l d xs).high - (nxE l d xs).low + 1 = ((narD d (spA (nxQ d xs)) (spB (nxQ d xs)) (spT xs)).high - (narD d (spA (nxQ d xs)) (spB (nxQ d xs)) (spT xs)).low + 1) * 2 ^ k := e2
  obtain ⟨w1, _⟩ := fineD_wid h
  obtain ⟨p1, p2, p3⟩ := nar_parts hS (W := d.high - d.low + 1) (by omega)
  have hwid : (narD d (spA (nxQ d xs)) (spB (nxQ d xs)) (spT xs)).high - (narD d (spA (nxQ d xs)) (spB (nxQ d xs)) (spT xs)).low + 1 = (d.high - d.low + 1) * spB (nxQ d xs) / spT xs - (d.high - d.low + 1) * spA (nxQ d xs) / spT xs := by
    show d.low + (d.high - d.low + 1) * spB (nxQ d xs) / spT xs - 1 - (d.low + (d.high - d.low + 1) * spA (nxQ d xs) / spT xs) + 1 = _
    have p1' : (d.high - d.low + 1) * spA (nxQ d xs) / spT xs < (d.high - d.low + 1) * spB (nxQ d xs) / spT xs := p1
    omega
  have hlow : 65536 ≤ (d.high - d.low + 1) * (spB (nxQ d xs) - spA (nxQ d xs)) / spT xs := by
    have hT : 0 < spT xs := (okF_tot ho).1
    rw [Nat.le_div_iff_mul_le hT]
    have t2 := (okF_tot ho).2.1
    have ab : spA (nxQ d xs) < spB (nxQ d xs) := hS.1
    have h5 : (d.high - d.low + 1) * 1 ≤ (d.high - d.low + 1) * (spB (nxQ d xs) - spA (nxQ d xs)) := Nat.mul_le_mul_left _ (by omega)
    have h6 : 65536 * spT xs ≤ 65536 * 16384 := Nat.mul_le_mul_left _ t2
    omega
  have p3' : (d.high - d.low + 1) * (spB (nxQ d xs) - spA (nxQ d xs)) / spT xs ≤ (d.high - d.low + 1) * spB (nxQ d xs) / spT xs - (d.high - d.low + 1) * spA (nxQ d xs) / spT xs := p3
  have h7 : 65536 * 2 ^ k ≤ 4294967296 := by
    rw [e2', hwid] at w2
    exact Nat.le_trans (Nat.mul_le_mul_right _ (by omega)) w2
  have h8 : 2 ^ k ≤ 2 ^ 16 := by
    have : (2 : Nat) ^ 16 = 65536 := by decide
    omega
  have h9 : k ≤ 16 := (Nat.pow_le_pow_iff_right (by omega)).1 h8
  omega
structure BjR (w : World) (B b2 b6 : Nat) (l : List Bool) (N k : Nat) (fs : List (List Int)) (v8 : Value) (u : World) : Prop where
  box : ∃ A7 n7 c7, Blk u b6 68 #[.int .u32 ((stD l (d0 l) (fs.take k)).low : Int), .int .u32 ((stD l (d0 l) (fs.take k)).high : Int), .int .u32 ((stD l (d0 l) (fs.take k)).code : Int), .slice A7 n7 c7, .int .i64 (N : Int), .int .i64 ((stD l (d0 l) (fs.take k)).at_ : Int)] ∧ Rd u A7 n7 (pack l)
  row : u.ownsRow B 3 1 v8 k (((symL l (d0 l) fs).take k).map fun x => Value.int .i64 x)
  fine : FineD (stD l (d0 l) (fs.take k))
  far : (stD l (d0 l) (fs.take k)).at_ ≤ N + 48
  near : 32 ≤ (stD l (d0 l) (fs.take k)).at_
  err : backErr l (d0 l) fs = backErr l (stD l (d0 l) (fs.take k)) (fs.drop k)
  lt6 : b6 < B
  h6 : w.heap.size ≤ b6
  hBu : B ≤ u.heap.size
  blw : Below w.heap.size w u
theorem row_belowC {w w' : World} {b n : Nat} {v : Value} {xs : List Value} (h : w.ownsRow b 3 1 v n xs) (hb : Below w.heap.size w w') : w'.ownsRow b 3 1 v n xs :=
  World.ownsRow.kept h (only_of_below hb none) (by cases hv : v.ownBlock with | none => exact .inl rfl | some k => exact .inr (by simp))
section
variable {w : World} {B b2 b6 : Nat} {l : List Bool} {N k : Nat} {fs : List (List Int)} {v8 v' : Value} {u u' : World}
theorem BjR.next (h : BjR w B b2 b6 l N k fs v8 u) (hb : Below u.heap.size u u') : BjR w B b2 b6 l N k fs v8 u' := by
  obtain ⟨A7, n7, c7, h1, h2⟩ := h.box
  exact ⟨⟨A7, n7, c7, h1.below hb h1.lt, h2.below hb⟩, row_belowC h.row hb, h.fine, h.far, h.near, h.err, h.lt6, h.h6, Nat.le_trans h.hBu hb.size, h.blw.trans (hb.mono h.blw.size)⟩
theorem BjR.step {xs : List Int} {A9 : Option Addr} {n9 c9 : Nat} {o o2 : Obj} (h : BjR w B b2 b6 l N k fs v8 u) (hN : N = l.length) (hx : fs[k]? = some xs) (hd : fs.drop k = xs :: fs.drop (k + 1)) (ht : fs.take (k + 1) = fs.take k ++ [xs]) (ho : Fq.okF xs = true) (ha : (stD l (d0 l) (fs.take k)).at_ ≤ N + 32) (hr : Rd u A9 n9 (pack l)) (hsep : ∀ ad, A9 = some ad → 0 < n9 → v8.ownBlock ≠ some ad.block)
    (hg : ((((((((u.setCell ⟨b6, 0, none⟩ (.int .u32 ((nxE l (stD l (d0 l) (fs.take k)) xs).low : Int))).setCell ⟨b6, 1, none⟩ (.int .u32 ((nxE l (stD l (d0 l) (fs.take k)) xs).high : Int))).setCell ⟨b6, 2, none⟩ (.int .u32 ((nxE l (stD l (d0 l) (fs.take k)) xs).code : Int))).setCell ⟨b6, 3, none⟩ (.slice A9 n9 c9)).setCell ⟨b6, 4, none⟩ (.int .i64 (N : Int))).setCell ⟨b6, 5, none⟩ (.int .i64 ((nxE l (stD l (d0 l) (fs.take k)) xs).at_ : Int))).alloc o).alloc o2).grownBy u' v8.ownBlock)
    (hown : u'.ownsRow B 3 1 v' (k + 1) (((symL l (d0 l) fs).take k).map (fun x => Value.int .i64 x) ++ [.int .i64 ((nxK (stD l (d0 l) (fs.take k)) xs : Nat) : Int)])) : BjR w B b2 b6 l N (k + 1) fs v' u' := by
  obtain ⟨A7, n7, c7, h1, h2⟩ := h.box
  obtain ⟨f1, f2⟩ := nxE_fine (l := l) h.fine ho
  obtain ⟨f3, f4⟩ := nxE_at (l := l) h.fine ho
  have hb6 := (((((h1.set_ 0 (.int .u32 ((nxE l (stD l (d0 l) (fs.take k)) xs).low : Int))).set_ 1 (.int .u32 ((nxE l (stD l (d0 l) (fs.take k)) xs).high : Int))).set_ 2 (.int .u32 ((nxE l (stD l (d0 l) (fs.take k)) xs).code : Int))).set_ 3 (.slice A9 n9 c9)).set_ 4 (.int .i64 (N : Int))).set_ 5 (.int .i64 ((nxE l (stD l (d0 l) (fs.take k)) xs).at_ : Int))
  have hr6 := rd_six hr h1 (.int .u32 ((nxE l (stD l (d0 l) (fs.take k)) xs).low : Int)) (.int .u32 ((nxE l (stD l (d0 l) (fs.take k)) xs).high : Int)) (.int .u32 ((nxE l (stD l (d0 l) (fs.take k)) xs).code : Int)) (.slice A9 n9 c9) (.int .i64 (N : Int)) (.int .i64 ((nxE l (stD l (d0 l) (fs.take k)) xs).at_ : Int))
  have hne : v8.ownBlock ≠ some b6 := fun e => by have := (h.row.lt b6 e).1; have := h.lt6; omega
  refine ⟨?_, ?_, ?_, ?_, ?_, ?_, h.lt6, h.h6, ?_, ?_⟩
  · rw [ht, stD_snoc]
    refine ⟨A9, n9, c9, ((Blk.alloc hb6 o).alloc o2).row hg hne, ?_⟩
    have hr7 := (hr6.alloc o).alloc o2
    refine ⟨hr7.1, hr7.2.1, fun hn => ?_⟩
    obtain ⟨ad, e, hc⟩ := hr7.2.2 hn
    refine ⟨ad, e, fun j x hx => ?_⟩
    refine hg.cell (hc j x hx) ?_
    rw [block_of_add]
    exact fun e2 => hsep ad e hn e2.symm
  · rw [symL_take l (d0 l) fs k xs hx, List.map_append]; exact hown
  · rw [ht, stD_snoc]; exact f1
  · rw [ht, stD_snoc]; omega
  · rw [ht, stD_snoc]; have := h.near; omega
  · rw [h.err, hd, backErr_ok ho (by omega), ht, stD_snoc]
  · have h9 := hg.size; have := h.hBu; simp at h9; omega
  · refine Below.grown (((below6 h.blw h.h6 _ _ _ _ _ _).alloc (below6 h.blw h.h6 _ _ _ _ _ _).size o).alloc ((below6 h.blw h.h6 _ _ _ _ _ _).alloc (below6 h.blw h.h6 _ _ _ _ _ _).size o).size o2) hg ?_ (fun j hj => ?_)
    · have := h.blw.size; simp; omega
    · have := (h.row.lt j hj).1; have := h.lt6; have := h.h6; omega
theorem BjR.rd (h : BjR w B b2 b6 l N k fs v8 u) (hk : k = fs.length) : ∃ A c, v8 = .slice A k c ∧ Fq.RdI u A k (symL l (d0 l) fs) := by
  have hl : (symL l (d0 l) fs).length = k := by rw [symL_length, hk]
  rcases h.row.2 with ⟨rfl, h0⟩ | ⟨g, cap, cur, rfl, hb, _⟩
  · refine ⟨none, 0, by rw [h0], hl, fun hn => absurd hn (by omega)⟩
  · refine ⟨_, cap, rfl, hl, fun _ => ⟨_, rfl, fun j x hx => ?_⟩⟩
    refine World.ownsRow.cells h.row (g := g) rfl j _ ?_
    rw [List.take_of_length_le (by omega), List.getElem?_map, hx]
    rfl
end
end Go.Proofs.YtgpdgegelipboaaGreatDoor.Cd
namespace Go.Proofs.YtgpdgegelipboaaGreatDoor.Yr
open Go.RowKit Cd
open Lp (tab tab_getD tab_length chkL msL mayB)
structure GuD (l : List Bool) (N : Nat) (fs : List (List Int)) (k : Nat) (D : De) : Prop where
  is : D = stD l (d0 l) (fs.take k)
  fine : FineD D
  far : D.at_ ≤ N + 48
  near : 32 ≤ D.at_
  err : backErr l (d0 l) fs = backErr l D (fs.drop k)
theorem GuD.zero (l : List Bool) (N : Nat) (fs : List (List Int)) : GuD l N fs 0 (d0 l) := ⟨rfl, fineD0 l, by show (32 : Nat) ≤ N + 48; omega, by show (32 : Nat) ≤ 32; omega, rfl⟩
theorem GuD.step {l : List Bool} {N : Nat} {fs : List (List Int)} {k : Nat} {D : De} (h : GuD l N fs k D) {xs : List Int} (hx : fs[k]? = some xs) (ho : Fq.okF xs = true) (hN : l.length = N) (ha : D.at_ ≤ N + 32) : GuD l N fs (k + 1) (nxE l D xs) := by
  obtain ⟨hk, e⟩ := List.getElem?_eq_some_iff.1 hx
  have ht : fs.take (k + 1) = fs.take k ++ [xs] := by rw [List.take_succ_eq_append_getElem hk, e]
  have hd : fs.drop k = xs :: fs.drop (k + 1) := by rw [List.drop_eq_getElem_cons hk, e]
  obtain ⟨f1, f2⟩ := nxE_fine (l := l) h.fine ho
  obtain ⟨f3, f4⟩ := nxE_at (l := l) h.fine ho
  have := h.near
  refine ⟨by rw [ht, stD_snoc, ← h.is], f1, by omega, by omega, ?_⟩
  rw [h.err, hd, backErr_ok ho (by omega)]
theorem GuD.short {l : List Bool} {N : Nat} {fs : List (List Int)} {k : Nat} {D : De} (h : GuD l N fs k D) {xs : List Int} (hx : fs[k]? = some xs) (ho : Fq.okF xs = true) (hN : l.length = N) (ha : ¬ D.at_ ≤ N + 32) : ¬ backErr l (d0 l) fs = 0 := by
  obtain ⟨hk, e⟩ := List.getElem?_eq_some_iff.1 hx
  have hd : fs.drop k = xs :: fs.drop (k + 1) := by rw [List.drop_eq_getElem_cons hk, e]
  rw [h.err, hd, backErr_short ho (by omega)]
  decide
theorem GuD.all {l : List Bool} {N : Nat} {fs : List (List Int)} {k : Nat} {D : De} (h : GuD l N fs k D) (hk : fs.length ≤ k) : backErr l (d0 l) fs = 0 := by
  rw [h.err, List.drop_of_length_le hk]; rfl
theorem GuD.more {l : List Bool} {N : Nat} {fs : List (List Int)} {k : Nat} {D : De} (h : GuD l N fs k D) (gs : List (List Int)) (hk : k = fs.length) : GuD l N (fs ++ gs) k D := by
  refine ⟨?_, h.fine, h.far, h.near, ?_⟩
  · rw [h.is, List.take_append_of_le_length (by omega)]
  · have e := h.is
    rw [List.take_of_length_le (by omega)] at e
    rw [hk, List.drop_left, e]
    clear e
    have ho : backErr l (d0 l) fs = 0 := h.all (by omega)
    exact back_app l fs gs (d0 l) ho
  where back_app (l : List Bool) : ∀ (fs gs : List (List Int)) (d : De), backErr l d fs = 0 → backErr l d (fs ++ gs) = backErr l (stD l d fs) gs
    | [], _, _, _ => rfl
    | x :: fs, gs, d, h => by
      unfold backErr at h
      rw [List.cons_append]
      conv => lhs; unfold backErr
      by_cases h1 : Fq.okF x = true
      · rw [if_pos h1] at h ⊢
        by_cases h2 : l.length + 32 < d.at_
        · rw [if_pos h2] at h; cases h
        · rw [if_neg h2] at h ⊢
          exact back_app l fs gs _ h
      · rw [if_neg h1] at h; cases h
theorem sym_at (l : List Bool) {fs : List (List Int)} {k : Nat} {xs : List Int} (hx : fs[k]? = some xs) : (symL l (d0 l) fs).getD k 0 = (nxK (stD l (d0 l) (fs.take k)) xs : Int) := by
  obtain ⟨hk, e⟩ := List.getElem?_eq_some_iff.1 hx
  unfold symL
  have e2 : fs.getD k [] = xs := by rw [List.getD_eq_getElem?_getD, hx]; rfl
  simp only [List.getD_eq_getElem?_getD, List.getElem?_map, List.getElem?_range hk, Option.map_some, Option.getD_some]
  rw [← e2, List.getD_eq_getElem?_getD]
theorem nxK_lt {d : De} {xs : List Int} (h : FineD d) (ho : Fq.okF xs = true) : (nxK d xs : Int) < (xs.length : Int) - 1 := by
  have h1 := (next_sym h ho).2.1
  unfold okP Fq.symB nxQ at h1
  rw [ho, Bool.true_and, decide_eq_true_eq] at h1
  exact h1.2
theorem hdT_get (K : Int) {k : Nat} (hk : k < 6) : (hdT K)[k + 1]? = some (tabK K) := by
  unfold hdT
  rw [List.getElem?_cons_succ, List.getElem?_replicate, if_pos hk]
theorem hdT_length (K : Int) : (hdT K).length = 7 := by unfold hdT; rw [List.length_cons, List.length_replicate]
theorem numT_get {hd : List (List Int)} (hh : hd.length = 7) (ms : List Int) {n : Nat} (hn : n < 16) (h : 0 < ms.getD n 0) : (hd ++ numT ms 16)[7 + plc ms n]? = some (smT (ms.getD n 0).toNat) := by
  rw [List.getElem?_append_right (by omega), hh, Nat.add_sub_cancel_left]
  exact go ms 16 n hn h
  where go (ms : List Int) : ∀ (m n : Nat), n < m → 0 < ms.getD n 0 → (numT ms m)[plc ms n]? = some (smT (ms.getD n 0).toNat)
    | m + 1, n, hn, h => by
      rw [numT_succ]
      by_cases e : n = m
      · subst e
        rw [if_pos h, List.getElem?_append_right (by rw [numT_length]; exact Nat.le_refl _), numT_length, Nat.sub_self]
        rfl
      · have h1 : plc ms n < plc ms m := by
          have := plc_mono ms (j := n + 1) (k := m) (by omega)
          rw [plc_succ, if_pos h] at this
          omega
        rw [List.getElem?_append_left (by rw [numT_length]; exact h1)]
        exact go ms m n (by omega) h
end Go.Proofs.YtgpdgegelipboaaGreatDoor.Yr
namespace Go.Proofs.YtgpdgegelipboaaGreatDoor.Lp
open Go.RowKit Fx Fq Tb
open Yr (nearN nearB chkB Fr nearN_succ chkB_iff)
theorem grdHopF : Tryz.prog.eqGuardType Tryz.prog.depth 24 = false := by kernel_rfl
set_option maxHeartbeats 4000000 in
theorem rfc_neg (F : List Int) (K : Int) (l q p : List Int) (w : World) (hF : FrS F K l q) (lp : p.length = 6) (h0 : K < 0) :
    Calls Tryz.prog 12 #[.agg (icells F), .agg (icells p)] w (ValQ w (.int .i64 1)) := by
  have LF := Lib.hid hF.len
  have LL := Lib.hid hF.ll
  have LQ := Lib.hid hF.lq
  have LP := Lib.hid lp
  have CK := Lib.hid (show 0 < F.length ∧ F.getD 0 0 = K from ⟨by rw [hF.len]; decide, hF.k0⟩)
  have SL := Lib.hid hF.lev
  have SQ := Lib.hid hF.num
  have HM := Lib.hid (Mem.start w)
  have t1 : decide (K < 0) = true := decide_eq_true h0
  clear hF lp
  go_enter Tryz.func12, Tryz.ntmps12
  go_wp2_with (first | (first | ((first | refine wl_box rfl _ _ rfl rfl HM ?_ | refine wl_alloc rfl _ rfl (by exact arrOf) HM ?_); first | (have q:dL HM = 0:=rfl;clear q HM;intro g1 u1 HM) | (have q:dL HM = 1:=rfl;clear q HM;intro g2 u2 HM) | (have q:dL HM = 2:=rfl;clear q HM;intro g3 u3 HM) | (have q:dL HM = 3:=rfl;clear q HM;intro g4 u4 HM)) | (refine wl_load rfl _ _ rfl rfl (by exact arrOf) HM (by exact memOf) (by exact lenOf) ?_) | (refine wl_storeM rfl _ _ _ rfl rfl rfl (by exact arrOf) HM (by exact idxOf) (by exact lenOf) (by exact lenOf) ?_; clear HM; intro us HM; dsimp only [List.set] at HM) | (refine wl_zero rfl _ rfl (by exact arrOf) (by kernel_rfl) ?_)) | (refine wl_loadS rfl _ _ rfl rfl (by exact arrOf) HM (by exact memOf) (by exact subF) (by exact lenOf) ?_) | (refine wl_cellF rfl _ rfl rfl HM (by exact memOf) (by exact celF) ?_))
  go_ret
  exact ⟨rfl, HM.out.1⟩
set_option maxHeartbeats 4000000 in
theorem rfc_big (F : List Int) (K : Int) (l q p : List Int) (w : World) (hF : FrS F K l q) (lp : p.length = 6) (h0 : 2 < K) :
    Calls Tryz.prog 12 #[.agg (icells F), .agg (icells p)] w (ValQ w (.int .i64 1)) := by
  have LF := Lib.hid hF.len
  have LL := Lib.hid hF.ll
  have LQ := Lib.hid hF.lq
  have LP := Lib.hid lp
  have CK := Lib.hid (show 0 < F.length ∧ F.getD 0 0 = K from ⟨by rw [hF.len]; decide, hF.k0⟩)
  have SL := Lib.hid hF.lev
  have SQ := Lib.hid hF.num
  have HM := Lib.hid (Mem.start w)
  have h1 : 0 ≤ K := by omega
  have t1 : decide (K < 0) = false := decide_eq_false (by omega)
  have t2 : decide (2 < K) = true := decide_eq_true h0
  clear hF lp
  go_enter Tryz.func12, Tryz.ntmps12
  go_wp2_with (first | (first | ((first | refine wl_box rfl _ _ rfl rfl HM ?_ | refine wl_alloc rfl _ rfl (by exact arrOf) HM ?_); first | (have q:dL HM = 0:=rfl;clear q HM;intro g1 u1 HM) | (have q:dL HM = 1:=rfl;clear q HM;intro g2 u2 HM) | (have q:dL HM = 2:=rfl;clear q HM;intro g3 u3 HM) | (have q:dL HM = 3:=rfl;clear q HM;intro g4 u4 HM)) | (refine wl_load rfl _ _ rfl rfl (by exact arrOf) HM (by exact memOf) (by exact lenOf) ?_) | (refine wl_storeM rfl _ _ _ rfl rfl rfl (by exact arrOf) HM (by exact idxOf) (by exact lenOf) (by exact lenOf) ?_; clear HM; intro us HM; dsimp only [List.set] at HM) | (refine wl_zero rfl _ rfl (by exact arrOf) (by kernel_rfl) ?_)) | (refine wl_loadS rfl _ _ rfl rfl (by exact arrOf) HM (by exact memOf) (by exact subF) (by exact lenOf) ?_) | (refine wl_cellF rfl _ rfl rfl HM (by exact memOf) (by exact celF) ?_))
  go_ret
  exact ⟨rfl, HM.out.1⟩
set_option maxHeartbeats 4000000 in
theorem rfc_l (F : List Int) (K : Int) (l q p : List Int) (w : World) (hF : FrS F K l q) (lp : p.length = 6) (h0 : 0 ≤ K) (h2 : K ≤ 2) (hl : chkL l = false) :
    Calls Tryz.prog 12 #[.agg (icells F), .agg (icells p)] w (ValQ w (.int .i64 1)) := by
  have LF := Lib.hid hF.len
  have LL := Lib.hid hF.ll
  have LQ := Lib.hid hF.lq
  have LP := Lib.hid lp
  have CK := Lib.hid (show 0 < F.length ∧ F.getD 0 0 = K from ⟨by rw [hF.len]; decide, hF.k0⟩)
  have SL := Lib.hid hF.lev
  have SQ := Lib.hid hF.num
  have HM := Lib.hid (Mem.start w)
  have t1 : decide (K < 0) = false := decide_eq_false (by omega)
  have t2 : decide (2 < K) = false := decide_eq_false (by omega)
  have HC := Lib.hid (fun u => rbcheck_any l false 1 u hF.ll hl rfl)
  clear hF lp hl
  go_enter Tryz.func12, Tryz.ntmps12
  go_wp2_with (first | (first | ((first | refine wl_box rfl _ _ rfl rfl HM ?_ | refine wl_alloc rfl _ rfl (by exact arrOf) HM ?_); first | (have q:dL HM = 0:=rfl;clear q HM;intro g1 u1 HM) | (have q:dL HM = 1:=rfl;clear q HM;intro g2 u2 HM) | (have q:dL HM = 2:=rfl;clear q HM;intro g3 u3 HM) | (have q:dL HM = 3:=rfl;clear q HM;intro g4 u4 HM)) | (refine wl_load rfl _ _ rfl rfl (by exact arrOf) HM (by exact memOf) (by exact lenOf) ?_) | (refine wl_storeM rfl _ _ _ rfl rfl rfl (by exact arrOf) HM (by exact idxOf) (by exact lenOf) (by exact lenOf) ?_; clear HM; intro us HM; dsimp only [List.set] at HM) | (refine wl_zero rfl _ rfl (by exact arrOf) (by kernel_rfl) ?_)) | (refine wl_loadS rfl _ _ rfl rfl (by exact arrOf) HM (by exact memOf) (by exact subF) (by exact lenOf) ?_) | (refine wl_cellF rfl _ rfl rfl HM (by exact memOf) (by exact celF) ?_))
  refine (HC.out _).mono ?_
  rintro e w2 ⟨rfl, h1⟩
  have HM2 := Lib.hid (HM.out.below h1)
  clear h1 HM HC
  have HM := HM2
  clear HM2
  go_wp2_with (first | (first | ((first | refine wl_box rfl _ _ rfl rfl HM ?_ | refine wl_alloc rfl _ rfl (by exact arrOf) HM ?_); first | (have q:dL HM = 0:=rfl;clear q HM;intro g1 u1 HM) | (have q:dL HM = 1:=rfl;clear q HM;intro g2 u2 HM) | (have q:dL HM = 2:=rfl;clear q HM;intro g3 u3 HM) | (have q:dL HM = 3:=rfl;clear q HM;intro g4 u4 HM)) | (refine wl_load rfl _ _ rfl rfl (by exact arrOf) HM (by exact memOf) (by exact lenOf) ?_) | (refine wl_storeM rfl _ _ _ rfl rfl rfl (by exact arrOf) HM (by exact idxOf) (by exact lenOf) (by exact lenOf) ?_; clear HM; intro us HM; dsimp only [List.set] at HM) | (refine wl_zero rfl _ rfl (by exact arrOf) (by kernel_rfl) ?_)) | (refine wl_loadS rfl _ _ rfl rfl (by exact arrOf) HM (by exact memOf) (by exact subF) (by exact lenOf) ?_) | (refine wl_cellF rfl _ rfl rfl HM (by exact memOf) (by exact celF) ?_))
  go_ret
  exact ⟨rfl, HM.out.1⟩
set_option maxHeartbeats 4000000 in
theorem rfc_p (F : List Int) (K : Int) (l q p : List Int) (w : World) (hF : FrS F K l q) (lp : p.length = 6) (h0 : 0 ≤ K) (h2 : K ≤ 2) (hl : chkL l = true) (hp : chkL p = false) :
    Calls Tryz.prog 12 #[.agg (icells F), .agg (icells p)] w (ValQ w (.int .i64 1)) := by
  have LF := Lib.hid hF.len
  have LL := Lib.hid hF.ll
  have LQ := Lib.hid hF.lq
  have LP := Lib.hid lp
  have CK := Lib.hid (show 0 < F.length ∧ F.getD 0 0 = K from ⟨by rw [hF.len]; decide, hF.k0⟩)
  have SL := Lib.hid hF.lev
  have SQ := Lib.hid hF.num
  have HM := Lib.hid (Mem.start w)
  have t1 : decide (K < 0) = false := decide_eq_false (by omega)
  have t2 : decide (2 < K) = false := decide_eq_false (by omega)
  have HC := Lib.hid (fun u => rbcheck_any l true 0 u hF.ll hl rfl)
  have HD := Lib.hid (fun u => rbcheck_any p false 1 u lp hp rfl)
  clear hF lp hl hp
  go_enter Tryz.func12, Tryz.ntmps12
  go_wp2_with (first | (first | ((first | refine wl_box rfl _ _ rfl rfl HM ?_ | refine wl_alloc rfl _ rfl (by exact arrOf) HM ?_); first | (have q:dL HM = 0:=rfl;clear q HM;intro g1 u1 HM) | (have q:dL HM = 1:=rfl;clear q HM;intro g2 u2 HM) | (have q:dL HM = 2:=rfl;clear q HM;intro g3 u3 HM) | (have q:dL HM = 3:=rfl;clear q HM;intro g4 u4 HM)) | (refine wl_load rfl _ _ rfl rfl (by exact arrOf) HM (by exact memOf) (by exact lenOf) ?_) | (refine wl_storeM rfl _ _ _ rfl rfl rfl (by exact arrOf) HM (by exact idxOf) (by exact lenOf) (by exact lenOf) ?_; clear HM; intro us HM; dsimp only [List.set] at HM) | (refine wl_zero rfl _ rfl (by exact arrOf) (by kernel_rfl) ?_)) | (refine wl_loadS rfl _ _ rfl rfl (by exact arrOf) HM (by exact memOf) (by exact subF) (by exact lenOf) ?_) | (refine wl_cellF rfl _ rfl rfl HM (by exact memOf) (by exact celF) ?_))
  refine (HC.out _).mono ?_
  rintro e w2 ⟨rfl, h1⟩
  have HM2 := Lib.hid (HM.out.below h1)
  clear h1 HM HC
  have HM := HM2
  clear HM2
  go_wp2_with (first | (first | ((first | refine wl_box rfl _ _ rfl rfl HM ?_ | refine wl_alloc rfl _ rfl (by exact arrOf) HM ?_); first | (have q:dL HM = 0:=rfl;clear q HM;intro g1 u1 HM) | (have q:dL HM = 1:=rfl;clear q HM;intro g2 u2 HM) | (have q:dL HM = 2:=rfl;clear q HM;intro g3 u3 HM) | (have q:dL HM = 3:=rfl;clear q HM;intro g4 u4 HM)) | (refine wl_load rfl _ _ rfl rfl (by exact arrOf) HM (by exact memOf) (by exact lenOf) ?_) | (refine wl_storeM rfl _ _ _ rfl rfl rfl (by exact arrOf) HM (by exact idxOf) (by exact lenOf) (by exact lenOf) ?_; clear HM; intro us HM; dsimp only [List.set] at HM) | (refine wl_zero rfl _ rfl (by exact arrOf) (by kernel_rfl) ?_)) | (refine wl_loadS rfl _ _ rfl rfl (by exact arrOf) HM (by exact memOf) (by exact subF) (by exact lenOf) ?_) | (refine wl_cellF rfl _ rfl rfl HM (by exact memOf) (by exact celF) ?_))
  refine (HD.out _).mono ?_
  rintro e w2 ⟨rfl, h1⟩
  have HM2 := Lib.hid (HM.out.below h1)
  clear h1 HM HD
  have HM := HM2
  clear HM2
  go_wp2_with (first | (first | ((first | refine wl_box rfl _ _ rfl rfl HM ?_ | refine wl_alloc rfl _ rfl (by exact arrOf) HM ?_); first | (have q:dL HM = 0:=rfl;clear q HM;intro g1 u1 HM) | (have q:dL HM = 1:=rfl;clear q HM;intro g2 u2 HM) | (have q:dL HM = 2:=rfl;clear q HM;intro g3 u3 HM) | (have q:dL HM = 3:=rfl;clear q HM;intro g4 u4 HM)) | (refine wl_load rfl _ _ rfl rfl (by exact arrOf) HM (by exact memOf) (by exact lenOf) ?_) | (refine wl_storeM rfl _ _ _ rfl rfl rfl (by exact arrOf) HM (by exact idxOf) (by exact lenOf) (by exact lenOf) ?_; clear HM; intro us HM; dsimp only [List.set] at HM) | (refine wl_zero rfl _ rfl (by exact arrOf) (by kernel_rfl) ?_)) | (refine wl_loadS rfl _ _ rfl rfl (by exact arrOf) HM (by exact memOf) (by exact subF) (by exact lenOf) ?_) | (refine wl_cellF rfl _ rfl rfl HM (by exact memOf) (by exact celF) ?_))
  go_ret
  exact ⟨rfl, HM.out.1⟩
set_option maxHeartbeats 4000000 in
theorem rfc_far (F : List Int) (K : Int) (l q p : List Int) (w : World) (hF : FrS F K l q) (lp : p.length = 6) (hk : K = 1) (hl : chkL l = true) (hp : chkL p = true) (hn : nearN l p 6 = false) :
    Calls Tryz.prog 12 #[.agg (icells F), .agg (icells p)] w (ValQ w (.int .i64 1)) := by
  have LF := Lib.hid hF.len
  have LL := Lib.hid hF.ll
  have LQ := Lib.hid hF.lq
  have LP := Lib.hid lp
  have CK := Lib.hid (show 0 < F.length ∧ F.getD 0 0 = K from ⟨by rw [hF.len]; decide, hF.k0⟩)
  have SL := Lib.hid hF.lev
  have SQ := Lib.hid hF.num
  have HM := Lib.hid (Mem.start w)
  have t1 : decide (K < 0) = false := decide_eq_false (by omega)
  have t2 : decide (2 < K) = false := decide_eq_false (by omega)
  have t3 : decide (K = 1) = true := decide_eq_true (by omega)
  have t4 : decide (K = 2) = false := decide_eq_false (by omega)
  have a1 : (K == 1) = true := by rw [hk]; rfl
  have a2 : (K == 2) = false := by rw [hk]; rfl
  have h0 : 0 ≤ K := by omega
  have h2 : K ≤ 2 := by omega
  have HC := Lib.hid (fun u => rbcheck_any l true 0 u hF.ll hl rfl)
  have HD := Lib.hid (fun u => rbcheck_any p true 0 u lp hp rfl)
  have HN := Lib.hid (fun u => rnear_any l p u hF.ll lp)
  rw [show nearB l p = false by unfold nearB; rw [hl, hp, hn]; rfl] at HN
  clear hF lp hl hp hn hk
  go_enter Tryz.func12, Tryz.ntmps12
  go_wp2_with (first | (first | ((first | refine wl_box rfl _ _ rfl rfl HM ?_ | refine wl_alloc rfl _ rfl (by exact arrOf) HM ?_); first | (have q:dL HM = 0:=rfl;clear q HM;intro g1 u1 HM) | (have q:dL HM = 1:=rfl;clear q HM;intro g2 u2 HM) | (have q:dL HM = 2:=rfl;clear q HM;intro g3 u3 HM) | (have q:dL HM = 3:=rfl;clear q HM;intro g4 u4 HM)) | (refine wl_load rfl _ _ rfl rfl (by exact arrOf) HM (by exact memOf) (by exact lenOf) ?_) | (refine wl_storeM rfl _ _ _ rfl rfl rfl (by exact arrOf) HM (by exact idxOf) (by exact lenOf) (by exact lenOf) ?_; clear HM; intro us HM; dsimp only [List.set] at HM) | (refine wl_zero rfl _ rfl (by exact arrOf) (by kernel_rfl) ?_)) | (refine wl_loadS rfl _ _ rfl rfl (by exact arrOf) HM (by exact memOf) (by exact subF) (by exact lenOf) ?_) | (refine wl_cellF rfl _ rfl rfl HM (by exact memOf) (by exact celF) ?_))
  refine (HC.out _).mono ?_
  rintro e w2 ⟨rfl, h1⟩
  have HM2 := Lib.hid (HM.out.below h1)
  clear h1 HM HC
  have HM := HM2
  clear HM2
  go_wp2_with (first | (first | ((first | refine wl_box rfl _ _ rfl rfl HM ?_ | refine wl_alloc rfl _ rfl (by exact arrOf) HM ?_); first | (have q:dL HM = 0:=rfl;clear q HM;intro g1 u1 HM) | (have q:dL HM = 1:=rfl;clear q HM;intro g2 u2 HM) | (have q:dL HM = 2:=rfl;clear q HM;intro g3 u3 HM) | (have q:dL HM = 3:=rfl;clear q HM;intro g4 u4 HM)) | (refine wl_load rfl _ _ rfl rfl (by exact arrOf) HM (by exact memOf) (by exact lenOf) ?_) | (refine wl_storeM rfl _ _ _ rfl rfl rfl (by exact arrOf) HM (by exact idxOf) (by exact lenOf) (by exact lenOf) ?_; clear HM; intro us HM; dsimp only [List.set] at HM) | (refine wl_zero rfl _ rfl (by exact arrOf) (by kernel_rfl) ?_)) | (refine wl_loadS rfl _ _ rfl rfl (by exact arrOf) HM (by exact memOf) (by exact subF) (by exact lenOf) ?_) | (refine wl_cellF rfl _ rfl rfl HM (by exact memOf) (by exact celF) ?_))
  refine (HD.out _).mono ?_
  rintro e w2 ⟨rfl, h1⟩
  have HM2 := Lib.hid (HM.out.below h1)
  clear h1 HM HD
  have HM := HM2
  clear HM2
  go_wp2_with (first | (first | ((first | refine wl_box rfl _ _ rfl rfl HM ?_ | refine wl_alloc rfl _ rfl (by exact arrOf) HM ?_); first | (have q:dL HM = 0:=rfl;clear q HM;intro g1 u1 HM) | (have q:dL HM = 1:=rfl;clear q HM;intro g2 u2 HM) | (have q:dL HM = 2:=rfl;clear q HM;intro g3 u3 HM) | (have q:dL HM = 3:=rfl;clear q HM;intro g4 u4 HM)) | (refine wl_load rfl _ _ rfl rfl (by exact arrOf) HM (by exact memOf) (by exact lenOf) ?_) | (refine wl_storeM rfl _ _ _ rfl rfl rfl (by exact arrOf) HM (by exact idxOf) (by exact lenOf) (by exact lenOf) ?_; clear HM; intro us HM; dsimp only [List.set] at HM) | (refine wl_zero rfl _ rfl (by exact arrOf) (by kernel_rfl) ?_)) | (refine wl_loadS rfl _ _ rfl rfl (by exact arrOf) HM (by exact memOf) (by exact subF) (by exact lenOf) ?_) | (refine wl_cellF rfl _ rfl rfl HM (by exact memOf) (by exact celF) ?_))
  refine (HN.out _).mono ?_
  rintro e w2 ⟨rfl, h1⟩
  have HM2 := Lib.hid (HM.out.below h1)
  clear h1 HM HN
  have HM := HM2
  clear HM2
  go_wp2_with (fail)
  go_ret
  exact ⟨rfl, HM.out.1⟩
set_option maxHeartbeats 4000000 in
theorem rfc_one_true (F : List Int) (K : Int) (l q p : List Int) (w : World) (hF : FrS F K l q) (lp : p.length = 6) (hk : K = 1) (hl : chkL l = true) (hp : chkL p = true) (hn : nearN l p 6 = true) (hm : mayB q l = true) :
    Calls Tryz.prog 12 #[.agg (icells F), .agg (icells p)] w (ValQ w (.int .i64 0)) := by
  have LF := Lib.hid hF.len
  have LL := Lib.hid hF.ll
  have LQ := Lib.hid hF.lq
  have LP := Lib.hid lp
  have CK := Lib.hid (show 0 < F.length ∧ F.getD 0 0 = K from ⟨by rw [hF.len]; decide, hF.k0⟩)
  have SL := Lib.hid hF.lev
  have SQ := Lib.hid hF.num
  have HM := Lib.hid (Mem.start w)
  have t1 : decide (K < 0) = false := decide_eq_false (by omega)
  have t2 : decide (2 < K) = false := decide_eq_false (by omega)
  have t3 : decide (K = 1) = true := decide_eq_true (by omega)
  have t4 : decide (K = 2) = false := decide_eq_false (by omega)
  have a1 : (K == 1) = true := by rw [hk]; rfl
  have a2 : (K == 2) = false := by rw [hk]; rfl
  have h0 : 0 ≤ K := by omega
  have h2 : K ≤ 2 := by omega
  have HC := Lib.hid (fun u => rbcheck_any l true 0 u hF.ll hl rfl)
  have HD := Lib.hid (fun u => rbcheck_any p true 0 u lp hp rfl)
  have HN := Lib.hid (fun u => rnear_any l p u hF.ll lp)
  rw [show nearB l p = true by unfold nearB; rw [hl, hp, hn]; rfl] at HN
  have HY := Lib.hid (fun u => rmay_any q l u hF.lq hF.ll)
  rw [hm] at HY
  clear hF lp hl hp hn hk hm
  go_enter Tryz.func12, Tryz.ntmps12
  go_wp2_with (first | (first | ((first | refine wl_box rfl _ _ rfl rfl HM ?_ | refine wl_alloc rfl _ rfl (by exact arrOf) HM ?_); first | (have q:dL HM = 0:=rfl;clear q HM;intro g1 u1 HM) | (have q:dL HM = 1:=rfl;clear q HM;intro g2 u2 HM) | (have q:dL HM = 2:=rfl;clear q HM;intro g3 u3 HM) | (have q:dL HM = 3:=rfl;clear q HM;intro g4 u4 HM)) | (refine wl_load rfl _ _ rfl rfl (by exact arrOf) HM (by exact memOf) (by exact lenOf) ?_) | (refine wl_storeM rfl _ _ _ rfl rfl rfl (by exact arrOf) HM (by exact idxOf) (by exact lenOf) (by exact lenOf) ?_; clear HM; intro us HM; dsimp only [List.set] at HM) | (refine wl_zero rfl _ rfl (by exact arrOf) (by kernel_rfl) ?_)) | (refine wl_loadS rfl _ _ rfl rfl (by exact arrOf) HM (by exact memOf) (by exact subF) (by exact lenOf) ?_) | (refine wl_cellF rfl _ rfl rfl HM (by exact memOf) (by exact celF) ?_))
  refine (HC.out _).mono ?_
  rintro e w2 ⟨rfl, h1⟩
  have HM2 := Lib.hid (HM.out.below h1)
  clear h1 HM HC
  have HM := HM2
  clear HM2
  go_wp2_with (first | (first | ((first | refine wl_box rfl _ _ rfl rfl HM ?_ | refine wl_alloc rfl _ rfl (by exact arrOf) HM ?_); first | (have q:dL HM = 0:=rfl;clear q HM;intro g1 u1 HM) | (have q:dL HM = 1:=rfl;clear q HM;intro g2 u2 HM) | (have q:dL HM = 2:=rfl;clear q HM;intro g3 u3 HM) | (have q:dL HM = 3:=rfl;clear q HM;intro g4 u4 HM)) | (refine wl_load rfl _ _ rfl rfl (by exact arrOf) HM (by exact memOf) (by exact lenOf) ?_) | (refine wl_storeM rfl _ _ _ rfl rfl rfl (by exact arrOf) HM (by exact idxOf) (by exact lenOf) (by exact lenOf) ?_; clear HM; intro us HM; dsimp only [List.set] at HM) | (refine wl_zero rfl _ rfl (by exact arrOf) (by kernel_rfl) ?_)) | (refine wl_loadS rfl _ _ rfl rfl (by exact arrOf) HM (by exact memOf) (by exact subF) (by exact lenOf) ?_) | (refine wl_cellF rfl _ rfl rfl HM (by exact memOf) (by exact celF) ?_))
  refine (HD.out _).mono ?_
  rintro e w2 ⟨rfl, h1⟩
  have HM2 := Lib.hid (HM.out.below h1)
  clear h1 HM HD
  have HM := HM2
  clear HM2
  go_wp2_with (first | (first | ((first | refine wl_box rfl _ _ rfl rfl HM ?_ | refine wl_alloc rfl _ rfl (by exact arrOf) HM ?_); first | (have q:dL HM = 0:=rfl;clear q HM;intro g1 u1 HM) | (have q:dL HM = 1:=rfl;clear q HM;intro g2 u2 HM) | (have q:dL HM = 2:=rfl;clear q HM;intro g3 u3 HM) | (have q:dL HM = 3:=rfl;clear q HM;intro g4 u4 HM)) | (refine wl_load rfl _ _ rfl rfl (by exact arrOf) HM (by exact memOf) (by exact lenOf) ?_) | (refine wl_storeM rfl _ _ _ rfl rfl rfl (by exact arrOf) HM (by exact idxOf) (by exact lenOf) (by exact lenOf) ?_; clear HM; intro us HM; dsimp only [List.set] at HM) | (refine wl_zero rfl _ rfl (by exact arrOf) (by kernel_rfl) ?_)) | (refine wl_loadS rfl _ _ rfl rfl (by exact arrOf) HM (by exact memOf) (by exact subF) (by exact lenOf) ?_) | (refine wl_cellF rfl _ rfl rfl HM (by exact memOf) (by exact celF) ?_))
  refine (HN.out _).mono ?_
  rintro e w2 ⟨rfl, h1⟩
  have HM2 := Lib.hid (HM.out.below h1)
  clear h1 HM HN
  have HM := HM2
  clear HM2
  go_wp2_with (first | (first | ((first | refine wl_box rfl _ _ rfl rfl HM ?_ | refine wl_alloc rfl _ rfl (by exact arrOf) HM ?_); first | (have q:dL HM = 0:=rfl;clear q HM;intro g1 u1 HM) | (have q:dL HM = 1:=rfl;clear q HM;intro g2 u2 HM) | (have q:dL HM = 2:=rfl;clear q HM;intro g3 u3 HM) | (have q:dL HM = 3:=rfl;clear q HM;intro g4 u4 HM)) | (refine wl_load rfl _ _ rfl rfl (by exact arrOf) HM (by exact memOf) (by exact lenOf) ?_) | (refine wl_storeM rfl _ _ _ rfl rfl rfl (by exact arrOf) HM (by exact idxOf) (by exact lenOf) (by exact lenOf) ?_; clear HM; intro us HM; dsimp only [List.set] at HM) | (refine wl_zero rfl _ rfl (by exact arrOf) (by kernel_rfl) ?_)) | (refine wl_loadS rfl _ _ rfl rfl (by exact arrOf) HM (by exact memOf) (by exact subF) (by exact lenOf) ?_) | (refine wl_cellF rfl _ rfl rfl HM (by exact memOf) (by exact celF) ?_))
  refine (HY.out _).mono ?_
  rintro e w2 ⟨rfl, h1⟩
  have HM2 := Lib.hid (HM.out.below h1)
  clear h1 HM HY
  have HM := HM2
  clear HM2
  go_wp2_with (first | (first | ((first | refine wl_box rfl _ _ rfl rfl HM ?_ | refine wl_alloc rfl _ rfl (by exact arrOf) HM ?_); first | (have q:dL HM = 0:=rfl;clear q HM;intro g1 u1 HM) | (have q:dL HM = 1:=rfl;clear q HM;intro g2 u2 HM) | (have q:dL HM = 2:=rfl;clear q HM;intro g3 u3 HM) | (have q:dL HM = 3:=rfl;clear q HM;intro g4 u4 HM)) | (refine wl_load rfl _ _ rfl rfl (by exact arrOf) HM (by exact memOf) (by exact lenOf) ?_) | (refine wl_storeM rfl _ _ _ rfl rfl rfl (by exact arrOf) HM (by exact idxOf) (by exact lenOf) (by exact lenOf) ?_; clear HM; intro us HM; dsimp only [List.set] at HM) | (refine wl_zero rfl _ rfl (by exact arrOf) (by kernel_rfl) ?_)) | (refine wl_loadS rfl _ _ rfl rfl (by exact arrOf) HM (by exact memOf) (by exact subF) (by exact lenOf) ?_) | (refine wl_cellF rfl _ rfl rfl HM (by exact memOf) (by exact celF) ?_))
  go_ret
  exact ⟨rfl, HM.out.1⟩
set_option maxHeartbeats 4000000 in
theorem rfc_zero_true (F : List Int) (K : Int) (l q p : List Int) (w : World) (hF : FrS F K l q) (lp : p.length = 6) (hk : K = 0) (hl : chkL l = true) (hp : chkL p = true) (hm : mayB q l = true) :
    Calls Tryz.prog 12 #[.agg (icells F), .agg (icells p)] w (ValQ w (.int .i64 0)) := by
  have LF := Lib.hid hF.len
  have LL := Lib.hid hF.ll
  have LQ := Lib.hid hF.lq
  have LP := Lib.hid lp
  have CK := Lib.hid (show 0 < F.length ∧ F.getD 0 0 = K from ⟨by rw [hF.len]; decide, hF.k0⟩)
  have SL := Lib.hid hF.lev
  have SQ := Lib.hid hF.num
  have HM := Lib.hid (Mem.start w)
  have t1 : decide (K < 0) = false := decide_eq_false (by omega)
  have t2 : decide (2 < K) = false := decide_eq_false (by omega)
  have t3 : decide (K = 1) = false := decide_eq_false (by omega)
  have t4 : decide (K = 2) = false := decide_eq_false (by omega)
  have a1 : (K == 1) = false := by rw [hk]; rfl
  have a2 : (K == 2) = false := by rw [hk]; rfl
  have h0 : 0 ≤ K := by omega
  have h2 : K ≤ 2 := by omega
  have HC := Lib.hid (fun u => rbcheck_any l true 0 u hF.ll hl rfl)
  have HD := Lib.hid (fun u => rbcheck_any p true 0 u lp hp rfl)
  have HY := Lib.hid (fun u => rmay_any q l u hF.lq hF.ll)
  rw [hm] at HY
  clear hF lp hl hp hk hm
  go_enter Tryz.func12, Tryz.ntmps12
  go_wp2_with (first | (first | ((first | refine wl_box rfl _ _ rfl rfl HM ?_ | refine wl_alloc rfl _ rfl (by exact arrOf) HM ?_); first | (have q:dL HM = 0:=rfl;clear q HM;intro g1 u1 HM) | (have q:dL HM = 1:=rfl;clear q HM;intro g2 u2 HM) | (have q:dL HM = 2:=rfl;clear q HM;intro g3 u3 HM) | (have q:dL HM = 3:=rfl;clear q HM;intro g4 u4 HM)) | (refine wl_load rfl _ _ rfl rfl (by exact arrOf) HM (by exact memOf) (by exact lenOf) ?_) | (refine wl_storeM rfl _ _ _ rfl rfl rfl (by exact arrOf) HM (by exact idxOf) (by exact lenOf) (by exact lenOf) ?_; clear HM; intro us HM; dsimp only [List.set] at HM) | (refine wl_zero rfl _ rfl (by exact arrOf) (by kernel_rfl) ?_)) | (refine wl_loadS rfl _ _ rfl rfl (by exact arrOf) HM (by exact memOf) (by exact subF) (by exact lenOf) ?_) | (refine wl_cellF rfl _ rfl rfl HM (by exact memOf) (by exact celF) ?_))
  refine (HC.out _).mono ?_
  rintro e w2 ⟨rfl, h1⟩
  have HM2 := Lib.hid (HM.out.below h1)
  clear h1 HM HC
  have HM := HM2
  clear HM2
  go_wp2_with (first | (first | ((first | refine wl_box rfl _ _ rfl rfl HM ?_ | refine wl_alloc rfl _ rfl (by exact arrOf) HM ?_); first | (have q:dL HM = 0:=rfl;clear q HM;intro g1 u1 HM) | (have q:dL HM = 1:=rfl;clear q HM;intro g2 u2 HM) | (have q:dL HM = 2:=rfl;clear q HM;intro g3 u3 HM) | (have q:dL HM = 3:=rfl;clear q HM;intro g4 u4 HM)) | (refine wl_load rfl _ _ rfl rfl (by exact arrOf) HM (by exact memOf) (by exact lenOf) ?_) | (refine wl_storeM rfl _ _ _ rfl rfl rfl (by exact arrOf) HM (by exact idxOf) (by exact lenOf) (by exact lenOf) ?_; clear HM; intro us HM; dsimp only [List.set] at HM) | (refine wl_zero rfl _ rfl (by exact arrOf) (by kernel_rfl) ?_)) | (refine wl_loadS rfl _ _ rfl rfl (by exact arrOf) HM (by exact memOf) (by exact subF) (by exact lenOf) ?_) | (refine wl_cellF rfl _ rfl rfl HM (by exact memOf) (by exact celF) ?_))
  refine (HD.out _).mono ?_
  rintro e w2 ⟨rfl, h1⟩
  have HM2 := Lib.hid (HM.out.below h1)
  clear h1 HM HD
  have HM := HM2
  clear HM2
  go_wp2_with (first | (first | ((first | refine wl_box rfl _ _ rfl rfl HM ?_ | refine wl_alloc rfl _ rfl (by exact arrOf) HM ?_); first | (have q:dL HM = 0:=rfl;clear q HM;intro g1 u1 HM) | (have q:dL HM = 1:=rfl;clear q HM;intro g2 u2 HM) | (have q:dL HM = 2:=rfl;clear q HM;intro g3 u3 HM) | (have q:dL HM = 3:=rfl;clear q HM;intro g4 u4 HM)) | (refine wl_load rfl _ _ rfl rfl (by exact arrOf) HM (by exact memOf) (by exact lenOf) ?_) | (refine wl_storeM rfl _ _ _ rfl rfl rfl (by exact arrOf) HM (by exact idxOf) (by exact lenOf) (by exact lenOf) ?_; clear HM; intro us HM; dsimp only [List.set] at HM) | (refine wl_zero rfl _ rfl (by exact arrOf) (by kernel_rfl) ?_)) | (refine wl_loadS rfl _ _ rfl rfl (by exact arrOf) HM (by exact memOf) (by exact subF) (by exact lenOf) ?_) | (refine wl_cellF rfl _ rfl rfl HM (by exact memOf) (by exact celF) ?_))
  refine (HY.out _).mono ?_
  rintro e w2 ⟨rfl, h1⟩
  have HM2 := Lib.hid (HM.out.below h1)
  clear h1 HM HY
  have HM := HM2
  clear HM2
  go_wp2_with (first | (first | ((first | refine wl_box rfl _ _ rfl rfl HM ?_ | refine wl_alloc rfl _ rfl (by exact arrOf) HM ?_); first | (have q:dL HM = 0:=rfl;clear q HM;intro g1 u1 HM) | (have q:dL HM = 1:=rfl;clear q HM;intro g2 u2 HM) | (have q:dL HM = 2:=rfl;clear q HM;intro g3 u3 HM) | (have q:dL HM = 3:=rfl;clear q HM;intro g4 u4 HM)) | (refine wl_load rfl _ _ rfl rfl (by exact arrOf) HM (by exact memOf) (by exact lenOf) ?_) | (refine wl_storeM rfl _ _ _ rfl rfl rfl (by exact arrOf) HM (by exact idxOf) (by exact lenOf) (by exact lenOf) ?_; clear HM; intro us HM; dsimp only [List.set] at HM) | (refine wl_zero rfl _ rfl (by exact arrOf) (by kernel_rfl) ?_)) | (refine wl_loadS rfl _ _ rfl rfl (by exact arrOf) HM (by exact memOf) (by exact subF) (by exact lenOf) ?_) | (refine wl_cellF rfl _ rfl rfl HM (by exact memOf) (by exact celF) ?_))
  go_ret
  exact ⟨rfl, HM.out.1⟩
set_option maxHeartbeats 4000000 in
theorem rfc_two_true (F : List Int) (K : Int) (l q p : List Int) (w : World) (hF : FrS F K l q) (lp : p.length = 6) (hk : K = 2) (hl : chkL l = true) (hp : chkL p = true) (hq : q = zr 16) (hm : mayB q l = true) :
    Calls Tryz.prog 12 #[.agg (icells F), .agg (icells p)] w (ValQ w (.int .i64 0)) := by
  have LF := Lib.hid hF.len
  have LL := Lib.hid hF.ll
  have LQ := Lib.hid hF.lq
  have LP := Lib.hid lp
  have CK := Lib.hid (show 0 < F.length ∧ F.getD 0 0 = K from ⟨by rw [hF.len]; decide, hF.k0⟩)
  have SL := Lib.hid hF.lev
  have SQ := Lib.hid hF.num
  have HM := Lib.hid (Mem.start w)
  have t1 : decide (K < 0) = false := decide_eq_false (by omega)
  have t2 : decide (2 < K) = false := decide_eq_false (by omega)
  have t3 : decide (K = 1) = false := decide_eq_false (by omega)
  have t4 : decide (K = 2) = true := decide_eq_true (by omega)
  have a1 : (K == 1) = false := by rw [hk]; rfl
  have a2 : (K == 2) = true := by rw [hk]; rfl
  have h0 : 0 ≤ K := by omega
  have h2 : K ≤ 2 := by omega
  have HC := Lib.hid (fun u => rbcheck_any l true 0 u hF.ll hl rfl)
  have HD := Lib.hid (fun u => rbcheck_any p true 0 u lp hp rfl)
  have HY := Lib.hid (fun u => rmay_any q l u hF.lq hF.ll)
  rw [hm] at HY
  have hgd := grdHopF
  have heq : ∀ u, (Op.equalIn 10000 24 (.agg (icells q)) (.agg (icells (zr 16)))).run Tryz.prog u = .ok true u := fun u => by
    rw [hq]; exact run_equalIn_same 24 (n := 16) (by kernel_rfl) (zr 16) (zr_length 16) u
  clear hF lp hl hp hk hm hq
  go_enter Tryz.func12, Tryz.ntmps12
  go_wp2_with (first | (first | ((first | refine wl_box rfl _ _ rfl rfl HM ?_ | refine wl_alloc rfl _ rfl (by exact arrOf) HM ?_); first | (have q:dL HM = 0:=rfl;clear q HM;intro g1 u1 HM) | (have q:dL HM = 1:=rfl;clear q HM;intro g2 u2 HM) | (have q:dL HM = 2:=rfl;clear q HM;intro g3 u3 HM) | (have q:dL HM = 3:=rfl;clear q HM;intro g4 u4 HM)) | (refine wl_load rfl _ _ rfl rfl (by exact arrOf) HM (by exact memOf) (by exact lenOf) ?_) | (refine wl_storeM rfl _ _ _ rfl rfl rfl (by exact arrOf) HM (by exact idxOf) (by exact lenOf) (by exact lenOf) ?_; clear HM; intro us HM; dsimp only [List.set] at HM) | (refine wl_zero rfl _ rfl (by exact arrOf) (by kernel_rfl) ?_)) | (refine wl_loadS rfl _ _ rfl rfl (by exact arrOf) HM (by exact memOf) (by exact subF) (by exact lenOf) ?_) | (refine wl_cellF rfl _ rfl rfl HM (by exact memOf) (by exact celF) ?_))
  refine (HC.out _).mono ?_
  rintro e w2 ⟨rfl, h1⟩
  have HM2 := Lib.hid (HM.out.below h1)
  clear h1 HM HC
  have HM := HM2
  clear HM2
  go_wp2_with (first | (first | ((first | refine wl_box rfl _ _ rfl rfl HM ?_ | refine wl_alloc rfl _ rfl (by exact arrOf) HM ?_); first | (have q:dL HM = 0:=rfl;clear q HM;intro g1 u1 HM) | (have q:dL HM = 1:=rfl;clear q HM;intro g2 u2 HM) | (have q:dL HM = 2:=rfl;clear q HM;intro g3 u3 HM) | (have q:dL HM = 3:=rfl;clear q HM;intro g4 u4 HM)) | (refine wl_load rfl _ _ rfl rfl (by exact arrOf) HM (by exact memOf) (by exact lenOf) ?_) | (refine wl_storeM rfl _ _ _ rfl rfl rfl (by exact arrOf) HM (by exact idxOf) (by exact lenOf) (by exact lenOf) ?_; clear HM; intro us HM; dsimp only [List.set] at HM) | (refine wl_zero rfl _ rfl (by exact arrOf) (by kernel_rfl) ?_)) | (refine wl_loadS rfl _ _ rfl rfl (by exact arrOf) HM (by exact memOf) (by exact subF) (by exact lenOf) ?_) | (refine wl_cellF rfl _ rfl rfl HM (by exact memOf) (by exact celF) ?_))
  refine (HD.out _).mono ?_
  rintro e w2 ⟨rfl, h1⟩
  have HM2 := Lib.hid (HM.out.below h1)
  clear h1 HM HD
  have HM := HM2
  clear HM2
  go_wp2_with (first | (first | ((first | refine wl_box rfl _ _ rfl rfl HM ?_ | refine wl_alloc rfl _ rfl (by exact arrOf) HM ?_); first | (have q:dL HM = 0:=rfl;clear q HM;intro g1 u1 HM) | (have q:dL HM = 1:=rfl;clear q HM;intro g2 u2 HM) | (have q:dL HM = 2:=rfl;clear q HM;intro g3 u3 HM) | (have q:dL HM = 3:=rfl;clear q HM;intro g4 u4 HM)) | (refine wl_load rfl _ _ rfl rfl (by exact arrOf) HM (by exact memOf) (by exact lenOf) ?_) | (refine wl_storeM rfl _ _ _ rfl rfl rfl (by exact arrOf) HM (by exact idxOf) (by exact lenOf) (by exact lenOf) ?_; clear HM; intro us HM; dsimp only [List.set] at HM) | (refine wl_zero rfl _ rfl (by exact arrOf) (by kernel_rfl) ?_)) | (refine wl_loadS rfl _ _ rfl rfl (by exact arrOf) HM (by exact memOf) (by exact subF) (by exact lenOf) ?_) | (refine wl_cellF rfl _ rfl rfl HM (by exact memOf) (by exact celF) ?_))
  refine (HY.out _).mono ?_
  rintro e w2 ⟨rfl, h1⟩
  have HM2 := Lib.hid (HM.out.below h1)
  clear h1 HM HY
  have HM := HM2
  clear HM2
  go_wp2_with (first | (first | ((first | refine wl_box rfl _ _ rfl rfl HM ?_ | refine wl_alloc rfl _ rfl (by exact arrOf) HM ?_); first | (have q:dL HM = 0:=rfl;clear q HM;intro g1 u1 HM) | (have q:dL HM = 1:=rfl;clear q HM;intro g2 u2 HM) | (have q:dL HM = 2:=rfl;clear q HM;intro g3 u3 HM) | (have q:dL HM = 3:=rfl;clear q HM;intro g4 u4 HM)) | (refine wl_load rfl _ _ rfl rfl (by exact arrOf) HM (by exact memOf) (by exact lenOf) ?_) | (refine wl_storeM rfl _ _ _ rfl rfl rfl (by exact arrOf) HM (by exact idxOf) (by exact lenOf) (by exact lenOf) ?_; clear HM; intro us HM; dsimp only [List.set] at HM) | (refine wl_zero rfl _ rfl (by exact arrOf) (by kernel_rfl) ?_)) | (refine wl_loadS rfl _ _ rfl rfl (by exact arrOf) HM (by exact memOf) (by exact subF) (by exact lenOf) ?_) | (refine wl_cellF rfl _ rfl rfl HM (by exact memOf) (by exact celF) ?_))
  go_ret
  exact ⟨rfl, HM.out.1⟩
set_option maxHeartbeats 4000000 in
theorem rfc_one_false (F : List Int) (K : Int) (l q p : List Int) (w : World) (hF : FrS F K l q) (lp : p.length = 6) (hk : K = 1) (hl : chkL l = true) (hp : chkL p = true) (hn : nearN l p 6 = true) (hm : mayB q l = false) :
    Calls Tryz.prog 12 #[.agg (icells F), .agg (icells p)] w (ValQ w (.int .i64 1)) := by
  have LF := Lib.hid hF.len
  have LL := Lib.hid hF.ll
  have LQ := Lib.hid hF.lq
  have LP := Lib.hid lp
  have CK := Lib.hid (show 0 < F.length ∧ F.getD 0 0 = K from ⟨by rw [hF.len]; decide, hF.k0⟩)
  have SL := Lib.hid hF.lev
  have SQ := Lib.hid hF.num
  have HM := Lib.hid (Mem.start w)
  have t1 : decide (K < 0) = false := decide_eq_false (by omega)
  have t2 : decide (2 < K) = false := decide_eq_false (by omega)
  have t3 : decide (K = 1) = true := decide_eq_true (by omega)
  have t4 : decide (K = 2) = false := decide_eq_false (by omega)
  have a1 : (K == 1) = true := by rw [hk]; rfl
  have a2 : (K == 2) = false := by rw [hk]; rfl
  have h0 : 0 ≤ K := by omega
  have h2 : K ≤ 2 := by omega
  have HC := Lib.hid (fun u => rbcheck_any l true 0 u hF.ll hl rfl)
  have HD := Lib.hid (fun u => rbcheck_any p true 0 u lp hp rfl)
  have HN := Lib.hid (fun u => rnear_any l p u hF.ll lp)
  rw [show nearB l p = true by unfold nearB; rw [hl, hp, hn]; rfl] at HN
  have HY := Lib.hid (fun u => rmay_any q l u hF.lq hF.ll)
  rw [hm] at HY
  clear hF lp hl hp hn hk hm
  go_enter Tryz.func12, Tryz.ntmps12
  go_wp2_with (first | (first | ((first | refine wl_box rfl _ _ rfl rfl HM ?_ | refine wl_alloc rfl _ rfl (by exact arrOf) HM ?_); first | (have q:dL HM = 0:=rfl;clear q HM;intro g1 u1 HM) | (have q:dL HM = 1:=rfl;clear q HM;intro g2 u2 HM) | (have q:dL HM = 2:=rfl;clear q HM;intro g3 u3 HM) | (have q:dL HM = 3:=rfl;clear q HM;intro g4 u4 HM)) | (refine wl_load rfl _ _ rfl rfl (by exact arrOf) HM (by exact memOf) (by exact lenOf) ?_) | (refine wl_storeM rfl _ _ _ rfl rfl rfl (by exact arrOf) HM (by exact idxOf) (by exact lenOf) (by exact lenOf) ?_; clear HM; intro us HM; dsimp only [List.set] at HM) | (refine wl_zero rfl _ rfl (by exact arrOf) (by kernel_rfl) ?_)) | (refine wl_loadS rfl _ _ rfl rfl (by exact arrOf) HM (by exact memOf) (by exact subF) (by exact lenOf) ?_) | (refine wl_cellF rfl _ rfl rfl HM (by exact memOf) (by exact celF) ?_))
  refine (HC.out _).mono ?_
  rintro e w2 ⟨rfl, h1⟩
  have HM2 := Lib.hid (HM.out.below h1)
  clear h1 HM HC
  have HM := HM2
  clear HM2
  go_wp2_with (first | (first | ((first | refine wl_box rfl _ _ rfl rfl HM ?_ | refine wl_alloc rfl _ rfl (by exact arrOf) HM ?_); first | (have q:dL HM = 0:=rfl;clear q HM;intro g1 u1 HM) | (have q:dL HM = 1:=rfl;clear q HM;intro g2 u2 HM) | (have q:dL HM = 2:=rfl;clear q HM;intro g3 u3 HM) | (have q:dL HM = 3:=rfl;clear q HM;intro g4 u4 HM)) | (refine wl_load rfl _ _ rfl rfl (by exact arrOf) HM (by exact memOf) (by exact lenOf) ?_) | (refine wl_storeM rfl _ _ _ rfl rfl rfl (by exact arrOf) HM (by exact idxOf) (by exact lenOf) (by exact lenOf) ?_; clear HM; intro us HM; dsimp only [List.set] at HM) | (refine wl_zero rfl _ rfl (by exact arrOf) (by kernel_rfl) ?_)) | (refine wl_loadS rfl _ _ rfl rfl (by exact arrOf) HM (by exact memOf) (by exact subF) (by exact lenOf) ?_) | (refine wl_cellF rfl _ rfl rfl HM (by exact memOf) (by exact celF) ?_))
  refine (HD.out _).mono ?_
  rintro e w2 ⟨rfl, h1⟩
  have HM2 := Lib.hid (HM.out.below h1)
  clear h1 HM HD
  have HM := HM2
  clear HM2
  go_wp2_with (first | (first | ((first | refine wl_box rfl _ _ rfl rfl HM ?_ | refine wl_alloc rfl _ rfl (by exact arrOf) HM ?_); first | (have q:dL HM = 0:=rfl;clear q HM;intro g1 u1 HM) | (have q:dL HM = 1:=rfl;clear q HM;intro g2 u2 HM) | (have q:dL HM = 2:=rfl;clear q HM;intro g3 u3 HM) | (have q:dL HM = 3:=rfl;clear q HM;intro g4 u4 HM)) | (refine wl_load rfl _ _ rfl rfl (by exact arrOf) HM (by exact memOf) (by exact lenOf) ?_) | (refine wl_storeM rfl _ _ _ rfl rfl rfl (by exact arrOf) HM (by exact idxOf) (by exact lenOf) (by exact lenOf) ?_; clear HM; intro us HM; dsimp only [List.set] at HM) | (refine wl_zero rfl _ rfl (by exact arrOf) (by kernel_rfl) ?_)) | (refine wl_loadS rfl _ _ rfl rfl (by exact arrOf) HM (by exact memOf) (by exact subF) (by exact lenOf) ?_) | (refine wl_cellF rfl _ rfl rfl HM (by exact memOf) (by exact celF) ?_))
  refine (HN.out _).mono ?_
  rintro e w2 ⟨rfl, h1⟩
  have HM2 := Lib.hid (HM.out.below h1)
  clear h1 HM HN
  have HM := HM2
  clear HM2
  go_wp2_with (first | (first | ((first | refine wl_box rfl _ _ rfl rfl HM ?_ | refine wl_alloc rfl _ rfl (by exact arrOf) HM ?_); first | (have q:dL HM = 0:=rfl;clear q HM;intro g1 u1 HM) | (have q:dL HM = 1:=rfl;clear q HM;intro g2 u2 HM) | (have q:dL HM = 2:=rfl;clear q HM;intro g3 u3 HM) | (have q:dL HM = 3:=rfl;clear q HM;intro g4 u4 HM)) | (refine wl_load rfl _ _ rfl rfl (by exact arrOf) HM (by exact memOf) (by exact lenOf) ?_) | (refine wl_storeM rfl _ _ _ rfl rfl rfl (by exact arrOf) HM (by exact idxOf) (by exact lenOf) (by exact lenOf) ?_; clear HM; intro us HM; dsimp only [List.set] at HM) | (refine wl_zero rfl _ rfl (by exact arrOf) (by kernel_rfl) ?_)) | (refine wl_loadS rfl _ _ rfl rfl (by exact arrOf) HM (by exact memOf) (by exact subF) (by exact lenOf) ?_) | (refine wl_cellF rfl _ rfl rfl HM (by exact memOf) (by exact celF) ?_))
  refine (HY.out _).mono ?_
  rintro e w2 ⟨rfl, h1⟩
  have HM2 := Lib.hid (HM.out.below h1)
  clear h1 HM HY
  have HM := HM2
  clear HM2
  go_wp2_with (first | (first | ((first | refine wl_box rfl _ _ rfl rfl HM ?_ | refine wl_alloc rfl _ rfl (by exact arrOf) HM ?_); first | (have q:dL HM = 0:=rfl;clear q HM;intro g1 u1 HM) | (have q:dL HM = 1:=rfl;clear q HM;intro g2 u2 HM) | (have q:dL HM = 2:=rfl;clear q HM;intro g3 u3 HM) | (have q:dL HM = 3:=rfl;clear q HM;intro g4 u4 HM)) | (refine wl_load rfl _ _ rfl rfl (by exact arrOf) HM (by exact memOf) (by exact lenOf) ?_) | (refine wl_storeM rfl _ _ _ rfl rfl rfl (by exact arrOf) HM (by exact idxOf) (by exact lenOf) (by exact lenOf) ?_; clear HM; intro us HM; dsimp only [List.set] at HM) | (refine wl_zero rfl _ rfl (by exact arrOf) (by kernel_rfl) ?_)) | (refine wl_loadS rfl _ _ rfl rfl (by exact arrOf) HM (by exact memOf) (by exact subF) (by exact lenOf) ?_) | (refine wl_cellF rfl _ rfl rfl HM (by exact memOf) (by exact celF) ?_))
  go_ret
  exact ⟨rfl, HM.out.1⟩
set_option maxHeartbeats 4000000 in
theorem rfc_zero_false (F : List Int) (K : Int) (l q p : List Int) (w : World) (hF : FrS F K l q) (lp : p.length = 6) (hk : K = 0) (hl : chkL l = true) (hp : chkL p = true) (hm : mayB q l = false) :
    Calls Tryz.prog 12 #[.agg (icells F), .agg (icells p)] w (ValQ w (.int .i64 1)) := by
  have LF := Lib.hid hF.len
  have LL := Lib.hid hF.ll
  have LQ := Lib.hid hF.lq
  have LP := Lib.hid lp
  have CK := Lib.hid (show 0 < F.length ∧ F.getD 0 0 = K from ⟨by rw [hF.len]; decide, hF.k0⟩)
  have SL := Lib.hid hF.lev
  have SQ := Lib.hid hF.num
  have HM := Lib.hid (Mem.start w)
  have t1 : decide (K < 0) = false := decide_eq_false (by omega)
  have t2 : decide (2 < K) = false := decide_eq_false (by omega)
  have t3 : decide (K = 1) = false := decide_eq_false (by omega)
  have t4 : decide (K = 2) = false := decide_eq_false (by omega)
  have a1 : (K == 1) = false := by rw [hk]; rfl
  have a2 : (K == 2) = false := by rw [hk]; rfl
  have h0 : 0 ≤ K := by omega
  have h2 : K ≤ 2 := by omega
  have HC := Lib.hid (fun u => rbcheck_any l true 0 u hF.ll hl rfl)
  have HD := Lib.hid (fun u => rbcheck_any p true 0 u lp hp rfl)
  have HY := Lib.hid (fun u => rmay_any q l u hF.lq hF.ll)
  rw [hm] at HY
  clear hF lp hl hp hk hm
  go_enter Tryz.func12, Tryz.ntmps12
  go_wp2_with (first | (first | ((first | refine wl_box rfl _ _ rfl rfl HM ?_ | refine wl_alloc rfl _ rfl (by exact arrOf) HM ?_); first | (have q:dL HM = 0:=rfl;clear q HM;intro g1 u1 HM) | (have q:dL HM = 1:=rfl;clear q HM;intro g2 u2 HM) | (have q:dL HM = 2:=rfl;clear q HM;intro g3 u3 HM) | (have q:dL HM = 3:=rfl;clear q HM;intro g4 u4 HM)) | (refine wl_load rfl _ _ rfl rfl (by exact arrOf) HM (by exact memOf) (by exact lenOf) ?_) | (refine wl_storeM rfl _ _ _ rfl rfl rfl (by exact arrOf) HM (by exact idxOf) (by exact lenOf) (by exact lenOf) ?_; clear HM; intro us HM; dsimp only [List.set] at HM) | (refine wl_zero rfl _ rfl (by exact arrOf) (by kernel_rfl) ?_)) | (refine wl_loadS rfl _ _ rfl rfl (by exact arrOf) HM (by exact memOf) (by exact subF) (by exact lenOf) ?_) | (refine wl_cellF rfl _ rfl rfl HM (by exact memOf) (by exact celF) ?_))
  refine (HC.out _).mono ?_
  rintro e w2 ⟨rfl, h1⟩
  have HM2 := Lib.hid (HM.out.below h1)
  clear h1 HM HC
  have HM := HM2
  clear HM2
  go_wp2_with (first | (first | ((first | refine wl_box rfl _ _ rfl rfl HM ?_ | refine wl_alloc rfl _ rfl (by exact arrOf) HM ?_); first | (have q:dL HM = 0:=rfl;clear q HM;intro g1 u1 HM) | (have q:dL HM = 1:=rfl;clear q HM;intro g2 u2 HM) | (have q:dL HM = 2:=rfl;clear q HM;intro g3 u3 HM) | (have q:dL HM = 3:=rfl;clear q HM;intro g4 u4 HM)) | (refine wl_load rfl _ _ rfl rfl (by exact arrOf) HM (by exact memOf) (by exact lenOf) ?_) | (refine wl_storeM rfl _ _ _ rfl rfl rfl (by exact arrOf) HM (by exact idxOf) (by exact lenOf) (by exact lenOf) ?_; clear HM; intro us HM; dsimp only [List.set] at HM) | (refine wl_zero rfl _ rfl (by exact arrOf) (by kernel_rfl) ?_)) | (refine wl_loadS rfl _ _ rfl rfl (by exact arrOf) HM (by exact memOf) (by exact subF) (by exact lenOf) ?_) | (refine wl_cellF rfl _ rfl rfl HM (by exact memOf) (by exact celF) ?_))
  refine (HD.out _).mono ?_
  rintro e w2 ⟨rfl, h1⟩
  have HM2 := Lib.hid (HM.out.below h1)
  clear h1 HM HD
  have HM := HM2
  clear HM2
  go_wp2_with (first | (first | ((first | refine wl_box rfl _ _ rfl rfl HM ?_ | refine wl_alloc rfl _ rfl (by exact arrOf) HM ?_); first | (have q:dL HM = 0:=rfl;clear q HM;intro g1 u1 HM) | (have q:dL HM = 1:=rfl;clear q HM;intro g2 u2 HM) | (have q:dL HM = 2:=rfl;clear q HM;intro g3 u3 HM) | (have q:dL HM = 3:=rfl;clear q HM;intro g4 u4 HM)) | (refine wl_load rfl _ _ rfl rfl (by exact arrOf) HM (by exact memOf) (by exact lenOf) ?_) | (refine wl_storeM rfl _ _ _ rfl rfl rfl (by exact arrOf) HM (by exact idxOf) (by exact lenOf) (by exact lenOf) ?_; clear HM; intro us HM; dsimp only [List.set] at HM) | (refine wl_zero rfl _ rfl (by exact arrOf) (by kernel_rfl) ?_)) | (refine wl_loadS rfl _ _ rfl rfl (by exact arrOf) HM (by exact memOf) (by exact subF) (by exact lenOf) ?_) | (refine wl_cellF rfl _ rfl rfl HM (by exact memOf) (by exact celF) ?_))
  refine (HY.out _).mono ?_
  rintro e w2 ⟨rfl, h1⟩
  have HM2 := Lib.hid (HM.out.below h1)
  clear h1 HM HY
  have HM := HM2
  clear HM2
  go_wp2_with (first | (first | ((first | refine wl_box rfl _ _ rfl rfl HM ?_ | refine wl_alloc rfl _ rfl (by exact arrOf) HM ?_); first | (have q:dL HM = 0:=rfl;clear q HM;intro g1 u1 HM) | (have q:dL HM = 1:=rfl;clear q HM;intro g2 u2 HM) | (have q:dL HM = 2:=rfl;clear q HM;intro g3 u3 HM) | (have q:dL HM = 3:=rfl;clear q HM;intro g4 u4 HM)) | (refine wl_load rfl _ _ rfl rfl (by exact arrOf) HM (by exact memOf) (by exact lenOf) ?_) | (refine wl_storeM rfl _ _ _ rfl rfl rfl (by exact arrOf) HM (by exact idxOf) (by exact lenOf) (by exact lenOf) ?_; clear HM; intro us HM; dsimp only [List.set] at HM) | (refine wl_zero rfl _ rfl (by exact arrOf) (by kernel_rfl) ?_)) | (refine wl_loadS rfl _ _ rfl rfl (by exact arrOf) HM (by exact memOf) (by exact subF) (by exact lenOf) ?_) | (refine wl_cellF rfl _ rfl rfl HM (by exact memOf) (by exact celF) ?_))
  go_ret
  exact ⟨rfl, HM.out.1⟩
set_option maxHeartbeats 4000000 in
theorem rfc_two_false (F : List Int) (K : Int) (l q p : List Int) (w : World) (hF : FrS F K l q) (lp : p.length = 6) (hk : K = 2) (hl : chkL l = true) (hp : chkL p = true) (hq : q = zr 16) (hm : mayB q l = false) :
    Calls Tryz.prog 12 #[.agg (icells F), .agg (icells p)] w (ValQ w (.int .i64 1)) := by
  have LF := Lib.hid hF.len
  have LL := Lib.hid hF.ll
  have LQ := Lib.hid hF.lq
  have LP := Lib.hid lp
  have CK := Lib.hid (show 0 < F.length ∧ F.getD 0 0 = K from ⟨by rw [hF.len]; decide, hF.k0⟩)
  have SL := Lib.hid hF.lev
  have SQ := Lib.hid hF.num
  have HM := Lib.hid (Mem.start w)
  have t1 : decide (K < 0) = false := decide_eq_false (by omega)
  have t2 : decide (2 < K) = false := decide_eq_false (by omega)
  have t3 : decide (K = 1) = false := decide_eq_false (by omega)
  have t4 : decide (K = 2) = true := decide_eq_true (by omega)
  have a1 : (K == 1) = false := by rw [hk]; rfl
  have a2 : (K == 2) = true := by rw [hk]; rfl
  have h0 : 0 ≤ K := by omega
  have h2 : K ≤ 2 := by omega
  have HC := Lib.hid (fun u => rbcheck_any l true 0 u hF.ll hl rfl)
  have HD := Lib.hid (fun u => rbcheck_any p true 0 u lp hp rfl)
  have HY := Lib.hid (fun u => rmay_any q l u hF.lq hF.ll)
  rw [hm] at HY
  have hgd := grdHopF
  have heq : ∀ u, (Op.equalIn 10000 24 (.agg (icells q)) (.agg (icells (zr 16)))).run Tryz.prog u = .ok true u := fun u => by
    rw [hq]; exact run_equalIn_same 24 (n := 16) (by kernel_rfl) (zr 16) (zr_length 16) u
  clear hF lp hl hp hk hm hq
  go_enter Tryz.func12, Tryz.ntmps12
  go_wp2_with (first | (first | ((first | refine wl_box rfl _ _ rfl rfl HM ?_ | refine wl_alloc rfl _ rfl (by exact arrOf) HM ?_); first | (have q:dL HM = 0:=rfl;clear q HM;intro g1 u1 HM) | (have q:dL HM = 1:=rfl;clear q HM;intro g2 u2 HM) | (have q:dL HM = 2:=rfl;clear q HM;intro g3 u3 HM) | (have q:dL HM = 3:=rfl;clear q HM;intro g4 u4 HM)) | (refine wl_load rfl _ _ rfl rfl (by exact arrOf) HM (by exact memOf) (by exact lenOf) ?_) | (refine wl_storeM rfl _ _ _ rfl rfl rfl (by exact arrOf) HM (by exact idxOf) (by exact lenOf) (by exact lenOf) ?_; clear HM; intro us HM; dsimp only [List.set] at HM) | (refine wl_zero rfl _ rfl (by exact arrOf) (by kernel_rfl) ?_)) | (refine wl_loadS rfl _ _ rfl rfl (by exact arrOf) HM (by exact memOf) (by exact subF) (by exact lenOf) ?_) | (refine wl_cellF rfl _ rfl rfl HM (by exact memOf) (by exact celF) ?_))
  refine (HC.out _).mono ?_
  rintro e w2 ⟨rfl, h1⟩
  have HM2 := Lib.hid (HM.out.below h1)
  clear h1 HM HC
  have HM := HM2
  clear HM2
  go_wp2_with (first | (first | ((first | refine wl_box rfl _ _ rfl rfl HM ?_ | refine wl_alloc rfl _ rfl (by exact arrOf) HM ?_); first | (have q:dL HM = 0:=rfl;clear q HM;intro g1 u1 HM) | (have q:dL HM = 1:=rfl;clear q HM;intro g2 u2 HM) | (have q:dL HM = 2:=rfl;clear q HM;intro g3 u3 HM) | (have q:dL HM = 3:=rfl;clear q HM;intro g4 u4 HM)) | (refine wl_load rfl _ _ rfl rfl (by exact arrOf) HM (by exact memOf) (by exact lenOf) ?_) | (refine wl_storeM rfl _ _ _ rfl rfl rfl (by exact arrOf) HM (by exact idxOf) (by exact lenOf) (by exact lenOf) ?_; clear HM; intro us HM; dsimp only [List.set] at HM) | (refine wl_zero rfl _ rfl (by exact arrOf) (by kernel_rfl) ?_)) | (refine wl_loadS rfl _ _ rfl rfl (by exact arrOf) HM (by exact memOf) (by exact subF) (by exact lenOf) ?_) | (refine wl_cellF rfl _ rfl rfl HM (by exact memOf) (by exact celF) ?_))
  refine (HD.out _).mono ?_
  rintro e w2 ⟨rfl, h1⟩
  have HM2 := Lib.hid (HM.out.below h1)
  clear h1 HM HD
  have HM := HM2
  clear HM2
  go_wp2_with (first | (first | ((first | refine wl_box rfl _ _ rfl rfl HM ?_ | refine wl_alloc rfl _ rfl (by exact arrOf) HM ?_); first | (have q:dL HM = 0:=rfl;clear q HM;intro g1 u1 HM) | (have q:dL HM = 1:=rfl;clear q HM;intro g2 u2 HM) | (have q:dL HM = 2:=rfl;clear q HM;intro g3 u3 HM) | (have q:dL HM = 3:=rfl;clear q HM;intro g4 u4 HM)) | (refine wl_load rfl _ _ rfl rfl (by exact arrOf) HM (by exact memOf) (by exact lenOf) ?_) | (refine wl_storeM rfl _ _ _ rfl rfl rfl (by exact arrOf) HM (by exact idxOf) (by exact lenOf) (by exact lenOf) ?_; clear HM; intro us HM; dsimp only [List.set] at HM) | (refine wl_zero rfl _ rfl (by exact arrOf) (by kernel_rfl) ?_)) | (refine wl_loadS rfl _ _ rfl rfl (by exact arrOf) HM (by exact memOf) (by exact subF) (by exact lenOf) ?_) | (refine wl_cellF rfl _ rfl rfl HM (by exact memOf) (by exact celF) ?_))
  refine (HY.out _).mono ?_
  rintro e w2 ⟨rfl, h1⟩
  have HM2 := Lib.hid (HM.out.below h1)
  clear h1 HM HY
  have HM := HM2
  clear HM2
  go_wp2_with (first | (first | ((first | refine wl_box rfl _ _ rfl rfl HM ?_ | refine wl_alloc rfl _ rfl (by exact arrOf) HM ?_); first | (have q:dL HM = 0:=rfl;clear q HM;intro g1 u1 HM) | (have q:dL HM = 1:=rfl;clear q HM;intro g2 u2 HM) | (have q:dL HM = 2:=rfl;clear q HM;intro g3 u3 HM) | (have q:dL HM = 3:=rfl;clear q HM;intro g4 u4 HM)) | (refine wl_load rfl _ _ rfl rfl (by exact arrOf) HM (by exact memOf) (by exact lenOf) ?_) | (refine wl_storeM rfl _ _ _ rfl rfl rfl (by exact arrOf) HM (by exact idxOf) (by exact lenOf) (by exact lenOf) ?_; clear HM; intro us HM; dsimp only [List.set] at HM) | (refine wl_zero rfl _ rfl (by exact arrOf) (by kernel_rfl) ?_)) | (refine wl_loadS rfl _ _ rfl rfl (by exact arrOf) HM (by exact memOf) (by exact subF) (by exact lenOf) ?_) | (refine wl_cellF rfl _ rfl rfl HM (by exact memOf) (by exact celF) ?_))
  go_ret
  exact ⟨rfl, HM.out.1⟩
set_option maxHeartbeats 4000000 in
theorem rfc_two_no (F : List Int) (K : Int) (l q p : List Int) (w : World) (hF : FrS F K l q) (lp : p.length = 6) (hk : K = 2) (hl : chkL l = true) (hp : chkL p = true) (hq : q ≠ zr 16) :
    Calls Tryz.prog 12 #[.agg (icells F), .agg (icells p)] w (ValQ w (.int .i64 1)) := by
  have LF := Lib.hid hF.len
  have LL := Lib.hid hF.ll
  have LQ := Lib.hid hF.lq
  have LP := Lib.hid lp
  have CK := Lib.hid (show 0 < F.length ∧ F.getD 0 0 = K from ⟨by rw [hF.len]; decide, hF.k0⟩)
  have SL := Lib.hid hF.lev
  have SQ := Lib.hid hF.num
  have HM := Lib.hid (Mem.start w)
  have t1 : decide (K < 0) = false := decide_eq_false (by omega)
  have t2 : decide (2 < K) = false := decide_eq_false (by omega)
  have t3 : decide (K = 1) = false := decide_eq_false (by omega)
  have t4 : decide (K = 2) = true := decide_eq_true (by omega)
  have a1 : (K == 1) = false := by rw [hk]; rfl
  have a2 : (K == 2) = true := by rw [hk]; rfl
  have h0 : 0 ≤ K := by omega
  have h2 : K ≤ 2 := by omega
  have HC := Lib.hid (fun u => rbcheck_any l true 0 u hF.ll hl rfl)
  have HD := Lib.hid (fun u => rbcheck_any p true 0 u lp hp rfl)
  have hgd := grdHopF
  have heq := fun u => run_equalIn_diff 24 (n := 16) (by kernel_rfl) q (zr 16) hF.lq (zr_length 16) hq u
  clear hF lp hl hp hk hq
  go_enter Tryz.func12, Tryz.ntmps12
  go_wp2_with (first | (first | ((first | refine wl_box rfl _ _ rfl rfl HM ?_ | refine wl_alloc rfl _ rfl (by exact arrOf) HM ?_); first | (have q:dL HM = 0:=rfl;clear q HM;intro g1 u1 HM) | (have q:dL HM = 1:=rfl;clear q HM;intro g2 u2 HM) | (have q:dL HM = 2:=rfl;clear q HM;intro g3 u3 HM) | (have q:dL HM = 3:=rfl;clear q HM;intro g4 u4 HM)) | (refine wl_load rfl _ _ rfl rfl (by exact arrOf) HM (by exact memOf) (by exact lenOf) ?_) | (refine wl_storeM rfl _ _ _ rfl rfl rfl (by exact arrOf) HM (by exact idxOf) (by exact lenOf) (by exact lenOf) ?_; clear HM; intro us HM; dsimp only [List.set] at HM) | (refine wl_zero rfl _ rfl (by exact arrOf) (by kernel_rfl) ?_)) | (refine wl_loadS rfl _ _ rfl rfl (by exact arrOf) HM (by exact memOf) (by exact subF) (by exact lenOf) ?_) | (refine wl_cellF rfl _ rfl rfl HM (by exact memOf) (by exact celF) ?_))
  refine (HC.out _).mono ?_
  rintro e w2 ⟨rfl, h1⟩
  have HM2 := Lib.hid (HM.out.below h1)
  clear h1 HM HC
  have HM := HM2
  clear HM2
  go_wp2_with (first | (first | ((first | refine wl_box rfl _ _ rfl rfl HM ?_ | refine wl_alloc rfl _ rfl (by exact arrOf) HM ?_); first | (have q:dL HM = 0:=rfl;clear q HM;intro g1 u1 HM) | (have q:dL HM = 1:=rfl;clear q HM;intro g2 u2 HM) | (have q:dL HM = 2:=rfl;clear q HM;intro g3 u3 HM) | (have q:dL HM = 3:=rfl;clear q HM;intro g4 u4 HM)) | (refine wl_load rfl _ _ rfl rfl (by exact arrOf) HM (by exact memOf) (by exact lenOf) ?_) | (refine wl_storeM rfl _ _ _ rfl rfl rfl (by exact arrOf) HM (by exact idxOf) (by exact lenOf) (by exact lenOf) ?_; clear HM; intro us HM; dsimp only [List.set] at HM) | (refine wl_zero rfl _ rfl (by exact arrOf) (by kernel_rfl) ?_)) | (refine wl_loadS rfl _ _ rfl rfl (by exact arrOf) HM (by exact memOf) (by exact subF) (by exact lenOf) ?_) | (refine wl_cellF rfl _ rfl rfl HM (by exact memOf) (by exact celF) ?_))
  refine (HD.out _).mono ?_
  rintro e w2 ⟨rfl, h1⟩
  have HM2 := Lib.hid (HM.out.below h1)
  clear h1 HM HD
  have HM := HM2
  clear HM2
  go_wp2_with (first | (first | ((first | refine wl_box rfl _ _ rfl rfl HM ?_ | refine wl_alloc rfl _ rfl (by exact arrOf) HM ?_); first | (have q:dL HM = 0:=rfl;clear q HM;intro g1 u1 HM) | (have q:dL HM = 1:=rfl;clear q HM;intro g2 u2 HM) | (have q:dL HM = 2:=rfl;clear q HM;intro g3 u3 HM) | (have q:dL HM = 3:=rfl;clear q HM;intro g4 u4 HM)) | (refine wl_load rfl _ _ rfl rfl (by exact arrOf) HM (by exact memOf) (by exact lenOf) ?_) | (refine wl_storeM rfl _ _ _ rfl rfl rfl (by exact arrOf) HM (by exact idxOf) (by exact lenOf) (by exact lenOf) ?_; clear HM; intro us HM; dsimp only [List.set] at HM) | (refine wl_zero rfl _ rfl (by exact arrOf) (by kernel_rfl) ?_)) | (refine wl_loadS rfl _ _ rfl rfl (by exact arrOf) HM (by exact memOf) (by exact subF) (by exact lenOf) ?_) | (refine wl_cellF rfl _ rfl rfl HM (by exact memOf) (by exact celF) ?_))
  go_ret
  exact ⟨rfl, HM.out.1⟩
theorem rfcheck_any (F : List Int) (K : Int) (l q p : List Int) (w : World) (hF : FrS F K l q) (lp : p.length = 6) :
    Calls Tryz.prog 12 #[.agg (icells F), .agg (icells p)] w (ValQ w (.int .i64 (errC K l q p))) := by
  unfold errC
  by_cases h0 : K < 0
  · rw [if_neg (fun h => by have := ((chkB_iff _ _ _ _).1 h).kind; omega)]; exact rfc_neg F K l q p w hF lp h0
  by_cases h2 : 2 < K
  · rw [if_neg (fun h => by have := ((chkB_iff _ _ _ _).1 h).kind; omega)]; exact rfc_big F K l q p w hF lp h2
  cases hl : chkL l with
  | false => rw [if_neg (fun h => by have := ((chkB_iff _ _ _ _).1 h).lev; rw [hl] at this; cases this)]; exact rfc_l F K l q p w hF lp (by omega) (by omega) hl
  | true =>
    cases hp : chkL p with
    | false => rw [if_neg (fun h => by have := ((chkB_iff _ _ _ _).1 h).ahead; rw [hp] at this; cases this)]; exact rfc_p F K l q p w hF lp (by omega) (by omega) hl hp
    | true =>
      by_cases k1 : K = 1
      · cases hn : nearN l p 6 with
        | false => rw [if_neg (fun h => by have := ((chkB_iff _ _ _ _).1 h).near k1; rw [hn] at this; cases this)]; exact rfc_far F K l q p w hF lp k1 hl hp hn
        | true =>
          cases hm : mayB q l with
          | false => rw [if_neg (fun h => by have := ((chkB_iff _ _ _ _).1 h).may; rw [hm] at this; cases this)]; exact rfc_one_false F K l q p w hF lp k1 hl hp hn hm
          | true => rw [if_pos ((chkB_iff _ _ _ _).2 ⟨by omega, hl, hp, fun _ => hn, fun k => by omega, hm⟩)]; exact rfc_one_true F K l q p w hF lp k1 hl hp hn hm
      by_cases k2 : K = 2
      · by_cases hq : q = zr 16
        · cases hm : mayB q l with
          | false => rw [if_neg (fun h => by have := ((chkB_iff _ _ _ _).1 h).may; rw [hm] at this; cases this)]; exact rfc_two_false F K l q p w hF lp k2 hl hp hq hm
          | true => rw [if_pos ((chkB_iff _ _ _ _).2 ⟨by omega, hl, hp, fun k => absurd k k1, fun _ => hq, hm⟩)]; exact rfc_two_true F K l q p w hF lp k2 hl hp hq hm
        · rw [if_neg (fun h => hq (((chkB_iff _ _ _ _).1 h).sid k2))]; exact rfc_two_no F K l q p w hF lp k2 hl hp hq
      · cases hm : mayB q l with
        | false => rw [if_neg (fun h => by have := ((chkB_iff _ _ _ _).1 h).may; rw [hm] at this; cases this)]; exact rfc_zero_false F K l q p w hF lp (by omega) hl hp hm
        | true => rw [if_pos ((chkB_iff _ _ _ _).2 ⟨by omega, hl, hp, fun k => absurd k k1, fun k => absurd k k2, hm⟩)]; exact rfc_zero_true F K l q p w hF lp (by omega) hl hp hm
end Go.Proofs.YtgpdgegelipboaaGreatDoor.Lp
namespace Go.Proofs.YtgpdgegelipboaaGreatDoor.Lp
open Go.RowKit Fx Fq Tb
open Cd (Pr Tb RdT tbs own_far row_neC)
open Yr (Fr lvP headP numsP numsP_succ symsP kT cT lT smT ms_cases smN_ok smN)
def SymOut (w : World) (ps : List Pr) (e : Ending) (w' : World) : Prop :=
  ∃ A n c L d ts, e = .returned (.tuple #[.slice A n c, .slice L n d]) ∧ ps.length = n ∧ RdI w' A n (ps.map (·.1)) ∧ RdT w' L n ts ∧ tbs ts = ps.map (·.2) ∧ Below w.heap.size w w'
theorem own_oneF (w : World) (ad : Addr) (m d B : Nat) (hB : B ≤ w.heap.size) : (w.alloc (.cells #[.slice (some ad) m d] 40)).ownsRow B 40 1 (.slice (some ⟨w.heap.size, 0, none⟩) 1 1) 1 [.slice (some ad) m d] :=
  ⟨rfl, .inr ⟨w.heap.size, 1, #[.slice (some ad) m d], rfl, hB, Blk.new w _ _, by omega, by decide, rfl, rfl⟩⟩
def hdP (K : Int) (l p : List Int) (k : Nat) : List Pr := (K, kT) :: (List.range k).map (lvP K l p)
theorem hdP_succ (K : Int) (l p : List Int) (k : Nat) : hdP K l p (k + 1) = hdP K l p k ++ [lvP K l p k] := by
  unfold hdP
  rw [List.range_succ, List.map_append]
  rfl
theorem hdP_one {K : Int} {l p : List Int} (h : K = 1) (k : Nat) : hdP K l p (k + 1) = hdP K l p k ++ [(l.getD k 0 - p.getD k 0 + 8, cT)] := by
  rw [hdP_succ]; unfold lvP; rw [if_pos h]
theorem hdP_not {K : Int} {l p : List Int} (h : ¬ K = 1) (k : Nat) : hdP K l p (k + 1) = hdP K l p k ++ [(l.getD k 0, lT)] := by
  rw [hdP_succ]; unfold lvP; rw [if_neg h]
theorem frS_lev {F : List Int} {K : Int} {l q : List Int} (h : FrS F K l q) {k : Nat} (hk : k < 6) : F.getD (1 + k) 0 = l.getD k 0 := by
  rw [← h.lev]
  simp only [List.getD_eq_getElem?_getD, List.getElem?_take, hk, if_true, List.getElem?_drop]
theorem frS_num {F : List Int} {K : Int} {l q : List Int} (h : FrS F K l q) {k : Nat} (hk : k < 16) : F.getD (7 + k) 0 = q.getD k 0 := by
  rw [← h.num]
  simp only [List.getD_eq_getElem?_getD, List.getElem?_take, hk, if_true, List.getElem?_drop]
def FrP (g1 g2 : Nat) (F p : List Int) (u : World) : Prop := Blk u g1 26 (icells F) ∧ Blk u g2 23 (icells p)
theorem c1v {a b : Int} (h : a = b) : some (Value.int .i64 a) = some (Value.int .i64 b) := by rw [h]
theorem ms_at2 {l ms : List Int} (hc : chkL l = true) {n : Nat} (hn : n < 16) (hm : msL l = ms) : ∃ k : Nat, k ≤ 7 ∧ (ms.getD n 0 = 0 ∨ (1 ≤ k ∧ ms.getD n 0 = (mostN k : Int))) := by
  obtain ⟨k, h7, -, h⟩ := ms_cases hc hn
  rw [hm] at h
  exact ⟨k, h7, h.imp (fun h => h.2) id⟩
theorem SyS.mem {w : World} {g2 g3 B n6 n7 : Nat} {F p : List Int} {v6 v7 : Value} {ps6 ps7 : List Pr} {u : World} (h : SyS w g2 g3 B F p v6 v7 n6 n7 ps6 ps7 u) (hne : g3 ≠ g2) : Mem w [(g3, 23, p), (g2, 26, F)] u := by
  refine ⟨h.blw, fun e he => ?_, fun e he => ?_, .cons (fun e he => ?_) (.cons (fun e he => absurd he (by simp)) .nil)⟩
  · rcases List.mem_cons.1 he with rfl | he
    · exact h.pr
    · rw [List.mem_singleton] at he; subst he; exact h.fr
  · rcases List.mem_cons.1 he with rfl | he
    · exact h.h3
    · rw [List.mem_singleton] at he; subst he; exact h.h2
  · rw [List.mem_singleton] at he; subst he; exact hne
theorem wl_loadE {ops : Array Oper} {rest : List Oper} {o : Oper} {a : Act} {w : World} {Q : Exit → Act → World → Prop} (hgd : Region.wanted o (yielded ops a.tmps) = true) (T' : TypeId) (x : Operand) (ho : o.op = .load T' x) {ad : Addr} (hx : a.eval x = .pointer (some ad)) {v : Value}
    (hv : Hid ((loadVar T' ad).run Tryz.prog w = .ok v w)) (h : wpList Tryz.prog ops Q rest (a.put o.dst v) w) : wpList Tryz.prog ops Q (o :: rest) a w :=
  wl_step hgd fun K hK => by
    have := hK _ _ h
    unfold Oper.wp execOp
    simp only [ho, hx, Instr.loadAt, Instr.sureAddr, Sem.run_bind, Sem.run_pure, Result.andThen_ok, hv.out]
    exact this
set_option maxHeartbeats 8000000 in
theorem rsyms_any (F : List Int) (Kd : Int) (l q p : List Int) (w : World) (hF : FrS F Kd l q) (lp : p.length = 6) (hfr : Fr Kd l q p) :
    Calls Tryz.prog 21 #[.agg (icells F), .agg (icells p)] w (SymOut w (symsP Kd l q p)) := by
  obtain ⟨i0, hi0, hz0, hz1, hz2⟩ := info_partsT info_intT
  obtain ⟨j0, hj0, hy0, hy1, hy2⟩ := info_partsT info_freqL
  have LF := Lib.hid hF.len
  have LP := Lib.hid lp
  have CK := Lib.hid (show 0 < F.length ∧ F.getD 0 0 = Kd from ⟨by rw [hF.len]; decide, hF.k0⟩)
  have HM := Lib.hid (Mem.start w)
  have HF := Lib.hid hF
  have HR := Lib.hid hfr
  clear hF lp hfr
  go_enter Tryz.func21, Tryz.ntmps21
  go_wp2_with (first | (first | ((first | refine wl_box rfl _ _ rfl rfl HM ?_ | refine wl_alloc rfl _ rfl (by exact arrOf) HM ?_); first | (have q:dL HM = 0:=rfl;clear q HM;intro g1 u1 HM) | (have q:dL HM = 1:=rfl;clear q HM;intro g2 u2 HM) | (have q:dL HM = 2:=rfl;clear q HM;intro g3 u3 HM) | (have q:dL HM = 3:=rfl;clear q HM;intro g4 u4 HM) | (have q:dL HM = 4:=rfl;clear q HM;intro g5 u5 HM) | (have q:dL HM = 5:=rfl;clear q HM;intro g6 u6 HM) | (have q:dL HM = 6:=rfl;clear q HM;intro g7 u7 HM) | (have q:dL HM = 7:=rfl;clear q HM;intro g8 u8 HM)) | (refine wl_load rfl _ _ rfl rfl (by exact arrOf) HM (by exact memOf) (by exact lenOf) ?_) | (refine wl_storeM rfl _ _ _ rfl rfl rfl (by exact arrOf) HM (by exact idxOf) (by exact lenOf) (by exact lenOf) ?_; clear HM; intro us HM; dsimp only [List.set] at HM) | (refine wl_zero rfl _ rfl (by exact arrOf) (by kernel_rfl) ?_)) | (refine wl_loadS rfl _ _ rfl rfl (by exact arrOf) HM (by exact memOf) (by exact subF) (by exact lenOf) ?_) | (refine wl_cellF rfl _ rfl rfl HM (by exact memOf) (by exact celF) ?_))
  obtain ⟨gF, hgF⟩ : ∃ gF, gF = g1 := ⟨_, rfl⟩
  obtain ⟨gP, hgP⟩ : ∃ gP, gP = g2 := ⟨_, rfl⟩
  subst hgF
  subst hgP
  have l1 := (HM.out.get (.tail _ (.head _))).lt
  have hne : gP ≠ gF := by
    have := HM.out.2.2.2
    rw [List.pairwise_cons] at this
    exact this.1 _ (.head _)
  have l2 := (HM.out.get (.head _)).lt
  obtain ⟨n1, n2⟩ : w.heap.size ≤ gF ∧ w.heap.size ≤ gP := ⟨HM.out.2.2.1 _ (.tail _ (.head _)), HM.out.2.2.1 _ (.head _)⟩
  obtain ⟨B, hB⟩ : ∃ B, B = u2.heap.size := ⟨_, rfl⟩
  have HO := Lib.hid (own_one u2 Kd B (by omega))
  have HM3 := Lib.hid (HM.out.below ((Below.refl u2.heap.size u2).alloc (Nat.le_refl _) (.cells #[.int .i64 Kd] 3)))
  have hu3 : (u2.alloc (.cells #[.int .i64 Kd] 3)).heap.size = B + 1 := by rw [hB]; simp
  generalize u2.alloc (.cells #[.int .i64 Kd] 3) = u3 at HO HM3 hu3 ⊢
  rw [← hB] at HO l1 l2 ⊢
  clear HM hB
  refine (rkinds_any u3).mono ?_
  rintro e u4 ⟨ad, n, c, rfl, hg, hr, hb⟩
  have hn := hr.1
  have hs4 := hb.size
  have had : ad.block < u4.heap.size := by
    obtain ⟨a, e, h, -⟩ := hr.at_ (k := 0) (by rw [← hn]; decide +kernel)
    injection e with e
    subst e
    exact h
  have HS0 := Lib.hid (show SyS w gF gP B F p (.slice (some ⟨B, 0, none⟩) 1 1) (.slice (some ⟨u4.heap.size, 0, none⟩) 1 1) 1 1 [(Kd, kT)] [(Kd, kT)] (u4.alloc (.cells #[.slice (some ad) n c] 40)) from by
    have HM4 := HM3.out.below hb
    refine ⟨(HM4.get (.tail _ (.head _))).alloc _, (HM4.get (.head _)).alloc _, (row_belowN HO.out hb).alloc _, ⟨[⟨some ad, n, c, kT⟩], rfl, own_oneF u4 ad n c B (by omega), fun t ht => ?_⟩, l1, l2, n1, n2, by simp; omega, HM4.1.alloc HM4.1.size _⟩
    rw [List.mem_singleton] at ht
    subst ht
    refine ⟨ad, rfl, by simp; omega, fun e => ?_, fun e => ?_, hr.alloc _, by show n ≤ maxLen; rw [← hn]; decide +kernel⟩
    · injection e with e
      have : B = ad.block := e
      omega
    · injection e with e
      have : u4.heap.size = ad.block := e
      omega)
  clear HM3 HO hb hr hg hu3
  go_wp2
  generalize u4.alloc (.cells #[.slice (some ad) n c] 40) = u5 at HS0 ⊢
  clear had hn hs4
  go_loopw [6, 7, 8, 20] (fun v6 v7 _ vi wr => ∃ k : Nat, vi = .int .i64 (k : Int) ∧ k ≤ 6 ∧ Hid (SyS w gF gP B F p v6 v7 (k + 1) (k + 1) (hdP Kd l p k) (hdP Kd l p k) wr)) (fun _ _ _ vi _ => 6 - (intOf vi).toNat)
  case atStart => exact ⟨0, rfl, by omega, HS0⟩
  case round =>
    obtain ⟨k, rfl, hk, HZ⟩ := hrel
    clear HS0
    by_cases hlt : k < 6
    · have k6 : (k : Int) < 6 := by omega
      have c0 := blk_at HZ.out.fr (i := 0) (by rw [LF.out]; decide)
      rw [CK.out.2] at c0
      have c1 := blk_at HZ.out.fr (i := 1 + k) (by rw [LF.out]; omega)
      rw [frS_lev HF.out hlt] at c1
      have c2 := blk_at HZ.out.pr (i := k) (by rw [LP.out]; exact hlt)
      obtain ⟨x1, x2⟩ := inR_bd HR.out.lev (by omega) (by omega) k
      obtain ⟨y1, y2⟩ := inR_bd HR.out.ahead (by omega) (by omega) k
      obtain ⟨m, hm⟩ : ∃ m, m = k + 1 := ⟨_, rfl⟩
      by_cases hK : Kd = 1
      · have hLV := Lib.hid (show hdP Kd l p (k + 1) = hdP Kd l p k ++ [(l.getD k 0 - p.getD k 0 + 8, cT)] from hdP_one hK k)
        have a1 : (Kd == 1) = true := by rw [hK]; rfl
        have HX1 := Lib.hid (frS_lev HF.out hlt)
        obtain ⟨x, hx⟩ : ∃ x, l.getD k 0 = x := ⟨_, rfl⟩
        obtain ⟨y, hy⟩ : ∃ y, p.getD k 0 = y := ⟨_, rfl⟩
        have HX2 := Lib.hid hy
        rw [hx] at c1 hLV x1 x2 HX1
        rw [hy] at c2 hLV y1 y2
        clear hx hy
        have w1 : IntKind.i64.wrap (x - y) = x - y := i64_w (by omega) (by omega)
        have w2 : IntKind.i64.wrap (x - y + 8) = x - y + 8 := i64_w (by omega) (by omega)
        rw [← hm] at HZ
        have HMM := Lib.hid hm
        have hm7 : m ≤ 7 := by omega
        clear hm
        have HZD := Lib.hid HZ.out.drew
        have HC1 := Lib.hid (fun u (hu : FrP gF gP F p u) => (blk_at hu.1 (i := 1 + k) (by rw [LF.out]; omega)).trans (c1v HX1.out))
        have HC2 := Lib.hid (fun u (hu : FrP gF gP F p u) => (blk_at hu.2 (i := k) (by rw [LP.out]; exact hlt)).trans (c1v HX2.out))
        clear hK c1 c2
        go_wp2_with fail
        refine wp_region_held_drew (S := FrP gF gP F p) (by kernel_rfl) ⟨HZD.out.fr, HZD.out.pr⟩ (fun hHeld => ?_)
        clear c0
        generalize World.drew _ = wd at HZD hHeld ⊢
        (refine wa_take (i := 0) rfl (by kernel_rfl) (by kernel_rfl) (by kernel_rfl) (fun _ _ _ h => h) (yi_free rfl (fun u => rfl)) hHeld rfl ?_; (try simp only [Act.put, qz1, qz2, qz3]))
        (refine wa_take (i := 1) rfl (by kernel_rfl) (by kernel_rfl) (by kernel_rfl) (fun _ _ _ h => h) (yi_free rfl (fun u => rfl)) hHeld rfl ?_; (try simp only [Act.put, qz1, qz2, qz3]))
        (refine wa_take (i := 2) (v := .pointer (some ⟨gF, 1, none⟩)) rfl (by kernel_rfl) (by kernel_rfl) (by kernel_rfl) (fun _ _ _ h => h) (yi_free rfl (fun u => by go_simp)) hHeld rfl ?_; (try simp only [Act.put, qz1, qz2, qz3]))
        (refine wa_take (i := 3) (v := .pointer (some ⟨gF, 1 + k, none⟩)) rfl (by kernel_rfl) (by kernel_rfl) (by kernel_rfl) (fun _ _ _ h => h) (yi_free rfl (fun u => by go_simp)) hHeld rfl ?_; (try simp only [Act.put, qz1, qz2, qz3]))
        (refine wa_take (i := 4) rfl (by kernel_rfl) (by kernel_rfl) (by kernel_rfl) (fun _ _ _ h => h) (yi_cell rfl _ rfl rfl (HC1).out) hHeld rfl ?_; (try simp only [Act.put, qz1, qz2, qz3]))
        (refine wa_take (i := 5) rfl (by kernel_rfl) (by kernel_rfl) (by kernel_rfl) (fun _ _ _ h => h) (yi_free rfl (fun u => rfl)) hHeld rfl ?_; (try simp only [Act.put, qz1, qz2, qz3]))
        (refine wa_take (i := 6) (v := .pointer (some ⟨gP, k, none⟩)) rfl (by kernel_rfl) (by kernel_rfl) (by kernel_rfl) (fun _ _ _ h => h) (yi_free rfl (fun u => by go_simp)) hHeld rfl ?_; (try simp only [Act.put, qz1, qz2, qz3]))
        (refine wa_take (i := 7) rfl (by kernel_rfl) (by kernel_rfl) (by kernel_rfl) (fun _ _ _ h => h) (yi_cell rfl _ rfl rfl (HC2).out) hHeld rfl ?_; (try simp only [Act.put, qz1, qz2, qz3]))
        (refine wa_take (i := 8) (v := .int .i64 (x - y)) rfl (by kernel_rfl) (by kernel_rfl) (by kernel_rfl) (fun _ _ _ h => h) (yi_free rfl (fun u => by go_simp)) hHeld rfl ?_; (try simp only [Act.put, qz1, qz2, qz3]))
        (refine wa_take (i := 9) (v := .int .i64 (x - y + 8)) rfl (by kernel_rfl) (by kernel_rfl) (by kernel_rfl) (fun _ _ _ h => h) (yi_free rfl (fun u => by go_simp)) hHeld rfl ?_; (try simp only [Act.put, qz1, qz2, qz3]))
        refine wpAnyH_ready (rs := [10]) (by kernel_rfl) (by simp) ?_; refine AllReadyH.cons rfl (fun K hK => ?_) (AllReadyH.nil)
        rw [if_pos (by rfl)]; go_simp
        refine hK.out _ _ ⟨HZD.out.fr.alloc _, HZD.out.pr.alloc _⟩ (fun hHeld => ?_)
        clear hK K
        refine wpAnyH_ready (rs := [11]) (by kernel_rfl) (by simp) ?_; refine AllReadyH.cons rfl (fun K hK => ?_) (AllReadyH.nil)
        refine step_append_lies _ rfl (.tmp 26) (.tmp 36) 33 rfl B 3 i0 _ 1 8 Tryz.underlying33 hi0 hz0 hz1 hz2 rfl (by omega) _ m _ rfl (HZD.out.syms.alloc _) ⟨wd.heap.size, 0, none⟩ 1 1 [.int .i64 (x - y + 8)] rfl rfl (cell_one_new _ _ _) (by intro u hu; simp at hu; subst hu; rfl) (by omega) (by unfold maxLen; omega) (by omega) (by have := HZD.out.hBu; simp; omega) _ rfl ?_
        intro g5 cap5 w4 hown1 hg1 hv1 _
        have HS4 := Lib.hid (show SyS w gF gP B F p (.slice (some ⟨g5, 0, none⟩) (m + 1) cap5) u7 (m + 1) m (hdP Kd l p (k + 1)) (hdP Kd l p k) w4 from by rw [hLV.out]; exact (HZD.out.alloc _).push6 (x - y + 8, cT) hown1 hg1 (hv1.imp (fun h => h.symm) (fun h => by show some g5 = _; rw [h])))
        clear hown1 hg1 hv1
        refine hK.out _ _ ⟨HS4.out.fr, HS4.out.pr⟩ (fun hHeld => ?_)
        clear hK K
        (refine wa_take (i := 12) rfl (by kernel_rfl) (by kernel_rfl) (by kernel_rfl) (fun _ _ _ h => h) (yi_free rfl (fun u => rfl)) hHeld rfl ?_; (try simp only [Act.put, qz1, qz2, qz3]))
        refine wpAnyH_done (by kernel_rfl) ?_ _
        go_wp2_with fail
        have HB4 := Lib.hid HS4.out.blw
        refine (rchanges_any w4).mono ?_
        rintro e w5 ⟨ad5, n5, c5, rfl, hg5, hr5, hb5⟩
        have hn5 := hr5.1
        obtain ⟨ts, t2, hBu5, hk5⟩ := HS4.out.tabK hLV.out hb5 hg5 hr5 (by rw [← hn5]; decide +kernel) (by rw [← hn5]; decide +kernel)
        have HQ5 := Lib.hid hk5
        have HT := Lib.hid t2
        clear t2 hk5 hb5 hg5 hr5 hn5
        go_wp2_with (at_builtin; refine wpList_append_own_at _ rfl (.tmp 38) (.tmp 40) 32 rfl B 40 j0 _ 1 24 Tryz.underlying32 hj0 hy0 hy1 hy2 rfl (by omega) _ m _ rfl (HT.out.alloc _) ⟨w5.heap.size, 0, none⟩ 1 1 [.slice (some ad5) n5 c5] rfl rfl (cell_one_new _ _ _) (by intro u hu; simp at hu; subst hu; rfl) (by unfold maxLen; omega) (by omega) (by simp; omega) ?_; intro v2 w6 hown2 hg2 _ hv2; have HS6 := Lib.hid (HQ5.out _ _ _ _ hown2 hg2 hv2); clear hown2 hg2 hv2)
        go_roundw
        case rel => exact ⟨k + 1, by go_num, by omega, by have h := HS6; have e := HMM.out; subst e; exact h⟩
        case measure => simp [intOf]; omega
      · have hLV := Lib.hid (show hdP Kd l p (k + 1) = hdP Kd l p k ++ [(l.getD k 0, lT)] from hdP_not hK k)
        have a1 : (Kd == 1) = false := by simpa using hK
        obtain ⟨x, hx⟩ : ∃ x, l.getD k 0 = x := ⟨_, rfl⟩
        rw [hx] at c1 hLV x1 x2
        rw [← hm] at HZ
        have HMM := Lib.hid hm
        have hm7 : m ≤ 7 := by omega
        clear hm hx hK c2
        go_wp2_with (at_builtin; refine wpList_append_own_at _ rfl (.tmp 42) (.tmp 47) 33 rfl B 3 i0 _ 1 8 Tryz.underlying33 hi0 hz0 hz1 hz2 rfl (by omega) _ m _ rfl (HZ.out.syms.alloc _) ⟨wr.heap.size, 0, none⟩ 1 1 [.int .i64 x] rfl rfl (cell_one_new _ _ _) (by intro u hu; simp at hu; subst hu; rfl) (by unfold maxLen; omega) (by omega) (by have := HZ.out.hBu; simp; omega) ?_; intro v1 w4 hown1 hg1 _ hv1; have HS4 := Lib.hid (show SyS w gF gP B F p v1 u7 (m + 1) m (hdP Kd l p (k + 1)) (hdP Kd l p k) w4 from by rw [hLV.out]; exact (HZ.out.alloc _).push6 (x, lT) hown1 hg1 hv1); clear hown1 hg1 hv1 c0 c1)
        have HB4 := Lib.hid HS4.out.blw
        refine (rlevels_any w4).mono ?_
        rintro e w5 ⟨ad5, n5, c5, rfl, hg5, hr5, hb5⟩
        have hn5 := hr5.1
        obtain ⟨ts, t2, hBu5, hk5⟩ := HS4.out.tabK hLV.out hb5 hg5 hr5 (by rw [← hn5]; decide +kernel) (by rw [← hn5]; decide +kernel)
        have HQ5 := Lib.hid hk5
        have HT := Lib.hid t2
        clear t2 hk5 hb5 hg5 hr5 hn5
        go_wp2_with (at_builtin; refine wpList_append_own_at _ rfl (.tmp 49) (.tmp 51) 32 rfl B 40 j0 _ 1 24 Tryz.underlying32 hj0 hy0 hy1 hy2 rfl (by omega) _ m _ rfl (HT.out.alloc _) ⟨w5.heap.size, 0, none⟩ 1 1 [.slice (some ad5) n5 c5] rfl rfl (cell_one_new _ _ _) (by intro u hu; simp at hu; subst hu; rfl) (by unfold maxLen; omega) (by omega) (by simp; omega) ?_; intro v2 w6 hown2 hg2 _ hv2; have HS6 := Lib.hid (HQ5.out _ _ _ _ hown2 hg2 hv2); clear hown2 hg2 hv2)
        go_roundw
        case rel => exact ⟨k + 1, by go_num, by omega, by have h := HS6; have e := HMM.out; subst e; exact h⟩
        case measure => simp [intOf]; omega
    · obtain rfl : k = 6 := by omega
      have c0 := blk_at HZ.out.fr (i := 0) (by rw [LF.out]; decide)
      rw [CK.out.2] at c0
      by_cases hK : Kd = 2
      · have HE := Lib.hid (show symsP Kd l q p = hdP Kd l p 6 by unfold symsP; rw [if_pos hK, List.append_nil]; rfl)
        have a1 : (Kd == 2) = true := by rw [hK]; rfl
        obtain ⟨A6, c6, rfl, h6⟩ := HZ.out.rd6
        obtain ⟨A7, c7, ts, rfl, h7, h8⟩ := HZ.out.rd7
        have H6 := Lib.hid h6
        have H7 := Lib.hid h7
        have H8 := Lib.hid h8
        clear h6 h7 h8 hK
        go_wp2
        go_ret2
        exact ⟨A6, 7, c6, A7, c7, ts, rfl, by rw [HE.out]; exact HZ.out.len.1, by rw [HE.out]; exact H6.out, H7.out, by rw [HE.out]; exact H8.out, HZ.out.blw⟩
      · have a1 : (Kd == 2) = false := by simpa using hK
        have HE := Lib.hid (show symsP Kd l q p = hdP Kd l p 6 ++ numsP q (msL l) 16 by unfold symsP; rw [if_neg hK]; rfl)
        have HLD := Lib.hid (run_load_sub arrLev (SyS.mem HZ.out hne) (.tail _ (.head _)) HF.out.lev HF.out.ll)
        have HCS := Lib.hid (fun u => rsteps_good l u HF.out.ll HR.out.lev)
        clear hK
        have HM := Lib.hid (Mem.start wr)
        go_wp2_with (first | (refine wl_loadE rfl _ _ rfl rfl HLD ?_) | (first | (first | ((first | refine wl_box rfl _ _ rfl rfl HM ?_ | refine wl_alloc rfl _ rfl (by exact arrOf) HM ?_); first | (have q:dL HM = 0:=rfl;clear q HM;intro g1 u1 HM) | (have q:dL HM = 1:=rfl;clear q HM;intro g2 u2 HM) | (have q:dL HM = 2:=rfl;clear q HM;intro g3 u3 HM) | (have q:dL HM = 3:=rfl;clear q HM;intro g4 u4 HM) | (have q:dL HM = 4:=rfl;clear q HM;intro g5 u5 HM) | (have q:dL HM = 5:=rfl;clear q HM;intro g6 u6 HM) | (have q:dL HM = 6:=rfl;clear q HM;intro g7 u7 HM) | (have q:dL HM = 7:=rfl;clear q HM;intro g8 u8 HM)) | (refine wl_load rfl _ _ rfl rfl (by exact arrOf) HM (by exact memOf) (by exact lenOf) ?_) | (refine wl_storeM rfl _ _ _ rfl rfl rfl (by exact arrOf) HM (by exact idxOf) (by exact lenOf) (by exact lenOf) ?_; clear HM; intro us HM; dsimp only [List.set] at HM) | (refine wl_zero rfl _ rfl (by exact arrOf) (by kernel_rfl) ?_)) | (refine wl_loadS rfl _ _ rfl rfl (by exact arrOf) HM (by exact memOf) (by exact subF) (by exact lenOf) ?_) | (refine wl_cellF rfl _ rfl rfl HM (by exact memOf) (by exact celF) ?_)))
        refine (HCS.out _).mono ?_
        rintro e wb ⟨rfl, hb⟩
        obtain ⟨ms, hms⟩ : ∃ ms, ms = moL (shareL l 120) := ⟨_, rfl⟩
        have HMS := Lib.hid (show msL l = ms by unfold msL; rw [if_pos HR.out.lev, hms])
        rw [← hms]
        have LMS := Lib.hid (show ms.length = 16 by rw [hms]; exact tab_length _ _)
        have LST := Lib.hid (show (stL l (shareL l 120)).length = 16 from tab_length _ _)
        have LSH := Lib.hid (show (shareL l 120).length = 6 from (share_ok l (B := 120) (by decide)).1.1)
        have HM2 := Lib.hid (HM.out.below hb)
        clear HM hb HCS HLD hms c0
        have HM := HM2
        clear HM2
        generalize stL l (shareL l 120) = sl at LST ⊢
        generalize shareL l 120 = al at LSH ⊢
        go_wp2_with (first | (first | ((first | refine wl_box rfl _ _ rfl rfl HM ?_ | refine wl_alloc rfl _ rfl (by exact arrOf) HM ?_); first | (have q:dL HM = 0:=rfl;clear q HM;intro g1 u1 HM) | (have q:dL HM = 1:=rfl;clear q HM;intro g2 u2 HM) | (have q:dL HM = 2:=rfl;clear q HM;intro g3 u3 HM) | (have q:dL HM = 3:=rfl;clear q HM;intro g4 u4 HM) | (have q:dL HM = 4:=rfl;clear q HM;intro g5 u5 HM) | (have q:dL HM = 5:=rfl;clear q HM;intro g6 u6 HM) | (have q:dL HM = 6:=rfl;clear q HM;intro g7 u7 HM) | (have q:dL HM = 7:=rfl;clear q HM;intro g8 u8 HM)) | (refine wl_load rfl _ _ rfl rfl (by exact arrOf) HM (by exact memOf) (by exact lenOf) ?_) | (refine wl_storeM rfl _ _ _ rfl rfl rfl (by exact arrOf) HM (by exact idxOf) (by exact lenOf) (by exact lenOf) ?_; clear HM; intro us HM; dsimp only [List.set] at HM) | (refine wl_zero rfl _ rfl (by exact arrOf) (by kernel_rfl) ?_)) | (refine wl_loadS rfl _ _ rfl rfl (by exact arrOf) HM (by exact memOf) (by exact subF) (by exact lenOf) ?_) | (refine wl_cellF rfl _ rfl rfl HM (by exact memOf) (by exact celF) ?_))
        have HZ0 := Lib.hid (show SyS w gF gP B F p u6 u7 7 7 (hdP Kd l p 6 ++ numsP q ms 0) (hdP Kd l p 6 ++ numsP q ms 0) us from by
          rw [show numsP q ms 0 = [] from rfl, List.append_nil]
          exact HZ.out.next HM.out.1)
        rw [HMS.out] at HE
        have HQM := Lib.hid (fun j (hj : j < 16) => ms_at2 HR.out.lev hj HMS.out)
        have HBQ := Lib.hid (fun j (hj : j < 16) => mayN_at 16 j hj (show mayN q ms 16 = true from by have h := HR.out.may; unfold mayB at h; rw [Bool.and_eq_true] at h; rw [← HMS.out]; exact h.2))
        clear HM HZ LST LSH
        go_loopw [6, 7, 13, 14, 68] (fun v6 v7 _ _ vi wr2 => ∃ k n : Nat, vi = .int .i64 (k : Int) ∧ k ≤ 16 ∧ n ≤ 7 + k ∧ Hid (SyS w gF gP B F p v6 v7 n n (hdP Kd l p 6 ++ numsP q ms k) (hdP Kd l p 6 ++ numsP q ms k) wr2)) (fun _ _ _ _ vi _ => 16 - (intOf vi).toNat)
        case atStart => exact ⟨0, 7, rfl, by omega, by omega, HZ0⟩
        case round =>
          clear HZ0
          obtain ⟨k, n, rfl, hk16, hn, HZ⟩ := hrel
          by_cases hlt2 : k < 16
          · have k16 : (k : Int) < 16 := by omega
            have hix := run_index 24 (n := 16) (by kernel_rfl) ms LMS.out k hlt2
            obtain ⟨z, hz7, hzm⟩ := HQM.out k hlt2
            have hbq := HBQ.out k hlt2
            have HN := Lib.hid (numsP_succ q ms k)
            rcases hzm with hze | ⟨hzp, hzm⟩
            · rw [hze] at hix
              rw [hze, if_neg (by omega), List.append_nil] at HN
              have t1 : ¬ (0 : Int) < 0 := by omega
              clear hbq hze
              go_wp2_with fail
              go_roundw
              case rel => exact ⟨k + 1, n, by go_num, by omega, by omega, by rw [HN.out]; exact HZ⟩
              case measure => simp [intOf]; omega
            · have hMb := mostN_bd z (by omega)
              have hMp := Go.Proofs.YtgpdgegelipboaaGreatDoor.Yr.mostN_pos' hzp
              have HOK := Lib.hid (show okN (smI (mostN z)) = true from smN_ok (by omega))
              rw [hzm] at hix hbq
              rw [hzm, if_pos hMp, Int.toNat_natCast] at HN
              have HSM := Lib.hid (show smT (mostN z) = acc (smI (mostN z)) from rfl)
              generalize mostN z = M at hix hbq HN hMb hMp HOK HSM
              have c1 := blk_at HZ.out.fr (i := 7 + k) (by rw [LF.out]; omega)
              rw [frS_num HF.out hlt2] at c1
              obtain ⟨x, hx⟩ : ∃ x, q.getD k 0 = x := ⟨_, rfl⟩
              rw [hx] at c1 HN hbq
              obtain ⟨x1, x2⟩ := hbq
              have w1 : IntKind.i64.wrap (x + (M : Int)) = x + (M : Int) := i64_w (by omega) (by omega)
              have hn23 : n ≤ 22 := by omega
              rw [HSM.out] at HN
              clear hx hzm hz7 hzp
              go_wp2_with (at_builtin; refine wpList_append_own_at _ rfl (.tmp 74) (.tmp 81) 33 rfl B 3 i0 _ 1 8 Tryz.underlying33 hi0 hz0 hz1 hz2 rfl (by omega) _ n _ rfl (HZ.out.syms.alloc _) ⟨wr.heap.size, 0, none⟩ 1 1 [.int .i64 (x + (M : Int))] rfl rfl (cell_one_new _ _ _) (by intro u hu; simp at hu; subst hu; rfl) (by unfold maxLen; omega) (by omega) (by have := HZ.out.hBu; simp; omega) ?_; intro v1 w4 hown1 hg1 _ hv1; have HS4 := Lib.hid (show SyS w gF gP B F p v1 u7 (n + 1) n (hdP Kd l p 6 ++ numsP q ms (k + 1)) (hdP Kd l p 6 ++ numsP q ms k) w4 from by rw [HN.out, ← List.append_assoc]; exact (HZ.out.alloc _).push6 (x + (M : Int), acc (smI M)) hown1 hg1 hv1); clear hown1 hg1 hv1 c1)
              have HB4 := Lib.hid HS4.out.blw
              refine (rsmalls_any M w4 (by omega) HOK.out).mono ?_
              rintro e w5 ⟨ad5, n5, c5, rfl, hg5, hr5, hb5⟩
              have hn5 := hr5.1
              rw [acc_length, smI_length] at hn5
              obtain ⟨ts, t2, hBu5, hk5⟩ := HS4.out.tabK (ps8 := hdP Kd l p 6 ++ numsP q ms (k + 1)) (q := (x + (M : Int), acc (smI M))) (by rw [HN.out, List.append_assoc]) hb5 hg5 hr5 (by omega) (by unfold maxLen; omega)
              have HQ5 := Lib.hid hk5
              have HT := Lib.hid t2
              clear t2 hk5 hb5 hg5 hr5 hn5
              go_wp2_with (at_builtin; refine wpList_append_own_at _ rfl (.tmp 83) (.tmp 86) 32 rfl B 40 j0 _ 1 24 Tryz.underlying32 hj0 hy0 hy1 hy2 rfl (by omega) _ n _ rfl (HT.out.alloc _) ⟨w5.heap.size, 0, none⟩ 1 1 [.slice (some ad5) n5 c5] rfl rfl (cell_one_new _ _ _) (by intro u hu; simp at hu; subst hu; rfl) (by unfold maxLen; omega) (by omega) (by simp; omega) ?_; intro v2 w6 hown2 hg2 _ hv2; have HS6 := Lib.hid (HQ5.out _ _ _ _ hown2 hg2 hv2); clear hown2 hg2 hv2)
              go_roundw
              case rel => exact ⟨k + 1, n + 1, by go_num, by omega, by omega, HS6⟩
              case measure => simp [intOf]; omega
          · obtain rfl : k = 16 := by omega
            obtain ⟨A6, c6, rfl, h6⟩ := HZ.out.rd6
            obtain ⟨A7, c7, ts, rfl, h7, h8⟩ := HZ.out.rd7
            have H6 := Lib.hid h6
            have H7 := Lib.hid h7
            have H8 := Lib.hid h8
            clear h6 h7 h8
            go_wp2
            go_ret2
            exact ⟨A6, n, c6, A7, c7, ts, rfl, by rw [HE.out]; exact HZ.out.len.1, by rw [HE.out]; exact H6.out, H7.out, by rw [HE.out]; exact H8.out, HZ.out.blw⟩
end Go.Proofs.YtgpdgegelipboaaGreatDoor.Lp
namespace Go.Proofs.YtgpdgegelipboaaGreatDoor.Cd
open Go.RowKit
set_option maxHeartbeats 2000000 in
theorem rstart_okF (A : Option Addr) (n c : Nat) (N : Int) (l : List Bool) (w : World) (h : Hid (IsB w (.agg #[.slice A n c, .int .i64 N]) l)) :
    Calls Tryz.prog 34 #[.agg #[.slice A n c, .int .i64 N]] w (fun e w' => ∃ A n c, e = .returned (.tuple #[decV 0 4294967295 (val l 32) A n c N 32, .int .i64 0]) ∧ Below w.heap.size w w' ∧ Rd w' A n (pack l) ∧ ∀ ad, A = some ad → w.heap.size ≤ ad.block) := by
  obtain ⟨hn, hN, hr, hl⟩ := isB_parts h.out
  have HR := Lib.hid hr
  have HOK := Lib.hid (show okB (pack l) N = true by rw [hN]; exact okB_pack l hl)
  have hn2 : n ≤ 8192 := by rw [hn, pack_length]; omega
  clear hn hN hr hl
  have HK := Lib.hid (show Blk ((w.alloc (.cells #[.slice A n c, .int .i64 N] 49)).alloc (.cells #[.int .u32 0, .int .u32 0, .int .u32 0, .slice none 0 0, .int .i64 0, .int .i64 0] 68)) w.heap.size 49 #[.slice A n c, .int .i64 N] from (Blk.new w _ _).alloc _)
  have HK2 := Lib.hid (show Blk ((w.alloc (.cells #[.slice A n c, .int .i64 N] 49)).alloc (.cells #[.int .u32 0, .int .u32 0, .int .u32 0, .slice none 0 0, .int .i64 0, .int .i64 0] 68)) (w.heap.size + 1) 68 #[.int .u32 0, .int .u32 0, .int .u32 0, .slice none 0 0, .int .i64 0, .int .i64 0] from Blk.newAt (by simp))
  have HW := Lib.hid (show Below w.heap.size w ((w.alloc (.cells #[.slice A n c, .int .i64 N] 49)).alloc (.cells #[.int .u32 0, .int .u32 0, .int .u32 0, .slice none 0 0, .int .i64 0, .int .i64 0] 68)) from ((Below.refl w.heap.size w).alloc (Nat.le_refl _) _).alloc (by simp) _)
  go_enter Tryz.func34, Tryz.ntmps34
  go_wp2_with fail
  generalize (w.alloc (.cells #[.slice A n c, .int .i64 N] 49)).alloc (.cells #[.int .u32 0, .int .u32 0, .int .u32 0, .slice none 0 0, .int .i64 0, .int .i64 0] 68) = w0 at HK HK2 HW ⊢
  have hcon := rcheck_any A n c N (pack l) w0 (HR.out.below HW.out)
  rw [HOK.out] at hcon
  refine hcon.mono ?_
  clear hcon
  rintro e w1 ⟨rfl, hb1⟩
  have HK1 := Lib.hid (HK.out.below hb1 HK.out.lt)
  have HJ1 := Lib.hid (HK2.out.below hb1 HK2.out.lt)
  have HW1 := Lib.hid (HW.out.trans (hb1.mono HW.out.size))
  clear hb1 HK HK2 HW
  go_wp2
  go_loopw [4, 5, 10] (fun v _ j wr => ∃ i : Nat, i ≤ 32 ∧ j = .int .i64 (i : Int) ∧ v = .int .u64 ((val l i : Nat) : Int) ∧ Hid (Blk wr w.heap.size 49 #[.slice A n c, .int .i64 N] ∧ Blk wr (w.heap.size + 1) 68 #[.int .u32 0, .int .u32 0, .int .u32 0, .slice none 0 0, .int .i64 0, .int .i64 0] ∧ Below w.heap.size w wr)) (fun _ _ j _ => 32 - (intOf j).toNat)
  case atStart => exact ⟨0, by omega, rfl, rfl, Lib.hid ⟨HK1.out, HJ1.out, HW1.out⟩⟩
  case round =>
    obtain ⟨i, hi, rfl, rfl, HZ⟩ := hrel
    clear HK1 HJ1 HW1
    have HVS := Lib.hid (val_succ l i)
    have hv : val l i < 4294967296 := Nat.lt_of_lt_of_le (val_lt l i) (Nat.le_trans (Nat.pow_le_pow_right (by omega) hi) (by rw [pow32]; exact Nat.le_refl _))
    by_cases hlt : i < 32
    · have hlt' : (i : Int) < 32 := by omega
      obtain ⟨t, ht⟩ : ∃ t, t = (bitF l i).toNat := ⟨_, rfl⟩
      have ht2 : t < 2 := by have := toNat_le (bitF l i); omega
      have HT := Lib.hid ht
      clear ht
      generalize val l i = V at hv HVS
      obtain ⟨x1, x2, -, -⟩ := blk2 HZ.out.1
      go_wp2_with fail
      refine (rbitAt_any A n c i t N l _ (Lib.hid (h.out.below HZ.out.2.2)) HT ht2 (by omega)).mono ?_
      rintro e w3 ⟨rfl, hb3⟩
      have HZ3 := Lib.hid (show Blk w3 w.heap.size 49 #[.slice A n c, .int .i64 N] ∧ Blk w3 (w.heap.size + 1) 68 #[.int .u32 0, .int .u32 0, .int .u32 0, .slice none 0 0, .int .i64 0, .int .i64 0] ∧ Below w.heap.size w w3 from ⟨HZ.out.1.below hb3 HZ.out.1.lt, HZ.out.2.1.below hb3 HZ.out.2.1.lt, HZ.out.2.2.trans (hb3.mono HZ.out.2.2.size)⟩)
      clear hb3 x1 x2
      go_wp2
      go_roundw
      case rel => exact ⟨i + 1, by omega, by go_num, by rw [HVS.out, ← HT.out]; go_num, HZ3⟩
      case measure => simp [intOf]; omega
    · have hlt' : ¬ (i : Int) < 32 := by omega
      obtain rfl : i = 32 := by omega
      obtain ⟨V, hV⟩ : ∃ V, V = val l 32 := ⟨_, rfl⟩
      rw [← hV] at hv ⊢
      have HV := Lib.hid hV
      clear hV HVS
      obtain ⟨x1, x2, -, -⟩ := blk2 HZ.out.1
      have hv' : (V : Int) < 4294967296 := by omega
      go_wp2_with fail
      refine (rcopy_any A n c N (pack l) _ (HR.out.below HZ.out.2.2) (by omega)).mono ?_
      rintro e w3 ⟨A3, n3, c3, rfl, ho3, hb3⟩
      have HI3 := Lib.hid (copy_isB (isB_parts h.out).2.2.2 ho3)
      have HJ3 := Lib.hid (HZ.out.2.1.below hb3 HZ.out.2.1.lt)
      have HW3 := Lib.hid (HZ.out.2.2.trans (hb3.mono HZ.out.2.2.size))
      have HOW := Lib.hid ho3
      clear hb3 ho3 x1 x2
      obtain ⟨y1, y2, y3, y4, y5, y6⟩ := blk6 HJ3.out
      obtain ⟨z1, z2, z3, z4, z5, z6⟩ := frz6 HJ3.out
      go_wp2
      have hfar : ∀ ad, A3 = some ad → 0 < n3 → ad.block ≠ w.heap.size + 1 := fun ad ha _ => by
        have h1 := own_block HOW.out ad ha
        have h2 := HZ.out.2.1.lt
        omega
      obtain ⟨q1, q2, q3, q4⟩ := isB_parts HI3.out
      have hN : N = (l.length : Int) := (isB_parts h.out).2.1
      refine bodyPost_ret (v := .tuple #[decV 0 4294967295 V A3 n3 c3 N 32, .int .i64 0]) (by simp [results, Tryz.results34, go_sem, decV, y1, y2, y3, y4, y5, y6]) rfl ⟨A3, n3, c3, by rw [HV.out], below6 HW3.out (by omega) _ _ _ _ _ _, ?_, fun ad ha => by have h1 := own_block HOW.out ad ha; have h2 := HZ.out.2.1.lt; omega⟩
      exact rd_far (rd_far (rd_far (rd_far (rd_far (rd_far q3 hfar _ _) hfar _ _) hfar _ _) hfar _ _) hfar _ _) hfar _ _
end Go.Proofs.YtgpdgegelipboaaGreatDoor.Cd
namespace Go.Proofs.YtgpdgegelipboaaGreatDoor.Lp
open Go.RowKit Fx Fq Tb
open Yr (inB kT kindR)
def OfR (w : World) (bs : List Nat) (e : Ending) (w' : World) : Prop :=
  ∃ A c, e = .returned (.agg #[.slice A bs.length c, .int .i64 ((8 * bs.length : Nat) : Int)]) ∧ IsB w' (.agg #[.slice A bs.length c, .int .i64 ((8 * bs.length : Nat) : Int)]) (inB bs) ∧ Below w.heap.size w w'
theorem inB_length (bs : List Nat) : (inB bs).length = 8 * bs.length := bitsIn_length _ _
theorem isB_of {w : World} {A : Option Addr} {n c : Nat} {bs : List Nat} (h : Rd w A n bs) (hn : n ≤ 8192) : IsB w (.agg #[.slice A bs.length c, .int .i64 ((8 * bs.length : Nat) : Int)]) (inB bs) := by
  have hp : pack (inB bs) = bs := pack_bitsIn_whole bs h.2.1
  obtain rfl := h.1
  refine ⟨A, c, by rw [hp, inB_length], by rw [hp]; exact h, by rw [inB_length]; omega⟩
theorem info_u8L : (Tryz.prog.info? 5).map (fun i => (i.zero, i.size, i.bytes)) = some (some (.int .u8 0), 1, 1) := by kernel_rfl
theorem bytes_one (bs : List Nat) : ∀ u ∈ bs.map byteV, u.oneCell' = true := by
  intro u hu
  obtain ⟨x, _, rfl⟩ := List.mem_map.1 hu
  rfl
theorem own_rdB {w : World} {B n m : Nat} {v : Value} {bs : List Nat} (h : w.ownsRow B 5 1 v m ([] ++ bs.map byteV)) (hm : m = 0 + n) (h256 : ∀ x ∈ bs, x < 256) : ∃ A c, v = .slice A n c ∧ Rd w A n bs ∧ (∀ k, v.ownBlock = some k → B ≤ k) ∧ v.ownBlock = (Value.slice A n c).ownBlock := by
  rw [List.nil_append] at h
  rw [Nat.zero_add] at hm
  subst hm
  have hlen : bs.length = m := by have := h.1; rw [List.length_map, Nat.mul_one] at this; exact this
  have hlt := fun k hk => (h.lt k hk).1
  rcases h.2 with ⟨rfl, h0⟩ | ⟨g, cap, cur, rfl, hb, hh, hnc, hcm, hcs, ht⟩
  · subst h0
    exact ⟨none, 0, rfl, ⟨hlen, h256, fun h => by omega⟩, hlt, rfl⟩
  · refine ⟨_, _, rfl, ⟨hlen, h256, fun _ => ⟨_, rfl, fun j x hx => ?_⟩⟩, hlt, rfl⟩
    exact World.ownsRow.cells h (g := g) rfl j (byteV x) (by rw [List.getElem?_map, hx]; rfl)
theorem rd_farB {w : World} {A : Option Addr} {n : Nat} {bs : List Nat} (h : Rd w A n bs) {p : Addr} (hA : ∀ ad, A = some ad → ad.block ≠ p.block) (v : Value) : Rd (w.setCell p v) A n bs :=
  ⟨h.1, h.2.1, fun hn => by
    obtain ⟨ad, e, hc⟩ := h.2.2 hn
    refine ⟨ad, e, fun j x hx => ?_⟩
    exact (World.cell?_setCell_far w p (ad.add j) v (by rw [block_of_add]; exact fun e2 => hA ad e e2.symm)).trans (hc j x hx)⟩
set_option maxHeartbeats 4000000 in
theorem rof_pos (ad : Addr) (n c : Nat) (bs : List Nat) (w : World) (hr : Hid (Rd w (some ad) n bs)) (hn0 : 0 < n) (hn : n ≤ 8192) :
    Calls Tryz.prog 35 #[.slice (some ad) n c] w (OfR w bs) := by
  obtain ⟨i0, hi0, hz0, hz1, hz2⟩ := info_partsT info_u8L
  have HK := Lib.hid (Blk.new w 49 #[.slice none 0 0, .int .i64 0])
  have HB := Lib.hid ((Below.refl w.heap.size w).alloc (Nat.le_refl _) (.cells #[.slice none 0 0, .int .i64 0] 49))
  have HR := Lib.hid (hr.out.alloc (.cells #[.slice none 0 0, .int .i64 0] 49))
  have hs : (w.alloc (.cells #[.slice none 0 0, .int .i64 0] 49)).heap.size = w.heap.size + 1 := by simp
  have HLN := Lib.hid (show (bs.map byteV).length = n * 1 by rw [List.length_map, hr.out.1, Nat.mul_one])
  have d1 : ¬ 8192 < (n : Int) := by omega
  have HN := Lib.hid (show ∀ j u, (bs.map byteV)[j]? = some u → (w.alloc (.cells #[.slice none 0 0, .int .i64 0] 49)).cell? (ad.add j) = some u from by
    intro j u hu
    obtain ⟨ad', e, hc⟩ := HR.out.2.2 hn0
    injection e with e
    subst e
    rw [List.getElem?_map] at hu
    obtain ⟨x, hx, rfl⟩ := Option.map_eq_some_iff.1 hu
    exact hc j x hx)
  have HS := Lib.hid hs
  clear hs
  go_enter Tryz.func35, Tryz.ntmps35
  go_wp2_with (at_builtin; refine wpList_append_own_at _ rfl (.const (.slice none 0 0)) (.tmp 7) 28 rfl (w.heap.size + 1) 5 i0 _ 1 1 Tryz.underlying28 hi0 hz0 hz1 hz2 rfl (by omega) (.slice none 0 0) 0 [] rfl (World.ownsRow_nil _ _ _ _) ad n c (bs.map byteV) rfl HLN.out HN.out (bytes_one bs) (by unfold maxLen; omega) (by omega) (by rw [HS.out]; exact Nat.le_refl _) ?_; intro va w2 ho2 hg2 _ _; obtain ⟨A2, c2, hva, hr2, hb2, -⟩ := own_rdB ho2 rfl hr.out.2.1; subst hva; have HR2 := Lib.hid hr2; have HL2 := Lib.hid hb2; clear hr2 hb2; have HK2 := Lib.hid (HK.out.row hg2 (by simp [Value.ownBlock])); have HB2 := Lib.hid (HB.out.grown hg2 HB.out.size (fun k hk => by simp [Value.ownBlock] at hk)); clear ho2 hg2; have c0 := HK2.out.cell 0; have c1 := HK2.out.cell 1; have f0 := HK2.out.frozen 0; have f1 := HK2.out.frozen 1; simp at c0 c1)
  have HN8 := Lib.hid hr.out.1
  refine bodyPost_ret (v := .agg #[.slice A2 n c2, .int .i64 (8 * (n : Int))]) (by simp [results, Tryz.results35, go_sem, c0, c1]) rfl ?_
  have hr3 := rd_farB (rd_farB HR2.out (p := ⟨w.heap.size, 0, none⟩) (fun ad e e2 => ?_) (.slice A2 n c2)) (p := ⟨w.heap.size, 1, none⟩) (fun ad e e2 => ?_) (.int .i64 (8 * (n : Int)))
  · refine ⟨A2, c2, ?_, isB_of hr3 hn, (HB2.out.setCell (Nat.le_refl _) _).setCell (Nat.le_refl _) _⟩
    rw [HN8.out, show ((8 * n : Nat) : Int) = 8 * (n : Int) by omega]
  · have := HL2.out ad.block (by rw [e]; rfl)
    have e3 : ad.block = w.heap.size := e2
    omega
  · have := HL2.out ad.block (by rw [e]; rfl)
    have e3 : ad.block = w.heap.size := e2
    omega
set_option maxHeartbeats 1000000 in
theorem rof_zero (A : Option Addr) (c : Nat) (w : World) :
    Calls Tryz.prog 35 #[.slice A 0 c] w (OfR w []) := by
  cases A
  all_goals
    go_enter Tryz.func35, Tryz.ntmps35
    go_wp2
    refine bodyPost_ret (v := .agg #[.slice none 0 0, .int .i64 0]) (by simp [results, Tryz.results35, go_sem]) rfl ⟨none, 0, rfl, isB_of Rd.none_ (by omega), ?_⟩
    first
    | exact (Below.refl w.heap.size w).alloc (Nat.le_refl _) _
    | exact (((Below.refl w.heap.size w).alloc (Nat.le_refl _) _).setCell (Nat.le_refl _) _).setCell (Nat.le_refl _) _
    | exact Below.drew ((Below.refl w.heap.size w).alloc (Nat.le_refl _) _)
theorem rof_any (A : Option Addr) (n c : Nat) (bs : List Nat) (w : World) (hr : Rd w A n bs) (hn : n ≤ 8192) :
    Calls Tryz.prog 35 #[.slice A n c] w (OfR w bs) := by
  by_cases h0 : 0 < n
  · obtain ⟨ad, rfl, -⟩ := hr.at_ h0
    exact rof_pos ad n c bs w (Lib.hid hr) h0 hn
  · obtain rfl : n = 0 := by omega
    obtain rfl : bs = [] := List.eq_nil_of_length_eq_zero hr.1
    exact rof_zero A c w
section
open Cd
def StP (w : World) (D : De) (N : Int) (l : List Bool) (e : Ending) (w' : World) : Prop :=
  ∃ A n c, e = .returned (.tuple #[.agg (dcC D A n c N), .int .i64 0]) ∧ Rd w' A n (pack l) ∧ Below w.heap.size w w' ∧ ∀ ad, A = some ad → 0 < n → w.heap.size ≤ ad.block
theorem rstart_dc (A : Option Addr) (n c : Nat) (N : Int) (l : List Bool) (w : World) (h : Hid (IsB w (.agg #[.slice A n c, .int .i64 N]) l)) :
    Calls Tryz.prog 34 #[.agg #[.slice A n c, .int .i64 N]] w (StP w (d0 l) N l) :=
  (rstart_okF A n c N l w h).mono fun _ _ ⟨A', n', c', h1, h2, h3, h4⟩ => ⟨A', n', c', h1, h3, h2, fun ad e _ => h4 ad e⟩
def NxP (w : World) (D : De) (L : Nat) (l : List Bool) (xs : List Int) (e : Ending) (w' : World) : Prop :=
  (D.at_ ≤ L + 32 ∧ ∃ A n c, e = .returned (.tuple #[.agg (dcC (nxE l D xs) A n c (L : Int)), .int .i64 (nxK D xs : Int), .int .i64 0]) ∧ Rd w' A n (pack l) ∧ Below w.heap.size w w' ∧ ∀ ad, A = some ad → 0 < n → w.heap.size ≤ ad.block) ∨
  (¬ D.at_ ≤ L + 32 ∧ ∃ A n c, e = .returned (.tuple #[.agg (dcC ⟨0, 0, 0, 0⟩ A n c 0), .int .i64 0, .int .i64 20]) ∧ Below w.heap.size w w')
theorem rnext_dc (D : De) (A : Option Addr) (n c L : Nat) (l : List Bool) (C : Option Addr) (m dd : Nat) (xs : List Int) (w : World) (hr : Hid (Rd w A n (pack l))) (hl : Hid (l.length = L)) (hL : L ≤ 60000) (hD : Hid (FineD D)) (h32 : 32 ≤ D.at_) (hat : D.at_ ≤ L + 48) (hx : Hid (Fq.RdI w C m xs)) (hm : Hid (m ≤ maxLen)) (hok : Hid (Fq.okF xs = true)) :
    Calls Tryz.prog 36 #[.agg (dcC D A n c (L : Int)), .agg #[.slice C m dd]] w (NxP w D L l xs) := by
  have hI : Hid (IsB w (.agg #[.slice A n c, .int .i64 (L : Int)]) l) := Lib.hid (by rw [← hl.out]; exact ⟨A, c, by rw [hr.out.1], by rw [hr.out.1]; exact hr.out, by rw [hl.out]; omega⟩)
  by_cases ha : D.at_ ≤ L + 32
  · exact (rnext_okF D A n c L l C m dd xs (nxE l D xs) w hI hD h32 (by omega) ha hx hm hok (Lib.hid rfl)).mono fun _ _ ⟨A', n', c', h1, h2, h3, h4⟩ => .inl ⟨ha, A', n', c', h1, h3, h2, h4⟩
  · exact (rnext_short D A n c L l C m dd xs w hI hD h32 (by omega) (by omega) hx hm hok).mono fun _ _ ⟨A', n', c', h1, h2, h3⟩ => .inr ⟨ha, A', n', c', h1, h2⟩
@[simp] theorem dcC_one (D : De) (A : Option Addr) (n c : Nat) (N : Int) : (dcC D A n c N).all (·.oneCell') = true := by simp [dcC, Value.oneCell']
end
end Go.Proofs.YtgpdgegelipboaaGreatDoor.Lp
namespace Go.Proofs.YtgpdgegelipboaaGreatDoor.Lp
open Go.RowKit Fx Fq Tb
open Yr (inB kT kindR)
open Cd (De d0 dcC nxE nxK FineD fineD0)
set_option maxHeartbeats 4000000 in
theorem rkind_bad (A : Option Addr) (n c : Nat) (bs : List Nat) (w : World) (hr : Hid (Rd w A n bs)) (hb : n = 0 ∨ 40 < n) :
    Calls Tryz.prog 18 #[.slice A n c] w (ValQ w (kdV bs)) := by
  have HV := Lib.hid (show kdV bs = .tuple #[.int .i64 0, .int .i64 21] by unfold kdV; rw [if_neg (by have := hr.out.1; omega)])
  rcases hb with hb | hb
  · have d0 : ((n : Int) == 0) = true := by simp; omega
    clear hb
    go_enter Tryz.func18, Tryz.ntmps18
    go_wp2
    go_ret2
    exact ⟨by rw [HV.out]; rfl, Below.refl _ _⟩
  · have d0 : ((n : Int) == 0) = false := by simp; omega
    have d1 : (40 : Int) < (n : Int) := by omega
    have d2 : decide ((40 : Int) < (n : Int)) = true := decide_eq_true d1
    clear hb
    go_enter Tryz.func18, Tryz.ntmps18
    go_wp2
    go_ret2
    exact ⟨by rw [HV.out]; rfl, Below.refl _ _⟩
set_option maxHeartbeats 4000000 in
theorem rkind_ok (A : Option Addr) (n c : Nat) (bs : List Nat) (w : World) (hr : Hid (Rd w A n bs)) (h1 : 1 ≤ n) (h2 : n ≤ 40) :
    Calls Tryz.prog 18 #[.slice A n c] w (ValQ w (kdV bs)) := by
  have HV := Lib.hid (show kdV bs = .tuple #[.int .i64 (kindR (inB bs)), .int .i64 0] by unfold kdV; rw [if_pos (by have := hr.out.1; omega)])
  have b0 : ((n : Int) == 0) = false := by simp; omega
  have b1 : ¬ (40 : Int) < (n : Int) := by omega
  have HN := Lib.hid hr.out.1
  have HL := Lib.hid (inB_length bs)
  go_enter Tryz.func18, Tryz.ntmps18
  go_wp2_with fail
  refine (rof_any A n c bs w hr.out (by omega)).mono ?_
  rintro e w1 ⟨A1, c1, rfl, hI, hb1⟩
  have HI := Lib.hid hI
  have HB1 := Lib.hid hb1
  clear hI hb1
  obtain ⟨N, hN⟩ : ∃ N, N = 8 * bs.length := ⟨_, rfl⟩
  rw [← hN] at HI ⊢
  have hN2 : N ≤ 320 := by have := HN.out; omega
  have HNN := Lib.hid hN
  clear hN
  go_wp2_with fail
  refine (rstart_dc A1 _ c1 (N : Int) (inB bs) w1 HI).mono ?_
  rintro e w2 ⟨A2, n2, c2, rfl, hr2, hb2, -⟩
  have HR2 := Lib.hid hr2
  have HM := Lib.hid (MV.start w2)
  have HB2 := Lib.hid (HB1.out.trans (hb2.mono HB1.out.size))
  obtain ⟨D, hD⟩ : ∃ D, D = d0 (inB bs) := ⟨_, rfl⟩
  rw [← hD]
  have HD := Lib.hid hD
  have hat : D.at_ = 32 := by rw [hD]; rfl
  have HFD := Lib.hid (show FineD D by rw [hD]; exact fineD0 _)
  have HNL := Lib.hid (show (inB bs).length = N by rw [HL.out, HNN.out])
  clear hr2 hb2 hD HI HB1
  go_wp2_with (first | ((first | refine wv_box rfl _ _ rfl rfl HM ?_ | refine wv_alloc rfl _ rfl (by exact rowOf) HM ?_); first | (have q:dV HM = 0:=rfl;clear q HM;intro g1 u1 HG1 HM) | (have q:dV HM = 1:=rfl;clear q HM;intro g2 u2 HG2 HM) | (have q:dV HM = 2:=rfl;clear q HM;intro g3 u3 HG3 HM) | (have q:dV HM = 3:=rfl;clear q HM;intro g4 u4 HG4 HM)) | (refine wv_load rfl _ _ rfl rfl (by exact rowOf) HM (by exact vmemOf) (by exact vsizOf) ?_) | (refine wv_store rfl _ _ _ rfl rfl rfl (by exact rowOf) HM (by exact vidxOf) (by exact vsizOf) (by exact vsizOf) (by exact voneOf) ?_; clear HM; intro us HM; dsimp only [List.set] at HM) | (refine wl_zero rfl _ rfl (by exact arrOf) (by kernel_rfl) ?_))
  refine wp_region_held_drew (S := fun u => Blk u g1 68 (dcC D A2 n2 c2 (N : Int))) (by kernel_rfl) (HM.out.drew.get (by exact vmemOf)) (fun hHeld => ?_)
  have HMd := Lib.hid HM.out.drew
  clear HM
  have HM := HMd
  clear HMd
  generalize World.drew _ = wd at HM hHeld ⊢
  (refine wa_take (i := 0) rfl (by kernel_rfl) (by kernel_rfl) (by kernel_rfl) (fun _ _ _ h => h) (yv_load rfl _ _ rfl rfl (fun u hu => run_load_blk rowDec hu rfl)) hHeld rfl ?_; (try simp only [Act.put, qz1, qz2, qz3]))
  refine wpAnyH_ready (rs := [1, 7]) (by kernel_rfl) (by simp) ?_; refine AllReadyH.cons rfl (fun K hK => ?_) (AllReadyH.cons rfl (fun K hK => ?_) (AllReadyH.nil))
  · rw [if_pos (by rfl)]; go_simp
    refine (rkinds_any _).mono ?_
    rintro e w3 ⟨ad, m, cc, rfl, hg, hx, hb⟩
    have HX := Lib.hid hx
    have HM3 := Lib.hid (HM.out.below hb)
    clear HM hg hx hb hHeld
    have HM := HM3
    clear HM3
    go_wp2_with fail
    refine hK.out _ _ (HM.out.get (by exact vmemOf)) (fun hHeld => ?_)
    clear hK K
    (try simp only [Act.put, qz1, qz2, qz3])
    refine wpAnyH_ready (rs := [2, 7]) (by kernel_rfl) (by simp) ?_; refine AllReadyH.cons rfl (fun K hK => ?_) (AllReadyH.cons rfl (fun K hK => ?_) (AllReadyH.nil))
    · have HRn := Lib.hid (HR2.out.below HM.out.1)
      rw [if_pos (by rfl)]; go_simp
      refine (rnext_dc D A2 n2 c2 N (inB bs) (some ad) m cc (acc kindN) _ HRn HNL (by omega) HFD (by omega) (by omega) HX (Lib.hid (by have := HX.out.1; rw [← this]; decide +kernel)) (Lib.hid (by decide +kernel))).mono ?_
      rintro e w4 (⟨-, A4, n4, c4, rfl, hr4, hb, -⟩ | ⟨hno, -⟩)
      rotate_left
      · exact absurd (show D.at_ ≤ N + 32 by omega) hno
      have HM3 := Lib.hid (HM.out.below hb)
      clear HM hr4 hb hHeld HRn HX
      have HM := HM3
      clear HM3
      go_wp2_with fail
      refine hK.out _ _ (HM.out.get (by exact vmemOf)) (fun hHeld => ?_)
      clear hK K
      (try simp only [Act.put, qz1, qz2, qz3])
      (refine wa_take (i := 3) (v := .tuple #[.agg (dcC (nxE (inB bs) D (acc kindN)) A4 n4 c4 (N : Int)), .int .i64 (nxK D (acc kindN) : Int), .int .i64 0]) rfl (by kernel_rfl) (by kernel_rfl) (by kernel_rfl) (fun _ _ _ h => h) (yi_free rfl (fun u => rfl)) hHeld rfl ?_; (try simp only [Act.put, qz1, qz2, qz3]))
      (refine wa_take (i := 4) (v := .agg (dcC (nxE (inB bs) D (acc kindN)) A4 n4 c4 (N : Int))) rfl (by kernel_rfl) (by kernel_rfl) (by kernel_rfl) (fun _ _ _ h => h) (yi_free rfl (fun u => rfl)) hHeld rfl ?_; (try simp only [Act.put, qz1, qz2, qz3]))
      (refine wa_take (i := 5) (v := .int .i64 (nxK D (acc kindN) : Int)) rfl (by kernel_rfl) (by kernel_rfl) (by kernel_rfl) (fun _ _ _ h => h) (yi_free rfl (fun u => rfl)) hHeld rfl ?_; (try simp only [Act.put, qz1, qz2, qz3]))
      (refine wa_take (i := 6) (v := .int .i64 0) rfl (by kernel_rfl) (by kernel_rfl) (by kernel_rfl) (fun _ _ _ h => h) (yi_free rfl (fun u => rfl)) hHeld rfl ?_; (try simp only [Act.put, qz1, qz2, qz3]))
      refine wpAnyH_ready (rs := [7]) (by kernel_rfl) (by simp) ?_; refine AllReadyH.cons rfl (fun K hK => ?_) (AllReadyH.nil)
      rw [if_pos (by rfl)]
      refine ov_alloc _ rfl rfl (by exact rowOf) HM ?_
      intro g2 w5 HM5 HW5 _
      clear HM hHeld
      have HM := HM5
      clear HM5 HW5
      refine hK.out _ _ (HM.out.get (by exact vmemOf)) (fun hHeld => ?_)
      clear hK K
      (try simp only [Act.put, qz1, qz2, qz3])
      refine wpAnyH_ready (rs := [8]) (by kernel_rfl) (by simp) ?_; refine AllReadyH.cons rfl (fun K hK => ?_) (AllReadyH.nil)
      rw [if_pos (by rfl)]; refine ov_store _ _ _ rfl rfl rfl (by exact rowOf) HM (by exact vidxOf) (by exact vsizOf) (by exact vsizOf) (by exact voneOf) rfl ?_; clear HM; intro us HM; dsimp only [List.set] at HM
      refine hK.out _ _ (HM.out.get (by exact vmemOf)) (fun hHeld => ?_)
      clear hK K
      (try simp only [Act.put, qz1, qz2, qz3])
      (refine wa_take (i := 9) (v := .int .i64 (nxK D (acc kindN) : Int)) rfl (by kernel_rfl) (by kernel_rfl) (by kernel_rfl) (fun _ _ _ h => h) (yi_free rfl (fun u => rfl)) hHeld rfl ?_; (try simp only [Act.put, qz1, qz2, qz3]))
      (refine wa_take (i := 10) (v := .int .i64 0) rfl (by kernel_rfl) (by kernel_rfl) (by kernel_rfl) (fun _ _ _ h => h) (yi_free rfl (fun u => rfl)) hHeld rfl ?_; (try simp only [Act.put, qz1, qz2, qz3]))
      refine wpAnyH_done (by kernel_rfl) ?_ _
      go_wp2
      go_ret2
      exact ⟨by rw [HV.out]; unfold kindR; rw [← HD.out]; rfl, HB2.out.trans (HM.out.1.mono HB2.out.size)⟩
    · rw [if_pos (by rfl)]
      refine ov_alloc _ rfl rfl (by exact rowOf) HM ?_
      intro g2 w5 HM5 HW5 _
      have HXa := Lib.hid (HX.out.below HW5.out)
      clear HX
      have HX := HXa
      clear HXa
      clear HM hHeld
      have HM := HM5
      clear HM5 HW5
      refine hK.out _ _ (HM.out.get (by exact vmemOf)) (fun hHeld => ?_)
      clear hK K
      (try simp only [Act.put, qz1, qz2, qz3])
      refine wpAnyH_ready (rs := [2]) (by kernel_rfl) (by simp) ?_; refine AllReadyH.cons rfl (fun K hK => ?_) (AllReadyH.nil)
      have HRn := Lib.hid (HR2.out.below HM.out.1)
      rw [if_pos (by rfl)]; go_simp
      refine (rnext_dc D A2 n2 c2 N (inB bs) (some ad) m cc (acc kindN) _ HRn HNL (by omega) HFD (by omega) (by omega) HX (Lib.hid (by have := HX.out.1; rw [← this]; decide +kernel)) (Lib.hid (by decide +kernel))).mono ?_
      rintro e w4 (⟨-, A4, n4, c4, rfl, hr4, hb, -⟩ | ⟨hno, -⟩)
      rotate_left
      · exact absurd (show D.at_ ≤ N + 32 by omega) hno
      have HM3 := Lib.hid (HM.out.below hb)
      clear HM hr4 hb hHeld HRn HX
      have HM := HM3
      clear HM3
      go_wp2_with fail
      refine hK.out _ _ (HM.out.get (by exact vmemOf)) (fun hHeld => ?_)
      clear hK K
      (try simp only [Act.put, qz1, qz2, qz3])
      (refine wa_take (i := 3) (v := .tuple #[.agg (dcC (nxE (inB bs) D (acc kindN)) A4 n4 c4 (N : Int)), .int .i64 (nxK D (acc kindN) : Int), .int .i64 0]) rfl (by kernel_rfl) (by kernel_rfl) (by kernel_rfl) (fun _ _ _ h => h) (yi_free rfl (fun u => rfl)) hHeld rfl ?_; (try simp only [Act.put, qz1, qz2, qz3]))
      (refine wa_take (i := 4) (v := .agg (dcC (nxE (inB bs) D (acc kindN)) A4 n4 c4 (N : Int))) rfl (by kernel_rfl) (by kernel_rfl) (by kernel_rfl) (fun _ _ _ h => h) (yi_free rfl (fun u => rfl)) hHeld rfl ?_; (try simp only [Act.put, qz1, qz2, qz3]))
      (refine wa_take (i := 5) (v := .int .i64 (nxK D (acc kindN) : Int)) rfl (by kernel_rfl) (by kernel_rfl) (by kernel_rfl) (fun _ _ _ h => h) (yi_free rfl (fun u => rfl)) hHeld rfl ?_; (try simp only [Act.put, qz1, qz2, qz3]))
      (refine wa_take (i := 6) (v := .int .i64 0) rfl (by kernel_rfl) (by kernel_rfl) (by kernel_rfl) (fun _ _ _ h => h) (yi_free rfl (fun u => rfl)) hHeld rfl ?_; (try simp only [Act.put, qz1, qz2, qz3]))
      refine wpAnyH_ready (rs := [8]) (by kernel_rfl) (by simp) ?_; refine AllReadyH.cons rfl (fun K hK => ?_) (AllReadyH.nil)
      rw [if_pos (by rfl)]; refine ov_store _ _ _ rfl rfl rfl (by exact rowOf) HM (by exact vidxOf) (by exact vsizOf) (by exact vsizOf) (by exact voneOf) rfl ?_; clear HM; intro us HM; dsimp only [List.set] at HM
      refine hK.out _ _ (HM.out.get (by exact vmemOf)) (fun hHeld => ?_)
      clear hK K
      (try simp only [Act.put, qz1, qz2, qz3])
      (refine wa_take (i := 9) (v := .int .i64 (nxK D (acc kindN) : Int)) rfl (by kernel_rfl) (by kernel_rfl) (by kernel_rfl) (fun _ _ _ h => h) (yi_free rfl (fun u => rfl)) hHeld rfl ?_; (try simp only [Act.put, qz1, qz2, qz3]))
      (refine wa_take (i := 10) (v := .int .i64 0) rfl (by kernel_rfl) (by kernel_rfl) (by kernel_rfl) (fun _ _ _ h => h) (yi_free rfl (fun u => rfl)) hHeld rfl ?_; (try simp only [Act.put, qz1, qz2, qz3]))
      refine wpAnyH_done (by kernel_rfl) ?_ _
      go_wp2
      go_ret2
      exact ⟨by rw [HV.out]; unfold kindR; rw [← HD.out]; rfl, HB2.out.trans (HM.out.1.mono HB2.out.size)⟩
  · rw [if_pos (by rfl)]
    refine ov_alloc _ rfl rfl (by exact rowOf) HM ?_
    intro g2 w5 HM5 HW5 _
    clear HM hHeld
    have HM := HM5
    clear HM5 HW5
    refine hK.out _ _ (HM.out.get (by exact vmemOf)) (fun hHeld => ?_)
    clear hK K
    (try simp only [Act.put, qz1, qz2, qz3])
    refine wpAnyH_ready (rs := [1]) (by kernel_rfl) (by simp) ?_; refine AllReadyH.cons rfl (fun K hK => ?_) (AllReadyH.nil)
    rw [if_pos (by rfl)]; go_simp
    refine (rkinds_any _).mono ?_
    rintro e w3 ⟨ad, m, cc, rfl, hg, hx, hb⟩
    have HX := Lib.hid hx
    have HM3 := Lib.hid (HM.out.below hb)
    clear HM hg hx hb hHeld
    have HM := HM3
    clear HM3
    go_wp2_with fail
    refine hK.out _ _ (HM.out.get (by exact vmemOf)) (fun hHeld => ?_)
    clear hK K
    (try simp only [Act.put, qz1, qz2, qz3])
    refine wpAnyH_ready (rs := [2]) (by kernel_rfl) (by simp) ?_; refine AllReadyH.cons rfl (fun K hK => ?_) (AllReadyH.nil)
    have HRn := Lib.hid (HR2.out.below HM.out.1)
    rw [if_pos (by rfl)]; go_simp
    refine (rnext_dc D A2 n2 c2 N (inB bs) (some ad) m cc (acc kindN) _ HRn HNL (by omega) HFD (by omega) (by omega) HX (Lib.hid (by have := HX.out.1; rw [← this]; decide +kernel)) (Lib.hid (by decide +kernel))).mono ?_
    rintro e w4 (⟨-, A4, n4, c4, rfl, hr4, hb, -⟩ | ⟨hno, -⟩)
    rotate_left
    · exact absurd (show D.at_ ≤ N + 32 by omega) hno
    have HM3 := Lib.hid (HM.out.below hb)
    clear HM hr4 hb hHeld HRn HX
    have HM := HM3
    clear HM3
    go_wp2_with fail
    refine hK.out _ _ (HM.out.get (by exact vmemOf)) (fun hHeld => ?_)
    clear hK K
    (try simp only [Act.put, qz1, qz2, qz3])
    (refine wa_take (i := 3) (v := .tuple #[.agg (dcC (nxE (inB bs) D (acc kindN)) A4 n4 c4 (N : Int)), .int .i64 (nxK D (acc kindN) : Int), .int .i64 0]) rfl (by kernel_rfl) (by kernel_rfl) (by kernel_rfl) (fun _ _ _ h => h) (yi_free rfl (fun u => rfl)) hHeld rfl ?_; (try simp only [Act.put, qz1, qz2, qz3]))
    (refine wa_take (i := 4) (v := .agg (dcC (nxE (inB bs) D (acc kindN)) A4 n4 c4 (N : Int))) rfl (by kernel_rfl) (by kernel_rfl) (by kernel_rfl) (fun _ _ _ h => h) (yi_free rfl (fun u => rfl)) hHeld rfl ?_; (try simp only [Act.put, qz1, qz2, qz3]))
    (refine wa_take (i := 5) (v := .int .i64 (nxK D (acc kindN) : Int)) rfl (by kernel_rfl) (by kernel_rfl) (by kernel_rfl) (fun _ _ _ h => h) (yi_free rfl (fun u => rfl)) hHeld rfl ?_; (try simp only [Act.put, qz1, qz2, qz3]))
    (refine wa_take (i := 6) (v := .int .i64 0) rfl (by kernel_rfl) (by kernel_rfl) (by kernel_rfl) (fun _ _ _ h => h) (yi_free rfl (fun u => rfl)) hHeld rfl ?_; (try simp only [Act.put, qz1, qz2, qz3]))
    refine wpAnyH_ready (rs := [8]) (by kernel_rfl) (by simp) ?_; refine AllReadyH.cons rfl (fun K hK => ?_) (AllReadyH.nil)
    rw [if_pos (by rfl)]; refine ov_store _ _ _ rfl rfl rfl (by exact rowOf) HM (by exact vidxOf) (by exact vsizOf) (by exact vsizOf) (by exact voneOf) rfl ?_; clear HM; intro us HM; dsimp only [List.set] at HM
    refine hK.out _ _ (HM.out.get (by exact vmemOf)) (fun hHeld => ?_)
    clear hK K
    (try simp only [Act.put, qz1, qz2, qz3])
    (refine wa_take (i := 9) (v := .int .i64 (nxK D (acc kindN) : Int)) rfl (by kernel_rfl) (by kernel_rfl) (by kernel_rfl) (fun _ _ _ h => h) (yi_free rfl (fun u => rfl)) hHeld rfl ?_; (try simp only [Act.put, qz1, qz2, qz3]))
    (refine wa_take (i := 10) (v := .int .i64 0) rfl (by kernel_rfl) (by kernel_rfl) (by kernel_rfl) (fun _ _ _ h => h) (yi_free rfl (fun u => rfl)) hHeld rfl ?_; (try simp only [Act.put, qz1, qz2, qz3]))
    refine wpAnyH_done (by kernel_rfl) ?_ _
    go_wp2
    go_ret2
    exact ⟨by rw [HV.out]; unfold kindR; rw [← HD.out]; rfl, HB2.out.trans (HM.out.1.mono HB2.out.size)⟩
theorem rkind_any (A : Option Addr) (n c : Nat) (bs : List Nat) (w : World) (hr : Hid (Rd w A n bs)) (_hn : n ≤ maxLen) :
    Calls Tryz.prog 18 #[.slice A n c] w (ValQ w (kdV bs)) := by
  by_cases h : 1 ≤ n ∧ n ≤ 40
  · exact rkind_ok A n c bs w hr h.1 h.2
  · exact rkind_bad A n c bs w hr (by omega)
end Go.Proofs.YtgpdgegelipboaaGreatDoor.Lp
namespace Go.Proofs.YtgpdgegelipboaaGreatDoor.Lp
open Go.RowKit Fx Fq Tb
open Yr (inB kT cT lT smT kindR lvR lvG nmF gsR hdT numT tabK plc GuD sym_at nxK_lt hdT_get hdT_length numT_get)
open Cd (De d0 dcC nxE nxK FineD fineD0 backErr symL stD)
def gsB (bs : List Nat) (p : List Int) : Option (Int × List Int × List Int) := if bs.length ≤ 40 then gsR (inB bs) p else none
def GsP (w : World) (bs : List Nat) (p : List Int) (e : Ending) (w' : World) : Prop :=
  (∃ K l q, gsB bs p = some (K, l, q) ∧ e = .returned (.tuple #[.agg (icells (frL K l q)), .bool true]) ∧ Below w.heap.size w w') ∨
  (gsB bs p = none ∧ ∃ F : List Int, F.length = 23 ∧ e = .returned (.tuple #[.agg (icells F), .bool false]) ∧ Below w.heap.size w w')
theorem frL_zero : zr 23 = frL 0 (zr 6) (zr 16) := by decide
theorem frL_lev (K v : Int) (l q : List Int) {k : Nat} (h : k < l.length) : (frL K l q).set (1 + k) v = frL K (l.set k v) q := by
  unfold frL
  rw [Nat.add_comm, List.set_cons_succ, List.set_append_left _ _ h]
theorem frL_num (K v : Int) (l q : List Int) {k : Nat} (hl : l.length = 6) : (frL K l q).set (7 + k) v = frL K l (q.set k v) := by
  unfold frL
  rw [show 7 + k = (l.length + k) + 1 by omega, List.set_cons_succ, List.set_append_right _ _ (by omega), Nat.add_sub_cancel_left]
theorem run_load_lev {w : World} {g : Nat} {T0 : TypeId} {K : Int} {l q : List Int} (h : Blk w g T0 (icells (frL K l q))) (hl : l.length = 6) : (loadVar 23 ⟨g, 1, none⟩).run Tryz.prog w = .ok (.agg (icells l)) w := by
  refine run_load_part (Arr.row arrLev) h (fun j hj => ?_) hl
  have e : (frL K l q)[1 + j]? = l[j]? := by
    unfold frL
    rw [Nat.add_comm, List.getElem?_cons_succ, List.getElem?_append_left (by omega)]
  rw [icells, List.getElem?_toArray, List.getElem?_map, e, List.getD_eq_getElem?_getD]
  have : j < l.length := by omega
  rw [List.getElem?_eq_getElem this]
  rfl
theorem getD_setG (xs : List Int) (k j : Nat) (h : k < xs.length) {v : Int} : (xs.set k v).getD j 0 = if k = j then v else xs.getD j 0 := by
  simp only [List.getD_eq_getElem?_getD, List.getElem?_set]
  by_cases e : k = j
  · rw [if_pos e, if_pos e, if_pos h]; rfl
  · rw [if_neg e, if_neg e]
def lvV (K : Int) (ss p : List Int) (b : Nat) : Int := if K = 1 then p.getD b 0 + ss.getD (b + 1) 0 - 8 else ss.getD (b + 1) 0
structure GuL (w : World) (g1 g2 g3 g4 : Nat) (l : List Bool) (p : List Int) (N : Nat) (kd : Int) (k : Nat) (u : World) : Prop where
  st : ∃ D A n c lv, MV w u [(g4, 68, dcC D A n c (N : Int)), (g3, 26, icells (frL kd lv (zr 16))), (g2, 26, icells (zr 23)), (g1, 23, icells p)] u ∧
    Rd u A n (pack l) ∧ Apt A n [g4, g3, g2, g1] ∧ GuD l N (hdT kd) (k + 1) D ∧ lv.length = 6 ∧ ∀ j, j < k → lv.getD j 0 = lvV kd (symL l (d0 l) (hdT kd)) p j
structure GuM (w : World) (g1 g2 g3 g4 : Nat) (l : List Bool) (p : List Int) (N : Nat) (kd : Int) (lv ms : List Int) (k : Nat) (u : World) : Prop where
  st : ∃ D A n c q, MV w u [(g4, 68, dcC D A n c (N : Int)), (g3, 26, icells (frL kd lv q)), (g2, 26, icells (zr 23)), (g1, 23, icells p)] u ∧
    Rd u A n (pack l) ∧ Apt A n [g4, g3, g2, g1] ∧ GuD l N (hdT kd ++ numT ms 16) (7 + plc ms k) D ∧ q.length = 16 ∧ ∀ j, j < 16 → q.getD j 0 = if j < k then nmF (symL l (d0 l) (hdT kd ++ numT ms 16)) ms j else 0
def NxC (B : Nat) (D : De) (L : Nat) (l : List Bool) (xs : List Int) (D6 : De) (A6 : Option Addr) (n6 : Nat) (N6 sV eV : Int) (w' : World) : Prop :=
  (D.at_ ≤ L + 32 ∧ D6 = nxE l D xs ∧ N6 = (L : Int) ∧ sV = (nxK D xs : Int) ∧ eV = 0 ∧ Rd w' A6 n6 (pack l) ∧ ∀ ad, A6 = some ad → 0 < n6 → B ≤ ad.block) ∨ (¬ D.at_ ≤ L + 32 ∧ eV = 20)
theorem nx_case {w w' : World} {D : De} {L : Nat} {l : List Bool} {xs : List Int} {e : Ending} (h : NxP w D L l xs e w') : ∃ D6 A6 n6 c6 N6 sV eV, e = .returned (.tuple #[.agg (dcC D6 A6 n6 c6 N6), .int .i64 sV, .int .i64 eV]) ∧ Below w.heap.size w w' ∧ NxC w.heap.size D L l xs D6 A6 n6 N6 sV eV w' := by
  rcases h with ⟨h1, A, n, c, rfl, h2, h3, h4⟩ | ⟨h1, A, n, c, rfl, h3⟩
  · exact ⟨_, A, n, c, _, _, _, rfl, h3, .inl ⟨h1, rfl, rfl, rfl, rfl, h2, h4⟩⟩
  · exact ⟨_, A, n, c, _, _, _, rfl, h3, .inr ⟨h1, rfl⟩⟩
def NxD (gs : List Nat) (D : De) (L : Nat) (l : List Bool) (xs : List Int) (D6 : De) (A6 : Option Addr) (n6 : Nat) (N6 sV eV : Int) (u : World) : Prop :=
  (D.at_ ≤ L + 32 ∧ D6 = nxE l D xs ∧ N6 = (L : Int) ∧ sV = (nxK D xs : Int) ∧ eV = 0 ∧ Rd u A6 n6 (pack l) ∧ Apt A6 n6 gs) ∨ (¬ D.at_ ≤ L + 32 ∧ eV = 20)
theorem NxC.old {w0 w1 w w' : World} {L0 : List Ent} {D : De} {L : Nat} {l : List Bool} {xs : List Int} {D6 : De} {A6 : Option Addr} {n6 : Nat} {N6 sV eV : Int} (h : NxC w.heap.size D L l xs D6 A6 n6 N6 sV eV w') (hm : MV w0 w1 L0 w) : NxD (L0.map (·.1)) D L l xs D6 A6 n6 N6 sV eV w' := by
  rcases h with ⟨h1, h2, h3, h4, h5, h6, h7⟩ | h
  · exact .inl ⟨h1, h2, h3, h4, h5, h6, Apt.old hm h7⟩
  · exact .inr h
theorem NxD.cons {gs : List Nat} {g : Nat} {D : De} {L : Nat} {l : List Bool} {xs : List Int} {D6 : De} {A6 : Option Addr} {n6 : Nat} {N6 sV eV : Int} {u : World} (h : NxD gs D L l xs D6 A6 n6 N6 sV eV u) (hg : u.heap.size ≤ g) : NxD (g :: gs) D L l xs D6 A6 n6 N6 sV eV u := by
  rcases h with ⟨h1, h2, h3, h4, h5, h6, h7⟩ | h
  · exact .inl ⟨h1, h2, h3, h4, h5, h6, h7.cons (rd_lt h6) hg⟩
  · exact .inr h
theorem NxD.later {w0 w1 u : World} {L0 : List Ent} {D : De} {L : Nat} {l : List Bool} {xs : List Int} {D6 : De} {A6 : Option Addr} {n6 : Nat} {N6 sV eV : Int} (h : NxD (L0.map (·.1)) D L l xs D6 A6 n6 N6 sV eV w1) (hm : MV w0 w1 L0 u) : NxD (L0.map (·.1)) D L l xs D6 A6 n6 N6 sV eV u := by
  rcases h with ⟨h1, h2, h3, h4, h5, h6, h7⟩ | h
  · exact .inl ⟨h1, h2, h3, h4, h5, hm.rdA h6 h7, h7⟩
  · exact .inr h
set_option maxHeartbeats 8000000 in
theorem rguess_far (A : Option Addr) (n c : Nat) (bs : List Nat) (p : List Int) (w : World) (hr : Hid (Rd w A n bs)) (lp : p.length = 6) (h : 40 < n) :
    Calls Tryz.prog 32 #[.slice A n c, .agg (icells p)] w (GsP w bs p) := by
  have d0 : (40 : Int) < (n : Int) := by omega
  have d1 : decide ((40 : Int) < (n : Int)) = true := decide_eq_true d0
  have HG := Lib.hid (show gsB bs p = none by unfold gsB; rw [if_neg (by have := hr.out.1; omega)])
  have LP := Lib.hid lp
  have HM := Lib.hid (MV.start w)
  clear lp h
  go_enter Tryz.func32, Tryz.ntmps32
  go_wp2_with (first | (refine wv_zeroF rfl rfl ?_) | (first | ((first | refine wv_box rfl _ _ rfl rfl HM ?_ | refine wv_alloc rfl _ rfl (by exact rowOf) HM ?_); first | (have q:dV HM = 0:=rfl;clear q HM;intro g1 u1 HG1 HM) | (have q:dV HM = 1:=rfl;clear q HM;intro g2 u2 HG2 HM) | (have q:dV HM = 2:=rfl;clear q HM;intro g3 u3 HG3 HM) | (have q:dV HM = 3:=rfl;clear q HM;intro g4 u4 HG4 HM)) | (refine wv_load rfl _ _ rfl rfl (by exact rowOf) HM (by exact vmemOf) (by exact vsizOf) ?_) | (refine wv_store rfl _ _ _ rfl rfl rfl (by exact rowOf) HM (by exact vidxOf) (by exact vsizOf) (by exact vsizOf) (by exact voneOf) ?_; clear HM; intro us HM; dsimp only [List.set] at HM) | (refine wl_zero rfl _ rfl (by exact arrOf) (by kernel_rfl) ?_)) | (refine wv_elem rfl _ rfl rfl HM (by exact vmemOf) (by exact velOf) ?_) | (refine wv_put rfl _ _ rfl rfl rfl HM (by exact vidxOf) (by exact vltOf) ?_; clear HM; intro us HM; dsimp only [List.set] at HM) | (refine wv_loadS rfl _ _ rfl rfl (by exact arrOf) HM (by exact vmemOf) (by exact vsubF) (by exact lenOf) ?_))
  exact bodyPost_ret (v := .tuple #[.agg (icells (zr 23)), .bool false]) (vres_two rfl _ rfl rfl rowFr HM (by exact vmemOf) (by exact vsizOf)) rfl (.inr ⟨HG.out, zr 23, zr_length 23, rfl, HM.out.1⟩)
set_option maxHeartbeats 8000000 in
theorem rguess_near (A : Option Addr) (n c : Nat) (bs : List Nat) (p : List Int) (w : World) (hr : Hid (Rd w A n bs)) (lp : p.length = 6) (hp : chkL p = true) (h : n ≤ 40) :
    Calls Tryz.prog 32 #[.slice A n c, .agg (icells p)] w (GsP w bs p) := by
  have b1 : ¬ (40 : Int) < (n : Int) := by omega
  have HG := Lib.hid (show gsB bs p = gsR (inB bs) p by unfold gsB; rw [if_pos (by have := hr.out.1; omega)])
  have HN := Lib.hid hr.out.1
  have HL := Lib.hid (inB_length bs)
  have LP := Lib.hid lp
  have HP := Lib.hid hp
  have HM := Lib.hid (MV.start w)
  clear lp hp
  go_enter Tryz.func32, Tryz.ntmps32
  go_wp2_with (first | (refine wv_zeroF rfl rfl ?_) | (first | ((first | refine wv_box rfl _ _ rfl rfl HM ?_ | refine wv_alloc rfl _ rfl (by exact rowOf) HM ?_); first | (have q:dV HM = 0:=rfl;clear q HM;intro g1 u1 HG1 HM) | (have q:dV HM = 1:=rfl;clear q HM;intro g2 u2 HG2 HM) | (have q:dV HM = 2:=rfl;clear q HM;intro g3 u3 HG3 HM) | (have q:dV HM = 3:=rfl;clear q HM;intro g4 u4 HG4 HM) | (have q:dV HM = 4:=rfl;clear q HM;intro g5 u5 HG5 HM) | (have q:dV HM = 5:=rfl;clear q HM;intro g6 u6 HG6 HM) | (have q:dV HM = 6:=rfl;clear q HM;intro g7 u7 HG7 HM) | (have q:dV HM = 7:=rfl;clear q HM;intro g8 u8 HG8 HM)) | (refine wv_load rfl _ _ rfl rfl (by exact rowOf) HM (by exact vmemOf) (by exact vsizOf) ?_) | (refine wv_store rfl _ _ _ rfl rfl rfl (by exact rowOf) HM (by exact vidxOf) (by exact vsizOf) (by exact vsizOf) (by exact voneOf) ?_; clear HM; intro us HM; dsimp only [List.set] at HM) | (refine wl_zero rfl _ rfl (by exact arrOf) (by kernel_rfl) ?_)) | (refine wv_elem rfl _ rfl rfl HM (by exact vmemOf) (by exact velOf) ?_) | (refine wv_put rfl _ _ rfl rfl rfl HM (by exact vidxOf) (by exact vltOf) ?_; clear HM; intro us HM; dsimp only [List.set] at HM) | (refine wv_loadS rfl _ _ rfl rfl (by exact arrOf) HM (by exact vmemOf) (by exact vsubF) (by exact lenOf) ?_))
  refine (rof_any A n c bs _ (hr.out.below HM.out.1) (by omega)).mono ?_
  rintro e w1 ⟨A1, c1, rfl, hI, hb1⟩
  have HI := Lib.hid hI
  have HM2 := Lib.hid (HM.out.below hb1)
  clear hI hb1 HM
  have HM := HM2
  clear HM2
  obtain ⟨l, hl⟩ : ∃ l, l = inB bs := ⟨_, rfl⟩
  obtain ⟨N, hN⟩ : ∃ N, N = 8 * bs.length := ⟨_, rfl⟩
  rw [← hl] at HI HL HG
  rw [← hN] at HI HL ⊢
  have hN2 : N ≤ 320 := by have := HN.out; omega
  clear hl hN
  go_wp2_with fail
  refine (rstart_dc A1 _ c1 (N : Int) l w1 HI).mono ?_
  rintro e w2 ⟨A2, n2, c2, rfl, hr2, hb2, hf2⟩
  have HR2 := Lib.hid hr2
  have HF2 := Lib.hid (show Apt A2 n2 [g3, g2, g1] from Apt.old HM.out hf2)
  have HM2 := Lib.hid (HM.out.below hb2).base
  clear hr2 hb2 hf2 HI HM
  have HM := HM2
  clear HM2
  obtain ⟨D, hD⟩ : ∃ D, D = d0 l := ⟨_, rfl⟩
  rw [← hD]
  have HD := Lib.hid hD
  have hat : D.at_ = 32 := by rw [hD]; rfl
  have HFD := Lib.hid (show FineD D by rw [hD]; exact fineD0 _)
  clear hD
  go_upto_region 7 with (first | (refine wv_zeroF rfl rfl ?_) | (first | ((first | refine wv_box rfl _ _ rfl rfl HM ?_ | refine wv_alloc rfl _ rfl (by exact rowOf) HM ?_); first | (have q:dV HM = 0:=rfl;clear q HM;intro g1 u1 HG1 HM) | (have q:dV HM = 1:=rfl;clear q HM;intro g2 u2 HG2 HM) | (have q:dV HM = 2:=rfl;clear q HM;intro g3 u3 HG3 HM) | (have q:dV HM = 3:=rfl;clear q HM;intro g4 u4 HG4 HM) | (have q:dV HM = 4:=rfl;clear q HM;intro g5 u5 HG5 HM) | (have q:dV HM = 5:=rfl;clear q HM;intro g6 u6 HG6 HM) | (have q:dV HM = 6:=rfl;clear q HM;intro g7 u7 HG7 HM) | (have q:dV HM = 7:=rfl;clear q HM;intro g8 u8 HG8 HM)) | (refine wv_load rfl _ _ rfl rfl (by exact rowOf) HM (by exact vmemOf) (by exact vsizOf) ?_) | (refine wv_store rfl _ _ _ rfl rfl rfl (by exact rowOf) HM (by exact vidxOf) (by exact vsizOf) (by exact vsizOf) (by exact voneOf) ?_; clear HM; intro us HM; dsimp only [List.set] at HM) | (refine wl_zero rfl _ rfl (by exact arrOf) (by kernel_rfl) ?_)) | (refine wv_elem rfl _ rfl rfl HM (by exact vmemOf) (by exact velOf) ?_) | (refine wv_put rfl _ _ rfl rfl rfl HM (by exact vidxOf) (by exact vltOf) ?_; clear HM; intro us HM; dsimp only [List.set] at HM) | (refine wv_loadS rfl _ _ rfl rfl (by exact arrOf) HM (by exact vmemOf) (by exact vsubF) (by exact lenOf) ?_))
  have HNL := Lib.hid HL.out
  have HA2 := Lib.hid (show Apt A2 n2 [g4, g3, g2, g1] from Apt.cons HF2.out (rd_lt HR2.out) HG4.out)
  have HRd := Lib.hid (HM.out.rdA HR2.out HA2.out)
  go_cut [8, 9] from 37 to 43 (fun v8 v9 wx => v8 = .int .i64 0 ∧ v9 = .int .i64 (nxK D (acc kindN) : Int) ∧ Hid (∃ A4 n4 c4, MV w wx [(g4, 68, dcC (nxE l D (acc kindN)) A4 n4 c4 (N : Int)), (g3, 26, icells (zr 23)), (g2, 26, icells (zr 23)), (g1, 23, icells p)] wx ∧ Rd wx A4 n4 (pack l) ∧ Apt A4 n4 [g4, g3, g2, g1]))
  case first =>
    refine wp_region_held_drew (S := fun _ => True) (by kernel_rfl) trivial (fun hHeld => ?_)
    have HMd := Lib.hid HM.out.drew.base
    have HRe := Lib.hid (show Rd (World.drew _) A2 n2 (pack l) from HRd.out)
    clear HM HR2 HRd
    have HM := HMd
    clear HMd
    generalize World.drew _ = wd at HM HRe ⊢
    refine wpAnyH_ready (rs := [0, 1]) (by kernel_rfl) (by simp) ?_; refine AllReadyH.cons rfl (fun K hK => ?_) (AllReadyH.cons rfl (fun K hK => ?_) (AllReadyH.nil))
    · rw [if_pos (by rfl)]; refine ov_load _ _ rfl rfl (run_load_blk rowDec (HM.out.get (by exact vmemOf)) rfl) ?_
      refine hK.out _ _ trivial (fun hHeld => ?_)
      clear hK K
      (try simp only [Act.put, qz1, qz2, qz3])
      refine wpAnyH_ready (rs := [1]) (by kernel_rfl) (by simp) ?_; refine AllReadyH.cons rfl (fun K hK => ?_) (AllReadyH.nil)
      rw [if_pos (by rfl)]; go_simp
      refine (rkinds_any wd).mono ?_
      rintro e w3 ⟨ad, m, cc, rfl, hg, hx, hb⟩
      have HX := Lib.hid hx
      have HM3 := Lib.hid (HM.out.below hb)
      have HR3 := Lib.hid (HRe.out.below hb)
      clear HM hg hx hb HRe
      have HM := HM3
      clear HM3
      go_wp2_with fail
      refine hK.out _ _ trivial (fun hHeld => ?_)
      clear hK K
      (try simp only [Act.put, qz1, qz2, qz3])
      refine wpAnyH_ready (rs := [2]) (by kernel_rfl) (by simp) ?_; refine AllReadyH.cons rfl (fun K hK => ?_) (AllReadyH.nil)
      rw [if_pos (by rfl)]; go_simp
      refine (rnext_dc D A2 n2 c2 N l (some ad) m cc (acc kindN) w3 HR3 HNL (by omega) HFD (by omega) (by omega) HX (Lib.hid (by have := HX.out.1; rw [← this]; decide +kernel)) (Lib.hid (by decide +kernel))).mono ?_
      rintro e w4 (⟨-, A4, n4, c4, rfl, hr4, hb, hf4⟩ | ⟨hno, -⟩)
      rotate_left
      · exact absurd (show D.at_ ≤ N + 32 by omega) hno
      have HA4 := Lib.hid (show Apt A4 n4 [g4, g3, g2, g1] from Apt.old HM.out hf4)
      have HR4 := Lib.hid hr4
      have HM3 := Lib.hid (HM.out.below hb).base
      clear HM hr4 hb hf4 HR3 HX
      have HM := HM3
      clear HM3
      go_wp2_with fail
      refine hK.out _ _ trivial (fun hHeld => ?_)
      clear hK K
      (try simp only [Act.put, qz1, qz2, qz3])
      (refine wa_take (i := 3) (v := .tuple #[.agg (dcC (nxE l D (acc kindN)) A4 n4 c4 (N : Int)), .int .i64 (nxK D (acc kindN) : Int), .int .i64 0]) rfl (by kernel_rfl) (by kernel_rfl) (by kernel_rfl) (fun _ _ _ h => h) (yi_free rfl (fun u => rfl)) hHeld rfl ?_; (try simp only [Act.put, qz1, qz2, qz3]))
      (refine wa_take (i := 4) (v := .agg (dcC (nxE l D (acc kindN)) A4 n4 c4 (N : Int))) rfl (by kernel_rfl) (by kernel_rfl) (by kernel_rfl) (fun _ _ _ h => h) (yi_free rfl (fun u => rfl)) hHeld rfl ?_; (try simp only [Act.put, qz1, qz2, qz3]))
      (refine wa_take (i := 5) (v := .int .i64 (nxK D (acc kindN) : Int)) rfl (by kernel_rfl) (by kernel_rfl) (by kernel_rfl) (fun _ _ _ h => h) (yi_free rfl (fun u => rfl)) hHeld rfl ?_; (try simp only [Act.put, qz1, qz2, qz3]))
      (refine wa_take (i := 6) (v := .int .i64 0) rfl (by kernel_rfl) (by kernel_rfl) (by kernel_rfl) (fun _ _ _ h => h) (yi_free rfl (fun u => rfl)) hHeld rfl ?_; (try simp only [Act.put, qz1, qz2, qz3]))
      refine wpAnyH_ready (rs := [7]) (by kernel_rfl) (by simp) ?_; refine AllReadyH.cons rfl (fun K hK => ?_) (AllReadyH.nil)
      rw [if_pos (by rfl)]; refine ov_store _ _ _ rfl rfl rfl (by exact rowOf) HM (by exact vidxOf) (by exact vsizOf) (by exact vsizOf) (by exact voneOf) rfl ?_; clear HM; intro us HM; dsimp only [List.set] at HM
      refine hK.out _ _ trivial (fun hHeld => ?_)
      clear hK K
      (try simp only [Act.put, qz1, qz2, qz3])
      (refine wa_take (i := 8) (v := .int .i64 (nxK D (acc kindN) : Int)) rfl (by kernel_rfl) (by kernel_rfl) (by kernel_rfl) (fun _ _ _ h => h) (yi_free rfl (fun u => rfl)) hHeld rfl ?_; (try simp only [Act.put, qz1, qz2, qz3]))
      (refine wa_take (i := 9) (v := .int .i64 0) rfl (by kernel_rfl) (by kernel_rfl) (by kernel_rfl) (fun _ _ _ h => h) (yi_free rfl (fun u => rfl)) hHeld rfl ?_; (try simp only [Act.put, qz1, qz2, qz3]))
      refine wpAnyH_done (by kernel_rfl) ?_ _
      go_wp2_with fail
      go_meet
      exact ⟨rfl, rfl, Lib.hid ⟨A4, n4, c4, HM.out.base, HM.out.rdA HR4.out HA4.out, HA4.out⟩⟩
    · rw [if_pos (by rfl)]; go_simp
      refine (rkinds_any wd).mono ?_
      rintro e w3 ⟨ad, m, cc, rfl, hg, hx, hb⟩
      have HX := Lib.hid hx
      have HM3 := Lib.hid (HM.out.below hb)
      have HR3 := Lib.hid (HRe.out.below hb)
      clear HM hg hx hb HRe
      have HM := HM3
      clear HM3
      go_wp2_with fail
      refine hK.out _ _ trivial (fun hHeld => ?_)
      clear hK K
      (try simp only [Act.put, qz1, qz2, qz3])
      refine wpAnyH_ready (rs := [0]) (by kernel_rfl) (by simp) ?_; refine AllReadyH.cons rfl (fun K hK => ?_) (AllReadyH.nil)
      rw [if_pos (by rfl)]; refine ov_load _ _ rfl rfl (run_load_blk rowDec (HM.out.get (by exact vmemOf)) rfl) ?_
      refine hK.out _ _ trivial (fun hHeld => ?_)
      clear hK K
      (try simp only [Act.put, qz1, qz2, qz3])
      refine wpAnyH_ready (rs := [2]) (by kernel_rfl) (by simp) ?_; refine AllReadyH.cons rfl (fun K hK => ?_) (AllReadyH.nil)
      rw [if_pos (by rfl)]; go_simp
      refine (rnext_dc D A2 n2 c2 N l (some ad) m cc (acc kindN) w3 HR3 HNL (by omega) HFD (by omega) (by omega) HX (Lib.hid (by have := HX.out.1; rw [← this]; decide +kernel)) (Lib.hid (by decide +kernel))).mono ?_
      rintro e w4 (⟨-, A4, n4, c4, rfl, hr4, hb, hf4⟩ | ⟨hno, -⟩)
      rotate_left
      · exact absurd (show D.at_ ≤ N + 32 by omega) hno
      have HA4 := Lib.hid (show Apt A4 n4 [g4, g3, g2, g1] from Apt.old HM.out hf4)
      have HR4 := Lib.hid hr4
      have HM3 := Lib.hid (HM.out.below hb).base
      clear HM hr4 hb hf4 HR3 HX
      have HM := HM3
      clear HM3
      go_wp2_with fail
      refine hK.out _ _ trivial (fun hHeld => ?_)
      clear hK K
      (try simp only [Act.put, qz1, qz2, qz3])
      (refine wa_take (i := 3) (v := .tuple #[.agg (dcC (nxE l D (acc kindN)) A4 n4 c4 (N : Int)), .int .i64 (nxK D (acc kindN) : Int), .int .i64 0]) rfl (by kernel_rfl) (by kernel_rfl) (by kernel_rfl) (fun _ _ _ h => h) (yi_free rfl (fun u => rfl)) hHeld rfl ?_; (try simp only [Act.put, qz1, qz2, qz3]))
      (refine wa_take (i := 4) (v := .agg (dcC (nxE l D (acc kindN)) A4 n4 c4 (N : Int))) rfl (by kernel_rfl) (by kernel_rfl) (by kernel_rfl) (fun _ _ _ h => h) (yi_free rfl (fun u => rfl)) hHeld rfl ?_; (try simp only [Act.put, qz1, qz2, qz3]))
      (refine wa_take (i := 5) (v := .int .i64 (nxK D (acc kindN) : Int)) rfl (by kernel_rfl) (by kernel_rfl) (by kernel_rfl) (fun _ _ _ h => h) (yi_free rfl (fun u => rfl)) hHeld rfl ?_; (try simp only [Act.put, qz1, qz2, qz3]))
      (refine wa_take (i := 6) (v := .int .i64 0) rfl (by kernel_rfl) (by kernel_rfl) (by kernel_rfl) (fun _ _ _ h => h) (yi_free rfl (fun u => rfl)) hHeld rfl ?_; (try simp only [Act.put, qz1, qz2, qz3]))
      refine wpAnyH_ready (rs := [7]) (by kernel_rfl) (by simp) ?_; refine AllReadyH.cons rfl (fun K hK => ?_) (AllReadyH.nil)
      rw [if_pos (by rfl)]; refine ov_store _ _ _ rfl rfl rfl (by exact rowOf) HM (by exact vidxOf) (by exact vsizOf) (by exact vsizOf) (by exact voneOf) rfl ?_; clear HM; intro us HM; dsimp only [List.set] at HM
      refine hK.out _ _ trivial (fun hHeld => ?_)
      clear hK K
      (try simp only [Act.put, qz1, qz2, qz3])
      (refine wa_take (i := 8) (v := .int .i64 (nxK D (acc kindN) : Int)) rfl (by kernel_rfl) (by kernel_rfl) (by kernel_rfl) (fun _ _ _ h => h) (yi_free rfl (fun u => rfl)) hHeld rfl ?_; (try simp only [Act.put, qz1, qz2, qz3]))
      (refine wa_take (i := 9) (v := .int .i64 0) rfl (by kernel_rfl) (by kernel_rfl) (by kernel_rfl) (fun _ _ _ h => h) (yi_free rfl (fun u => rfl)) hHeld rfl ?_; (try simp only [Act.put, qz1, qz2, qz3]))
      refine wpAnyH_done (by kernel_rfl) ?_ _
      go_wp2_with fail
      go_meet
      exact ⟨rfl, rfl, Lib.hid ⟨A4, n4, c4, HM.out.base, HM.out.rdA HR4.out HA4.out, HA4.out⟩⟩
  obtain ⟨rfl, rfl, HQ⟩ := hcut
  obtain ⟨A4, n4, c4, hm4, hr4, ha4⟩ := HQ.out
  clear HM HR2 HRd HQ
  have HM := Lib.hid hm4
  have HR4 := Lib.hid hr4
  have HA4 := Lib.hid ha4
  clear hm4 hr4 ha4
  have HK := Lib.hid (show kindR l = (nxK D (acc kindN) : Int) by unfold kindR; rw [HD.out]; rfl)
  have HGU := Lib.hid (show GuD l N (hdT (kindR l)) 1 (nxE l D (acc kindN)) from by
    have h := GuD.zero l N (hdT (kindR l))
    rw [← HD.out] at h
    exact h.step (xs := kT) rfl (by decide +kernel) HNL.out (by omega))
  rw [HK.out] at HGU
  generalize ((nxK D (acc kindN) : Nat) : Int) = kd at HK HGU ⊢
  generalize nxE l D (acc kindN) = D2 at HM HGU ⊢
  have HZ := Lib.hid (show 0 < (zr 23).length by decide)
  go_wp2_with (first | (refine wv_zeroF rfl rfl ?_) | (first | ((first | refine wv_box rfl _ _ rfl rfl HM ?_ | refine wv_alloc rfl _ rfl (by exact rowOf) HM ?_); first | (have q:dV HM = 0:=rfl;clear q HM;intro g1 u1 HG1 HM) | (have q:dV HM = 1:=rfl;clear q HM;intro g2 u2 HG2 HM) | (have q:dV HM = 2:=rfl;clear q HM;intro g3 u3 HG3 HM) | (have q:dV HM = 3:=rfl;clear q HM;intro g4 u4 HG4 HM) | (have q:dV HM = 4:=rfl;clear q HM;intro g5 u5 HG5 HM) | (have q:dV HM = 5:=rfl;clear q HM;intro g6 u6 HG6 HM) | (have q:dV HM = 6:=rfl;clear q HM;intro g7 u7 HG7 HM) | (have q:dV HM = 7:=rfl;clear q HM;intro g8 u8 HG8 HM)) | (refine wv_load rfl _ _ rfl rfl (by exact rowOf) HM (by exact vmemOf) (by exact vsizOf) ?_) | (refine wv_store rfl _ _ _ rfl rfl rfl (by exact rowOf) HM (by exact vidxOf) (by exact vsizOf) (by exact vsizOf) (by exact voneOf) ?_; clear HM; intro us HM; dsimp only [List.set] at HM) | (refine wl_zero rfl _ rfl (by exact arrOf) (by kernel_rfl) ?_)) | (refine wv_elem rfl _ rfl rfl HM (by exact vmemOf) (by exact velOf) ?_) | (refine wv_put rfl _ _ rfl rfl rfl HM (by exact vidxOf) (by exact vltOf) ?_; clear HM; intro us HM; dsimp only [List.set] at HM) | (refine wv_loadS rfl _ _ rfl rfl (by exact arrOf) HM (by exact vmemOf) (by exact vsubF) (by exact lenOf) ?_))
  have HL0 := Lib.hid (show GuL w g1 g2 g3 g4 l p N kd 0 us from by
    refine ⟨D2, A4, n4, c4, zr 6, ?_, HM.out.rdA HR4.out HA4.out, HA4.out, HGU.out, zr_length 6, fun j hj => absurd hj (by omega)⟩
    have h := HM.out.base
    rw [show (zr 23).set 0 kd = frL kd (zr 6) (zr 16) by rw [frL_zero]; rfl] at h
    exact h)
  clear HM HR4 HA4 HGU HA2 HF2 HZ
  go_loopw [10, 11, 12, 13, 14, 49] (fun _ _ _ _ _ vi wr => ∃ k : Nat, vi = .int .i64 (k : Int) ∧ k ≤ 6 ∧ Hid (GuL w g1 g2 g3 g4 l p N kd k wr)) (fun _ _ _ _ _ vi _ => 6 - (intOf vi).toNat)
  case atStart => exact ⟨0, rfl, by omega, HL0⟩
  case round =>
    clear HL0
    obtain ⟨k, rfl, hk, HZ⟩ := hrel
    by_cases hlt : k < 6
    · obtain ⟨D, A4, n4, c4, lv, hm, hr4, ha4, hgd, hll, hlv⟩ := HZ.out.st
      have HM := Lib.hid hm
      have HR4 := Lib.hid hr4
      have HA4 := Lib.hid ha4
      have HGU := Lib.hid hgd
      have HLL := Lib.hid hll
      have HLV := Lib.hid hlv
      have hnear := hgd.near
      have hfar := hgd.far
      have HFD := Lib.hid hgd.fine
      obtain ⟨y, hy⟩ : ∃ y, p.getD k 0 = y := ⟨_, rfl⟩
      have HPY := Lib.hid (show k < p.length ∧ p.getD k 0 = y from ⟨by rw [LP.out]; exact hlt, hy⟩)
      obtain ⟨y1, y2⟩ := inR_bd HP.out (by omega) (by omega) k
      rw [hy] at y1 y2
      obtain ⟨F, hF⟩ : ∃ F, F = frL kd lv (zr 16) := ⟨_, rfl⟩
      rw [← hF] at HM
      have HFF := Lib.hid hF
      have LF := Lib.hid (show F.length = 23 by rw [hF]; exact frL_len hll (zr_length 16))
      have HC0 := Lib.hid (show 0 < F.length ∧ F.getD 0 0 = kd from ⟨by rw [LF.out]; decide, by rw [hF]; rfl⟩)
      have k6 : (k : Int) < 6 := by omega
      clear hm hr4 ha4 hgd hll hlv HZ hF hy
      go_wp2_with (first | (refine wv_zeroF rfl rfl ?_) | (first | ((first | refine wv_box rfl _ _ rfl rfl HM ?_ | refine wv_alloc rfl _ rfl (by exact rowOf) HM ?_); first | (have q:dV HM = 0:=rfl;clear q HM;intro g1 u1 HG1 HM) | (have q:dV HM = 1:=rfl;clear q HM;intro g2 u2 HG2 HM) | (have q:dV HM = 2:=rfl;clear q HM;intro g3 u3 HG3 HM) | (have q:dV HM = 3:=rfl;clear q HM;intro g4 u4 HG4 HM) | (have q:dV HM = 4:=rfl;clear q HM;intro g5 u5 HG5 HM) | (have q:dV HM = 5:=rfl;clear q HM;intro g6 u6 HG6 HM) | (have q:dV HM = 6:=rfl;clear q HM;intro g7 u7 HG7 HM) | (have q:dV HM = 7:=rfl;clear q HM;intro g8 u8 HG8 HM)) | (refine wv_load rfl _ _ rfl rfl (by exact rowOf) HM (by exact vmemOf) (by exact vsizOf) ?_) | (refine wv_store rfl _ _ _ rfl rfl rfl (by exact rowOf) HM (by exact vidxOf) (by exact vsizOf) (by exact vsizOf) (by exact voneOf) ?_; clear HM; intro us HM; dsimp only [List.set] at HM) | (refine wl_zero rfl _ rfl (by exact arrOf) (by kernel_rfl) ?_)) | (refine wv_elem rfl _ rfl rfl HM (by exact vmemOf) (by exact velOf) ?_) | (refine wv_put rfl _ _ rfl rfl rfl HM (by exact vidxOf) (by exact vltOf) ?_; clear HM; intro us HM; dsimp only [List.set] at HM) | (refine wv_loadS rfl _ _ rfl rfl (by exact arrOf) HM (by exact vmemOf) (by exact vsubF) (by exact lenOf) ?_))
      refine (rlevels_any wr).mono ?_
      rintro e w5 ⟨ad, m, cc, rfl, hg, hx, hb⟩
      have HAX5 := Lib.hid (show Apt (some ad) m [g4, g3, g2, g1] from Apt.old HM.out fun a e _ => by injection e with e; subst e; exact hg)
      have HX5 := Lib.hid hx
      have HR5 := Lib.hid (HR4.out.below hb)
      have HM5 := Lib.hid (HM.out.below hb).base
      clear HM hg hx hb HR4
      have HM := HM5
      clear HM5
      by_cases hK : kd = 1
      · have a1 : (kd == 1) = true := by rw [hK]; rfl
        have HK1 := Lib.hid hK
        clear hK
        go_wp2_with (first | (refine wv_zeroF rfl rfl ?_) | (first | ((first | refine wv_box rfl _ _ rfl rfl HM ?_ | refine wv_alloc rfl _ rfl (by exact rowOf) HM ?_); first | (have q:dV HM = 0:=rfl;clear q HM;intro g1 u1 HG1 HM) | (have q:dV HM = 1:=rfl;clear q HM;intro g2 u2 HG2 HM) | (have q:dV HM = 2:=rfl;clear q HM;intro g3 u3 HG3 HM) | (have q:dV HM = 3:=rfl;clear q HM;intro g4 u4 HG4 HM) | (have q:dV HM = 4:=rfl;clear q HM;intro g5 u5 HG5 HM) | (have q:dV HM = 5:=rfl;clear q HM;intro g6 u6 HG6 HM) | (have q:dV HM = 6:=rfl;clear q HM;intro g7 u7 HG7 HM) | (have q:dV HM = 7:=rfl;clear q HM;intro g8 u8 HG8 HM)) | (refine wv_load rfl _ _ rfl rfl (by exact rowOf) HM (by exact vmemOf) (by exact vsizOf) ?_) | (refine wv_store rfl _ _ _ rfl rfl rfl (by exact rowOf) HM (by exact vidxOf) (by exact vsizOf) (by exact vsizOf) (by exact voneOf) ?_; clear HM; intro us HM; dsimp only [List.set] at HM) | (refine wl_zero rfl _ rfl (by exact arrOf) (by kernel_rfl) ?_)) | (refine wv_elem rfl _ rfl rfl HM (by exact vmemOf) (by exact velOf) ?_) | (refine wv_put rfl _ _ rfl rfl rfl HM (by exact vidxOf) (by exact vltOf) ?_; clear HM; intro us HM; dsimp only [List.set] at HM) | (refine wv_loadS rfl _ _ rfl rfl (by exact arrOf) HM (by exact vmemOf) (by exact vsubF) (by exact lenOf) ?_))
        have HA5' := Lib.hid (show Apt A4 n4 [g5, g4, g3, g2, g1] from Apt.cons HA4.out (rd_lt HR5.out) HG5.out)
        have HRb := Lib.hid (HM.out.rdA HR5.out HA5'.out)
        clear HX5 HAX5 HR5
        refine (rchanges_any _).mono ?_
        rintro e w5' ⟨ad', m', cc', rfl, hg, hx, hb⟩
        have HAX := Lib.hid (show Apt (some ad') m' [g5, g4, g3, g2, g1] from Apt.old HM.out fun a e _ => by injection e with e; subst e; exact hg)
        have HX5 := Lib.hid hx
        have HR5 := Lib.hid (HRb.out.below hb)
        have HA5 := HA5'
        have HM5 := Lib.hid (HM.out.below hb).base
        clear HM hg hx hb HRb HA5'
        have HM := HM5
        clear HM5
        go_wp2_with (first | (refine wv_zeroF rfl rfl ?_) | (first | ((first | refine wv_box rfl _ _ rfl rfl HM ?_ | refine wv_alloc rfl _ rfl (by exact rowOf) HM ?_); first | (have q:dV HM = 0:=rfl;clear q HM;intro g1 u1 HG1 HM) | (have q:dV HM = 1:=rfl;clear q HM;intro g2 u2 HG2 HM) | (have q:dV HM = 2:=rfl;clear q HM;intro g3 u3 HG3 HM) | (have q:dV HM = 3:=rfl;clear q HM;intro g4 u4 HG4 HM) | (have q:dV HM = 4:=rfl;clear q HM;intro g5 u5 HG5 HM) | (have q:dV HM = 5:=rfl;clear q HM;intro g6 u6 HG6 HM) | (have q:dV HM = 6:=rfl;clear q HM;intro g7 u7 HG7 HM) | (have q:dV HM = 7:=rfl;clear q HM;intro g8 u8 HG8 HM)) | (refine wv_load rfl _ _ rfl rfl (by exact rowOf) HM (by exact vmemOf) (by exact vsizOf) ?_) | (refine wv_store rfl _ _ _ rfl rfl rfl (by exact rowOf) HM (by exact vidxOf) (by exact vsizOf) (by exact vsizOf) (by exact voneOf) ?_; clear HM; intro us HM; dsimp only [List.set] at HM) | (refine wl_zero rfl _ rfl (by exact arrOf) (by kernel_rfl) ?_)) | (refine wv_elem rfl _ rfl rfl HM (by exact vmemOf) (by exact velOf) ?_) | (refine wv_put rfl _ _ rfl rfl rfl HM (by exact vidxOf) (by exact vltOf) ?_; clear HM; intro us HM; dsimp only [List.set] at HM) | (refine wv_loadS rfl _ _ rfl rfl (by exact arrOf) HM (by exact vmemOf) (by exact vsubF) (by exact lenOf) ?_))
        have HTB := Lib.hid (show tabK kd = cT by unfold tabK; rw [if_pos HK1.out])
        have HGT := Lib.hid (hdT_get kd hlt)
        rw [HTB.out] at HGT
        have HRa := Lib.hid (HM.out.rdA HR5.out HA5.out)
        have HXa := Lib.hid (HM.out.rdI HX5.out HAX.out)
        have hlen := HXa.out.1
        refine (rnext_dc D A4 n4 c4 N l (some ad') m' cc' (acc chgN) _ HRa HNL (by omega) HFD hnear hfar HXa (Lib.hid (by rw [← hlen]; try decide +kernel)) (Lib.hid (by decide +kernel))).mono ?_
        rintro e w6 (⟨hok, A6, n6, c6, rfl, hr6, hb, hf6⟩ | ⟨hno, A6, n6, c6, rfl, hb⟩)
        rotate_left
        · have HGN := Lib.hid (show gsB bs p = none by
            rw [HG.out]
            unfold gsR
            rw [HK.out, if_neg (HGU.out.short HGT.out (by decide +kernel) HNL.out hno)])
          have HM6 := Lib.hid (HM.out.below hb).base
          clear HM hb HRa HXa
          have HM := HM6
          clear HM6
          go_wp2_with (first | (refine wv_zeroF rfl rfl ?_) | (first | ((first | refine wv_box rfl _ _ rfl rfl HM ?_ | refine wv_alloc rfl _ rfl (by exact rowOf) HM ?_); first | (have q:dV HM = 0:=rfl;clear q HM;intro g1 u1 HG1 HM) | (have q:dV HM = 1:=rfl;clear q HM;intro g2 u2 HG2 HM) | (have q:dV HM = 2:=rfl;clear q HM;intro g3 u3 HG3 HM) | (have q:dV HM = 3:=rfl;clear q HM;intro g4 u4 HG4 HM) | (have q:dV HM = 4:=rfl;clear q HM;intro g5 u5 HG5 HM) | (have q:dV HM = 5:=rfl;clear q HM;intro g6 u6 HG6 HM) | (have q:dV HM = 6:=rfl;clear q HM;intro g7 u7 HG7 HM) | (have q:dV HM = 7:=rfl;clear q HM;intro g8 u8 HG8 HM)) | (refine wv_load rfl _ _ rfl rfl (by exact rowOf) HM (by exact vmemOf) (by exact vsizOf) ?_) | (refine wv_store rfl _ _ _ rfl rfl rfl (by exact rowOf) HM (by exact vidxOf) (by exact vsizOf) (by exact vsizOf) (by exact voneOf) ?_; clear HM; intro us HM; dsimp only [List.set] at HM) | (refine wl_zero rfl _ rfl (by exact arrOf) (by kernel_rfl) ?_)) | (refine wv_elem rfl _ rfl rfl HM (by exact vmemOf) (by exact velOf) ?_) | (refine wv_put rfl _ _ rfl rfl rfl HM (by exact vidxOf) (by exact vltOf) ?_; clear HM; intro us HM; dsimp only [List.set] at HM) | (refine wv_loadS rfl _ _ rfl rfl (by exact arrOf) HM (by exact vmemOf) (by exact vsubF) (by exact lenOf) ?_))
          exact bodyPost_ret (v := .tuple #[.agg (icells F), .bool false]) (vres_two rfl _ rfl rfl rowFr HM (by exact vmemOf) (by exact vsizOf)) rfl (.inr ⟨HGN.out, F, LF.out, rfl, HM.out.1⟩)
        have HA6 := Lib.hid (show Apt A6 n6 [g5, g4, g3, g2, g1] from Apt.old HM.out hf6)
        have HR6 := Lib.hid hr6
        have HM6 := Lib.hid (HM.out.below hb).base
        clear HM hr6 hb hf6 HRa HXa
        have HM := HM6
        clear HM6
        have HGU2 := Lib.hid (show GuD l N (hdT kd) (k + 1 + 1) (nxE l D (acc chgN)) from HGU.out.step HGT.out (by decide +kernel) HNL.out hok)
        have HSY := Lib.hid (show (symL l (d0 l) (hdT kd)).getD (k + 1) 0 = (nxK (stD l (d0 l) ((hdT kd).take (k + 1))) (acc chgN) : Int) from sym_at l (fs := hdT kd) HGT.out)
        rw [← HGU.out.is] at HSY
        have hsb := nxK_lt (xs := acc chgN) HFD.out (by decide +kernel)
        rw [hlen] at hsb
        obtain ⟨sy, hsy⟩ : ∃ sy : Int, sy = (nxK D (acc chgN) : Int) := ⟨_, rfl⟩
        have hs0 : 0 ≤ sy := by omega
        have hs1 : sy ≤ 300 := by have : (m' : Int) ≤ 257 := by rw [← hlen]; decide +kernel
                                  omega
        rw [show (nxK D (acc chgN) : Int) = sy from hsy.symm] at HSY
        rw [← hsy]
        generalize nxE l D (acc chgN) = D2 at HM HGU2 ⊢
        have HS1 := Lib.hid (show 1 + k < F.length by rw [LF.out]; omega)
        have HC1 := Lib.hid (show 0 < (F.set (1 + k) sy).length ∧ (F.set (1 + k) sy).getD 0 0 = kd from ⟨by rw [List.length_set]; exact HC0.out.1, by rw [HFF.out, frL_lev _ _ _ _ (by rw [HLL.out]; exact hlt)]; rfl⟩)
        have HS2 := Lib.hid (show 1 + k < (F.set (1 + k) sy).length by rw [List.length_set]; exact HS1.out)
        clear hsy hsb
        have w1 : IntKind.i64.wrap (y + sy) = y + sy := i64_w (by omega) (by omega)
        have w2 : IntKind.i64.wrap (y + sy - 8) = y + sy - 8 := i64_w (by omega) (by omega)
        go_wp2_with (first | (refine wv_zeroF rfl rfl ?_) | (first | ((first | refine wv_box rfl _ _ rfl rfl HM ?_ | refine wv_alloc rfl _ rfl (by exact rowOf) HM ?_); first | (have q:dV HM = 0:=rfl;clear q HM;intro g1 u1 HG1 HM) | (have q:dV HM = 1:=rfl;clear q HM;intro g2 u2 HG2 HM) | (have q:dV HM = 2:=rfl;clear q HM;intro g3 u3 HG3 HM) | (have q:dV HM = 3:=rfl;clear q HM;intro g4 u4 HG4 HM) | (have q:dV HM = 4:=rfl;clear q HM;intro g5 u5 HG5 HM) | (have q:dV HM = 5:=rfl;clear q HM;intro g6 u6 HG6 HM) | (have q:dV HM = 6:=rfl;clear q HM;intro g7 u7 HG7 HM) | (have q:dV HM = 7:=rfl;clear q HM;intro g8 u8 HG8 HM)) | (refine wv_load rfl _ _ rfl rfl (by exact rowOf) HM (by exact vmemOf) (by exact vsizOf) ?_) | (refine wv_store rfl _ _ _ rfl rfl rfl (by exact rowOf) HM (by exact vidxOf) (by exact vsizOf) (by exact vsizOf) (by exact voneOf) ?_; clear HM; intro us HM; dsimp only [List.set] at HM) | (refine wl_zero rfl _ rfl (by exact arrOf) (by kernel_rfl) ?_)) | (refine wv_elem rfl _ rfl rfl HM (by exact vmemOf) (by exact velOf) ?_) | (refine wv_put rfl _ _ rfl rfl rfl HM (by exact vidxOf) (by exact vltOf) ?_; clear HM; intro us HM; dsimp only [List.set] at HM) | (refine wv_loadS rfl _ _ rfl rfl (by exact arrOf) HM (by exact vmemOf) (by exact vsubF) (by exact lenOf) ?_))
        have HA7 := Lib.hid (show Apt A6 n6 [g6, g5, g4, g3, g2, g1] from Apt.cons HA6.out (rd_lt HR6.out) HG6.out)
        go_roundw
        case rel =>
          refine ⟨k + 1, by go_num, by omega, Lib.hid ⟨D2, A6, n6, c6, lv.set k (y + sy - 8), ?_, HM.out.rdA HR6.out HA7.out, HA7.out.sub (.cons _ (.cons _ (List.Sublist.refl _))), HGU2.out, by rw [List.length_set]; exact HLL.out, fun j hj => ?_⟩⟩
          · have h := HM.out.sub (L' := [(g4, 68, dcC D2 A6 n6 c6 (N : Int)), (g3, 26, icells ((F.set (1 + k) sy).set (1 + k) (y + sy - 8))), (g2, 26, icells (zr 23)), (g1, 23, icells p)]) (.cons _ (.cons _ (List.Sublist.refl _)))
            rw [List.set_set, HFF.out, frL_lev _ _ _ _ (by rw [HLL.out]; exact hlt)] at h
            exact h
          · rw [getD_setG _ _ _ (by rw [HLL.out]; exact hlt)]
            by_cases hjk : k = j
            · subst hjk
              rw [if_pos rfl]
              unfold lvV
              rw [if_pos HK1.out, HSY.out, HPY.out.2]
            · rw [if_neg hjk]
              exact HLV.out j (by omega)
        case measure => simp [intOf]; omega
      · have a1 : (kd == 1) = false := by simpa using hK
        go_wp2_with (first | (refine wv_zeroF rfl rfl ?_) | (first | ((first | refine wv_box rfl _ _ rfl rfl HM ?_ | refine wv_alloc rfl _ rfl (by exact rowOf) HM ?_); first | (have q:dV HM = 0:=rfl;clear q HM;intro g1 u1 HG1 HM) | (have q:dV HM = 1:=rfl;clear q HM;intro g2 u2 HG2 HM) | (have q:dV HM = 2:=rfl;clear q HM;intro g3 u3 HG3 HM) | (have q:dV HM = 3:=rfl;clear q HM;intro g4 u4 HG4 HM) | (have q:dV HM = 4:=rfl;clear q HM;intro g5 u5 HG5 HM) | (have q:dV HM = 5:=rfl;clear q HM;intro g6 u6 HG6 HM) | (have q:dV HM = 6:=rfl;clear q HM;intro g7 u7 HG7 HM) | (have q:dV HM = 7:=rfl;clear q HM;intro g8 u8 HG8 HM)) | (refine wv_load rfl _ _ rfl rfl (by exact rowOf) HM (by exact vmemOf) (by exact vsizOf) ?_) | (refine wv_store rfl _ _ _ rfl rfl rfl (by exact rowOf) HM (by exact vidxOf) (by exact vsizOf) (by exact vsizOf) (by exact voneOf) ?_; clear HM; intro us HM; dsimp only [List.set] at HM) | (refine wl_zero rfl _ rfl (by exact arrOf) (by kernel_rfl) ?_)) | (refine wv_elem rfl _ rfl rfl HM (by exact vmemOf) (by exact velOf) ?_) | (refine wv_put rfl _ _ rfl rfl rfl HM (by exact vidxOf) (by exact vltOf) ?_; clear HM; intro us HM; dsimp only [List.set] at HM) | (refine wv_loadS rfl _ _ rfl rfl (by exact arrOf) HM (by exact vmemOf) (by exact vsubF) (by exact lenOf) ?_))
        have HA5 := Lib.hid (show Apt A4 n4 [g5, g4, g3, g2, g1] from Apt.cons HA4.out (rd_lt HR5.out) HG5.out)
        have HAX := Lib.hid (show Apt (some ad) m [g5, g4, g3, g2, g1] from Apt.cons HAX5.out (rdI_lt HX5.out) HG5.out)
        have HTB := Lib.hid (show tabK kd = lT by unfold tabK; rw [if_neg hK])
        have HGT := Lib.hid (hdT_get kd hlt)
        rw [HTB.out] at HGT
        have HRa := Lib.hid (HM.out.rdA HR5.out HA5.out)
        have HXa := Lib.hid (HM.out.rdI HX5.out HAX.out)
        have hlen := HXa.out.1
        refine (rnext_dc D A4 n4 c4 N l (some ad) m cc (acc (List.replicate 256 1)) _ HRa HNL (by omega) HFD hnear hfar HXa (Lib.hid (by rw [← hlen]; try decide +kernel)) (Lib.hid (by decide +kernel))).mono ?_
        rintro e w6 (⟨hok, A6, n6, c6, rfl, hr6, hb, hf6⟩ | ⟨hno, A6, n6, c6, rfl, hb⟩)
        rotate_left
        · have HGN := Lib.hid (show gsB bs p = none by
            rw [HG.out]
            unfold gsR
            rw [HK.out, if_neg (HGU.out.short HGT.out (by decide +kernel) HNL.out hno)])
          have HM6 := Lib.hid (HM.out.below hb).base
          clear HM hb HRa HXa
          have HM := HM6
          clear HM6
          go_wp2_with (first | (refine wv_zeroF rfl rfl ?_) | (first | ((first | refine wv_box rfl _ _ rfl rfl HM ?_ | refine wv_alloc rfl _ rfl (by exact rowOf) HM ?_); first | (have q:dV HM = 0:=rfl;clear q HM;intro g1 u1 HG1 HM) | (have q:dV HM = 1:=rfl;clear q HM;intro g2 u2 HG2 HM) | (have q:dV HM = 2:=rfl;clear q HM;intro g3 u3 HG3 HM) | (have q:dV HM = 3:=rfl;clear q HM;intro g4 u4 HG4 HM) | (have q:dV HM = 4:=rfl;clear q HM;intro g5 u5 HG5 HM) | (have q:dV HM = 5:=rfl;clear q HM;intro g6 u6 HG6 HM) | (have q:dV HM = 6:=rfl;clear q HM;intro g7 u7 HG7 HM) | (have q:dV HM = 7:=rfl;clear q HM;intro g8 u8 HG8 HM)) | (refine wv_load rfl _ _ rfl rfl (by exact rowOf) HM (by exact vmemOf) (by exact vsizOf) ?_) | (refine wv_store rfl _ _ _ rfl rfl rfl (by exact rowOf) HM (by exact vidxOf) (by exact vsizOf) (by exact vsizOf) (by exact voneOf) ?_; clear HM; intro us HM; dsimp only [List.set] at HM) | (refine wl_zero rfl _ rfl (by exact arrOf) (by kernel_rfl) ?_)) | (refine wv_elem rfl _ rfl rfl HM (by exact vmemOf) (by exact velOf) ?_) | (refine wv_put rfl _ _ rfl rfl rfl HM (by exact vidxOf) (by exact vltOf) ?_; clear HM; intro us HM; dsimp only [List.set] at HM) | (refine wv_loadS rfl _ _ rfl rfl (by exact arrOf) HM (by exact vmemOf) (by exact vsubF) (by exact lenOf) ?_))
          exact bodyPost_ret (v := .tuple #[.agg (icells F), .bool false]) (vres_two rfl _ rfl rfl rowFr HM (by exact vmemOf) (by exact vsizOf)) rfl (.inr ⟨HGN.out, F, LF.out, rfl, HM.out.1⟩)
        have HA6 := Lib.hid (show Apt A6 n6 [g5, g4, g3, g2, g1] from Apt.old HM.out hf6)
        have HR6 := Lib.hid hr6
        have HM6 := Lib.hid (HM.out.below hb).base
        clear HM hr6 hb hf6 HRa HXa
        have HM := HM6
        clear HM6
        have HGU2 := Lib.hid (show GuD l N (hdT kd) (k + 1 + 1) (nxE l D (acc (List.replicate 256 1))) from HGU.out.step HGT.out (by decide +kernel) HNL.out hok)
        have HSY := Lib.hid (show (symL l (d0 l) (hdT kd)).getD (k + 1) 0 = (nxK (stD l (d0 l) ((hdT kd).take (k + 1))) (acc (List.replicate 256 1)) : Int) from sym_at l (fs := hdT kd) HGT.out)
        rw [← HGU.out.is] at HSY
        have hsb := nxK_lt (xs := acc (List.replicate 256 1)) HFD.out (by decide +kernel)
        rw [hlen] at hsb
        obtain ⟨sy, hsy⟩ : ∃ sy : Int, sy = (nxK D (acc (List.replicate 256 1)) : Int) := ⟨_, rfl⟩
        have hs0 : 0 ≤ sy := by omega
        have hs1 : sy ≤ 300 := by have : (m : Int) ≤ 257 := by rw [← hlen]; decide +kernel
                                  omega
        rw [show (nxK D (acc (List.replicate 256 1)) : Int) = sy from hsy.symm] at HSY
        rw [← hsy]
        generalize nxE l D (acc (List.replicate 256 1)) = D2 at HM HGU2 ⊢
        have HS1 := Lib.hid (show 1 + k < F.length by rw [LF.out]; omega)
        have HC1 := Lib.hid (show 0 < (F.set (1 + k) sy).length ∧ (F.set (1 + k) sy).getD 0 0 = kd from ⟨by rw [List.length_set]; exact HC0.out.1, by rw [HFF.out, frL_lev _ _ _ _ (by rw [HLL.out]; exact hlt)]; rfl⟩)
        have HS2 := Lib.hid (show 1 + k < (F.set (1 + k) sy).length by rw [List.length_set]; exact HS1.out)
        clear hsy hsb
        go_wp2_with (first | (refine wv_zeroF rfl rfl ?_) | (first | ((first | refine wv_box rfl _ _ rfl rfl HM ?_ | refine wv_alloc rfl _ rfl (by exact rowOf) HM ?_); first | (have q:dV HM = 0:=rfl;clear q HM;intro g1 u1 HG1 HM) | (have q:dV HM = 1:=rfl;clear q HM;intro g2 u2 HG2 HM) | (have q:dV HM = 2:=rfl;clear q HM;intro g3 u3 HG3 HM) | (have q:dV HM = 3:=rfl;clear q HM;intro g4 u4 HG4 HM) | (have q:dV HM = 4:=rfl;clear q HM;intro g5 u5 HG5 HM) | (have q:dV HM = 5:=rfl;clear q HM;intro g6 u6 HG6 HM) | (have q:dV HM = 6:=rfl;clear q HM;intro g7 u7 HG7 HM) | (have q:dV HM = 7:=rfl;clear q HM;intro g8 u8 HG8 HM)) | (refine wv_load rfl _ _ rfl rfl (by exact rowOf) HM (by exact vmemOf) (by exact vsizOf) ?_) | (refine wv_store rfl _ _ _ rfl rfl rfl (by exact rowOf) HM (by exact vidxOf) (by exact vsizOf) (by exact vsizOf) (by exact voneOf) ?_; clear HM; intro us HM; dsimp only [List.set] at HM) | (refine wl_zero rfl _ rfl (by exact arrOf) (by kernel_rfl) ?_)) | (refine wv_elem rfl _ rfl rfl HM (by exact vmemOf) (by exact velOf) ?_) | (refine wv_put rfl _ _ rfl rfl rfl HM (by exact vidxOf) (by exact vltOf) ?_; clear HM; intro us HM; dsimp only [List.set] at HM) | (refine wv_loadS rfl _ _ rfl rfl (by exact arrOf) HM (by exact vmemOf) (by exact vsubF) (by exact lenOf) ?_))
        have HA7 := Lib.hid (show Apt A6 n6 [g6, g5, g4, g3, g2, g1] from Apt.cons HA6.out (rd_lt HR6.out) HG6.out)
        go_roundw
        case rel =>
          refine ⟨k + 1, by go_num, by omega, Lib.hid ⟨D2, A6, n6, c6, lv.set k sy, ?_, HM.out.rdA HR6.out HA7.out, HA7.out.sub (.cons _ (.cons _ (List.Sublist.refl _))), HGU2.out, by rw [List.length_set]; exact HLL.out, fun j hj => ?_⟩⟩
          · have h := HM.out.sub (L' := [(g4, 68, dcC D2 A6 n6 c6 (N : Int)), (g3, 26, icells (F.set (1 + k) sy)), (g2, 26, icells (zr 23)), (g1, 23, icells p)]) (.cons _ (.cons _ (List.Sublist.refl _)))
            rw [HFF.out, frL_lev _ _ _ _ (by rw [HLL.out]; exact hlt)] at h
            exact h
          · rw [getD_setG _ _ _ (by rw [HLL.out]; exact hlt)]
            by_cases hjk : k = j
            · subst hjk
              rw [if_pos rfl]
              unfold lvV
              rw [if_neg hK, HSY.out]
            · rw [if_neg hjk]
              exact HLV.out j (by omega)
        case measure => simp [intOf]; omega
    · obtain rfl : k = 6 := by omega
      obtain ⟨D, A4, n4, c4, lv, hm, hr4, ha4, hgd, hll, hlv⟩ := HZ.out.st
      have hle : lv = lvR l p := by
        unfold lvR lvG
        rw [HK.out]
        refine getD_ext (by rw [hll, tab_length]) fun j hj => ?_
        rw [hll] at hj
        rw [tab_getD _ hj]
        exact hlv j hj
      have HLE := Lib.hid hle
      have HM := Lib.hid hm
      have HR4 := Lib.hid hr4
      have HA4 := Lib.hid ha4
      have HGU := Lib.hid hgd
      have HLL := Lib.hid hll
      obtain ⟨F, hF⟩ : ∃ F, F = frL kd lv (zr 16) := ⟨_, rfl⟩
      have HLD := Lib.hid (run_load_lev (HM.out.get (.tail _ (.head _))) hll)
      rw [← hF] at HM
      have HFF := Lib.hid hF
      have LF := Lib.hid (show F.length = 23 by rw [hF]; exact frL_len hll (zr_length 16))
      have HC0 := Lib.hid (show 0 < F.length ∧ F.getD 0 0 = kd from ⟨by rw [LF.out]; decide, by rw [hF]; rfl⟩)
      have HAL := Lib.hid (show backErr l (d0 l) (hdT kd) = 0 from hgd.all (by rw [hdT_length]; exact Nat.le_refl _))
      clear hm hr4 ha4 hgd hll hlv HZ hF hle
      by_cases hK : kd = 2
      · have HGS := Lib.hid (show gsB bs p = some (kd, lv, zr 16) by
          rw [HG.out]
          unfold gsR
          rw [HK.out, if_pos HAL.out, if_pos hK, ← HLE.out])
        have a1 : (kd == 2) = true := by rw [hK]; rfl
        clear hK
        go_wp2_with (first | (refine wv_zeroF rfl rfl ?_) | (first | ((first | refine wv_box rfl _ _ rfl rfl HM ?_ | refine wv_alloc rfl _ rfl (by exact rowOf) HM ?_); first | (have q:dV HM = 0:=rfl;clear q HM;intro g1 u1 HG1 HM) | (have q:dV HM = 1:=rfl;clear q HM;intro g2 u2 HG2 HM) | (have q:dV HM = 2:=rfl;clear q HM;intro g3 u3 HG3 HM) | (have q:dV HM = 3:=rfl;clear q HM;intro g4 u4 HG4 HM) | (have q:dV HM = 4:=rfl;clear q HM;intro g5 u5 HG5 HM) | (have q:dV HM = 5:=rfl;clear q HM;intro g6 u6 HG6 HM) | (have q:dV HM = 6:=rfl;clear q HM;intro g7 u7 HG7 HM) | (have q:dV HM = 7:=rfl;clear q HM;intro g8 u8 HG8 HM)) | (refine wv_load rfl _ _ rfl rfl (by exact rowOf) HM (by exact vmemOf) (by exact vsizOf) ?_) | (refine wv_store rfl _ _ _ rfl rfl rfl (by exact rowOf) HM (by exact vidxOf) (by exact vsizOf) (by exact vsizOf) (by exact voneOf) ?_; clear HM; intro us HM; dsimp only [List.set] at HM) | (refine wl_zero rfl _ rfl (by exact arrOf) (by kernel_rfl) ?_)) | (refine wv_elem rfl _ rfl rfl HM (by exact vmemOf) (by exact velOf) ?_) | (refine wv_put rfl _ _ rfl rfl rfl HM (by exact vidxOf) (by exact vltOf) ?_; clear HM; intro us HM; dsimp only [List.set] at HM) | (refine wv_loadS rfl _ _ rfl rfl (by exact arrOf) HM (by exact vmemOf) (by exact vsubF) (by exact lenOf) ?_))
        exact bodyPost_ret (v := .tuple #[.agg (icells F), .bool true]) (vres_two rfl _ rfl rfl rowFr HM (by exact vmemOf) (by exact vsizOf)) rfl (.inl ⟨kd, lv, zr 16, HGS.out, by rw [HFF.out], HM.out.1⟩)
      · have HK2 := Lib.hid hK
        have a1 : (kd == 2) = false := by simpa using hK
        clear hK
        go_wp2_with (first | (refine wv_loadE rfl _ _ rfl rfl HLD ?_) | (first | (refine wv_zeroF rfl rfl ?_) | (first | ((first | refine wv_box rfl _ _ rfl rfl HM ?_ | refine wv_alloc rfl _ rfl (by exact rowOf) HM ?_); first | (have q:dV HM = 0:=rfl;clear q HM;intro g1 u1 HG1 HM) | (have q:dV HM = 1:=rfl;clear q HM;intro g2 u2 HG2 HM) | (have q:dV HM = 2:=rfl;clear q HM;intro g3 u3 HG3 HM) | (have q:dV HM = 3:=rfl;clear q HM;intro g4 u4 HG4 HM) | (have q:dV HM = 4:=rfl;clear q HM;intro g5 u5 HG5 HM) | (have q:dV HM = 5:=rfl;clear q HM;intro g6 u6 HG6 HM) | (have q:dV HM = 6:=rfl;clear q HM;intro g7 u7 HG7 HM) | (have q:dV HM = 7:=rfl;clear q HM;intro g8 u8 HG8 HM)) | (refine wv_load rfl _ _ rfl rfl (by exact rowOf) HM (by exact vmemOf) (by exact vsizOf) ?_) | (refine wv_store rfl _ _ _ rfl rfl rfl (by exact rowOf) HM (by exact vidxOf) (by exact vsizOf) (by exact vsizOf) (by exact voneOf) ?_; clear HM; intro us HM; dsimp only [List.set] at HM) | (refine wl_zero rfl _ rfl (by exact arrOf) (by kernel_rfl) ?_)) | (refine wv_elem rfl _ rfl rfl HM (by exact vmemOf) (by exact velOf) ?_) | (refine wv_put rfl _ _ rfl rfl rfl HM (by exact vidxOf) (by exact vltOf) ?_; clear HM; intro us HM; dsimp only [List.set] at HM) | (refine wv_loadS rfl _ _ rfl rfl (by exact arrOf) HM (by exact vmemOf) (by exact vsubF) (by exact lenOf) ?_)))
        refine (rsteps_any lv _ HLL.out).mono ?_
        rintro e w5 ⟨rfl, hb⟩
        have HR5 := Lib.hid ((HM.out.rdA HR4.out HA4.out).below hb)
        have HM5 := Lib.hid (HM.out.below hb).base
        clear HM hb HR4 HLD
        have HM := HM5
        clear HM5
        obtain ⟨ms, hms⟩ : ∃ ms, ms = msL lv := ⟨_, rfl⟩
        obtain ⟨cb, hcb⟩ : ∃ cb, cb = chkL lv := ⟨_, rfl⟩
        have LMS := Lib.hid (show ms.length = 16 by rw [hms]; exact msL_length lv)
        have LSS := Lib.hid (ssL_length lv)
        have LAS := Lib.hid (asL_length lv)
        have HMS := Lib.hid hms
        have HCB := Lib.hid hcb
        unfold stepsV
        rw [← hms, ← hcb]
        generalize ssL lv = sl at LSS ⊢
        generalize asL lv = al at LAS ⊢
        clear hms hcb
        go_wp2_with (first | (refine wv_zeroF rfl rfl ?_) | (first | ((first | refine wv_box rfl _ _ rfl rfl HM ?_ | refine wv_alloc rfl _ rfl (by exact rowOf) HM ?_); first | (have q:dV HM = 0:=rfl;clear q HM;intro g1 u1 HG1 HM) | (have q:dV HM = 1:=rfl;clear q HM;intro g2 u2 HG2 HM) | (have q:dV HM = 2:=rfl;clear q HM;intro g3 u3 HG3 HM) | (have q:dV HM = 3:=rfl;clear q HM;intro g4 u4 HG4 HM) | (have q:dV HM = 4:=rfl;clear q HM;intro g5 u5 HG5 HM) | (have q:dV HM = 5:=rfl;clear q HM;intro g6 u6 HG6 HM) | (have q:dV HM = 6:=rfl;clear q HM;intro g7 u7 HG7 HM) | (have q:dV HM = 7:=rfl;clear q HM;intro g8 u8 HG8 HM)) | (refine wv_load rfl _ _ rfl rfl (by exact rowOf) HM (by exact vmemOf) (by exact vsizOf) ?_) | (refine wv_store rfl _ _ _ rfl rfl rfl (by exact rowOf) HM (by exact vidxOf) (by exact vsizOf) (by exact vsizOf) (by exact voneOf) ?_; clear HM; intro us HM; dsimp only [List.set] at HM) | (refine wl_zero rfl _ rfl (by exact arrOf) (by kernel_rfl) ?_)) | (refine wv_elem rfl _ rfl rfl HM (by exact vmemOf) (by exact velOf) ?_) | (refine wv_put rfl _ _ rfl rfl rfl HM (by exact vidxOf) (by exact vltOf) ?_; clear HM; intro us HM; dsimp only [List.set] at HM) | (refine wv_loadS rfl _ _ rfl rfl (by exact arrOf) HM (by exact vmemOf) (by exact vsubF) (by exact lenOf) ?_))
        have HA7 := Lib.hid (show Apt A4 n4 [g7, g6, g5, g4, g3, g2, g1] from Apt.cons (Apt.cons (Apt.cons HA4.out (rd_lt HR5.out) HG5.out) (rd_lt HR5.out) HG6.out) (rd_lt HR5.out) HG7.out)
        have HZ0 := Lib.hid (show GuM w g1 g2 g3 g4 l p N kd lv ms 0 us from by
          refine ⟨D, A4, n4, c4, zr 16, ?_, HM.out.rdA HR5.out HA7.out, HA4.out, HGU.out.more (numT ms 16) (hdT_length kd).symm, zr_length 16, fun j hj => by rw [zr_getD]; rfl⟩
          have h := HM.out.sub (L' := [(g4, 68, dcC D A4 n4 c4 (N : Int)), (g3, 26, icells F), (g2, 26, icells (zr 23)), (g1, 23, icells p)]) (.cons _ (.cons _ (.cons _ (List.Sublist.refl _))))
          rw [HFF.out] at h
          exact h)
        have HAL2 := HAL
        clear HM HR5 HA7 HGU HC0 LF HFF HAL HA4 LSS LAS F
        go_loopw [19, 20, 21, 22, 23, 98] (fun _ _ _ _ _ vi wr2 => ∃ k : Nat, vi = .int .i64 (k : Int) ∧ k ≤ 16 ∧ Hid (GuM w g1 g2 g3 g4 l p N kd lv ms k wr2)) (fun _ _ _ _ _ vi _ => 16 - (intOf vi).toNat)
        case atStart => exact ⟨0, rfl, by omega, HZ0⟩
        case round =>
          clear HZ0
          obtain ⟨k, rfl, hk16, HZ⟩ := hrel
          by_cases hlt2 : k < 16
          · obtain ⟨D, A4, n4, c4, q, hm, hr4, ha4, hgd, hql, hq⟩ := HZ.out.st
            have HM := Lib.hid hm
            have HR4 := Lib.hid hr4
            have HA4 := Lib.hid ha4
            have HGU := Lib.hid hgd
            have HQL := Lib.hid hql
            have HQ := Lib.hid hq
            have hnear := hgd.near
            have hfar := hgd.far
            have HFD := Lib.hid hgd.fine
            have k16 : (k : Int) < 16 := by omega
            have hix := run_index 24 (n := 16) (by kernel_rfl) ms LMS.out k hlt2
            have hmb := msL_bd lv hlt2
            rw [← HMS.out] at hmb
            clear hm hr4 ha4 hgd hql hq
            by_cases hpos : 0 < ms.getD k 0
            · have hcb : cb = true := by
                rw [HCB.out]
                cases hc : chkL lv with
                | true => rfl
                | false =>
                  rw [HMS.out] at hpos
                  unfold msL at hpos
                  rw [hc, if_neg Bool.false_ne_true, zr_getD] at hpos
                  omega
              subst hcb
              obtain ⟨z, hz7, hzm⟩ := ms_at2 HCB.out.symm hlt2 HMS.out.symm
              rcases hzm with hzm | ⟨hzp, hzm⟩
              · omega
              have HNT := Lib.hid (numT_get (hdT_length kd) ms hlt2 hpos)
              have HPL := Lib.hid (show plc ms (k + 1) = plc ms k + 1 by rw [Yr.plc_succ, if_pos hpos])
              have hM127 := mostN_bd z (by omega)
              have HOKM := Lib.hid (show okN (smI (mostN z)) = true from Yr.smN_ok (by omega))
              have HOKA := Lib.hid (okF_acc HOKM.out)
              rw [hzm] at hix
              rw [hzm, Int.toNat_natCast, show smT (mostN z) = acc (smI (mostN z)) from rfl] at HNT
              have HMK := Lib.hid hzm
              have hpos2 : 0 < (mostN z : Int) := by rw [← hzm]; exact hpos
              generalize mostN z = M at hix HNT HMK hM127 HOKM HOKA hpos2
              have a2 : ((M : Int) == 0) = false := by simp; omega
              clear hzm hzp hz7 hpos hmb
              obtain ⟨F, hF⟩ : ∃ F, F = frL kd lv q := ⟨_, rfl⟩
              rw [← hF] at HM
              have HFF := Lib.hid hF
              have LF := Lib.hid (show F.length = 23 by rw [hF]; exact frL_len HLL.out HQL.out)
              clear hF HZ
              go_upto_region 32 with fail
              go_cut [21, 22, 23] from 108 to 115 (fun v21 v22 v23 wx => ∃ g5 D6 A6 n6 c6 N6 sV eV, v21 = .pointer (some ⟨g5, 0, none⟩) ∧ v22 = .int .i64 sV ∧ v23 = .int .i64 eV ∧ Hid (MV w wx [(g5, 68, dcC D6 A6 n6 c6 N6), (g4, 68, dcC D A4 n4 c4 (N : Int)), (g3, 26, icells F), (g2, 26, icells (zr 23)), (g1, 23, icells p)] wx ∧ NxD [g5, g4, g3, g2, g1] D N l (acc (smI M)) D6 A6 n6 N6 sV eV wx))
              case first =>
                refine wp_region_held_drew (S := fun u => Blk u g4 68 (dcC D A4 n4 c4 (N : Int))) (by kernel_rfl) (HM.out.drew.get (by exact vmemOf)) (fun hHeld => ?_)
                have HMd := Lib.hid HM.out.drew.base
                have HR5 := Lib.hid (show Rd (World.drew _) A4 n4 (pack l) from HR4.out)
                have HAa := HA4
                clear HM HR4 HA4
                have HM := HMd
                clear HMd
                generalize World.drew _ = wd at HM HR5 hHeld ⊢
                (refine wa_take (i := 0) rfl (by kernel_rfl) (by kernel_rfl) (by kernel_rfl) (fun _ _ _ h => h) (yv_load rfl _ _ rfl rfl (fun u hu => run_load_blk rowDec hu rfl)) hHeld rfl ?_; (try simp only [Act.put, qz1, qz2, qz3]))
                (refine wa_take (i := 1) (v := .int .i64 (M : Int)) rfl (by kernel_rfl) (by kernel_rfl) (by kernel_rfl) (fun _ _ _ h => h) (yi_free rfl (fun u => rfl)) hHeld rfl ?_; (try simp only [Act.put, qz1, qz2, qz3]))
                refine wpAnyH_ready (rs := [2, 8]) (by kernel_rfl) (by simp) ?_; refine AllReadyH.cons rfl (fun K hK => ?_) (AllReadyH.cons rfl (fun K hK => ?_) (AllReadyH.nil))
                · rw [if_pos (by rfl)]; go_simp
                  refine (rsmalls_any M _ hM127 HOKM.out).mono ?_
                  rintro e w3 ⟨ad, m, cc, rfl, hg, hx, hb⟩
                  have HAX := Lib.hid (show Apt (some ad) m [g4, g3, g2, g1] from Apt.old HM.out fun a e _ => by injection e with e; subst e; exact hg)
                  have HX := Lib.hid hx
                  have HRs := Lib.hid ((HM.out.rdA HR5.out HAa.out).below hb)
                  have HM3 := Lib.hid (HM.out.below hb).base
                  clear HM hg hx hb hHeld HR5
                  have HM := HM3
                  have HR5 := HRs
                  clear HM3 HRs
                  go_wp2_with fail
                  refine hK.out _ _ (HM.out.get (by exact vmemOf)) (fun hHeld => ?_)
                  clear hK K
                  (try simp only [Act.put, qz1, qz2, qz3])
                  refine wpAnyH_ready (rs := [3, 8]) (by kernel_rfl) (by simp) ?_; refine AllReadyH.cons rfl (fun K hK => ?_) (AllReadyH.cons rfl (fun K hK => ?_) (AllReadyH.nil))
                  · have HRn := Lib.hid (HM.out.rdA HR5.out HAa.out)
                    have HXn := Lib.hid (HM.out.rdI HX.out HAX.out)
                    rw [if_pos (by rfl)]; go_simp
                    refine (rnext_dc D A4 n4 c4 N l (some ad) m cc (acc (smI M)) _ HRn HNL (by omega) HFD hnear hfar HXn (Lib.hid (by have := HXn.out.1; rw [acc_length, smI_length] at this; unfold maxLen; omega)) HOKA).mono ?_
                    intro e w6 hnx
                    obtain ⟨D6, A6, n6, c6, N6, sV, eV, rfl, hb, hcase⟩ := nx_case hnx
                    have HND := Lib.hid (hcase.old HM.out)
                    have HM3 := Lib.hid (HM.out.below hb).base
                    clear HM hnx hb hcase hHeld HR5 HX HRn HXn HAX
                    have HM := HM3
                    clear HM3
                    go_wp2_with fail
                    refine hK.out _ _ (HM.out.get (by exact vmemOf)) (fun hHeld => ?_)
                    clear hK K
                    (try simp only [Act.put, qz1, qz2, qz3])
                    (refine wa_take (i := 4) (v := .tuple #[.agg (dcC D6 A6 n6 c6 N6), .int .i64 sV, .int .i64 eV]) rfl (by kernel_rfl) (by kernel_rfl) (by kernel_rfl) (fun _ _ _ h => h) (yi_free rfl (fun u => rfl)) hHeld rfl ?_; (try simp only [Act.put, qz1, qz2, qz3]))
                    (refine wa_take (i := 5) (v := .agg (dcC D6 A6 n6 c6 N6)) rfl (by kernel_rfl) (by kernel_rfl) (by kernel_rfl) (fun _ _ _ h => h) (yi_free rfl (fun u => rfl)) hHeld rfl ?_; (try simp only [Act.put, qz1, qz2, qz3]))
                    (refine wa_take (i := 6) (v := .int .i64 sV) rfl (by kernel_rfl) (by kernel_rfl) (by kernel_rfl) (fun _ _ _ h => h) (yi_free rfl (fun u => rfl)) hHeld rfl ?_; (try simp only [Act.put, qz1, qz2, qz3]))
                    (refine wa_take (i := 7) (v := .int .i64 eV) rfl (by kernel_rfl) (by kernel_rfl) (by kernel_rfl) (fun _ _ _ h => h) (yi_free rfl (fun u => rfl)) hHeld rfl ?_; (try simp only [Act.put, qz1, qz2, qz3]))
                    refine wpAnyH_ready (rs := [8]) (by kernel_rfl) (by simp) ?_; refine AllReadyH.cons rfl (fun K hK => ?_) (AllReadyH.nil)
                    rw [if_pos (by rfl)]
                    refine ov_alloc _ rfl rfl (by exact rowOf) HM ?_
                    intro g5 w5 HM5 HW5 HG5
                    have HND5 := Lib.hid (NxD.cons HND.out HG5.out)
                    clear HND
                    clear HM hHeld
                    have HM := HM5
                    clear HM5 HW5
                    refine hK.out _ _ (HM.out.get (by exact vmemOf)) (fun hHeld => ?_)
                    clear hK K
                    (try simp only [Act.put, qz1, qz2, qz3])
                    refine wpAnyH_ready (rs := [9]) (by kernel_rfl) (by simp) ?_; refine AllReadyH.cons rfl (fun K hK => ?_) (AllReadyH.nil)
                    rw [if_pos (by rfl)]; refine ov_store _ _ _ rfl rfl rfl (by exact rowOf) HM (by exact vidxOf) (by exact vsizOf) (by exact vsizOf) (by exact voneOf) rfl ?_; clear HM; intro us HM; dsimp only [List.set] at HM
                    refine hK.out _ _ (HM.out.get (by exact vmemOf)) (fun hHeld => ?_)
                    clear hK K
                    (try simp only [Act.put, qz1, qz2, qz3])
                    (refine wa_take (i := 10) (v := .int .i64 sV) rfl (by kernel_rfl) (by kernel_rfl) (by kernel_rfl) (fun _ _ _ h => h) (yi_free rfl (fun u => rfl)) hHeld rfl ?_; (try simp only [Act.put, qz1, qz2, qz3]))
                    (refine wa_take (i := 11) (v := .int .i64 eV) rfl (by kernel_rfl) (by kernel_rfl) (by kernel_rfl) (fun _ _ _ h => h) (yi_free rfl (fun u => rfl)) hHeld rfl ?_; (try simp only [Act.put, qz1, qz2, qz3]))
                    refine wpAnyH_done (by kernel_rfl) ?_ _
                    go_wp2_with fail
                    go_meet
                    exact ⟨g5, D6, A6, n6, c6, N6, sV, eV, rfl, rfl, rfl, Lib.hid ⟨HM.out.base, NxD.later (L0 := [(g5, 68, dcC D6 A6 n6 c6 N6), (g4, 68, dcC D A4 n4 c4 (N : Int)), (g3, 26, icells F), (g2, 26, icells (zr 23)), (g1, 23, icells p)]) HND5.out HM.out⟩⟩
                  · rw [if_pos (by rfl)]
                    refine ov_alloc _ rfl rfl (by exact rowOf) HM ?_
                    intro g5 w5 HM5 HW5 HG5
                    have HAa' := Lib.hid (show Apt A4 n4 [g5, g4, g3, g2, g1] from Apt.cons HAa.out (fun ad e hn => Nat.lt_of_lt_of_le (rd_lt (HM.out.rdA HR5.out HAa.out) ad e hn) (Nat.le_refl _)) HG5.out)
                    clear HAa
                    have HAa := HAa'
                    clear HAa'
                    have HAX' := Lib.hid (show Apt (some ad) m [g5, g4, g3, g2, g1] from Apt.cons HAX.out (rdI_lt (HM.out.rdI HX.out HAX.out)) HG5.out)
                    clear HAX
                    have HAX := HAX'
                    clear HAX'
                    clear HM hHeld
                    have HM := HM5
                    clear HM5 HW5
                    refine hK.out _ _ (HM.out.get (by exact vmemOf)) (fun hHeld => ?_)
                    clear hK K
                    (try simp only [Act.put, qz1, qz2, qz3])
                    refine wpAnyH_ready (rs := [3]) (by kernel_rfl) (by simp) ?_; refine AllReadyH.cons rfl (fun K hK => ?_) (AllReadyH.nil)
                    have HRn := Lib.hid (HM.out.rdA HR5.out HAa.out)
                    have HXn := Lib.hid (HM.out.rdI HX.out HAX.out)
                    rw [if_pos (by rfl)]; go_simp
                    refine (rnext_dc D A4 n4 c4 N l (some ad) m cc (acc (smI M)) _ HRn HNL (by omega) HFD hnear hfar HXn (Lib.hid (by have := HXn.out.1; rw [acc_length, smI_length] at this; unfold maxLen; omega)) HOKA).mono ?_
                    intro e w6 hnx
                    obtain ⟨D6, A6, n6, c6, N6, sV, eV, rfl, hb, hcase⟩ := nx_case hnx
                    have HND := Lib.hid (hcase.old HM.out)
                    have HM3 := Lib.hid (HM.out.below hb).base
                    clear HM hnx hb hcase hHeld HR5 HX HRn HXn HAX
                    have HM := HM3
                    clear HM3
                    go_wp2_with fail
                    refine hK.out _ _ (HM.out.get (by exact vmemOf)) (fun hHeld => ?_)
                    clear hK K
                    (try simp only [Act.put, qz1, qz2, qz3])
                    (refine wa_take (i := 4) (v := .tuple #[.agg (dcC D6 A6 n6 c6 N6), .int .i64 sV, .int .i64 eV]) rfl (by kernel_rfl) (by kernel_rfl) (by kernel_rfl) (fun _ _ _ h => h) (yi_free rfl (fun u => rfl)) hHeld rfl ?_; (try simp only [Act.put, qz1, qz2, qz3]))
                    (refine wa_take (i := 5) (v := .agg (dcC D6 A6 n6 c6 N6)) rfl (by kernel_rfl) (by kernel_rfl) (by kernel_rfl) (fun _ _ _ h => h) (yi_free rfl (fun u => rfl)) hHeld rfl ?_; (try simp only [Act.put, qz1, qz2, qz3]))
                    (refine wa_take (i := 6) (v := .int .i64 sV) rfl (by kernel_rfl) (by kernel_rfl) (by kernel_rfl) (fun _ _ _ h => h) (yi_free rfl (fun u => rfl)) hHeld rfl ?_; (try simp only [Act.put, qz1, qz2, qz3]))
                    (refine wa_take (i := 7) (v := .int .i64 eV) rfl (by kernel_rfl) (by kernel_rfl) (by kernel_rfl) (fun _ _ _ h => h) (yi_free rfl (fun u => rfl)) hHeld rfl ?_; (try simp only [Act.put, qz1, qz2, qz3]))
                    refine wpAnyH_ready (rs := [9]) (by kernel_rfl) (by simp) ?_; refine AllReadyH.cons rfl (fun K hK => ?_) (AllReadyH.nil)
                    rw [if_pos (by rfl)]; refine ov_store _ _ _ rfl rfl rfl (by exact rowOf) HM (by exact vidxOf) (by exact vsizOf) (by exact vsizOf) (by exact voneOf) rfl ?_; clear HM; intro us HM; dsimp only [List.set] at HM
                    refine hK.out _ _ (HM.out.get (by exact vmemOf)) (fun hHeld => ?_)
                    clear hK K
                    (try simp only [Act.put, qz1, qz2, qz3])
                    (refine wa_take (i := 10) (v := .int .i64 sV) rfl (by kernel_rfl) (by kernel_rfl) (by kernel_rfl) (fun _ _ _ h => h) (yi_free rfl (fun u => rfl)) hHeld rfl ?_; (try simp only [Act.put, qz1, qz2, qz3]))
                    (refine wa_take (i := 11) (v := .int .i64 eV) rfl (by kernel_rfl) (by kernel_rfl) (by kernel_rfl) (fun _ _ _ h => h) (yi_free rfl (fun u => rfl)) hHeld rfl ?_; (try simp only [Act.put, qz1, qz2, qz3]))
                    refine wpAnyH_done (by kernel_rfl) ?_ _
                    go_wp2_with fail
                    go_meet
                    exact ⟨g5, D6, A6, n6, c6, N6, sV, eV, rfl, rfl, rfl, Lib.hid ⟨HM.out.base, NxD.later (L0 := [(g5, 68, dcC D6 A6 n6 c6 N6), (g4, 68, dcC D A4 n4 c4 (N : Int)), (g3, 26, icells F), (g2, 26, icells (zr 23)), (g1, 23, icells p)]) HND.out HM.out⟩⟩
                · rw [if_pos (by rfl)]
                  refine ov_alloc _ rfl rfl (by exact rowOf) HM ?_
                  intro g5 w5 HM5 HW5 HG5
                  have HAa' := Lib.hid (show Apt A4 n4 [g5, g4, g3, g2, g1] from Apt.cons HAa.out (fun ad e hn => Nat.lt_of_lt_of_le (rd_lt (HM.out.rdA HR5.out HAa.out) ad e hn) (Nat.le_refl _)) HG5.out)
                  clear HAa
                  have HAa := HAa'
                  clear HAa'
                  clear HM hHeld
                  have HM := HM5
                  clear HM5 HW5
                  refine hK.out _ _ (HM.out.get (by exact vmemOf)) (fun hHeld => ?_)
                  clear hK K
                  (try simp only [Act.put, qz1, qz2, qz3])
                  refine wpAnyH_ready (rs := [2]) (by kernel_rfl) (by simp) ?_; refine AllReadyH.cons rfl (fun K hK => ?_) (AllReadyH.nil)
                  rw [if_pos (by rfl)]; go_simp
                  refine (rsmalls_any M _ hM127 HOKM.out).mono ?_
                  rintro e w3 ⟨ad, m, cc, rfl, hg, hx, hb⟩
                  have HAX := Lib.hid (show Apt (some ad) m [g5, g4, g3, g2, g1] from Apt.old HM.out fun a e _ => by injection e with e; subst e; exact hg)
                  have HX := Lib.hid hx
                  have HRs := Lib.hid ((HM.out.rdA HR5.out HAa.out).below hb)
                  have HM3 := Lib.hid (HM.out.below hb).base
                  clear HM hg hx hb hHeld HR5
                  have HM := HM3
                  have HR5 := HRs
                  clear HM3 HRs
                  go_wp2_with fail
                  refine hK.out _ _ (HM.out.get (by exact vmemOf)) (fun hHeld => ?_)
                  clear hK K
                  (try simp only [Act.put, qz1, qz2, qz3])
                  refine wpAnyH_ready (rs := [3]) (by kernel_rfl) (by simp) ?_; refine AllReadyH.cons rfl (fun K hK => ?_) (AllReadyH.nil)
                  have HRn := Lib.hid (HM.out.rdA HR5.out HAa.out)
                  have HXn := Lib.hid (HM.out.rdI HX.out HAX.out)
                  rw [if_pos (by rfl)]; go_simp
                  refine (rnext_dc D A4 n4 c4 N l (some ad) m cc (acc (smI M)) _ HRn HNL (by omega) HFD hnear hfar HXn (Lib.hid (by have := HXn.out.1; rw [acc_length, smI_length] at this; unfold maxLen; omega)) HOKA).mono ?_
                  intro e w6 hnx
                  obtain ⟨D6, A6, n6, c6, N6, sV, eV, rfl, hb, hcase⟩ := nx_case hnx
                  have HND := Lib.hid (hcase.old HM.out)
                  have HM3 := Lib.hid (HM.out.below hb).base
                  clear HM hnx hb hcase hHeld HR5 HX HRn HXn HAX
                  have HM := HM3
                  clear HM3
                  go_wp2_with fail
                  refine hK.out _ _ (HM.out.get (by exact vmemOf)) (fun hHeld => ?_)
                  clear hK K
                  (try simp only [Act.put, qz1, qz2, qz3])
                  (refine wa_take (i := 4) (v := .tuple #[.agg (dcC D6 A6 n6 c6 N6), .int .i64 sV, .int .i64 eV]) rfl (by kernel_rfl) (by kernel_rfl) (by kernel_rfl) (fun _ _ _ h => h) (yi_free rfl (fun u => rfl)) hHeld rfl ?_; (try simp only [Act.put, qz1, qz2, qz3]))
                  (refine wa_take (i := 5) (v := .agg (dcC D6 A6 n6 c6 N6)) rfl (by kernel_rfl) (by kernel_rfl) (by kernel_rfl) (fun _ _ _ h => h) (yi_free rfl (fun u => rfl)) hHeld rfl ?_; (try simp only [Act.put, qz1, qz2, qz3]))
                  (refine wa_take (i := 6) (v := .int .i64 sV) rfl (by kernel_rfl) (by kernel_rfl) (by kernel_rfl) (fun _ _ _ h => h) (yi_free rfl (fun u => rfl)) hHeld rfl ?_; (try simp only [Act.put, qz1, qz2, qz3]))
                  (refine wa_take (i := 7) (v := .int .i64 eV) rfl (by kernel_rfl) (by kernel_rfl) (by kernel_rfl) (fun _ _ _ h => h) (yi_free rfl (fun u => rfl)) hHeld rfl ?_; (try simp only [Act.put, qz1, qz2, qz3]))
                  refine wpAnyH_ready (rs := [9]) (by kernel_rfl) (by simp) ?_; refine AllReadyH.cons rfl (fun K hK => ?_) (AllReadyH.nil)
                  rw [if_pos (by rfl)]; refine ov_store _ _ _ rfl rfl rfl (by exact rowOf) HM (by exact vidxOf) (by exact vsizOf) (by exact vsizOf) (by exact voneOf) rfl ?_; clear HM; intro us HM; dsimp only [List.set] at HM
                  refine hK.out _ _ (HM.out.get (by exact vmemOf)) (fun hHeld => ?_)
                  clear hK K
                  (try simp only [Act.put, qz1, qz2, qz3])
                  (refine wa_take (i := 10) (v := .int .i64 sV) rfl (by kernel_rfl) (by kernel_rfl) (by kernel_rfl) (fun _ _ _ h => h) (yi_free rfl (fun u => rfl)) hHeld rfl ?_; (try simp only [Act.put, qz1, qz2, qz3]))
                  (refine wa_take (i := 11) (v := .int .i64 eV) rfl (by kernel_rfl) (by kernel_rfl) (by kernel_rfl) (fun _ _ _ h => h) (yi_free rfl (fun u => rfl)) hHeld rfl ?_; (try simp only [Act.put, qz1, qz2, qz3]))
                  refine wpAnyH_done (by kernel_rfl) ?_ _
                  go_wp2_with fail
                  go_meet
                  exact ⟨g5, D6, A6, n6, c6, N6, sV, eV, rfl, rfl, rfl, Lib.hid ⟨HM.out.base, NxD.later (L0 := [(g5, 68, dcC D6 A6 n6 c6 N6), (g4, 68, dcC D A4 n4 c4 (N : Int)), (g3, 26, icells F), (g2, 26, icells (zr 23)), (g1, 23, icells p)]) HND.out HM.out⟩⟩
              obtain ⟨g5, D6, A6, n6, c6, N6, sV, eV, rfl, rfl, rfl, HQ5⟩ := hcut
              have hm5 := HQ5.out.1
              have hn5 := HQ5.out.2
              clear HM HR4 HQ5
              have HM := Lib.hid hm5
              clear hm5
              rcases hn5 with ⟨hok, rfl, rfl, rfl, rfl, hr6, ha6⟩ | ⟨hno, rfl⟩
              · have HR6 := Lib.hid hr6
                have HA6 := Lib.hid ha6
                have HGU2 := Lib.hid (HGU.out.step HNT.out HOKA.out HNL.out hok)
                have HSY := Lib.hid (show (symL l (d0 l) (hdT kd ++ numT ms 16)).getD (7 + plc ms k) 0 = (nxK (stD l (d0 l) ((hdT kd ++ numT ms 16).take (7 + plc ms k))) (acc (smI M)) : Int) from sym_at l HNT.out)
                rw [← HGU.out.is] at HSY
                have hsb := nxK_lt HFD.out HOKA.out
                rw [acc_length, smI_length] at hsb
                obtain ⟨sy, hsy⟩ : ∃ sy : Int, sy = (nxK D (acc (smI M)) : Int) := ⟨_, rfl⟩
                have hs0 : 0 ≤ sy := by omega
                have hs1 : sy ≤ 300 := by omega
                rw [← hsy] at HSY ⊢
                generalize nxE l D (acc (smI M)) = D6 at HM HGU2
                have HS1 := Lib.hid (show 7 + k < F.length by rw [LF.out]; omega)
                have w1 : IntKind.i64.wrap (sy - (M : Int)) = sy - (M : Int) := i64_w (by omega) (by omega)
                clear hsy hsb hr6 ha6
                go_wp2_with (first | (refine wv_zeroF rfl rfl ?_) | (first | ((first | refine wv_box rfl _ _ rfl rfl HM ?_ | refine wv_alloc rfl _ rfl (by exact rowOf) HM ?_); first | (have q:dV HM = 0:=rfl;clear q HM;intro g1 u1 HG1 HM) | (have q:dV HM = 1:=rfl;clear q HM;intro g2 u2 HG2 HM) | (have q:dV HM = 2:=rfl;clear q HM;intro g3 u3 HG3 HM) | (have q:dV HM = 3:=rfl;clear q HM;intro g4 u4 HG4 HM) | (have q:dV HM = 4:=rfl;clear q HM;intro g5 u5 HG5 HM) | (have q:dV HM = 5:=rfl;clear q HM;intro g6 u6 HG6 HM) | (have q:dV HM = 6:=rfl;clear q HM;intro g7 u7 HG7 HM) | (have q:dV HM = 7:=rfl;clear q HM;intro g8 u8 HG8 HM)) | (refine wv_load rfl _ _ rfl rfl (by exact rowOf) HM (by exact vmemOf) (by exact vsizOf) ?_) | (refine wv_store rfl _ _ _ rfl rfl rfl (by exact rowOf) HM (by exact vidxOf) (by exact vsizOf) (by exact vsizOf) (by exact voneOf) ?_; clear HM; intro us HM; dsimp only [List.set] at HM) | (refine wl_zero rfl _ rfl (by exact arrOf) (by kernel_rfl) ?_)) | (refine wv_elem rfl _ rfl rfl HM (by exact vmemOf) (by exact velOf) ?_) | (refine wv_put rfl _ _ rfl rfl rfl HM (by exact vidxOf) (by exact vltOf) ?_; clear HM; intro us HM; dsimp only [List.set] at HM) | (refine wv_loadS rfl _ _ rfl rfl (by exact arrOf) HM (by exact vmemOf) (by exact vsubF) (by exact lenOf) ?_))
                go_roundw
                case rel =>
                  refine ⟨k + 1, by go_num, by omega, Lib.hid ⟨D6, A6, n6, c6, q.set k (sy - (M : Int)), ?_, HM.out.rdA HR6.out HA6.out, HA6.out.sub (.cons _ (List.Sublist.refl _)), by rw [HPL.out]; exact HGU2.out, by rw [List.length_set]; exact HQL.out, fun j hj => ?_⟩⟩
                  · have h := HM.out.sub (L' := [(g4, 68, dcC D6 A6 n6 c6 (N : Int)), (g3, 26, icells (F.set (7 + k) (sy - (M : Int)))), (g2, 26, icells (zr 23)), (g1, 23, icells p)]) (.cons _ (List.Sublist.refl _))
                    rw [HFF.out, frL_num _ _ _ _ HLL.out] at h
                    exact h
                  · rw [getD_setG _ _ _ (by rw [HQL.out]; exact hlt2)]
                    by_cases hjk : k = j
                    · subst hjk
                      rw [if_pos rfl, if_pos (by omega)]
                      unfold nmF
                      rw [HMK.out, if_pos hpos2, HSY.out]
                    · rw [if_neg hjk, HQ.out j hj]
                      by_cases h1 : j < k
                      · rw [if_pos h1, if_pos (by omega)]
                      · rw [if_neg h1, if_neg (by omega)]
                case measure => simp [intOf]; omega
              · have HGN := Lib.hid (show gsB bs p = none by
                  rw [HG.out]
                  unfold gsR
                  rw [HK.out, if_pos HAL2.out, if_neg HK2.out, ← HLE.out, ← HMS.out, if_neg (HGU.out.short HNT.out HOKA.out HNL.out hno)])
                go_wp2_with (first | (refine wv_zeroF rfl rfl ?_) | (first | ((first | refine wv_box rfl _ _ rfl rfl HM ?_ | refine wv_alloc rfl _ rfl (by exact rowOf) HM ?_); first | (have q:dV HM = 0:=rfl;clear q HM;intro g1 u1 HG1 HM) | (have q:dV HM = 1:=rfl;clear q HM;intro g2 u2 HG2 HM) | (have q:dV HM = 2:=rfl;clear q HM;intro g3 u3 HG3 HM) | (have q:dV HM = 3:=rfl;clear q HM;intro g4 u4 HG4 HM) | (have q:dV HM = 4:=rfl;clear q HM;intro g5 u5 HG5 HM) | (have q:dV HM = 5:=rfl;clear q HM;intro g6 u6 HG6 HM) | (have q:dV HM = 6:=rfl;clear q HM;intro g7 u7 HG7 HM) | (have q:dV HM = 7:=rfl;clear q HM;intro g8 u8 HG8 HM)) | (refine wv_load rfl _ _ rfl rfl (by exact rowOf) HM (by exact vmemOf) (by exact vsizOf) ?_) | (refine wv_store rfl _ _ _ rfl rfl rfl (by exact rowOf) HM (by exact vidxOf) (by exact vsizOf) (by exact vsizOf) (by exact voneOf) ?_; clear HM; intro us HM; dsimp only [List.set] at HM) | (refine wl_zero rfl _ rfl (by exact arrOf) (by kernel_rfl) ?_)) | (refine wv_elem rfl _ rfl rfl HM (by exact vmemOf) (by exact velOf) ?_) | (refine wv_put rfl _ _ rfl rfl rfl HM (by exact vidxOf) (by exact vltOf) ?_; clear HM; intro us HM; dsimp only [List.set] at HM) | (refine wv_loadS rfl _ _ rfl rfl (by exact arrOf) HM (by exact vmemOf) (by exact vsubF) (by exact lenOf) ?_))
                exact bodyPost_ret (v := .tuple #[.agg (icells F), .bool false]) (vres_two rfl _ rfl rfl rowFr HM (by exact vmemOf) (by exact vsizOf)) rfl (.inr ⟨HGN.out, F, LF.out, rfl, HM.out.1⟩)
            · have hz0 : ms.getD k 0 = 0 := by omega
              have HPL := Lib.hid (show plc ms (k + 1) = plc ms k by rw [Yr.plc_succ, if_neg hpos]; rfl)
              have HNM := Lib.hid (show nmF (symL l (d0 l) (hdT kd ++ numT ms 16)) ms k = 0 by unfold nmF; rw [if_neg hpos])
              rw [hz0] at hix
              clear hpos hmb hz0 HZ
              have HREL := Lib.hid (show GuM w g1 g2 g3 g4 l p N kd lv ms (k + 1) wr from ⟨D, A4, n4, c4, q, HM.out, HR4.out, HA4.out, by rw [HPL.out]; exact HGU.out, HQL.out, fun j hj => by
                rw [HQ.out j hj]
                by_cases h1 : j < k
                · rw [if_pos h1, if_pos (by omega)]
                · rw [if_neg h1]
                  by_cases h2 : j = k
                  · rw [if_pos (by omega), h2, HNM.out]
                  · rw [if_neg (by omega)]⟩)
              clear HM HR4 HA4 HGU HQ
              cases cb
              all_goals
                go_wp2_with fail
                go_roundw
                case rel => exact ⟨k + 1, by go_num, by omega, HREL⟩
                case measure => simp [intOf]; omega
          · obtain rfl : k = 16 := by omega
            obtain ⟨D, A4, n4, c4, q, hm, hr4, ha4, hgd, hql, hq⟩ := HZ.out.st
            have hqe : q = tab 16 (nmF (symL l (d0 l) (hdT kd ++ numT ms 16)) ms) := by
              refine getD_ext (by rw [hql, tab_length]) fun j hj => ?_
              rw [hql] at hj
              rw [tab_getD _ hj, hq j hj, if_pos hj]
            have HGS := Lib.hid (show gsB bs p = some (kd, lv, q) by
              rw [HG.out]
              unfold gsR
              rw [HK.out, if_pos HAL2.out, if_neg HK2.out, ← HLE.out, ← HMS.out, if_pos (hgd.all (by rw [List.length_append, hdT_length, Yr.numT_length]; exact Nat.le_refl _)), hqe])
            have HM := Lib.hid hm
            obtain ⟨F, hF⟩ : ∃ F, F = frL kd lv q := ⟨_, rfl⟩
            rw [← hF] at HM
            have HFF := Lib.hid hF
            have LF := Lib.hid (show F.length = 23 by rw [hF]; exact frL_len HLL.out hql)
            clear hm hr4 ha4 hgd hql hq hqe hF HZ
            go_wp2_with (first | (refine wv_zeroF rfl rfl ?_) | (first | ((first | refine wv_box rfl _ _ rfl rfl HM ?_ | refine wv_alloc rfl _ rfl (by exact rowOf) HM ?_); first | (have q:dV HM = 0:=rfl;clear q HM;intro g1 u1 HG1 HM) | (have q:dV HM = 1:=rfl;clear q HM;intro g2 u2 HG2 HM) | (have q:dV HM = 2:=rfl;clear q HM;intro g3 u3 HG3 HM) | (have q:dV HM = 3:=rfl;clear q HM;intro g4 u4 HG4 HM) | (have q:dV HM = 4:=rfl;clear q HM;intro g5 u5 HG5 HM) | (have q:dV HM = 5:=rfl;clear q HM;intro g6 u6 HG6 HM) | (have q:dV HM = 6:=rfl;clear q HM;intro g7 u7 HG7 HM) | (have q:dV HM = 7:=rfl;clear q HM;intro g8 u8 HG8 HM)) | (refine wv_load rfl _ _ rfl rfl (by exact rowOf) HM (by exact vmemOf) (by exact vsizOf) ?_) | (refine wv_store rfl _ _ _ rfl rfl rfl (by exact rowOf) HM (by exact vidxOf) (by exact vsizOf) (by exact vsizOf) (by exact voneOf) ?_; clear HM; intro us HM; dsimp only [List.set] at HM) | (refine wl_zero rfl _ rfl (by exact arrOf) (by kernel_rfl) ?_)) | (refine wv_elem rfl _ rfl rfl HM (by exact vmemOf) (by exact velOf) ?_) | (refine wv_put rfl _ _ rfl rfl rfl HM (by exact vidxOf) (by exact vltOf) ?_; clear HM; intro us HM; dsimp only [List.set] at HM) | (refine wv_loadS rfl _ _ rfl rfl (by exact arrOf) HM (by exact vmemOf) (by exact vsubF) (by exact lenOf) ?_))
            exact bodyPost_ret (v := .tuple #[.agg (icells F), .bool true]) (vres_two rfl _ rfl rfl rowFr HM (by exact vmemOf) (by exact vsizOf)) rfl (.inl ⟨kd, lv, q, HGS.out, by rw [HFF.out], HM.out.1⟩)
theorem rguess_any (A : Option Addr) (n c : Nat) (bs : List Nat) (p : List Int) (w : World) (hr : Hid (Rd w A n bs)) (lp : p.length = 6) (hp : chkL p = true) :
    Calls Tryz.prog 32 #[.slice A n c, .agg (icells p)] w (GsP w bs p) := by
  by_cases h : n ≤ 40
  · exact rguess_near A n c bs p w hr lp hp h
  · exact rguess_far A n c bs p w hr lp (by omega)
end Go.Proofs.YtgpdgegelipboaaGreatDoor.Lp
namespace Go.Proofs.YtgpdgegelipboaaGreatDoor.Cd
open Go.RowKit
def putWhat (q : En) (p : Pr) : Nat × Nat × Int × Int × Int × List Nat := if okP p = true then encWhat (put1 q p) else (0, 0, 0, 0, 1, [])
theorem okE_fine {q : En} (h : Fine q) : okE q.low q.high (q.wait : Int) (pack q.out) ((q.out.length : Nat) : Int) = true ∧ q.low < q.high ∧ q.high < 4294967296 := by
  obtain ⟨⟨a1, a2⟩, a3, a4, a5⟩ := h
  have a6 : q.low < q.high := by
    rcases kind_cases q.low q.high with ⟨h, _⟩ | ⟨h, _⟩ | ⟨h, _⟩ | ⟨h, h1, h2, _⟩ <;> omega
  refine ⟨?_, a6, a2⟩
  unfold okE wideB
  rw [decide_eq_true (show q.low < q.high ∧ q.high < 4294967296 ∧ kind q.low q.high = 3 from ⟨a6, a2, a3⟩), decide_eq_true (show (0 : Int) ≤ (q.wait : Int) by omega), decide_eq_true (show (q.wait : Int) ≤ 65536 by omega), okB_pack q.out a4]
  rfl
theorem rput_any (q : En) (A C : Option Addr) (n c m d : Nat) (xs : List Int) (s : Int) (lo hi : Nat) (wt NN EE : Int) (be : List Nat) (w : World) (hq : Hid (Fine q)) (hI : Hid (IsB w (.agg #[.slice A n c, .int .i64 ((q.out.length : Nat) : Int)]) q.out)) (hx : Hid (Fq.RdI w C m xs)) (hm : Hid (m ≤ maxLen)) (hp : Hid (putWhat q (s, xs) = (lo, hi, wt, NN, EE, be))) :
    Calls Tryz.prog 48 #[.agg #[.int .u32 (q.low : Int), .int .u32 (q.high : Int), .int .i64 (q.wait : Int), .slice A n c, .int .i64 ((q.out.length : Nat) : Int)], .agg #[.slice C m d], .int .i64 s] w (EOut w lo hi wt NN EE be) := by
  obtain ⟨h1, h2, h3⟩ := okE_fine hq.out
  obtain ⟨e1, _, e3, e4⟩ := isB_parts hI.out
  cases hok : okP (s, xs) with
  | false =>
    have := hp.out
    unfold putWhat at this
    rw [hok] at this
    simp only [Prod.mk.injEq, Bool.false_eq_true, if_false] at this
    obtain ⟨rfl, rfl, rfl, rfl, rfl, rfl⟩ := this
    exact rputE_arg q.low q.high (q.wait : Int) A C n c m d _ (pack q.out) xs s w (by omega) h3 (Lib.hid e3) hx hm (Lib.hid (.inr ⟨h1, hok⟩))
  | true =>
    have := hp.out
    unfold putWhat at this
    rw [if_pos hok] at this
    have hsp := symP_of hok
    exact rputE_ok q.low q.high q.wait A C n c m d (spA (s, xs)) (spB (s, xs)) (spT xs) _ (pack q.out) q.out xs s lo hi wt NN EE be w h2 h3 (Lib.hid hq.out.2.1) hq.out.2.2.2 (Lib.hid e3) (by rw [e1, pack_length]; omega) (Lib.hid ⟨rfl, rfl, e4⟩) (Lib.hid h1) hx hm (Lib.hid hsp.1) (Lib.hid hsp.2.1) (Lib.hid hsp.2.2.1) (Lib.hid hsp.2.2.2) (Lib.hid this)
def EOutL (w : World) (lo hi : Nat) (wt N E : Int) (bs : List Nat) (e : Ending) (w' : World) : Prop :=
  ∃ A n c, e = .returned (.tuple #[.agg #[.int .u32 (lo : Int), .int .u32 (hi : Int), .int .i64 wt, .slice A n c, .int .i64 N], .int .i64 E]) ∧ Below w.heap.size w w' ∧ Rd w' A n bs
theorem rput_lit (q : En) (A C : Option Addr) (n c m d : Nat) (xs : List Int) (s : Int) (lo hi : Nat) (wt NN EE : Int) (be : List Nat) (w : World) (hq : Hid (Fine q)) (hI : Hid (IsB w (.agg #[.slice A n c, .int .i64 ((q.out.length : Nat) : Int)]) q.out)) (hx : Hid (Fq.RdI w C m xs)) (hm : Hid (m ≤ maxLen)) (hp : Hid (putWhat q (s, xs) = (lo, hi, wt, NN, EE, be))) :
    Calls Tryz.prog 48 #[.agg #[.int .u32 (q.low : Int), .int .u32 (q.high : Int), .int .i64 (q.wait : Int), .slice A n c, .int .i64 ((q.out.length : Nat) : Int)], .agg #[.slice C m d], .int .i64 s] w (EOutL w lo hi wt NN EE be) :=
  (rput_any q A C n c m d xs s lo hi wt NN EE be w hq hI hx hm hp).mono fun _ _ h => h
theorem putWhat_cases {q : En} {p : Pr} {lo hi : Nat} {wt NN EE : Int} {be : List Nat} (h : putWhat q p = (lo, hi, wt, NN, EE, be)) :
    (okP p = true ∧ putC (put1 q p) = 0 ∧ lo = (put1 q p).low ∧ hi = (put1 q p).high ∧ wt = ((put1 q p).wait : Int) ∧ NN = (((put1 q p).out.length : Nat) : Int) ∧ EE = 0 ∧ be = pack (put1 q p).out) ∨ (okP p = true ∧ putC (put1 q p) = 2 ∧ EE = 2) ∨ (okP p = false ∧ EE = 1) := by
  unfold putWhat at h
  cases hok : okP p with
  | false => rw [hok] at h; simp only [Prod.mk.injEq, Bool.false_eq_true, if_false] at h; exact .inr (.inr ⟨rfl, h.2.2.2.2.1.symm⟩)
  | true =>
    rw [if_pos hok] at h
    unfold encWhat at h
    unfold putC
    split at h
    · rename_i hc
      simp only [Prod.mk.injEq] at h
      obtain ⟨rfl, rfl, rfl, rfl, rfl, rfl⟩ := h
      exact .inl ⟨rfl, if_pos hc, rfl, rfl, rfl, rfl, rfl, rfl⟩
    · rename_i hc
      simp only [Prod.mk.injEq] at h
      exact .inr (.inl ⟨rfl, if_neg hc, h.2.2.2.2.1.symm⟩)
def AllJ (w : World) (ps : List Pr) (e : Ending) (w' : World) : Prop :=
  (¬ allErr e0 ps = 0 ∧ JOut w 0 (allErr e0 ps) [] e w') ∨ (allErr e0 ps = 0 ∧ ∃ N E bs, pWhat (endBits (stE e0 ps)) = (N, E, bs) ∧ JOut w N E bs e w')
structure AjR (w : World) (b4 b6 : Nat) (ps : List Pr) (k : Nat) (u : World) : Prop where
  res : Blk u b4 49 #[.slice none 0 0, .int .i64 0]
  box : ∃ A7 n7 c7, Blk u b6 80 #[.int .u32 ((stE e0 (ps.take k)).low : Int), .int .u32 ((stE e0 (ps.take k)).high : Int), .int .i64 ((stE e0 (ps.take k)).wait : Int), .slice A7 n7 c7, .int .i64 (((stE e0 (ps.take k)).out.length : Nat) : Int)] ∧ IsB u (.agg #[.slice A7 n7 c7, .int .i64 (((stE e0 (ps.take k)).out.length : Nat) : Int)]) (stE e0 (ps.take k)).out
  fine : Fine (stE e0 (ps.take k))
  err : allErr e0 ps = allErr (stE e0 (ps.take k)) (ps.drop k)
  hb : w.heap.size ≤ b4
  lt : b4 < b6
  blw : Below w.heap.size w u
theorem AjR.next {w : World} {b4 b6 k : Nat} {ps : List Pr} {u u' : World} (h : AjR w b4 b6 ps k u) (hb : Below u.heap.size u u') : AjR w b4 b6 ps k u' := by
  obtain ⟨A7, n7, c7, h1, h2⟩ := h.box
  exact ⟨h.res.below hb h.res.lt, ⟨A7, n7, c7, h1.below hb h1.lt, h2.below hb⟩, h.fine, h.err, h.hb, h.lt, h.blw.trans (hb.mono h.blw.size)⟩
theorem AjR.drew {w : World} {b4 b6 k : Nat} {ps : List Pr} {u : World} (h : AjR w b4 b6 ps k u) : AjR w b4 b6 ps k u.drew := ⟨h.res, h.box, h.fine, h.err, h.hb, h.lt, Below.drew h.blw⟩
theorem AjR.lt6 {w : World} {b4 b6 k : Nat} {ps : List Pr} {u : World} (h : AjR w b4 b6 ps k u) : b6 < u.heap.size := by
  obtain ⟨_, _, _, h1, _⟩ := h.box
  exact h1.lt
theorem AjR.put {w : World} {b4 b6 k X : Nat} {ps : List Pr} {u : World} {t : TypeId} {a0 a1 a2 a4 : Int} {v0 : Option Addr} {v1 v2 : Nat} (h : AjR w b4 b6 ps k u) (hX : Blk u X t #[.int .u32 a0, .int .u32 a1, .int .i64 a2, .slice v0 v1 v2, .int .i64 a4]) (hl : b6 < X) (x0 x1 x2 x3 x4 : Value) :
    AjR w b4 b6 ps k (((((u.setCell ⟨X, 0, none⟩ x0).setCell ⟨X, 1, none⟩ x1).setCell ⟨X, 2, none⟩ x2).setCell ⟨X, 3, none⟩ x3).setCell ⟨X, 4, none⟩ x4) := by
  obtain ⟨A7, n7, c7, h1, h2⟩ := h.box
  have hn : ∀ i, b4 ≠ (⟨X, i, none⟩ : Addr).block := fun i => by have := h.lt; show b4 ≠ X; omega
  have hm : ∀ i, b6 ≠ (⟨X, i, none⟩ : Addr).block := fun i => by show b6 ≠ X; omega
  exact ⟨((((h.res.far (hn 0) _).far (hn 1) _).far (hn 2) _).far (hn 3) _).far (hn 4) _, ⟨A7, n7, c7, ((((h1.far (hm 0) _).far (hm 1) _).far (hm 2) _).far (hm 3) _).far (hm 4) _, mk_isB h.fine.2.2.1 c7 (rd_five h2.rd hX _ _ _ _ _)⟩, h.fine, h.err, h.hb, h.lt, below5 h.blw (by have := h.hb; have := h.lt; omega) _ _ _ _ _⟩
theorem AjR.step {w : World} {b4 b6 k : Nat} {ps : List Pr} {u : World} {q : Pr} {A9 : Option Addr} {n9 c9 : Nat} (h : AjR w b4 b6 ps k u) (hd : ps.drop k = q :: ps.drop (k + 1)) (ht : ps.take (k + 1) = ps.take k ++ [q]) (hq : okP q = true) (hc : putC (put1 (stE e0 (ps.take k)) q) = 0) (hr : Rd u A9 n9 (pack (put1 (stE e0 (ps.take k)) q).out)) :
    AjR w b4 b6 ps (k + 1) (((((u.setCell ⟨b6, 0, none⟩ (.int .u32 ((put1 (stE e0 (ps.take k)) q).low : Int))).setCell ⟨b6, 1, none⟩ (.int .u32 ((put1 (stE e0 (ps.take k)) q).high : Int))).setCell ⟨b6, 2, none⟩ (.int .i64 ((put1 (stE e0 (ps.take k)) q).wait : Int))).setCell ⟨b6, 3, none⟩ (.slice A9 n9 c9)).setCell ⟨b6, 4, none⟩ (.int .i64 (((put1 (stE e0 (ps.take k)) q).out.length : Nat) : Int))) := by
  obtain ⟨A7, n7, c7, h1, h2⟩ := h.box
  have hf := h.fine.put hq hc
  have hn : ∀ i, b4 ≠ (⟨b6, i, none⟩ : Addr).block := fun i => by have := h.lt; show b4 ≠ b6; omega
  refine ⟨((((h.res.far (hn 0) _).far (hn 1) _).far (hn 2) _).far (hn 3) _).far (hn 4) _, ?_, ?_, ?_, h.hb, h.lt, below5 h.blw (by have := h.hb; have := h.lt; omega) _ _ _ _ _⟩
  · rw [ht, stE_snoc]
    refine ⟨A9, n9, c9, ((((h1.set_ 0 _).set_ 1 _).set_ 2 _).set_ 3 _).set_ 4 _, mk_isB hf.2.2.1 c9 (rd_five hr h1 _ _ _ _ _)⟩
  · rw [ht, stE_snoc]; exact hf
  · rw [ht, stE_snoc, h.err, hd, allErr_ok hq hc]
set_option maxHeartbeats 8000000 in
theorem rall_walk (A : Option Addr) (n c : Nat) (L : Option Addr) (d : Nat) (ss : List Int) (ts : List Tb) (w : World) (hn : Hid (n ≤ maxLen)) (hs : Hid (Fq.RdI w A n ss)) (ht : Hid (RdT w L n ts)) :
    Calls Tryz.prog 22 #[.slice A n c, .slice L n d] w (AllJ w (prs ss ts)) := by
  obtain ⟨ps, hps⟩ : ∃ ps, ps = prs ss ts := ⟨_, rfl⟩
  rw [← hps]
  have HPS := Lib.hid hps
  clear hps
  have d1 : ((n : Int) != (n : Int)) = false := by simp
  have b1 : n ≤ 9223372036854775807 := by have := hn.out; unfold maxLen at this; omega
  have HK := Lib.hid (Blk.new w 49 #[.slice none 0 0, .int .i64 0])
  have HB := Lib.hid ((Below.refl w.heap.size w).alloc (Nat.le_refl _) (.cells #[.slice none 0 0, .int .i64 0] 49))
  go_enter Tryz.func22, Tryz.ntmps22
  go_wp2_with fail
  generalize w.alloc (.cells #[.slice none 0 0, .int .i64 0] 49) = w1 at HK HB ⊢
  obtain ⟨b4, hb4⟩ : ∃ b4, b4 = w.heap.size := ⟨_, rfl⟩
  have HBR := Lib.hid (show w.heap.size ≤ b4 by omega)
  rw [← hb4] at HK ⊢
  clear hb4
  have hcon := rbegin_any w1
  unfold encV at hcon
  refine hcon.mono ?_
  clear hcon
  rintro e w2 ⟨rfl, hb2⟩
  have HR0 := Lib.hid (show AjR w b4 w2.heap.size ps 0 (w2.alloc (.cells #[.int .u32 0, .int .u32 4294967295, .int .i64 0, .slice none 0 0, .int .i64 0] 80)) from
    ⟨(HK.out.below hb2 HK.out.lt).alloc _, ⟨none, 0, 0, Blk.new w2 _ _, IsB.nil_ _⟩, fine0, rfl, HBR.out, (HK.out.below hb2 HK.out.lt).lt, (HB.out.trans (hb2.mono HB.out.size)).alloc (HB.out.trans (hb2.mono HB.out.size)).size _⟩)
  clear hb2 HK HB
  go_wp2
  generalize w2.alloc (.cells #[.int .u32 0, .int .u32 4294967295, .int .i64 0, .slice none 0 0, .int .i64 0] 80) = w3 at HR0 ⊢
  generalize w2.heap.size = b6 at HR0 ⊢
  go_loopw [20] (fun v wr => ∃ k : Nat, v = .int .i64 (k : Int) ∧ k ≤ n ∧ Hid (AjR w b4 b6 ps k wr)) (fun v _ => n - (intOf v).toNat)
  case atStart => exact ⟨0, rfl, by omega, HR0⟩
  case round =>
    obtain ⟨k, rfl, hk, HZ⟩ := hrel
    clear HR0
    by_cases hlt : k < n
    · obtain ⟨ad, rfl, had, x1⟩ := (hs.out.below HZ.out.blw).at_ hlt
      obtain ⟨ad2, t, rfl, hget, had2, x2, hx, hm⟩ := (ht.out.below HZ.out.blw).at_ hlt
      obtain ⟨g1, g2⟩ := prs_get (ss := ss) (by have := hs.out.1; omega) hget
      rw [← HPS.out] at g1 g2
      obtain ⟨s, hs'⟩ : ∃ s, s = ss.getD k 0 := ⟨_, rfl⟩
      rw [← hs'] at x1 g1 g2
      have HG1 := Lib.hid g1
      have HG2 := Lib.hid g2
      have HX := Lib.hid hx
      have HM := Lib.hid hm
      obtain ⟨C, m, dd, xs⟩ := t
      dsimp only at x2 HX HM HG1 HG2
      clear hs' g1 g2 hget hx hm
      obtain ⟨q, hq⟩ : ∃ q, q = stE e0 (ps.take k) := ⟨_, rfl⟩
      obtain ⟨A7, n7, c7, hB7, hI7⟩ := HZ.out.box
      have HF := Lib.hid HZ.out.fine
      rw [← hq] at hB7 hI7 HF
      have HB7 := Lib.hid hB7
      have HI7 := Lib.hid hI7
      have HQ := Lib.hid hq
      clear hB7 hI7 hq
      obtain ⟨lo, hi, wt, NN, EE, be, hpw⟩ : ∃ lo hi wt NN EE be, putWhat q (s, xs) = (lo, hi, wt, NN, EE, be) := ⟨_, _, _, _, _, _, rfl⟩
      have HPW := Lib.hid hpw
      clear hpw
      go_wp2_with fail
      clear x1 had
      go_cut [9, 10] from 21 to 40 (fun v9 v10 wx => ∃ X A9 n9 c9, v9 = .pointer (some ⟨X, 0, none⟩) ∧ v10 = .int .i64 EE ∧ Hid (AjR w b4 b6 ps k wx ∧ Blk wx X 80 #[.int .u32 (lo : Int), .int .u32 (hi : Int), .int .i64 wt, .slice A9 n9 c9, .int .i64 NN] ∧ Rd wx A9 n9 be ∧ b6 < X))
      case first =>
        obtain ⟨y1, y2, y3, y4, y5⟩ := blk5 HB7.out
        have l6 := HB7.out.lt
        have had3 : (ad2.add k).block < wr.heap.size := by rw [block_of_add]; exact had2
        have x2a : (wr.alloc (.cells #[.int .u32 0, .int .u32 0, .int .i64 0, .slice none 0 0, .int .i64 0] 80)).cell? (ad2.add k) = some (.slice C m dd) := (World.cell?_alloc_lt wr _ _ had3).trans x2
        have x2b : (wr.alloc (.cells #[.int .u32 0, .int .u32 0, .int .i64 0, .slice none 0 0, .int .i64 0] 80)).drew.cell? (ad2.add k) = some (.slice C m dd) := x2a
        have HZA := Lib.hid (HZ.out.next ((Below.refl wr.heap.size wr).alloc (Nat.le_refl _) (.cells #[.int .u32 0, .int .u32 0, .int .i64 0, .slice none 0 0, .int .i64 0] 80))).drew
        have HNZ := Lib.hid (Blk.new wr 80 #[.int .u32 0, .int .u32 0, .int .i64 0, .slice none 0 0, .int .i64 0]).drew
        have HIA := Lib.hid (show IsB (wr.alloc (.cells #[.int .u32 0, .int .u32 0, .int .i64 0, .slice none 0 0, .int .i64 0] 80)).drew (.agg #[.slice A7 n7 c7, .int .i64 ((q.out.length : Nat) : Int)]) q.out from HI7.out.alloc _)
        have HXA := Lib.hid (show Fq.RdI (wr.alloc (.cells #[.int .u32 0, .int .u32 0, .int .i64 0, .slice none 0 0, .int .i64 0] 80)).drew C m xs from HX.out.alloc _)
        go_region_with (first
          | (go_at_call 48; refine (rput_lit q A7 C n7 c7 m dd xs s lo hi wt NN EE be (wr.alloc (.cells #[.int .u32 0, .int .u32 0, .int .i64 0, .slice none 0 0, .int .i64 0] 80)).drew HF HIA HXA HM HPW).mono ?_; rintro e w7 ⟨A9, n9, c9, rfl, hb7, hr7⟩; have HA7 := Lib.hid (HZA.out.next hb7); have HR7 := Lib.hid hr7; have HN7 := Lib.hid (HNZ.out.below hb7 HNZ.out.lt); obtain ⟨f1, f2, f3, f4, f5⟩ := blk5 HN7.out; obtain ⟨z1, z2, z3, z4, z5⟩ := frz5 HN7.out; clear hb7 hr7)
          | (go_at_call 48; refine (rput_lit q A7 C n7 c7 m dd xs s lo hi wt NN EE be wr.drew HF (Lib.hid HI7.out) (Lib.hid HX.out) HM HPW).mono ?_; rintro e w7 ⟨A9, n9, c9, rfl, hb7, hr7⟩; have HA7 := Lib.hid (HZ.out.drew.next hb7); have HR7 := Lib.hid hr7; clear hb7 hr7))
        all_goals
          go_wp2_with fail
          go_meet
          first
          | exact ⟨_, A9, n9, c9, rfl, rfl, Lib.hid ⟨HA7.out.next ((Below.refl w7.heap.size w7).alloc (Nat.le_refl _) _), Blk.new w7 _ _, HR7.out.alloc _, HA7.out.lt6⟩⟩
          | exact ⟨_, A9, n9, c9, rfl, rfl, Lib.hid ⟨HA7.out.put HN7.out HZ.out.lt6 _ _ _ _ _, ((((HN7.out.set_ 0 _).set_ 1 _).set_ 2 _).set_ 3 _).set_ 4 _, rd_five HR7.out HN7.out _ _ _ _ _, HZ.out.lt6⟩⟩
      case rest =>
        obtain ⟨X, A9, n9, c9, rfl, rfl, H⟩ := hcut
        clear x2 HB7 HI7 HX HM
        obtain ⟨y1, y2, y3, y4⟩ := blk2 H.out.1.res
        rcases putWhat_cases HPW.out with ⟨hok, hc, rfl, rfl, rfl, rfl, rfl, rfl⟩ | ⟨hok, hc, rfl⟩ | ⟨hok, rfl⟩
        · have HOK := Lib.hid hok
          have HC := Lib.hid hc
          clear hok hc HPW y1 y2 y3 y4
          obtain ⟨A8, n8, c8, hB8, -⟩ := H.out.1.box
          rw [← HQ.out] at hB8
          obtain ⟨f1, f2, f3, f4, f5⟩ := blk5 H.out.2.1
          obtain ⟨z1, z2, z3, z4, z5⟩ := frz5 hB8
          obtain ⟨t1, t2, t3, t4, t5⟩ := blk5 hB8
          have hX : ¬ X = b6 := by have := H.out.2.2.2; omega
          clear hB8
          go_wp2_with fail
          go_roundw
          case rel =>
            refine ⟨k + 1, by go_num, by omega, Lib.hid ?_⟩
            have hq := HQ.out
            subst hq
            exact H.out.1.step HG1.out HG2.out HOK.out HC.out H.out.2.2.1
          case measure => simp [intOf]; omega
        · have HE := Lib.hid (show allErr e0 ps = 2 by rw [HZ.out.err, HG1.out, ← HQ.out, allErr_long hok hc])
          clear hok hc HPW
          go_wp2_with fail
          exact bodyPost_ret (v := .tuple #[zeroB, .int .i64 2]) (by simp [results, Tryz.results22, go_sem, zeroB, y1, y2]) rfl (.inl ⟨by rw [HE.out]; decide, by rw [HE.out]; exact ⟨none, 0, 0, rfl, (H.out.1.blw.setCell HBR.out _).setCell HBR.out _, Rd.none_⟩⟩)
        · have HE := Lib.hid (show allErr e0 ps = 1 by rw [HZ.out.err, HG1.out, allErr_no hok])
          clear hok HPW
          go_wp2_with fail
          exact bodyPost_ret (v := .tuple #[zeroB, .int .i64 1]) (by simp [results, Tryz.results22, go_sem, zeroB, y1, y2]) rfl (.inl ⟨by rw [HE.out]; decide, by rw [HE.out]; exact ⟨none, 0, 0, rfl, (H.out.1.blw.setCell HBR.out _).setCell HBR.out _, Rd.none_⟩⟩)
    · obtain rfl : k = n := by omega
      have hpl : ps.length = k := by rw [HPS.out]; unfold prs; rw [List.length_zip, List.length_map, hs.out.1, ht.out.1]; omega
      obtain ⟨q, hq⟩ : ∃ q, q = stE e0 ps := ⟨_, rfl⟩
      obtain ⟨A7, n7, c7, hB7, hI7⟩ := HZ.out.box
      have q2 := HZ.out.fine
      have q3 := HZ.out.err
      rw [List.take_of_length_le (by omega), ← hq] at hB7 hI7 q2 q3
      rw [List.drop_of_length_le (by omega)] at q3
      have Q3 := Lib.hid (show allErr e0 ps = 0 from q3)
      have HQ := Lib.hid hq
      have HR := Lib.hid HZ.out.res
      have HBW := Lib.hid HZ.out.blw
      obtain ⟨k1, k2, k3⟩ := okE_fine q2
      obtain ⟨NE, EE, be, hp⟩ : ∃ NE EE be, pWhat (endBits q) = (NE, EE, be) := ⟨_, _, _, rfl⟩
      have HP := Lib.hid hp
      obtain ⟨y1, y2, y3, y4, y5⟩ := blk5 hB7
      have hcon := rend_ok q.low q.high q.wait A7 n7 c7 _ (pack q.out) q.out NE EE be wr (by omega) k3 q2.2.2.2 (Lib.hid hI7.rd) (Lib.hid k1) (Lib.hid hI7) (Lib.hid hp)
      unfold encV at hcon
      have HCON := Lib.hid hcon
      clear q2 q3 hq hpl HZ hB7 hI7 k1 k2 k3 hp hcon
      go_wp2_with fail
      refine HCON.out.mono ?_
      clear HCON
      rintro e w5 ⟨A5, n5, c5, rfl, hb5, hr5⟩
      have HK5 := Lib.hid (HR.out.below hb5 HR.out.lt)
      have HB5 := Lib.hid (HBW.out.trans (hb5.mono HBW.out.size))
      have HR5 := Lib.hid hr5
      clear hb5 hr5 y1 y2 y3 y4 y5
      obtain ⟨y1, y2, y3, y4⟩ := blk2 HK5.out
      go_wp2
      refine bodyPost_ret (v := .tuple #[.agg #[.slice A5 n5 c5, .int .i64 NE], .int .i64 EE]) (by simp [results, Tryz.results22, go_sem, y1, y2]) rfl (.inr ⟨Q3.out, NE, EE, be, ?_, A5, n5, c5, rfl, (HB5.out.setCell HBR.out _).setCell HBR.out _, ?_⟩)
      · rw [← HQ.out]; exact HP.out
      · have h0 := HR5.out.setCell (p := ⟨b4, 0, none⟩) (.slice A5 n5 c5) (fun x => by rw [HK5.out.cell 0]; simp [byteV])
        exact h0.setCell (p := ⟨b4, 1, none⟩) (.int .i64 NE) (fun x => by rw [(HK5.out.set_ 0 (.slice A5 n5 c5)).cell 1]; simp [byteV])
end Go.Proofs.YtgpdgegelipboaaGreatDoor.Cd
namespace Go.Proofs.YtgpdgegelipboaaGreatDoor.Lp
open Go.RowKit Fx Fq Tb
open Cd (Pr Tb RdT tbs prs AllJ allErr e0 stE endBits)
open Yr (Fr chkB chkB_iff symsP fr_bits wrB)
theorem all_frame {w w' : World} {K : Int} {l q p : List Int} {e : Ending} (hfr : Fr K l q p) (h : AllJ w (symsP K l q p) e w') : ∃ A n c N, e = .returned (.tuple #[.agg #[.slice A n c, .int .i64 N], .int .i64 0]) ∧ Rd w' A n (wrB K l q p) ∧ Below w.heap.size w w' := by
  obtain ⟨h1, h2, -⟩ := fr_bits hfr
  rcases h with ⟨h, -⟩ | ⟨-, N, E, bs, hp, A, n, c, rfl, hb, hr⟩
  · exact absurd h1 h
  · unfold pWhat at hp
    rw [if_pos (by omega)] at hp
    simp only [Prod.mk.injEq] at hp
    obtain ⟨-, rfl, rfl⟩ := hp
    exact ⟨A, n, c, N, rfl, hr, hb⟩
set_option maxHeartbeats 8000000 in
theorem rwrite_no (F : List Int) (K : Int) (l q p : List Int) (w : World) (hF : FrS F K l q) (lp : p.length = 6) (h : chkB K l q p = false) :
    Calls Tryz.prog 7 #[.agg (icells F), .agg (icells p)] w fun e w' => e = .returned (.tuple #[.slice none 0 0, .int .i64 1]) ∧ Below w.heap.size w w' := by
  have LF := Lib.hid hF.len
  have LP := Lib.hid lp
  have HM := Lib.hid (Mem.start w)
  have HC := Lib.hid (fun u => rfcheck_any F K l q p u hF lp)
  unfold errC at HC
  rw [h, if_neg Bool.false_ne_true] at HC
  clear hF lp h
  go_enter Tryz.func7, Tryz.ntmps7
  go_wp2_with (first | (first | ((first | refine wl_box rfl _ _ rfl rfl HM ?_ | refine wl_alloc rfl _ rfl (by exact arrOf) HM ?_); first | (have q:dL HM = 0:=rfl;clear q HM;intro g1 u1 HM) | (have q:dL HM = 1:=rfl;clear q HM;intro g2 u2 HM) | (have q:dL HM = 2:=rfl;clear q HM;intro g3 u3 HM) | (have q:dL HM = 3:=rfl;clear q HM;intro g4 u4 HM)) | (refine wl_load rfl _ _ rfl rfl (by exact arrOf) HM (by exact memOf) (by exact lenOf) ?_) | (refine wl_storeM rfl _ _ _ rfl rfl rfl (by exact arrOf) HM (by exact idxOf) (by exact lenOf) (by exact lenOf) ?_; clear HM; intro us HM; dsimp only [List.set] at HM) | (refine wl_zero rfl _ rfl (by exact arrOf) (by kernel_rfl) ?_)) | (refine wl_loadS rfl _ _ rfl rfl (by exact arrOf) HM (by exact memOf) (by exact subF) (by exact lenOf) ?_) | (refine wl_cellF rfl _ rfl rfl HM (by exact memOf) (by exact celF) ?_))
  refine (HC.out _).mono ?_
  rintro e w2 ⟨rfl, h1⟩
  have HM2 := Lib.hid (HM.out.below h1)
  clear h1 HM HC
  have HM := HM2
  clear HM2
  go_wp2
  go_ret2
  exact ⟨rfl, HM.out.1⟩
set_option maxHeartbeats 8000000 in
theorem rwrite_yes (F : List Int) (K : Int) (l q p : List Int) (w : World) (hF : FrS F K l q) (lp : p.length = 6) (h : chkB K l q p = true) :
    Calls Tryz.prog 7 #[.agg (icells F), .agg (icells p)] w fun e w' => ∃ A n c, e = .returned (.tuple #[.slice A n c, .int .i64 0]) ∧ Rd w' A n (wrB K l q p) ∧ Below w.heap.size w w' := by
  have LF := Lib.hid hF.len
  have LP := Lib.hid lp
  have HM := Lib.hid (Mem.start w)
  have HC := Lib.hid (fun u => rfcheck_any F K l q p u hF lp)
  unfold errC at HC
  rw [h, if_pos rfl] at HC
  have HFR := Lib.hid ((chkB_iff K l q p).1 h)
  have HS := Lib.hid (fun u => rsyms_any F K l q p u hF lp HFR.out)
  obtain ⟨ps, hps⟩ : ∃ ps, ps = symsP K l q p := ⟨_, rfl⟩
  have HPS := Lib.hid hps
  have HLN := Lib.hid (show ps.length ≤ 40 from by rw [hps]; exact syms_len K l q p)
  rw [← hps] at HS
  clear hF lp h hps
  go_enter Tryz.func7, Tryz.ntmps7
  go_wp2_with (first | (first | ((first | refine wl_box rfl _ _ rfl rfl HM ?_ | refine wl_alloc rfl _ rfl (by exact arrOf) HM ?_); first | (have q:dL HM = 0:=rfl;clear q HM;intro g1 u1 HM) | (have q:dL HM = 1:=rfl;clear q HM;intro g2 u2 HM) | (have q:dL HM = 2:=rfl;clear q HM;intro g3 u3 HM) | (have q:dL HM = 3:=rfl;clear q HM;intro g4 u4 HM)) | (refine wl_load rfl _ _ rfl rfl (by exact arrOf) HM (by exact memOf) (by exact lenOf) ?_) | (refine wl_storeM rfl _ _ _ rfl rfl rfl (by exact arrOf) HM (by exact idxOf) (by exact lenOf) (by exact lenOf) ?_; clear HM; intro us HM; dsimp only [List.set] at HM) | (refine wl_zero rfl _ rfl (by exact arrOf) (by kernel_rfl) ?_)) | (refine wl_loadS rfl _ _ rfl rfl (by exact arrOf) HM (by exact memOf) (by exact subF) (by exact lenOf) ?_) | (refine wl_cellF rfl _ rfl rfl HM (by exact memOf) (by exact celF) ?_))
  refine (HC.out _).mono ?_
  rintro e w2 ⟨rfl, h1⟩
  have HM2 := Lib.hid (HM.out.below h1)
  clear h1 HM HC
  have HM := HM2
  clear HM2
  go_wp2_with (first | (first | ((first | refine wl_box rfl _ _ rfl rfl HM ?_ | refine wl_alloc rfl _ rfl (by exact arrOf) HM ?_); first | (have q:dL HM = 0:=rfl;clear q HM;intro g1 u1 HM) | (have q:dL HM = 1:=rfl;clear q HM;intro g2 u2 HM) | (have q:dL HM = 2:=rfl;clear q HM;intro g3 u3 HM) | (have q:dL HM = 3:=rfl;clear q HM;intro g4 u4 HM)) | (refine wl_load rfl _ _ rfl rfl (by exact arrOf) HM (by exact memOf) (by exact lenOf) ?_) | (refine wl_storeM rfl _ _ _ rfl rfl rfl (by exact arrOf) HM (by exact idxOf) (by exact lenOf) (by exact lenOf) ?_; clear HM; intro us HM; dsimp only [List.set] at HM) | (refine wl_zero rfl _ rfl (by exact arrOf) (by kernel_rfl) ?_)) | (refine wl_loadS rfl _ _ rfl rfl (by exact arrOf) HM (by exact memOf) (by exact subF) (by exact lenOf) ?_) | (refine wl_cellF rfl _ rfl rfl HM (by exact memOf) (by exact celF) ?_))
  refine (HS.out _).mono ?_
  rintro e w3 ⟨A, n, c, L, d, ts, rfl, hn, h2, h3, h4, h5⟩
  have HM2 := Lib.hid (HM.out.below h5)
  have H2 := Lib.hid h2
  have H3 := Lib.hid h3
  have H4 := Lib.hid h4
  have hn2 : n ≤ 40 := by rw [← hn]; exact HLN.out
  clear HM HS h2 h3 h4 h5 hn
  have HM := HM2
  clear HM2
  go_wp2_with fail
  refine (Cd.rall_walk A n c L d (ps.map (·.1)) ts w3 (Lib.hid (by unfold maxLen; omega)) H2 H3).mono ?_
  intro e w4 ho
  rw [prs_is H4.out, HPS.out] at ho
  obtain ⟨A5, n5, c5, N5, rfl, hr5, hb5⟩ := all_frame HFR.out ho
  have HM2 := Lib.hid (HM.out.below hb5)
  have HR5 := Lib.hid hr5
  clear HM ho hr5 hb5
  go_wp2
  go_ret2
  exact ⟨A5, n5, c5, rfl, HR5.out.alloc _, HM2.out.1.alloc HM2.out.1.size _⟩
theorem rwrite_any (F : List Int) (K : Int) (l q p : List Int) (w : World) (hF : FrS F K l q) (lp : p.length = 6) :
    Calls Tryz.prog 7 #[.agg (icells F), .agg (icells p)] w (WrOut w K l q p) := by
  cases h : chkB K l q p with
  | false => exact (rwrite_no F K l q p w hF lp h).mono fun e w' h2 => by unfold WrOut; rw [h, if_neg Bool.false_ne_true]; exact h2
  | true => exact (rwrite_yes F K l q p w hF lp h).mono fun e w' h2 => by unfold WrOut; rw [h, if_pos rfl]; exact h2
set_option maxHeartbeats 8000000 in
theorem rtables_inter (F : List Int) (K : Int) (l q : List Int) (w : World) (hF : FrS F K l q) (hK : K = 1) :
    Calls Tryz.prog 9 #[.agg (icells F)] w fun e w' => e = .returned (.tuple #[.slice none 0 0, .slice none 0 0, .int .i64 1]) ∧ Below w.heap.size w w' := by
  have LF := Lib.hid hF.len
  have CK := Lib.hid (show 0 < F.length ∧ F.getD 0 0 = K from ⟨by rw [hF.len]; decide, hF.k0⟩)
  have HM := Lib.hid (Mem.start w)
  have a1 : (K == 1) = true := by rw [hK]; rfl
  clear hF hK
  go_enter Tryz.func9, Tryz.ntmps9
  go_wp2_with (first | (first | ((first | refine wl_box rfl _ _ rfl rfl HM ?_ | refine wl_alloc rfl _ rfl (by exact arrOf) HM ?_); first | (have q:dL HM = 0:=rfl;clear q HM;intro g1 u1 HM) | (have q:dL HM = 1:=rfl;clear q HM;intro g2 u2 HM) | (have q:dL HM = 2:=rfl;clear q HM;intro g3 u3 HM) | (have q:dL HM = 3:=rfl;clear q HM;intro g4 u4 HM)) | (refine wl_load rfl _ _ rfl rfl (by exact arrOf) HM (by exact memOf) (by exact lenOf) ?_) | (refine wl_storeM rfl _ _ _ rfl rfl rfl (by exact arrOf) HM (by exact idxOf) (by exact lenOf) (by exact lenOf) ?_; clear HM; intro us HM; dsimp only [List.set] at HM) | (refine wl_zero rfl _ rfl (by exact arrOf) (by kernel_rfl) ?_)) | (refine wl_loadS rfl _ _ rfl rfl (by exact arrOf) HM (by exact memOf) (by exact subF) (by exact lenOf) ?_) | (refine wl_cellF rfl _ rfl rfl HM (by exact memOf) (by exact celF) ?_))
  go_wp2_with fail
  exact bodyPost_ret (v := .tuple #[.slice none 0 0, .slice none 0 0, .int .i64 1]) (by simp [results, Tryz.results9, go_sem]) rfl ⟨rfl, HM.out.1⟩
set_option maxHeartbeats 8000000 in
theorem rtables_no (F : List Int) (K : Int) (l q : List Int) (w : World) (hF : FrS F K l q) (hK : ¬ K = 1) (h : chkB K l q (zr 6) = false) :
    Calls Tryz.prog 9 #[.agg (icells F)] w fun e w' => e = .returned (.tuple #[.slice none 0 0, .slice none 0 0, .int .i64 1]) ∧ Below w.heap.size w w' := by
  have LF := Lib.hid hF.len
  have CK := Lib.hid (show 0 < F.length ∧ F.getD 0 0 = K from ⟨by rw [hF.len]; decide, hF.k0⟩)
  have HM := Lib.hid (Mem.start w)
  have a1 : (K == 1) = false := by simpa using hK
  have HC := Lib.hid (fun u => rfcheck_any F K l q (zr 6) u hF (zr_length 6))
  unfold errC at HC
  rw [h, if_neg Bool.false_ne_true] at HC
  clear hF hK h
  go_enter Tryz.func9, Tryz.ntmps9
  go_wp2_with (first | (first | ((first | refine wl_box rfl _ _ rfl rfl HM ?_ | refine wl_alloc rfl _ rfl (by exact arrOf) HM ?_); first | (have q:dL HM = 0:=rfl;clear q HM;intro g1 u1 HM) | (have q:dL HM = 1:=rfl;clear q HM;intro g2 u2 HM) | (have q:dL HM = 2:=rfl;clear q HM;intro g3 u3 HM) | (have q:dL HM = 3:=rfl;clear q HM;intro g4 u4 HM)) | (refine wl_load rfl _ _ rfl rfl (by exact arrOf) HM (by exact memOf) (by exact lenOf) ?_) | (refine wl_storeM rfl _ _ _ rfl rfl rfl (by exact arrOf) HM (by exact idxOf) (by exact lenOf) (by exact lenOf) ?_; clear HM; intro us HM; dsimp only [List.set] at HM) | (refine wl_zero rfl _ rfl (by exact arrOf) (by kernel_rfl) ?_)) | (refine wl_loadS rfl _ _ rfl rfl (by exact arrOf) HM (by exact memOf) (by exact subF) (by exact lenOf) ?_) | (refine wl_cellF rfl _ rfl rfl HM (by exact memOf) (by exact celF) ?_))
  refine (HC.out _).mono ?_
  rintro e w2 ⟨rfl, h1⟩
  have HM2 := Lib.hid (HM.out.below h1)
  clear h1 HM HC
  have HM := HM2
  clear HM2
  go_wp2
  exact bodyPost_ret (v := .tuple #[.slice none 0 0, .slice none 0 0, .int .i64 1]) (by simp [results, Tryz.results9, go_sem]) rfl ⟨rfl, HM.out.1⟩
set_option maxHeartbeats 8000000 in
theorem rtables_yes (F : List Int) (K : Int) (l q : List Int) (w : World) (hF : FrS F K l q) (hK : ¬ K = 1) (h : chkB K l q (zr 6) = true) :
    Calls Tryz.prog 9 #[.agg (icells F)] w fun e w' => ∃ A n c L d ts, e = .returned (.tuple #[.slice L n d, .slice A n c, .int .i64 0]) ∧ (symsP K l q (zr 6)).length = n ∧ RdI w' A n ((symsP K l q (zr 6)).map (·.1)) ∧ RdT w' L n ts ∧ tbs ts = (symsP K l q (zr 6)).map (·.2) ∧ Below w.heap.size w w' := by
  have LF := Lib.hid hF.len
  have CK := Lib.hid (show 0 < F.length ∧ F.getD 0 0 = K from ⟨by rw [hF.len]; decide, hF.k0⟩)
  have HM := Lib.hid (Mem.start w)
  have a1 : (K == 1) = false := by simpa using hK
  have HC := Lib.hid (fun u => rfcheck_any F K l q (zr 6) u hF (zr_length 6))
  have HS := Lib.hid (fun u => rsyms_any F K l q (zr 6) u hF (zr_length 6) ((chkB_iff K l q (zr 6)).1 h))
  unfold errC at HC
  rw [h, if_pos rfl] at HC
  generalize symsP K l q (zr 6) = ps at HS ⊢
  clear hF hK h
  go_enter Tryz.func9, Tryz.ntmps9
  go_wp2_with (first | (first | ((first | refine wl_box rfl _ _ rfl rfl HM ?_ | refine wl_alloc rfl _ rfl (by exact arrOf) HM ?_); first | (have q:dL HM = 0:=rfl;clear q HM;intro g1 u1 HM) | (have q:dL HM = 1:=rfl;clear q HM;intro g2 u2 HM) | (have q:dL HM = 2:=rfl;clear q HM;intro g3 u3 HM) | (have q:dL HM = 3:=rfl;clear q HM;intro g4 u4 HM)) | (refine wl_load rfl _ _ rfl rfl (by exact arrOf) HM (by exact memOf) (by exact lenOf) ?_) | (refine wl_storeM rfl _ _ _ rfl rfl rfl (by exact arrOf) HM (by exact idxOf) (by exact lenOf) (by exact lenOf) ?_; clear HM; intro us HM; dsimp only [List.set] at HM) | (refine wl_zero rfl _ rfl (by exact arrOf) (by kernel_rfl) ?_)) | (refine wl_loadS rfl _ _ rfl rfl (by exact arrOf) HM (by exact memOf) (by exact subF) (by exact lenOf) ?_) | (refine wl_cellF rfl _ rfl rfl HM (by exact memOf) (by exact celF) ?_))
  refine (HC.out _).mono ?_
  rintro e w2 ⟨rfl, h1⟩
  have HM2 := Lib.hid (HM.out.below h1)
  clear h1 HM HC
  have HM := HM2
  clear HM2
  go_wp2_with (first | (first | ((first | refine wl_box rfl _ _ rfl rfl HM ?_ | refine wl_alloc rfl _ rfl (by exact arrOf) HM ?_); first | (have q:dL HM = 0:=rfl;clear q HM;intro g1 u1 HM) | (have q:dL HM = 1:=rfl;clear q HM;intro g2 u2 HM) | (have q:dL HM = 2:=rfl;clear q HM;intro g3 u3 HM) | (have q:dL HM = 3:=rfl;clear q HM;intro g4 u4 HM)) | (refine wl_load rfl _ _ rfl rfl (by exact arrOf) HM (by exact memOf) (by exact lenOf) ?_) | (refine wl_storeM rfl _ _ _ rfl rfl rfl (by exact arrOf) HM (by exact idxOf) (by exact lenOf) (by exact lenOf) ?_; clear HM; intro us HM; dsimp only [List.set] at HM) | (refine wl_zero rfl _ rfl (by exact arrOf) (by kernel_rfl) ?_)) | (refine wl_loadS rfl _ _ rfl rfl (by exact arrOf) HM (by exact memOf) (by exact subF) (by exact lenOf) ?_) | (refine wl_cellF rfl _ rfl rfl HM (by exact memOf) (by exact celF) ?_))
  refine (HS.out _).mono ?_
  rintro e w3 ⟨A, n, c, L, d, ts, rfl, hn, h2, h3, h4, h5⟩
  have HM2 := Lib.hid (HM.out.below h5)
  have H2 := Lib.hid h2
  have H3 := Lib.hid h3
  have H4 := Lib.hid h4
  have HN := Lib.hid hn
  clear HM HS h2 h3 h4 h5 hn
  go_wp2
  refine bodyPost_ret (v := .tuple #[.slice L n d, .slice A n c, .int .i64 0]) (by simp [results, Tryz.results9, go_sem]) rfl ⟨A, n, c, L, d, ts, rfl, HN.out, H2.out, H3.out, H4.out, HM2.out.1⟩
theorem rtables_any (F : List Int) (K : Int) (l q : List Int) (w : World) (hF : FrS F K l q) :
    Calls Tryz.prog 9 #[.agg (icells F)] w (TbOut w K l q) := by
  by_cases hK : K = 1
  · exact (rtables_inter F K l q w hF hK).mono fun e w' h2 => by unfold TbOut; rw [if_neg (fun h => h.1 hK)]; exact h2
  · cases h : chkB K l q (zr 6) with
    | false => exact (rtables_no F K l q w hF hK h).mono fun e w' h2 => by unfold TbOut; rw [if_neg (fun h3 => by rw [h] at h3; exact Bool.false_ne_true h3.2)]; exact h2
    | true => exact (rtables_yes F K l q w hF hK h).mono fun e w' h2 => by unfold TbOut; rw [if_pos ⟨hK, h⟩]; exact h2
end Go.Proofs.YtgpdgegelipboaaGreatDoor.Lp
