/-
  Own texts, laid together: Hf.
-/
import Derived.Test.YtgelgbfnioagbaaHa
import Derived.Maps.AppendAt
/- Hf -/
namespace Go.Proofs.Ytgelgbfnioagbaa.Cd
open Go.RowKit
def evT : List Int := Fq.acc (List.replicate 256 1)
theorem evT_at (k : Nat) (h : k ≤ 256) : evT.getD k 0 = (k : Int) := by
  unfold evT
  rw [Fq.acc_getD _ _ (by rw [List.length_replicate]; exact h), List.take_replicate, Fq.tot_rep, Nat.min_eq_left h]
theorem evT_ok : Fq.okF evT = true := Fq.okF_acc (Fq.okN_rep 256 (by omega) (by omega))
theorem evT_length : evT.length = 257 := by unfold evT; rw [Fq.acc_length, List.length_replicate]
theorem ev_okP (b : Nat) (h : b < 256) : okP ((b : Int), evT) = true := by
  unfold okP Fq.symB
  rw [evT_ok, evT_length]
  simp only [Bool.true_and, decide_eq_true_eq]
  omega
theorem ev_put (o : List Bool) (b : Nat) (h : b < 256) : put1 ⟨0, 4294967295, 0, o⟩ ((b : Int), evT) = ⟨0, 4294967295, 0, o ++ bitsOf 8 b⟩ := by
  have e1 : spA ((b : Int), evT) = b := by unfold spA; dsimp only; rw [Int.toNat_natCast, evT_at b (by omega)]; omega
  have e2 : spB ((b : Int), evT) = b + 1 := by unfold spB; dsimp only; rw [Int.toNat_natCast, evT_at (b + 1) (by omega)]; omega
  have e3 : spT evT = 256 := by unfold spT Fq.totF; simp only [if_true]; rw [evT_length, evT_at 256 (by omega)]; rfl
  unfold put1
  rw [e1, e2]
  dsimp only
  rw [e3]
  exact even_put o b h
def evP (bs : List Nat) : List Pr := bs.map fun b : Nat => ((b : Int), evT)
def evB (bs : List Nat) : List Bool := bs.flatMap (bitsOf 8)
theorem evB_length (bs : List Nat) : (evB bs).length = 8 * bs.length := by
  induction bs with
  | nil => rfl
  | cons b bs ih =>
    have : evB (b :: bs) = bitsOf 8 b ++ evB bs := rfl
    rw [this, List.length_append, bitsOf_length, ih, List.length_cons]
    omega
theorem ev_all (bs : List Nat) : ∀ (o : List Bool), (∀ x ∈ bs, x < 256) → o.length + 8 * bs.length ≤ 65536 → allErr ⟨0, 4294967295, 0, o⟩ (evP bs) = 0 ∧ stE ⟨0, 4294967295, 0, o⟩ (evP bs) = ⟨0, 4294967295, 0, o ++ evB bs⟩ := by
  induction bs with
  | nil => intro o _ _; exact ⟨rfl, by show (⟨0, 4294967295, 0, o⟩ : En) = _; simp [evB]⟩
  | cons b bs ih =>
    intro o h hl
    have hb := h b (by simp)
    rw [List.length_cons] at hl
    have hl2 : (o ++ bitsOf 8 b).length = o.length + 8 := by rw [List.length_append, bitsOf_length]
    obtain ⟨a1, a2⟩ := ih (o ++ bitsOf 8 b) (fun x hx => h x (by simp [hx])) (by rw [hl2]; omega)
    have e : evP (b :: bs) = ((b : Int), evT) :: evP bs := rfl
    have ec : putC (put1 ⟨0, 4294967295, 0, o⟩ ((b : Int), evT)) = 0 := by
      rw [ev_put o b hb]
      unfold putC
      rw [if_pos]
      exact ⟨by show (o ++ bitsOf 8 b).length ≤ 65536; rw [hl2]; omega, by show (0 : Nat) ≤ 65536; omega⟩
    rw [e, allErr_ok (ev_okP b hb) ec, stE_cons, ev_put o b hb]
    refine ⟨a1, ?_⟩
    rw [a2]
    have : evB (b :: bs) = bitsOf 8 b ++ evB bs := rfl
    rw [this, List.append_assoc]
theorem ev_bit (bs : List Nat) : ∀ i, bitF (evB bs ++ [false, true]) i = (decide (i < 8 * bs.length + 2) && ((bs ++ [64]).getD (i / 8) 0).testBit (7 - i % 8)) := by
  induction bs with
  | nil =>
    intro i
    rcases (show i = 0 ∨ i = 1 ∨ 2 ≤ i by omega) with rfl | rfl | h
    · rfl
    · rfl
    · rw [bitF_of_ge (by show 2 ≤ i; exact h)]
      simp
      omega
  | cons b bs ih =>
    intro i
    have e : evB (b :: bs) ++ [false, true] = bitsOf 8 b ++ (evB bs ++ [false, true]) := by
      have : evB (b :: bs) = bitsOf 8 b ++ evB bs := rfl
      rw [this, List.append_assoc]
    rw [e, bitF_append, bitsOf_length]
    by_cases hi : i < 8
    · rw [if_pos hi, bitF_bitsOf, List.length_cons, decide_eq_true hi, decide_eq_true (show i < 8 * (bs.length + 1) + 2 by omega), show i / 8 = 0 by omega, show i % 8 = i by omega]
      rfl
    · rw [if_neg hi, ih, List.length_cons]
      have h1 : (b :: bs ++ [64]).getD (i / 8) 0 = (bs ++ [64]).getD ((i - 8) / 8) 0 := by
        rw [List.cons_append, show i / 8 = (i - 8) / 8 + 1 by omega]
        rfl
      rw [h1, show (i - 8) % 8 = i % 8 by omega]
      congr 1
      exact decide_eq_decide.2 (by omega)
theorem ev_pack (bs : List Nat) (h : ∀ x ∈ bs, x < 256) : pack (evB bs ++ [false, true]) = bs ++ [64] ∧ (evB bs ++ [false, true]).length = 8 * bs.length + 2 := by
  have hl : (evB bs ++ [false, true]).length = 8 * bs.length + 2 := by rw [List.length_append, evB_length]; rfl
  refine ⟨?_, hl⟩
  have e : evB bs ++ [false, true] = bitsIn (bs ++ [64]) (8 * bs.length + 2) := by
    refine bitF_ext (by rw [hl, bitsIn_length]) fun i _ => ?_
    rw [ev_bit, bitF_bitsIn]
  rw [e, pack_bitsIn]
  · rw [List.length_append, List.length_singleton]; omega
  · intro x hx
    rcases List.mem_append.1 hx with h1 | h1
    · exact h x h1
    · have : x = 64 := by simpa using h1
      omega
  · intro _
    rw [List.length_append, List.length_singleton, Nat.add_sub_cancel, show (8 * bs.length + 2) % 8 = 2 by omega]
    simp [List.getD_eq_getElem?_getD]
theorem ev_end (bs : List Nat) (h : ∀ x ∈ bs, x < 256) (hl : bs.length ≤ 100) : allErr e0 (evP bs) = 0 ∧ endBits (stE e0 (evP bs)) = evB bs ++ [false, true] := by
  obtain ⟨a1, a2⟩ := ev_all bs [] h (by simp; omega)
  refine ⟨a1, ?_⟩
  have : stE e0 (evP bs) = ⟨0, 4294967295, 0, [] ++ evB bs⟩ := a2
  rw [this]
  rfl
theorem row_neC {w : World} {b1 b2 : Nat} {e1 e2 : TypeId} {s1 s2 n1 n2 : Nat} {v1 v2 : Value} {x1 x2 : List Value} (h1 : w.ownsRow b1 e1 s1 v1 n1 x1) (h2 : w.ownsRow b2 e2 s2 v2 n2 x2) (he : e1 ≠ e2) : v1.ownBlock = none ∨ v1.ownBlock ≠ v2.ownBlock := by
  rcases h1.2 with ⟨rfl, _⟩ | ⟨g, cap, cur, rfl, _, hh, _⟩
  · exact .inl rfl
  · refine .inr fun e => ?_
    rcases h2.2 with ⟨rfl, _⟩ | ⟨g', cap', cur', rfl, _, hh', _⟩
    · simp [Value.ownBlock] at e
    · simp only [Value.ownBlock, Option.some.injEq] at e
      subst e
      exact Blk.ne_ (t := e1) (t' := e2) hh hh' he rfl
/-- what the loop knows: symbols and tables in rows of their own, from block B on -/
structure EvS (w : World) (B b4 ge k k2 : Nat) (bs : List Nat) (v6 v7 : Value) (u : World) : Prop where
  syms : u.ownsRow B 3 1 v6 k ((bs.take k).map fun b : Nat => Value.int .i64 (b : Int))
  tabs : u.ownsRow B 30 1 v7 k2 (List.replicate k2 (.slice (some ⟨ge, 0, none⟩) 257 257))
  box : Blk u b4 30 #[.slice (some ⟨ge, 0, none⟩) 257 257]
  tab : Blk u ge 3 (Fq.icells evT)
  lt4 : b4 < B
  ltg : ge < B
  hB : w.heap.size ≤ B
  hBu : B ≤ u.heap.size
  blw : Below w.heap.size w u
theorem own_far {u : World} {B k g : Nat} {t : TypeId} {v : Value} {xs : List Value} (h : u.ownsRow B t 1 v k xs) (hg : g < B) : v.ownBlock ≠ some g := fun e => by
  have := (h.lt g e).1
  omega
section
variable {w : World} {B b4 ge k k2 : Nat} {bs : List Nat} {v6 v7 v' : Value} {u u' : World}
theorem EvS.alloc (h : EvS w B b4 ge k k2 bs v6 v7 u) (o : Obj) : EvS w B b4 ge k k2 bs v6 v7 (u.alloc o) :=
  ⟨h.syms.alloc o, h.tabs.alloc o, h.box.alloc o, h.tab.alloc o, h.lt4, h.ltg, h.hB, by have := h.hBu; simp; omega, h.blw.alloc h.blw.size o⟩
theorem EvS.push6 (h : EvS w B b4 ge k k2 bs v6 v7 u) (hk : k < bs.length) (ho : u'.ownsRow B 3 1 v' (k + 1) ((bs.take k).map (fun b : Nat => Value.int .i64 (b : Int)) ++ [.int .i64 ((bs.getD k 0 : Nat) : Int)])) (hg : u.grownBy u' v6.ownBlock) : EvS w B b4 ge (k + 1) k2 bs v' v7 u' := by
  have hB := fun j hj => (h.syms.lt j hj).1
  refine ⟨?_, World.ownsRow.kept h.tabs hg (row_neC h.tabs h.syms (by decide)), h.box.row hg (own_far h.syms h.lt4), h.tab.row hg (own_far h.syms h.ltg), h.lt4, h.ltg, h.hB, Nat.le_trans h.hBu hg.size, h.blw.grown hg h.blw.size (fun j hj => Nat.le_trans h.hB (hB j hj))⟩
  have e : (bs.take (k + 1)).map (fun b : Nat => Value.int .i64 (b : Int)) = (bs.take k).map (fun b : Nat => Value.int .i64 (b : Int)) ++ [.int .i64 ((bs.getD k 0 : Nat) : Int)] := by
    rw [List.take_succ_eq_append_getElem hk, List.map_append]
    simp [List.getD_eq_getElem?_getD, hk]
  rw [e]
  exact ho
theorem EvS.push7 (h : EvS w B b4 ge k k2 bs v6 v7 u) (ho : u'.ownsRow B 30 1 v' (k2 + 1) (List.replicate k2 (.slice (some ⟨ge, 0, none⟩) 257 257) ++ [.slice (some ⟨ge, 0, none⟩) 257 257])) (hg : u.grownBy u' v7.ownBlock) : EvS w B b4 ge k (k2 + 1) bs v6 v' u' := by
  have hB := fun j hj => (h.tabs.lt j hj).1
  refine ⟨World.ownsRow.kept h.syms hg (row_neC h.syms h.tabs (by decide)), ?_, h.box.row hg (own_far h.tabs h.lt4), h.tab.row hg (own_far h.tabs h.ltg), h.lt4, h.ltg, h.hB, Nat.le_trans h.hBu hg.size, h.blw.grown hg h.blw.size (fun j hj => Nat.le_trans h.hB (hB j hj))⟩
  rw [List.replicate_succ']
  exact ho
/-- the rows as the calls read them -/
theorem EvS.rd6 (h : EvS w B b4 ge k k2 bs v6 v7 u) (hk : k = bs.length) : ∃ A c, v6 = .slice A k c ∧ Fq.RdI u A k (bs.map fun b : Nat => (b : Int)) := by
  have hl : (bs.map fun b : Nat => (b : Int)).length = k := by rw [List.length_map, hk]
  rcases h.syms.2 with ⟨rfl, h0⟩ | ⟨g, cap, cur, rfl, hb, _⟩
  · refine ⟨none, 0, by rw [h0], hl, fun hn => absurd hn (by omega)⟩
  · refine ⟨_, cap, rfl, hl, fun _ => ⟨_, rfl, fun j x hx => ?_⟩⟩
    refine World.ownsRow.cells h.syms (g := g) rfl j _ ?_
    rw [List.take_of_length_le (by omega)]
    rw [List.getElem?_map] at hx ⊢
    cases hb : bs[j]? with
    | none => rw [hb] at hx; cases hx
    | some y => rw [hb] at hx; injection hx with hx; rw [← hx]; rfl
def evTb (ge : Nat) : Tb := ⟨some ⟨ge, 0, none⟩, 257, 257, evT⟩
theorem evTb_C (ge : Nat) : (evTb ge).C = some ⟨ge, 0, none⟩ := by unfold evTb; with_reducible rfl
theorem evTb_m (ge : Nat) : (evTb ge).m = 257 := by unfold evTb; with_reducible rfl
theorem evTb_d (ge : Nat) : (evTb ge).d = 257 := by unfold evTb; with_reducible rfl
theorem evTb_x (ge : Nat) : (evTb ge).xs = evT := by unfold evTb; with_reducible rfl
theorem EvS.rd7 (h : EvS w B b4 ge k k2 bs v6 v7 u) : ∃ A c, v7 = .slice A k2 c ∧ RdT u A k2 (List.replicate k2 (evTb ge)) := by
  have hl : (List.replicate k2 (evTb ge)).length = k2 := List.length_replicate
  rcases h.tabs.2 with ⟨rfl, h0⟩ | ⟨g, cap, cur, rfl, hb, _⟩
  · refine ⟨none, 0, by rw [h0], hl, fun hn => absurd hn (by omega)⟩
  · refine ⟨_, cap, rfl, hl, fun _ => ⟨_, rfl, fun j x hx => ?_⟩⟩
    obtain ⟨hj, e⟩ := List.getElem?_eq_some_iff.1 hx
    rw [List.getElem_replicate] at e
    subst e
    rw [List.length_replicate] at hj
    refine ⟨World.ownsRow.cells h.tabs (g := g) rfl j _ (by rw [List.getElem?_replicate, if_pos hj, evTb_C, evTb_m, evTb_d]), by rw [evTb_C, evTb_m, evTb_x]; exact Fq.RdI.of_blk h.tab evT_length, by rw [evTb_m]; unfold maxLen; omega⟩
theorem ev_prs (bs : List Nat) (ge : Nat) : prs (bs.map fun b : Nat => (b : Int)) (List.replicate bs.length (evTb ge)) = evP bs := by
  unfold prs evP
  rw [List.map_replicate, evTb_x]
  induction bs with
  | nil => rfl
  | cons b bs ih => rw [List.length_cons, List.replicate_succ, List.map_cons, List.map_cons, List.zip_cons_cons, ih]
end
end Go.Proofs.Ytgelgbfnioagbaa.Cd
