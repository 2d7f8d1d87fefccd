/-
  Own texts, laid together: Ha.
-/
import Derived.Test.YtgelgbfnioagbaaGv
/- Ha -/
namespace Go.Proofs.Ytgelgbfnioagbaa.Cd
open Go.RowKit
/-- what All answers, told by its error -/
def AllC (w : World) (ps : List Pr) (e : Ending) (w' : World) : Prop :=
  (∃ er : Int, ¬ er = 0 ∧ e = .returned (.tuple #[.agg #[.slice none 0 0, .int .i64 0], .int .i64 er]) ∧ Below w.heap.size w w') ∨ (allErr e0 ps = 0 ∧ (endBits (stE e0 ps)).length ≤ 65536 ∧ AllP w (endBits (stE e0 ps)) e w')
theorem all_any (A : Option Addr) (n c : Nat) (L : Option Addr) (m d : Nat) (ss : List Int) (ts : List Tb) (w : World) (hn : Hid (n ≤ maxLen)) (hm : Hid (m ≤ maxLen)) (hs : Hid (Fq.RdI w A n ss)) (ht : Hid (RdT w L m ts)) :
    Calls Try.prog 26 #[.slice A n c, .slice L m d] w fun e w' => (¬ n = m ∧ BBad w 1 e w') ∨ (n = m ∧ AllC w (prs ss ts) e w') := by
  by_cases h : n = m
  · subst h
    refine (all_walk A n c L d ss ts w hn hs ht).mono fun e w' ho => .inr ⟨rfl, ?_⟩
    rcases ho with ⟨h0, hj⟩ | ⟨h0, rfl, hb⟩
    · by_cases hl : (endBits (stE e0 (prs ss ts))).length ≤ 65536
      · exact .inr ⟨h0, hl, AllOut.good (.inl ⟨h0, hj⟩) h0 hl⟩
      · obtain ⟨A', n', c', N', er, rfl, hb, hq⟩ := hj
        rcases hq with ⟨h1, _⟩ | ⟨_, rfl, hz⟩
        · exact absurd h1 hl
        · refine .inl ⟨2, by decide, ?_, hb⟩
          rw [hz]; rfl
    · exact .inl ⟨_, h0, rfl, hb⟩
  · exact (all_lens A n c L m d w hn hm h).mono fun e w' hb => .inl ⟨h, hb⟩
/-- told by the error alone -/
theorem all_told (A : Option Addr) (n c : Nat) (L : Option Addr) (m d : Nat) (ss : List Int) (ts : List Tb) (w : World) (hn : Hid (n ≤ maxLen)) (hm : Hid (m ≤ maxLen)) (hs : Hid (Fq.RdI w A n ss)) (ht : Hid (RdT w L m ts)) :
    Calls Try.prog 26 #[.slice A n c, .slice L m d] w fun e w' => (∃ er : Int, ¬ er = 0 ∧ e = .returned (.tuple #[.agg #[.slice none 0 0, .int .i64 0], .int .i64 er]) ∧ Below w.heap.size w w') ∨ (n = m ∧ allErr e0 (prs ss ts) = 0 ∧ (endBits (stE e0 (prs ss ts))).length ≤ 65536 ∧ AllP w (endBits (stE e0 (prs ss ts))) e w') := by
  refine (all_any A n c L m d ss ts w hn hm hs ht).mono ?_
  rintro e w' (⟨_, rfl, hb⟩ | ⟨h, h1 | h2⟩)
  · exact .inl ⟨1, by decide, rfl, hb⟩
  · exact .inl h1
  · exact .inr ⟨h, h2⟩
/-- Back on bits that may be, with as many symbols as were put -/
def BkP (w : World) (n : Nat) (zs : List Int) (e : Ending) (w' : World) : Prop := ∃ g, e = .returned (.tuple #[.slice (some ⟨g, 0, none⟩) n n, .int .i64 0]) ∧ Fq.RdI w' (some ⟨g, 0, none⟩) n zs ∧ Below w.heap.size w w'
theorem back_put {A : Option Addr} {n8 c N : Nat} {ps : List Pr} {tail : List Bool} {L : Option Addr} {m d : Nat} {ts : List Tb} {ss : List Int} {w : World} (hI : IsB w (.agg #[.slice A n8 c, .int .i64 (N : Int)]) (endBits (stE e0 ps) ++ tail)) (hm : m ≤ 1000) (ht : RdT w L m ts) (h0 : allErr e0 ps = 0) (hps : ps = prs ss ts) (hl : ss.length = m) :
    Calls Try.prog 28 #[.agg #[.slice A n8 c, .int .i64 (N : Int)], .slice L m d] w (BkP w m ss) := by
  refine (back_walk A n8 c N _ L m d ts w (Lib.hid hI) hm (Lib.hid ht)).mono ?_
  intro e w' h
  obtain ⟨a1, a2⟩ := all_back h0 tail
  have e1 : ps.map (·.2) = tbs ts := by rw [hps]; exact prs_snd (by rw [hl, ht.1])
  have e2 : ps.map (·.1) = ss := by rw [hps]; exact prs_fst (by rw [hl, ht.1])
  rw [e1] at a1 a2
  rw [e2] at a2
  rcases h with ⟨_, g, rfl, hg, hB, hb⟩ | ⟨h, _⟩
  · rw [a2] at hB
    exact ⟨g, rfl, Fq.RdI.of_blk hB hl, hb⟩
  · exact absurd a1 h
/-- a box that stays -/
def LB (w : World) (b : Nat) (a v : Value) (u : World) : Prop := Blk u b 25 #[a, v] ∧ Below w.heap.size w u
theorem LB.next {w : World} {b : Nat} {a v : Value} {u u' : World} (h : LB w b a v u) (hb : Below u.heap.size u u') : LB w b a v u' := ⟨h.1.below hb h.1.lt, h.2.trans (hb.mono h.2.size)⟩
theorem LB.alloc {w : World} {b : Nat} {a v : Value} {u : World} (h : LB w b a v u) (o : Obj) : LB w b a v (u.alloc o) := h.next ((Below.refl u.heap.size u).alloc (Nat.le_refl _) o)
theorem isB_it {w : World} {A : Option Addr} {n c : Nat} {N : Int} {l : List Bool} (h : IsB w (.agg #[.slice A n c, .int .i64 N]) l) : It.ok ⟨A, n, c, N, pack l⟩ = true ∧ It.bits ⟨A, n, c, N, pack l⟩ = l := by
  obtain ⟨_, hN, _, hl⟩ := isB_parts h
  refine ⟨?_, ?_⟩
  · show okB (pack l) N = true
    rw [hN]; exact okB_pack l hl
  · show bitsIn (pack l) N.toNat = l
    rw [hN]; exact bitsIn_pack l
/-- Join of two -/
theorem join_two {w : World} {b : Nat} {A1 A2 : Option Addr} {n1 c1 n2 c2 : Nat} {N1 N2 : Int} {l1 l2 : List Bool} (h1 : IsB w (.agg #[.slice A1 n1 c1, .int .i64 N1]) l1) (h2 : IsB w (.agg #[.slice A2 n2 c2, .int .i64 N2]) l2) (hb : Blk w b 25 #[.slice A1 n1 c1, .int .i64 N1, .slice A2 n2 c2, .int .i64 N2]) :
    Calls Try.prog 32 #[.slice (some ⟨b, 0, none⟩) 2 2] w (BOut w (JQ w.heap.size (l1 ++ l2))) := by
  have hall : allBits [⟨A1, n1, c1, N1, pack l1⟩, ⟨A2, n2, c2, N2, pack l2⟩] = l1 ++ l2 := by
    show It.bits _ ++ (It.bits _ ++ []) = _
    rw [(isB_it h1).2, (isB_it h2).2, List.append_nil]
  rw [← hall]
  refine join_out (some ⟨b, 0, none⟩) 2 2 _ w (by omega) ?_ ?_
  · refine ⟨rfl, fun _ => ⟨_, rfl, fun j x hx => ?_⟩⟩
    rcases (show j = 0 ∨ j = 1 by
      obtain ⟨hk, _⟩ := List.getElem?_eq_some_iff.1 hx
      have hk' : j < 2 := hk
      omega) with rfl | rfl
    · injection hx with hx
      subst hx
      exact ⟨hb.cell 0, hb.cell 1, (isB_parts h1).2.2.1⟩
    · injection hx with hx
      subst hx
      exact ⟨hb.cell 2, hb.cell 3, (isB_parts h2).2.2.1⟩
  · intro x hx
    simp only [List.mem_cons, List.mem_nil_iff, or_false] at hx
    rcases hx with rfl | rfl
    · exact (isB_it h1).1
    · exact (isB_it h2).1
end Go.Proofs.Ytgelgbfnioagbaa.Cd
