/-
  A packet of one's own; all that waits, of one's own.
-/
import Derived.Test.YtffapinabidkiaaUE
import Derived.Maps.AppendAt
import Derived.OneCell
import Derived.Deep.OwnRows
set_option linter.unusedSimpArgs false
set_option linter.unusedVariables false
/- UF -/
namespace Go.Proofs.Ytffapinabidkiaa.Lp
open Go.RowKit Go.Proofs.Ytffapinabidkiaa.Fq
theorem info_partsT {o : Option TypeInfo} {z : Option Value} {s b : Nat} (h : o.map (fun i => (i.zero, i.size, i.bytes)) = some (z, s, b)) : ∃ i, o = some i ∧ i.zero = z ∧ i.size = s ∧ i.bytes = b := by
  obtain ⟨i, hi, e⟩ := Option.map_eq_some_iff.1 h
  simp only [Prod.mk.injEq] at e
  exact ⟨i, hi, e.1, e.2.1, e.2.2⟩
theorem info_u8 : (Try.prog.info? 5).map (fun i => (i.zero, i.size, i.bytes)) = some (some (.int .u8 0), 1, 1) := by kernel_rfl
theorem info_pk : (Try.prog.info? 46).map (fun i => (i.zero, i.size, i.bytes)) = some (some (.agg #[.int .i64 0, .slice none 0 0]), 2, 32) := by kernel_rfl
theorem own_new8 (w : World) (B : Nat) (hB : B ≤ w.heap.size) : (w.alloc (.cells #[] 5)).ownsRow B 5 1 (.slice (some ⟨w.heap.size, 0, none⟩) 0 0) 0 [] :=
  ⟨rfl, .inr ⟨w.heap.size, 0, #[], rfl, hB, Blk.new w _ _, Nat.le_refl _, by decide, rfl, rfl⟩⟩
theorem own_shape {w : World} {base n k : Nat} {T : TypeId} {v : Value} {xs : List Value} (h : w.ownsRow base T k v n xs) (h0 : 0 < n) : ∃ g c, v = .slice (some ⟨g, 0, none⟩) n c ∧ base ≤ g := by
  rcases h.2 with ⟨_, h1⟩ | ⟨g, cap, cur, rfl, hb, -⟩
  · omega
  · exact ⟨g, cap, rfl, hb⟩
theorem bV_one (bs : List Nat) : ∀ u ∈ bs.map byteV, u.oneCell' = true := by
  intro u hu
  obtain ⟨x, _, rfl⟩ := List.mem_map.1 hu
  rfl
theorem own_rd8 {w : World} {base n c g : Nat} {bs : List Nat} (h : w.ownsRow base 5 1 (.slice (some ⟨g, 0, none⟩) n c) n (bs.map byteV)) (hb : ∀ x ∈ bs, x < 256) : Rd w (some ⟨g, 0, none⟩) n bs := by
  have hl : bs.length = n := by have := h.1; rw [List.length_map, Nat.mul_one] at this; exact this
  refine ⟨hl, hb, fun _ => ⟨_, rfl, fun j x hx => ?_⟩⟩
  exact World.ownsRow.cells h (g := g) rfl j (byteV x) (by rw [List.getElem?_map, hx]; rfl)
/-- bytes of one's own -/
def CloB (w : World) (n : Nat) (bs : List Nat) (e : Ending) (w' : World) : Prop :=
  ∃ g c, e = .returned (.slice (some ⟨g, 0, none⟩) n c) ∧ w.heap.size ≤ g ∧ Rd w' (some ⟨g, 0, none⟩) n bs ∧ Below w.heap.size w w'
set_option maxRecDepth 100000 in
set_option maxHeartbeats 2000000 in
theorem clone_any (A : Option Addr) (n c : Nat) (bs : List Nat) (w : World) (hr : Hid (Rd w A n bs)) (h0 : 0 < n) (hn : n ≤ 1000) :
    Calls Try.prog 53 #[.slice A n c] w (CloB w n bs) := by
  obtain ⟨ad, rfl, -⟩ := hr.out.2.2 h0
  obtain ⟨i0, hi0, hz0, hz1, hz2⟩ := info_partsT info_u8
  have HLN := Lib.hid (show (bs.map byteV).length = n * 1 by rw [List.length_map, hr.out.1, Nat.mul_one])
  have HR := Lib.hid (hr.out.alloc (.cells #[] 5))
  have HB := Lib.hid ((Below.refl w.heap.size w).alloc (Nat.le_refl _) (.cells #[] 5))
  have HO := Lib.hid (own_new8 w w.heap.size (Nat.le_refl _))
  have HN := Lib.hid (show ∀ j u, (bs.map byteV)[j]? = some u → (w.alloc (.cells #[] 5)).cell? (ad.add j) = some u from by
    intro j u hu
    obtain ⟨ad', e, hc⟩ := HR.out.2.2 h0
    injection e with e
    subst e
    rw [List.getElem?_map] at hu
    obtain ⟨x, hx, rfl⟩ := Option.map_eq_some_iff.1 hu
    exact hc j x hx)
  have H8 := Lib.hid hr.out.2.1
  have hnil : ∀ u : World, (binOp .eql 41 (.slice (some ad) n c) (.slice none 0 0)).run Try.prog u = .ok (.bool false) u := fun _ => rfl
  go_enter Try.func53, Try.ntmps53
  go_wp2_with (at_builtin; refine wpList_append_own_at _ rfl (.tmp 5) (.tmp 6) 41 rfl w.heap.size 5 i0 _ 1 1 Try.underlying41 hi0 hz0 hz1 hz2 rfl (by omega) _ 0 [] rfl HO.out ad n c (bs.map byteV) rfl HLN.out HN.out (bV_one bs) (by unfold maxLen; omega) (by omega) HB.out.size ?_; intro va w2 ho2 hg2 _ _; rw [List.nil_append, Nat.zero_add] at ho2; obtain ⟨g2, c2, hva, hg⟩ := own_shape ho2 h0; subst hva; have HO2 := Lib.hid (own_rd8 ho2 H8.out); have HG2 := Lib.hid hg; have HB2 := Lib.hid (HB.out.grown (show World.grownBy _ w2 (some w.heap.size) from hg2) HB.out.size (fun k hk => by injection hk with hk; omega)); clear ho2 hg2 hg)
  go_ret
  exact ⟨g2, c2, rfl, HG2.out, HO2.out, HB2.out⟩
/-- a packet of one's own -/
def OwnP (w : World) (x : Pk) (e : Ending) (w' : World) : Prop :=
  ∃ g c, e = .returned (.agg #[.int .i64 x.s, .slice (some ⟨g, 0, none⟩) x.n c]) ∧ w.heap.size ≤ g ∧ Rd w' (some ⟨g, 0, none⟩) x.n x.bs ∧ Below w.heap.size w w'
set_option maxRecDepth 100000 in
set_option maxHeartbeats 2000000 in
theorem ownPacket_any (x : Pk) (w : World) (hr : Hid (Rd w x.A x.n x.bs)) (h0 : 0 < x.n) (hn : x.n ≤ 1000) :
    Calls Try.prog 47 #[.agg #[.int .i64 x.s, .slice x.A x.n x.c]] w (OwnP w x) := by
  have HM := Lib.hid (MV.start w)
  go_enter Try.func47, Try.ntmps47
  go_wp2_with (first | (refine jL ?_) | (refine jS ?_; clear HM; intro us HM; simp only [List.set, List.setIfInBounds_toArray, List.set_cons_zero, List.set_cons_succ] at HM) | (refine jN ?_; first | (have q : dV HM = 0 := rfl; clear q HM; intro g1 u1 HG1 HM) | (have q : dV HM = 1 := rfl; clear q HM; intro g2 u2 HG2 HM) | (have q : dV HM = 2 := rfl; clear q HM; intro g3 u3 HG3 HM) | (have q : dV HM = 3 := rfl; clear q HM; intro g4 u4 HG4 HM) | (have q : dV HM = 4 := rfl; clear q HM; intro g5 u5 HG5 HM) | (have q : dV HM = 5 := rfl; clear q HM; intro g6 u6 HG6 HM) | (have q : dV HM = 6 := rfl; clear q HM; intro g7 u7 HG7 HM) | (have q : dV HM = 7 := rfl; clear q HM; intro g8 u8 HG8 HM) | (have q : dV HM = 8 := rfl; clear q HM; intro g9 u9 HG9 HM) | (have q : dV HM = 9 := rfl; clear q HM; intro g10 u10 HG10 HM) | (have q : dV HM = 10 := rfl; clear q HM; intro g11 u11 HG11 HM) | (have q : dV HM = 11 := rfl; clear q HM; intro g12 u12 HG12 HM) | (have q : dV HM = 12 := rfl; clear q HM; intro g13 u13 HG13 HM) | (have q : dV HM = 13 := rfl; clear q HM; intro g14 u14 HG14 HM)))
  refine (clone_any x.A x.n x.c x.bs _ (Lib.hid (hr.out.below HM.out.1)) h0 hn).mono ?_
  rintro e w2 ⟨g, c, rfl, hg, hr2, h1⟩
  have HM2 := Lib.hid (HM.out.below h1).base
  have HG := Lib.hid (Nat.le_trans HM.out.1.size hg)
  have HR := Lib.hid hr2
  have HL1 := Lib.hid (Nat.lt_of_lt_of_le (HM.out.get (g := g1) (by exact vmemOf)).lt hg)
  have HL2 := Lib.hid (Nat.lt_of_lt_of_le (HM.out.get (g := g2) (by exact vmemOf)).lt hg)
  clear h1 HM hg hr2
  have HM := HM2
  clear HM2
  go_wp2_with (first | (refine jL ?_) | (refine jS ?_; clear HM; intro us HM; simp only [List.set, List.setIfInBounds_toArray, List.set_cons_zero, List.set_cons_succ] at HM) | (refine jN ?_; first | (have q : dV HM = 0 := rfl; clear q HM; intro g1 u1 HG1 HM) | (have q : dV HM = 1 := rfl; clear q HM; intro g2 u2 HG2 HM) | (have q : dV HM = 2 := rfl; clear q HM; intro g3 u3 HG3 HM) | (have q : dV HM = 3 := rfl; clear q HM; intro g4 u4 HG4 HM) | (have q : dV HM = 4 := rfl; clear q HM; intro g5 u5 HG5 HM) | (have q : dV HM = 5 := rfl; clear q HM; intro g6 u6 HG6 HM) | (have q : dV HM = 6 := rfl; clear q HM; intro g7 u7 HG7 HM) | (have q : dV HM = 7 := rfl; clear q HM; intro g8 u8 HG8 HM) | (have q : dV HM = 8 := rfl; clear q HM; intro g9 u9 HG9 HM) | (have q : dV HM = 9 := rfl; clear q HM; intro g10 u10 HG10 HM) | (have q : dV HM = 10 := rfl; clear q HM; intro g11 u11 HG11 HM) | (have q : dV HM = 11 := rfl; clear q HM; intro g12 u12 HG12 HM) | (have q : dV HM = 12 := rfl; clear q HM; intro g13 u13 HG13 HM) | (have q : dV HM = 13 := rfl; clear q HM; intro g14 u14 HG14 HM)))
  refine bodyPost_ret (v := .agg #[.int .i64 x.s, .slice (some ⟨g, 0, none⟩) x.n c]) (vres_one rfl _ rfl rowPk HM (by exact vmemOf) (Lib.hid rfl)) rfl ⟨g, c, rfl, HG.out, HM.out.rdA HR.out (fun ad e _ k hk => ?_), HM.out.1⟩
  injection e with e
  subst e
  have h1 := HL1.out
  have h2 := HL2.out
  simp only [List.map_cons, List.map_nil, List.mem_cons, List.not_mem_nil, or_false] at hk
  show k ≠ g
  omega
end Go.Proofs.Ytffapinabidkiaa.Lp
