/-
  What the document's own push does: one bit more behind bits that the caller owns.
-/
import Derived.Test.YthaannpkgljngaaRa
import Derived.Maps.AppendAt
import Derived.OneCell
namespace Go.Proofs.Ythaannpkgljngaa
open Go.RowKit

/-- the slice v owns the bytes of l -/
def OwnB (w : World) (base : Nat) (v : Value) (l : List Bool) : Prop := w.ownsRow base 5 1 v (pack l).length ((pack l).map byteV)
theorem OwnB.nil_ (w : World) (base : Nat) : OwnB w base (.slice none 0 0) [] := World.ownsRow_nil w base 5 1
theorem OwnB.alloc {w : World} {base : Nat} {v : Value} {l : List Bool} (h : OwnB w base v l) (o : Obj) : OwnB (w.alloc o) base v l := World.ownsRow.alloc h o
theorem OwnB.rd {w : World} {base n c : Nat} {A : Option Addr} {l : List Bool} (h : OwnB w base (.slice A n c) l) : Rd w A n (pack l) ∧ n = (pack l).length := by
  have hf := h.2
  have hl := h.1
  rcases hf with ⟨e, h0⟩ | ⟨g, cap, cur, e, hb, hh, hnc, hcm, hcs, ht⟩
  · injection e with e1 e2 e3
    subst e1 e2
    refine ⟨⟨by omega, pack_lt _, fun h => by omega⟩, h0.symm⟩
  · injection e with e1 e2 e3
    subst e1
    refine ⟨⟨e2.symm, pack_lt _, fun _ => ⟨_, rfl, fun j x hx => ?_⟩⟩, e2⟩
    have := World.ownsRow.cells h (g := g) rfl j (byteV x) (by rw [List.getElem?_map, hx]; rfl)
    exact this
/-- the last byte, with one bit more -/
theorem push_byte (l : List Bool) (b : Bool) :
    byteF (bitF l) (l.length / 8) ||| b.toNat * 2 ^ (7 - l.length % 8) = byteF (bitF (l ++ [b])) (l.length / 8) := by
  have hb : b.toNat * 2 ^ (7 - l.length % 8) < 2 ^ 8 := by
    have h1 : b.toNat ≤ 1 := by cases b <;> decide
    have h2 : 2 ^ (7 - l.length % 8) ≤ 2 ^ 7 := Nat.pow_le_pow_right (by omega) (by omega)
    have h3 : b.toNat * 2 ^ (7 - l.length % 8) ≤ 1 * 2 ^ 7 := Nat.mul_le_mul h1 h2
    omega
  refine byteF_of_bits (Nat.or_lt_two_pow (n := 8) (byteF_lt _ _) hb) fun k hk => ?_
  rw [Nat.testBit_or, byteF_testBit, Nat.testBit_mul_two_pow, bitF_append]
  simp only [hk, decide_true, Bool.true_and]
  by_cases h1 : 8 * (l.length / 8) + (7 - k) < l.length
  · have h5 : b.toNat.testBit (k - (7 - l.length % 8)) = false := by
      refine Nat.testBit_lt_two_pow (Nat.lt_of_lt_of_le (m := 2) (by cases b <;> decide) ?_)
      exact Nat.pow_le_pow_right (n := 2) (i := 1) (by omega) (by omega)
    simp [h1, h5]
  · by_cases h2 : k = 7 - l.length % 8
    · have e : 8 * (l.length / 8) + (7 - k) - l.length = 0 := by omega
      have e2 : k - (7 - l.length % 8) = 0 := by omega
      have h3 : 7 - l.length % 8 ≤ k := by omega
      rw [bitF_of_ge (by omega), if_neg h1, e, e2]
      cases b <;> simp [bitF, h3]
    · have h3 : bitF [b] (8 * (l.length / 8) + (7 - k) - l.length) = false := bitF_of_ge (by show 1 ≤ _; omega)
      rw [bitF_of_ge (by omega), if_neg h1, h3]
      by_cases h4 : 7 - l.length % 8 ≤ k
      · have h5 : b.toNat.testBit (k - (7 - l.length % 8)) = false := by
          refine Nat.testBit_lt_two_pow (Nat.lt_of_lt_of_le (m := 2) (by cases b <;> decide) ?_)
          exact Nat.pow_le_pow_right (n := 2) (i := 1) (by omega) (by omega)
        simp [h5]
      · simp [h4]
theorem push_old (l : List Bool) (b : Bool) (j : Nat) (h : j < l.length / 8) : byteF (bitF l) j = byteF (bitF (l ++ [b])) j :=
  byteF_eq fun i _ hi => by rw [bitF_append, if_pos (by omega)]
/-- the bytes behind a push into the last byte -/
theorem push_same (l : List Bool) (b : Bool) (h : l.length % 8 ≠ 0) :
    (pack l).set (l.length / 8) (byteF (bitF l) (l.length / 8) ||| b.toNat * 2 ^ (7 - l.length % 8)) = pack (l ++ [b]) := by
  rw [push_byte]
  have e : ((l ++ [b]).length + 7) / 8 = (l.length + 7) / 8 := by rw [List.length_append]; simp; omega
  refine List.ext_getElem (by rw [List.length_set, pack_length, pack_length, e]) fun j h1 h2 => ?_
  rw [List.getElem_set]
  have hj : j < (l.length + 7) / 8 := by rw [pack_length, e] at h2; exact h2
  split
  · rename_i e'; subst e'; simp [pack, packF]
  · simp only [pack, packF, List.getElem_map, List.getElem_range]
    exact push_old l b j (by omega)
/-- .. and behind one into a new byte -/
theorem push_more (l : List Bool) (b : Bool) (h : l.length % 8 = 0) :
    (pack l ++ [0]).set (l.length / 8) (0 ||| b.toNat * 2 ^ (7 - l.length % 8)) = pack (l ++ [b]) := by
  have hz : byteF (bitF l) (l.length / 8) = 0 := by
    symm
    refine byteF_of_bits (by omega) fun k _ => ?_
    rw [bitF_of_ge (by omega)]
    simp
  have hb := push_byte l b
  rw [hz] at hb
  rw [hb]
  have e : ((l ++ [b]).length + 7) / 8 = (l.length + 7) / 8 + 1 := by rw [List.length_append]; simp; omega
  refine List.ext_getElem (by rw [List.length_set, List.length_append, pack_length, pack_length, e]; rfl) fun j h1 h2 => ?_
  have hj : j < (l.length + 7) / 8 + 1 := by rw [pack_length, e] at h2; exact h2
  rw [List.getElem_set]
  split
  · rename_i e'; subst e'; simp [pack, packF]
  · rename_i e'
    rw [List.getElem_append_left (by rw [pack_length]; omega)]
    simp only [pack, packF, List.getElem_map, List.getElem_range]
    exact push_old l b j (by omega)

/-- what push leaves -/
def PushPost (w : World) (base : Nat) (v : Value) (l : List Bool) (e : Ending) (w' : World) : Prop :=
  ∃ g n cap, e = .returned (.agg #[.slice (some ⟨g, 0, none⟩) n cap, .int .i64 ((l.length : Nat) : Int)]) ∧ OwnB w' base (.slice (some ⟨g, 0, none⟩) n cap) l ∧ w.grownBy w' v.ownBlock ∧ (v.ownBlock = some g ∨ w.heap.size ≤ g)

theorem push_or (x y k : Nat) (hx : x < 2) (hy : y < 256) (hk : k ≤ 7) : bits BinOp.or IntKind.u8 (y : Int) (IntKind.u64.wrap ((x : Int) * 2 ^ k) % 256) = ((y ||| x * 2 ^ k : Nat) : Int) := by
  have h2 : 2 ^ k ≤ 2 ^ 7 := Nat.pow_le_pow_right (by omega) hk
  have h3 : x * 2 ^ k ≤ 1 * 2 ^ 7 := Nat.mul_le_mul (by omega) h2
  have e : (x : Int) * 2 ^ k = ((x * 2 ^ k : Nat) : Int) := by simp
  rw [e]
  generalize x * 2 ^ k = q at h3
  rw [IntKind.wrap_u64]
  have e2 : ((q : Int) % 18446744073709551616 % 256) = (q : Int) := by omega
  rw [e2, u8_or_nat _ _ hy (by omega)]

set_option maxHeartbeats 1000000 in
theorem push_in (g n cap x y : Nat) (l : List Bool) (w : World) (hl : l.length ≤ 70000) (h8 : (((l.length : Int) % 8) == 0) = false) (hx : Hid (x < 2)) (hy : Hid (y < 256)) (hn : l.length / 8 < n) (hglt : g < w.heap.size)
    (hc : w.cell? ⟨g, l.length / 8, none⟩ = some (.int .u8 (y : Int))) (hf : w.frozen? ⟨g, l.length / 8, none⟩ = false) :
    Calls Try.prog 31 #[.agg #[.slice (some ⟨g, 0, none⟩) n cap, .int .i64 (l.length : Int)], .int .u64 (x : Int)] w fun e w' => e = .returned (.agg #[.slice (some ⟨g, 0, none⟩) n cap, .int .i64 ((l.length : Int) + 1)]) ∧
      ∃ o1 o2, (((w.setCell ⟨g, l.length / 8, none⟩ (.int .u8 ((y ||| x * 2 ^ (7 - l.length % 8) : Nat) : Int))).alloc o1).alloc o2).drew = w' := by
  go_enter Try.func31, Try.ntmps31
  go_wp2
  go_region
  all_goals go_wp2
  rw [push_or x y (7 - l.length % 8) hx.out hy.out (by omega)]
  exact bodyPost_ret (v := .agg #[.slice (some ⟨g, 0, none⟩) n cap, .int .i64 ((l.length : Int) + 1)]) (by simp [results, Try.results31, go_sem]) rfl ⟨rfl, _, _, rfl⟩

theorem ownB_set {w : World} {base g n cap : Nat} {l : List Bool} (h : OwnB w base (.slice (some ⟨g, 0, none⟩) n cap) l) (k x : Nat) (l' : List Bool) (hl : (pack l).set k x = pack l') (hlen : (pack l').length = n) :
    OwnB (w.setCell ⟨g, k, none⟩ (.int .u8 (x : Int))) base (.slice (some ⟨g, 0, none⟩) n cap) l' := by
  obtain ⟨h1, h2⟩ := h
  rcases h2 with ⟨e, _⟩ | ⟨g', cap', cur, e, hb, hh, hnc, hcm, hcs, ht⟩
  · cases e
  · simp only [Value.slice.injEq, Option.some.injEq, Addr.mk.injEq, and_true] at e
    obtain ⟨rfl, en, rfl⟩ := e
    rw [← en] at hnc ht
    refine ⟨by rw [List.length_map]; omega, .inr ⟨g, cap, cur.setIfInBounds k (.int .u8 (x : Int)), by rw [hlen], hb, Blk.set_ hh k _, by omega, hcm, by simpa using hcs, ?_⟩⟩
    rw [hlen, Array.toList_setIfInBounds, List.take_set, ht]
    have : ((pack l).map byteV).set k (.int .u8 (x : Int)) = (pack l').map byteV := by rw [← hl, List.map_set]; rfl
    exact this
theorem own_alloc2 {w : World} {base : Nat} {v : Value} {l : List Bool} (h : OwnB w base v l) (o1 o2 : Obj) : OwnB ((w.alloc o1).alloc o2).drew base v l := World.ownsRow.drew ((h.alloc o1).alloc o2)

theorem push_same_any (A : Option Addr) (n c : Nat) (l : List Bool) (b : Bool) (base : Nat) (w : World) (h : OwnB w base (.slice A n c) l) (hl : l.length ≤ 70000) (h8 : l.length % 8 ≠ 0) :
    Calls Try.prog 31 #[.agg #[.slice A n c, .int .i64 (l.length : Int)], .int .u64 ((b.toNat : Nat) : Int)] w (PushPost w base (.slice A n c) (l ++ [b])) := by
  obtain ⟨hr, hn⟩ := h.rd
  have hp := pack_length l
  obtain ⟨g, cap, hv, _, hlt⟩ := World.ownsRow.form h (by omega)
  simp only [Value.slice.injEq] at hv
  obtain ⟨rfl, _, _⟩ := hv
  obtain ⟨ad, e, hb, h256, hc⟩ := hr.at_ (k := l.length / 8) (by omega)
  injection e with e
  subst e
  rw [add_own] at hc
  have hg : (pack l).getD (l.length / 8) 0 = byteF (bitF l) (l.length / 8) := packF_getD _ _ _ (by omega)
  rw [hg] at hc h256
  have hfr : w.frozen? ⟨g, l.length / 8, none⟩ = false := by
    rcases h.2 with ⟨e, _⟩ | ⟨g', cap', cur, e, _, hh, _⟩
    · cases e
    · simp only [Value.slice.injEq, Option.some.injEq, Addr.mk.injEq, and_true] at e
      obtain ⟨rfl, _, _⟩ := e
      exact Blk.frozen hh _
  refine (push_in g n c b.toNat _ l w hl (by simp only [beq_eq_false_iff_ne]; omega) (Lib.hid (by cases b <;> decide)) (Lib.hid h256) (by omega) hb hc hfr).mono ?_
  rintro e w' ⟨rfl, o1, o2, rfl⟩
  have e1 : ((l ++ [b]).length : Int) = (l.length : Int) + 1 := by simp
  have hlen : (pack (l ++ [b])).length = n := by rw [pack_length, List.length_append]; simp; omega
  refine ⟨g, n, c, by rw [e1], own_alloc2 (ownB_set h _ _ _ (push_same l b h8) hlen) _ _, ?_, .inl rfl⟩
  exact only_drew (only_alloc (only_alloc (only_setCell (World.grownBy.refl _ _) (.inl rfl) _) _) _)

theorem Blk.ne_ {w : World} {g g' : Nat} {t t' : TypeId} {cs cs' : Array Value} (h : Blk w g t cs) (h' : Blk w g' t' cs') (hne : t ≠ t') : g ≠ g' := by
  rintro rfl
  unfold Blk at h h'
  rw [h] at h'
  injection h' with h'
  injection h' with _ ht
  exact hne ht
/-- what an append of one byte leaves, over two boxes -/
theorem push_form {w w1 : World} {base n c : Nat} {A : Option Addr} {v1 a1 r0 r1 : Value} {o : Obj} {bs : List Nat} (hn : bs.length = n) (hv : ∀ ad, A = some ad → ad.block < w.heap.size)
    (hown : w1.ownsRow base 5 1 v1 (n + 1) (bs.map byteV ++ [.int .u8 0]))
    (hg : (((w.alloc (.cells #[.slice A n c, a1] 24)).alloc (.cells #[r0, r1] 24)).alloc o).grownBy w1 (Value.slice A n c).ownBlock)
    (hat : v1.ownBlock = (Value.slice A n c).ownBlock ∨ v1.ownBlock = some (((w.alloc (.cells #[.slice A n c, a1] 24)).alloc (.cells #[r0, r1] 24)).alloc o).heap.size) :
    ∃ g cap, v1 = .slice (some ⟨g, 0, none⟩) (n + 1) cap ∧ w1.cell? ⟨g, n, none⟩ = some (.int .u8 0) ∧ w1.frozen? ⟨g, n, none⟩ = false ∧
      (w1.cell? ⟨w.heap.size, 0, none⟩ = some (.slice A n c) ∧ w1.cell? ⟨w.heap.size, 1, none⟩ = some a1 ∧ w1.frozen? ⟨w.heap.size, 0, none⟩ = false ∧ w1.frozen? ⟨w.heap.size, 1, none⟩ = false) ∧
      (w1.cell? ⟨w.heap.size + 1, 0, none⟩ = some r0 ∧ w1.cell? ⟨w.heap.size + 1, 1, none⟩ = some r1 ∧ w1.frozen? ⟨w.heap.size + 1, 0, none⟩ = false ∧ w1.frozen? ⟨w.heap.size + 1, 1, none⟩ = false) ∧
      (¬ g = w.heap.size ∧ ¬ g = w.heap.size + 1) ∧ ((Value.slice A n c).ownBlock = some g ∨ w.heap.size ≤ g) ∧ w.grownBy w1 (Value.slice A n c).ownBlock := by
  have hob : ∀ k, (Value.slice A n c).ownBlock = some k → k < w.heap.size := by
    intro k hk
    cases A with
    | none => simp [Value.ownBlock] at hk
    | some ad => simp only [Value.ownBlock, Option.some.injEq] at hk; have := hv ad rfl; omega
  obtain ⟨g, cap, hv1, hb1, hlt1⟩ := World.ownsRow.form hown (by omega)
  subst hv1
  have B0 := ((Blk.new w 24 #[.slice A n c, a1]).alloc (.cells #[r0, r1] 24)).alloc o
  have B1 := (Blk.newAt (w := w.alloc (.cells #[.slice A n c, a1] 24)) (g := w.heap.size + 1) (t := 24) (cs := #[r0, r1]) (by simp)).alloc o
  have C0 : Blk w1 w.heap.size 24 #[.slice A n c, a1] := (hg.block _ B0.lt (fun e => by have := hob _ e.symm; omega)).trans B0
  have C1 : Blk w1 (w.heap.size + 1) 24 #[r0, r1] := (hg.block _ B1.lt (fun e => by have := hob _ e.symm; omega)).trans B1
  have hcell := World.ownsRow.cells hown (g := g) rfl n (.int .u8 0) (by rw [List.getElem?_append_right (by rw [List.length_map]; omega), List.length_map, hn, Nat.sub_self]; rfl)
  rw [add_own] at hcell
  obtain ⟨cur, hblk⟩ : ∃ cur, Blk w1 g 5 cur := by
    rcases hown.2 with ⟨e, _⟩ | ⟨g', cap', cur, e, _, hh, _⟩
    · cases e
    · simp only [Value.slice.injEq, Option.some.injEq, Addr.mk.injEq, and_true] at e
      obtain ⟨rfl, _⟩ := e
      exact ⟨cur, hh⟩
  refine ⟨g, cap, rfl, hcell, hblk.frozen n, ⟨C0.cell 0, C0.cell 1, C0.frozen 0, C0.frozen 1⟩, ⟨C1.cell 0, C1.cell 1, C1.frozen 0, C1.frozen 1⟩, ⟨hblk.ne_ C0 (by decide), hblk.ne_ C1 (by decide)⟩, ?_, ?_⟩
  · rcases hat with e | e
    · exact .inl (by rw [← e]; rfl)
    · refine .inr ?_
      simp only [Value.ownBlock, Option.some.injEq] at e
      rw [e]
      simp
      omega
  · exact (only_alloc (only_alloc (only_alloc (World.grownBy.refl w _) _) _) _).trans hg

theorem push_news (w : World) (a0 a1 r0 r1 : Value) : ∀ j u, [Value.int .u8 0][j]? = some u → (((w.alloc (.cells #[a0, a1] 24)).alloc (.cells #[r0, r1] 24)).alloc (.cells #[.int .u8 0] 5)).cell? ((⟨w.heap.size + 1 + 1, 0, none⟩ : Addr).add j) = some u := by
  intro j u hj
  have := cell_one_new ((w.alloc (.cells #[a0, a1] 24)).alloc (.cells #[r0, r1] 24)) (.int .u8 0) 5 j u hj
  simpa using this
theorem new_setCell {a w : World} {row : Option Nat} (h : a.grownBy w row) {p : Addr} (hp : a.heap.size ≤ p.block) (u : Value) : a.grownBy (w.setCell p u) row :=
  ⟨h.os, h.tape, h.output, by simpa [World.setCell] using h.size, fun i hi hne => (Below.heap_setCell w p u i (by omega)).trans (h.block i hi hne)⟩
theorem row_set {w : World} {base g n cap : Nat} {bs : List Nat} (h : w.ownsRow base 5 1 (.slice (some ⟨g, 0, none⟩) n cap) n (bs.map byteV)) (k x : Nat) :
    (w.setCell ⟨g, k, none⟩ (.int .u8 (x : Int))).ownsRow base 5 1 (.slice (some ⟨g, 0, none⟩) n cap) n ((bs.set k x).map byteV) := by
  obtain ⟨h1, h2⟩ := h
  rcases h2 with ⟨e, _⟩ | ⟨g', cap', cur, e, hb, hh, hnc, hcm, hcs, ht⟩
  · cases e
  · simp only [Value.slice.injEq, Option.some.injEq, Addr.mk.injEq, and_true] at e
    obtain ⟨rfl, _, rfl⟩ := e
    refine ⟨by rw [List.length_map, List.length_set]; rw [List.length_map] at h1; exact h1, .inr ⟨g, cap, cur.setIfInBounds k (.int .u8 (x : Int)), rfl, hb, Blk.set_ hh k _, hnc, hcm, by simpa using hcs, ?_⟩⟩
    rw [Array.toList_setIfInBounds, List.take_set, ht, List.map_set]
    rfl
/-- what a push leaves that made a new byte -/
def PushNew (w : World) (base n : Nat) (bs : List Nat) (v : Value) (N x : Nat) (e : Ending) (w' : World) : Prop :=
  ∃ g cap, e = .returned (.agg #[.slice (some ⟨g, 0, none⟩) (n + 1) cap, .int .i64 ((N : Int) + 1)]) ∧ w'.ownsRow base 5 1 (.slice (some ⟨g, 0, none⟩) (n + 1) cap) (n + 1) ((bs.set (N / 8) x).map byteV) ∧ w.grownBy w' v.ownBlock ∧ (v.ownBlock = some g ∨ w.heap.size ≤ g)

set_option maxHeartbeats 1000000 in
theorem push_new (A : Option Addr) (n c x base : Nat) (bs : List Nat) (l : List Bool) (w : World) (hl : l.length ≤ 70000) (h8 : (((l.length : Int) % 8) == 0) = true) (hx : Hid (x < 2)) (hn : Hid (l.length / 8 = n)) (hbn : Hid (bs.length = n))
    (hown : Hid (w.ownsRow base 5 1 (.slice A n c) n (bs.map byteV))) (hbase : Hid (base ≤ w.heap.size)) (hv : Hid (∀ ad, A = some ad → ad.block < w.heap.size)) :
    Calls Try.prog 31 #[.agg #[.slice A n c, .int .i64 (l.length : Int)], .int .u64 (x : Int)] w (PushNew w base n (bs ++ [0]) (.slice A n c) l.length (x * 2 ^ (7 - l.length % 8))) := by
  have HN := Lib.hid (push_news w (.slice A n c) (.int .i64 (l.length : Int)) (.slice none 0 0) (.int .i64 0))
  obtain ⟨i0, hi0, hz0, hz1, hz2⟩ := info_parts info_u8
  go_enter Try.func31, Try.ntmps31
  go_wp2_with (at_builtin; refine wpList_append_own_at _ rfl (.tmp 10) (.tmp 11) 22 rfl base 5 i0 _ 1 1 Try.underlying22 hi0 hz0 hz1 hz2 rfl (by omega) (.slice A n c) n (bs.map byteV) rfl (((hown.out.alloc _).alloc _).alloc _) ⟨w.heap.size + 1 + 1, 0, none⟩ 1 1 [.int .u8 0] rfl rfl HN.out (by intro u hu; simp at hu; subst hu; rfl) (by have := hn.out; unfold maxLen; omega) (by have := hn.out; omega) (by have := hbase.out; simp; omega) ?_; intro v1 w1 hown1 hg1 _ hat1; obtain ⟨g, cap, rfl, hc, hf, ⟨b0, b1, b2, b3⟩, ⟨y0, y1, y2, y3⟩, ⟨n1, n2⟩, hat, hgr⟩ := push_form hbn.out hv.out hown1 hg1 hat1; have hc' : w1.cell? ⟨g, l.length / 8, none⟩ = some (.int .u8 0) := (by rw [hn.out]; exact hc); have hf' : w1.frozen? ⟨g, l.length / 8, none⟩ = false := (by rw [hn.out]; exact hf); have hln : l.length / 8 < n + 1 := (by have := hn.out; omega); clear hc hf; have HOWN := Lib.hid hown1; have HGR := Lib.hid hgr; have HAT := Lib.hid hat; clear hown1 hg1 hat1 hgr hat)
  go_region
  all_goals go_wp2
  have e0 : bits BinOp.or IntKind.u8 0 (IntKind.u64.wrap ((x : Int) * 2 ^ (7 - l.length % 8)) % 256) = ((x * 2 ^ (7 - l.length % 8) : Nat) : Int) := by
    have := push_or x 0 (7 - l.length % 8) hx.out (by omega) (by omega)
    rw [Nat.zero_or] at this
    exact this
  rw [e0]
  refine bodyPost_ret (v := .agg #[.slice (some ⟨g, 0, none⟩) (n + 1) cap, .int .i64 ((l.length : Int) + 1)]) (by simp [results, Try.results31, go_sem, y0, y1]) rfl ⟨g, cap, rfl, ?_, ?_, HAT.out⟩
  · have hbs : bs.map byteV ++ [.int .u8 0] = (bs ++ [0]).map byteV := by rw [List.map_append]; rfl
    have h1 := HOWN.out
    rw [hbs] at h1
    have h2 := row_set (ownsRow_setCell_other h1 (a := ⟨w.heap.size, 0, none⟩) (by simp [Value.ownBlock]; exact n1) (.slice (some ⟨g, 0, none⟩) (n + 1) cap)) (l.length / 8) (x * 2 ^ (7 - l.length % 8))
    have h3 := ownsRow_setCell_other h2 (a := ⟨w.heap.size, 1, none⟩) (by simp [Value.ownBlock]; exact n1) (.int .i64 ((l.length : Int) + 1))
    have h4 := ownsRow_setCell_other (ownsRow_setCell_other h3 (a := ⟨w.heap.size + 1, 0, none⟩) (by simp [Value.ownBlock]; exact n2) (.slice (some ⟨g, 0, none⟩) (n + 1) cap)) (a := ⟨w.heap.size + 1, 1, none⟩) (by simp [Value.ownBlock]; exact n2) (.int .i64 ((l.length : Int) + 1))
    exact World.ownsRow.drew h4
  · rcases HAT.out with e | e
    · have hg := HGR.out
      rw [e] at hg ⊢
      exact only_drew (only_setCell (only_setCell (only_setCell (only_setCell (only_setCell hg (.inr (by simp)) _) (.inl rfl) _) (.inr (by simp)) _) (.inr (by simp)) _) (.inr (by simp)) _)
    · exact only_drew (new_setCell (new_setCell (new_setCell (new_setCell (new_setCell HGR.out (by simp) _) (by simpa using e) _) (by simp) _) (by simp) _) (by simp) _)
theorem OwnB.lt {w : World} {base n c : Nat} {A : Option Addr} {l : List Bool} (h : OwnB w base (.slice A n c) l) : ∀ ad, A = some ad → ad.block < w.heap.size := by
  intro ad e
  subst e
  exact (World.ownsRow.lt h ad.block rfl).2
theorem push_any (A : Option Addr) (n c : Nat) (l : List Bool) (N : Int) (b : Bool) (t base : Nat) (w : World) (h : OwnB w base (.slice A n c) l) (hN : N = (l.length : Int)) (ht : t = b.toNat) (hl : l.length ≤ 70000) (hbase : base ≤ w.heap.size) :
    Calls Try.prog 31 #[.agg #[.slice A n c, .int .i64 N], .int .u64 (t : Int)] w (PushPost w base (.slice A n c) (l ++ [b])) := by
  subst hN ht
  by_cases h8 : l.length % 8 = 0
  · have hn := h.rd.2
    have hp := pack_length l
    have hown := h
    unfold OwnB at hown
    rw [← hn] at hown
    refine (push_new A n c b.toNat base (pack l) l w hl (by simp only [beq_iff_eq]; omega) (Lib.hid (by cases b <;> decide)) (Lib.hid (by omega)) (Lib.hid hn.symm) (Lib.hid hown) (Lib.hid hbase) (Lib.hid h.lt)).mono ?_
    rintro e w' ⟨g, cap, rfl, ho, hg, hat⟩
    have e1 : ((l ++ [b]).length : Int) = (l.length : Int) + 1 := by simp
    have e2 := push_more l b h8
    rw [Nat.zero_or] at e2
    rw [e2] at ho
    have hlen : n + 1 = (pack (l ++ [b])).length := by rw [pack_length, List.length_append]; simp; omega
    refine ⟨g, n + 1, cap, by rw [e1], ?_, hg, hat⟩
    unfold OwnB
    rw [← hlen]
    exact ho
  · exact push_same_any A n c l b base w h hl h8

end Go.Proofs.Ythaannpkgljngaa
