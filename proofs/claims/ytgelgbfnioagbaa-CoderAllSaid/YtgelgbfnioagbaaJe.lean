/-
  Own texts, laid together: Je.
-/
import Derived.Test.YtgelgbfnioagbaaJc
import Derived.Test.YtgelgbfnioagbaaGj
/- Je -/
namespace Go.Proofs.Ytgelgbfnioagbaa.Cd
open Go.RowKit
/-- what Put answers of a state that is fine -/
def putWhat (q : En) (p : Pr) : Nat × Nat × Int × Int × Int × List Nat := if okP p = true then encWhat (put1 q p) else (0, 0, 0, 0, 1, [])
theorem okE_fine {q : En} (h : Fine q) : okE q.low q.high (q.wait : Int) (pack q.out) ((q.out.length : Nat) : Int) = true ∧ q.low < q.high ∧ q.high < 4294967296 := by
  obtain ⟨⟨a1, a2⟩, a3, a4, a5⟩ := h
  have a6 : q.low < q.high := by
    rcases kind_cases q.low q.high with ⟨h, _⟩ | ⟨h, _⟩ | ⟨h, _⟩ | ⟨h, h1, h2, _⟩ <;> omega
  refine ⟨?_, a6, a2⟩
  unfold okE wideB
  rw [decide_eq_true (show q.low < q.high ∧ q.high < 4294967296 ∧ kind q.low q.high = 3 from ⟨a6, a2, a3⟩), decide_eq_true (show (0 : Int) ≤ (q.wait : Int) by omega), decide_eq_true (show (q.wait : Int) ≤ 65536 by omega), okB_pack q.out a4]
  rfl
theorem rput_any (q : En) (A C : Option Addr) (n c m d : Nat) (xs : List Int) (s : Int) (lo hi : Nat) (wt NN EE : Int) (be : List Nat) (w : World) (hq : Hid (Fine q)) (hI : Hid (IsB w (.agg #[.slice A n c, .int .i64 ((q.out.length : Nat) : Int)]) q.out)) (hx : Hid (Fq.RdI w C m xs)) (hm : Hid (m ≤ maxLen)) (hp : Hid (putWhat q (s, xs) = (lo, hi, wt, NN, EE, be))) :
    Calls Try.prog 14 #[.agg #[.int .u32 (q.low : Int), .int .u32 (q.high : Int), .int .i64 (q.wait : Int), .slice A n c, .int .i64 ((q.out.length : Nat) : Int)], .agg #[.slice C m d], .int .i64 s] w (EOut w lo hi wt NN EE be) := by
  obtain ⟨h1, h2, h3⟩ := okE_fine hq.out
  obtain ⟨e1, _, e3, e4⟩ := isB_parts hI.out
  cases hok : okP (s, xs) with
  | false =>
    have := hp.out
    unfold putWhat at this
    rw [hok] at this
    simp only [Prod.mk.injEq, Bool.false_eq_true, if_false] at this
    obtain ⟨rfl, rfl, rfl, rfl, rfl, rfl⟩ := this
    exact rputE_arg q.low q.high (q.wait : Int) A C n c m d _ (pack q.out) xs s w (by omega) h3 (Lib.hid e3) hx hm (Lib.hid (.inr ⟨h1, hok⟩))
  | true =>
    have := hp.out
    unfold putWhat at this
    rw [if_pos hok] at this
    have hsp := symP_of hok
    exact rputE_ok q.low q.high q.wait A C n c m d (spA (s, xs)) (spB (s, xs)) (spT xs) _ (pack q.out) q.out xs s lo hi wt NN EE be w h2 h3 (Lib.hid hq.out.2.1) hq.out.2.2.2 (Lib.hid e3) (by rw [e1, pack_length]; omega) (Lib.hid ⟨rfl, rfl, e4⟩) (Lib.hid h1) hx hm (Lib.hid hsp.1) (Lib.hid hsp.2.1) (Lib.hid hsp.2.2.1) (Lib.hid hsp.2.2.2) (Lib.hid this)
/-- as EOut, the state written out -/
def EOutL (w : World) (lo hi : Nat) (wt N E : Int) (bs : List Nat) (e : Ending) (w' : World) : Prop :=
  ∃ A n c, e = .returned (.tuple #[.agg #[.int .u32 (lo : Int), .int .u32 (hi : Int), .int .i64 wt, .slice A n c, .int .i64 N], .int .i64 E]) ∧ Below w.heap.size w w' ∧ Rd w' A n bs
theorem rput_lit (q : En) (A C : Option Addr) (n c m d : Nat) (xs : List Int) (s : Int) (lo hi : Nat) (wt NN EE : Int) (be : List Nat) (w : World) (hq : Hid (Fine q)) (hI : Hid (IsB w (.agg #[.slice A n c, .int .i64 ((q.out.length : Nat) : Int)]) q.out)) (hx : Hid (Fq.RdI w C m xs)) (hm : Hid (m ≤ maxLen)) (hp : Hid (putWhat q (s, xs) = (lo, hi, wt, NN, EE, be))) :
    Calls Try.prog 14 #[.agg #[.int .u32 (q.low : Int), .int .u32 (q.high : Int), .int .i64 (q.wait : Int), .slice A n c, .int .i64 ((q.out.length : Nat) : Int)], .agg #[.slice C m d], .int .i64 s] w (EOutL w lo hi wt NN EE be) :=
  (rput_any q A C n c m d xs s lo hi wt NN EE be w hq hI hx hm hp).mono fun _ _ h => h
theorem putWhat_cases {q : En} {p : Pr} {lo hi : Nat} {wt NN EE : Int} {be : List Nat} (h : putWhat q p = (lo, hi, wt, NN, EE, be)) :
    (okP p = true ∧ putC (put1 q p) = 0 ∧ lo = (put1 q p).low ∧ hi = (put1 q p).high ∧ wt = ((put1 q p).wait : Int) ∧ NN = (((put1 q p).out.length : Nat) : Int) ∧ EE = 0 ∧ be = pack (put1 q p).out) ∨ (okP p = true ∧ putC (put1 q p) = 2 ∧ EE = 2) ∨ (okP p = false ∧ EE = 1) := by
  unfold putWhat at h
  cases hok : okP p with
  | false => rw [hok] at h; simp only [Prod.mk.injEq, Bool.false_eq_true, if_false] at h; exact .inr (.inr ⟨rfl, h.2.2.2.2.1.symm⟩)
  | true =>
    rw [if_pos hok] at h
    unfold encWhat at h
    unfold putC
    split at h
    · rename_i hc
      simp only [Prod.mk.injEq] at h
      obtain ⟨rfl, rfl, rfl, rfl, rfl, rfl⟩ := h
      exact .inl ⟨rfl, if_pos hc, rfl, rfl, rfl, rfl, rfl, rfl⟩
    · rename_i hc
      simp only [Prod.mk.injEq] at h
      exact .inr (.inl ⟨rfl, if_neg hc, h.2.2.2.2.1.symm⟩)
/-- what the document's All answers -/
def AllJ (w : World) (ps : List Pr) (e : Ending) (w' : World) : Prop :=
  (¬ allErr e0 ps = 0 ∧ JOut w 0 (allErr e0 ps) [] e w') ∨ (allErr e0 ps = 0 ∧ ∃ N E bs, pWhat (endBits (stE e0 ps)) = (N, E, bs) ∧ JOut w N E bs e w')
theorem rall_lens (A : Option Addr) (n c : Nat) (L : Option Addr) (m d : Nat) (w : World) (hn : Hid (n ≤ maxLen)) (hm : Hid (m ≤ maxLen)) (h : n ≠ m) :
    Calls Try.prog 27 #[.slice A n c, .slice L m d] w (BBad w 1) := by
  have d1 : ((n : Int) != (m : Int)) = true := by simp; omega
  have b1 : n ≤ 9223372036854775807 := by have := hn.out; unfold maxLen at this; omega
  have b2 : m ≤ 9223372036854775807 := by have := hm.out; unfold maxLen at this; omega
  go_enter Try.func27, Try.ntmps27
  go_wp2
  exact bodyPost_ret (v := .tuple #[zeroB, .int .i64 1]) (by simp [results, Try.results27, go_sem, zeroB]) rfl ⟨rfl, by
    first
    | exact (((Below.refl w.heap.size w).alloc (Nat.le_refl _) _).setCell (by simp) _).setCell (by simp) _
    | exact (Below.refl w.heap.size w).alloc (Nat.le_refl _) _⟩
/-- what the loop of All knows -/
structure AjR (w : World) (b4 b6 : Nat) (ps : List Pr) (k : Nat) (u : World) : Prop where
  res : Blk u b4 25 #[.slice none 0 0, .int .i64 0]
  box : ∃ A7 n7 c7, Blk u b6 27 #[.int .u32 ((stE e0 (ps.take k)).low : Int), .int .u32 ((stE e0 (ps.take k)).high : Int), .int .i64 ((stE e0 (ps.take k)).wait : Int), .slice A7 n7 c7, .int .i64 (((stE e0 (ps.take k)).out.length : Nat) : Int)] ∧ IsB u (.agg #[.slice A7 n7 c7, .int .i64 (((stE e0 (ps.take k)).out.length : Nat) : Int)]) (stE e0 (ps.take k)).out
  fine : Fine (stE e0 (ps.take k))
  err : allErr e0 ps = allErr (stE e0 (ps.take k)) (ps.drop k)
  hb : w.heap.size ≤ b4
  lt : b4 < b6
  blw : Below w.heap.size w u
theorem AjR.next {w : World} {b4 b6 k : Nat} {ps : List Pr} {u u' : World} (h : AjR w b4 b6 ps k u) (hb : Below u.heap.size u u') : AjR w b4 b6 ps k u' := by
  obtain ⟨A7, n7, c7, h1, h2⟩ := h.box
  exact ⟨h.res.below hb h.res.lt, ⟨A7, n7, c7, h1.below hb h1.lt, h2.below hb⟩, h.fine, h.err, h.hb, h.lt, h.blw.trans (hb.mono h.blw.size)⟩
theorem AjR.drew {w : World} {b4 b6 k : Nat} {ps : List Pr} {u : World} (h : AjR w b4 b6 ps k u) : AjR w b4 b6 ps k u.drew := ⟨h.res, h.box, h.fine, h.err, h.hb, h.lt, Below.drew h.blw⟩
theorem AjR.lt6 {w : World} {b4 b6 k : Nat} {ps : List Pr} {u : World} (h : AjR w b4 b6 ps k u) : b6 < u.heap.size := by
  obtain ⟨_, _, _, h1, _⟩ := h.box
  exact h1.lt
/-- five stores into a block of another's -/
theorem AjR.put {w : World} {b4 b6 k X : Nat} {ps : List Pr} {u : World} {t : TypeId} {a0 a1 a2 a4 : Int} {v0 : Option Addr} {v1 v2 : Nat} (h : AjR w b4 b6 ps k u) (hX : Blk u X t #[.int .u32 a0, .int .u32 a1, .int .i64 a2, .slice v0 v1 v2, .int .i64 a4]) (hl : b6 < X) (x0 x1 x2 x3 x4 : Value) :
    AjR w b4 b6 ps k (((((u.setCell ⟨X, 0, none⟩ x0).setCell ⟨X, 1, none⟩ x1).setCell ⟨X, 2, none⟩ x2).setCell ⟨X, 3, none⟩ x3).setCell ⟨X, 4, none⟩ x4) := by
  obtain ⟨A7, n7, c7, h1, h2⟩ := h.box
  have hn : ∀ i, b4 ≠ (⟨X, i, none⟩ : Addr).block := fun i => by have := h.lt; show b4 ≠ X; omega
  have hm : ∀ i, b6 ≠ (⟨X, i, none⟩ : Addr).block := fun i => by show b6 ≠ X; omega
  exact ⟨((((h.res.far (hn 0) _).far (hn 1) _).far (hn 2) _).far (hn 3) _).far (hn 4) _, ⟨A7, n7, c7, ((((h1.far (hm 0) _).far (hm 1) _).far (hm 2) _).far (hm 3) _).far (hm 4) _, mk_isB h.fine.2.2.1 c7 (rd_five h2.rd hX _ _ _ _ _)⟩, h.fine, h.err, h.hb, h.lt, below5 h.blw (by have := h.hb; have := h.lt; omega) _ _ _ _ _⟩
/-- the new state laid into its box -/
theorem AjR.step {w : World} {b4 b6 k : Nat} {ps : List Pr} {u : World} {q : Pr} {A9 : Option Addr} {n9 c9 : Nat} (h : AjR w b4 b6 ps k u) (hd : ps.drop k = q :: ps.drop (k + 1)) (ht : ps.take (k + 1) = ps.take k ++ [q]) (hq : okP q = true) (hc : putC (put1 (stE e0 (ps.take k)) q) = 0) (hr : Rd u A9 n9 (pack (put1 (stE e0 (ps.take k)) q).out)) :
    AjR w b4 b6 ps (k + 1) (((((u.setCell ⟨b6, 0, none⟩ (.int .u32 ((put1 (stE e0 (ps.take k)) q).low : Int))).setCell ⟨b6, 1, none⟩ (.int .u32 ((put1 (stE e0 (ps.take k)) q).high : Int))).setCell ⟨b6, 2, none⟩ (.int .i64 ((put1 (stE e0 (ps.take k)) q).wait : Int))).setCell ⟨b6, 3, none⟩ (.slice A9 n9 c9)).setCell ⟨b6, 4, none⟩ (.int .i64 (((put1 (stE e0 (ps.take k)) q).out.length : Nat) : Int))) := by
  obtain ⟨A7, n7, c7, h1, h2⟩ := h.box
  have hf := h.fine.put hq hc
  have hn : ∀ i, b4 ≠ (⟨b6, i, none⟩ : Addr).block := fun i => by have := h.lt; show b4 ≠ b6; omega
  refine ⟨((((h.res.far (hn 0) _).far (hn 1) _).far (hn 2) _).far (hn 3) _).far (hn 4) _, ?_, ?_, ?_, h.hb, h.lt, below5 h.blw (by have := h.hb; have := h.lt; omega) _ _ _ _ _⟩
  · rw [ht, stE_snoc]
    refine ⟨A9, n9, c9, ((((h1.set_ 0 _).set_ 1 _).set_ 2 _).set_ 3 _).set_ 4 _, mk_isB hf.2.2.1 c9 (rd_five hr h1 _ _ _ _ _)⟩
  · rw [ht, stE_snoc]; exact hf
  · rw [ht, stE_snoc, h.err, hd, allErr_ok hq hc]
set_option maxRecDepth 100000 in
set_option maxHeartbeats 8000000 in
theorem rall_walk (A : Option Addr) (n c : Nat) (L : Option Addr) (d : Nat) (ss : List Int) (ts : List Tb) (w : World) (hn : Hid (n ≤ maxLen)) (hs : Hid (Fq.RdI w A n ss)) (ht : Hid (RdT w L n ts)) :
    Calls Try.prog 27 #[.slice A n c, .slice L n d] w (AllJ w (prs ss ts)) := by
  obtain ⟨ps, hps⟩ : ∃ ps, ps = prs ss ts := ⟨_, rfl⟩
  rw [← hps]
  have HPS := Lib.hid hps
  clear hps
  have d1 : ((n : Int) != (n : Int)) = false := by simp
  have b1 : n ≤ 9223372036854775807 := by have := hn.out; unfold maxLen at this; omega
  have HK := Lib.hid (Blk.new w 25 #[.slice none 0 0, .int .i64 0])
  have HB := Lib.hid ((Below.refl w.heap.size w).alloc (Nat.le_refl _) (.cells #[.slice none 0 0, .int .i64 0] 25))
  go_enter Try.func27, Try.ntmps27
  go_wp2_with fail
  generalize w.alloc (.cells #[.slice none 0 0, .int .i64 0] 25) = w1 at HK HB ⊢
  obtain ⟨b4, hb4⟩ : ∃ b4, b4 = w.heap.size := ⟨_, rfl⟩
  have HBR := Lib.hid (show w.heap.size ≤ b4 by omega)
  rw [← hb4] at HK ⊢
  clear hb4
  have hcon := rbegin_any w1
  unfold encV at hcon
  refine hcon.mono ?_
  clear hcon
  rintro e w2 ⟨rfl, hb2⟩
  have HR0 := Lib.hid (show AjR w b4 w2.heap.size ps 0 (w2.alloc (.cells #[.int .u32 0, .int .u32 4294967295, .int .i64 0, .slice none 0 0, .int .i64 0] 27)) from
    ⟨(HK.out.below hb2 HK.out.lt).alloc _, ⟨none, 0, 0, Blk.new w2 _ _, IsB.nil_ _⟩, fine0, rfl, HBR.out, (HK.out.below hb2 HK.out.lt).lt, (HB.out.trans (hb2.mono HB.out.size)).alloc (HB.out.trans (hb2.mono HB.out.size)).size _⟩)
  clear hb2 HK HB
  go_wp2
  generalize w2.alloc (.cells #[.int .u32 0, .int .u32 4294967295, .int .i64 0, .slice none 0 0, .int .i64 0] 27) = w3 at HR0 ⊢
  generalize w2.heap.size = b6 at HR0 ⊢
  go_loopw [20] (fun v wr => ∃ k : Nat, v = .int .i64 (k : Int) ∧ k ≤ n ∧ Hid (AjR w b4 b6 ps k wr)) (fun v _ => n - (intOf v).toNat)
  case atStart => exact ⟨0, rfl, by omega, HR0⟩
  case round =>
    obtain ⟨k, rfl, hk, HZ⟩ := hrel
    clear HR0
    by_cases hlt : k < n
    · obtain ⟨ad, rfl, had, x1⟩ := (hs.out.below HZ.out.blw).at_ hlt
      obtain ⟨ad2, t, rfl, hget, had2, x2, hx, hm⟩ := (ht.out.below HZ.out.blw).at_ hlt
      obtain ⟨g1, g2⟩ := prs_get (ss := ss) (by have := hs.out.1; omega) hget
      rw [← HPS.out] at g1 g2
      obtain ⟨s, hs'⟩ : ∃ s, s = ss.getD k 0 := ⟨_, rfl⟩
      rw [← hs'] at x1 g1 g2
      have HG1 := Lib.hid g1
      have HG2 := Lib.hid g2
      have HX := Lib.hid hx
      have HM := Lib.hid hm
      obtain ⟨C, m, dd, xs⟩ := t
      dsimp only at x2 HX HM HG1 HG2
      clear hs' g1 g2 hget hx hm
      obtain ⟨q, hq⟩ : ∃ q, q = stE e0 (ps.take k) := ⟨_, rfl⟩
      obtain ⟨A7, n7, c7, hB7, hI7⟩ := HZ.out.box
      have HF := Lib.hid HZ.out.fine
      rw [← hq] at hB7 hI7 HF
      have HB7 := Lib.hid hB7
      have HI7 := Lib.hid hI7
      have HQ := Lib.hid hq
      clear hB7 hI7 hq
      obtain ⟨lo, hi, wt, NN, EE, be, hpw⟩ : ∃ lo hi wt NN EE be, putWhat q (s, xs) = (lo, hi, wt, NN, EE, be) := ⟨_, _, _, _, _, _, rfl⟩
      have HPW := Lib.hid hpw
      clear hpw
      go_wp2_with fail
      clear x1 had
      go_cut [9, 10] from 21 to 40 (fun v9 v10 wx => ∃ X A9 n9 c9, v9 = .pointer (some ⟨X, 0, none⟩) ∧ v10 = .int .i64 EE ∧ Hid (AjR w b4 b6 ps k wx ∧ Blk wx X 27 #[.int .u32 (lo : Int), .int .u32 (hi : Int), .int .i64 wt, .slice A9 n9 c9, .int .i64 NN] ∧ Rd wx A9 n9 be ∧ b6 < X))
      case first =>
        obtain ⟨y1, y2, y3, y4, y5⟩ := blk5 HB7.out
        have l6 := HB7.out.lt
        have had3 : (ad2.add k).block < wr.heap.size := by rw [block_of_add]; exact had2
        have x2a : (wr.alloc (.cells #[.int .u32 0, .int .u32 0, .int .i64 0, .slice none 0 0, .int .i64 0] 27)).cell? (ad2.add k) = some (.slice C m dd) := (World.cell?_alloc_lt wr _ _ had3).trans x2
        have x2b : (wr.alloc (.cells #[.int .u32 0, .int .u32 0, .int .i64 0, .slice none 0 0, .int .i64 0] 27)).drew.cell? (ad2.add k) = some (.slice C m dd) := x2a
        have HZA := Lib.hid (HZ.out.next ((Below.refl wr.heap.size wr).alloc (Nat.le_refl _) (.cells #[.int .u32 0, .int .u32 0, .int .i64 0, .slice none 0 0, .int .i64 0] 27))).drew
        have HNZ := Lib.hid (Blk.new wr 27 #[.int .u32 0, .int .u32 0, .int .i64 0, .slice none 0 0, .int .i64 0]).drew
        have HIA := Lib.hid (show IsB (wr.alloc (.cells #[.int .u32 0, .int .u32 0, .int .i64 0, .slice none 0 0, .int .i64 0] 27)).drew (.agg #[.slice A7 n7 c7, .int .i64 ((q.out.length : Nat) : Int)]) q.out from HI7.out.alloc _)
        have HXA := Lib.hid (show Fq.RdI (wr.alloc (.cells #[.int .u32 0, .int .u32 0, .int .i64 0, .slice none 0 0, .int .i64 0] 27)).drew C m xs from HX.out.alloc _)
        go_region_with (first
          | (go_at_call 14; refine (rput_lit q A7 C n7 c7 m dd xs s lo hi wt NN EE be (wr.alloc (.cells #[.int .u32 0, .int .u32 0, .int .i64 0, .slice none 0 0, .int .i64 0] 27)).drew HF HIA HXA HM HPW).mono ?_; rintro e w7 ⟨A9, n9, c9, rfl, hb7, hr7⟩; have HA7 := Lib.hid (HZA.out.next hb7); have HR7 := Lib.hid hr7; have HN7 := Lib.hid (HNZ.out.below hb7 HNZ.out.lt); obtain ⟨f1, f2, f3, f4, f5⟩ := blk5 HN7.out; obtain ⟨z1, z2, z3, z4, z5⟩ := frz5 HN7.out; clear hb7 hr7)
          | (go_at_call 14; refine (rput_lit q A7 C n7 c7 m dd xs s lo hi wt NN EE be wr.drew HF (Lib.hid HI7.out) (Lib.hid HX.out) HM HPW).mono ?_; rintro e w7 ⟨A9, n9, c9, rfl, hb7, hr7⟩; have HA7 := Lib.hid (HZ.out.drew.next hb7); have HR7 := Lib.hid hr7; clear hb7 hr7))
        all_goals
          go_wp2_with fail
          go_meet
          first
          | exact ⟨_, A9, n9, c9, rfl, rfl, Lib.hid ⟨HA7.out.next ((Below.refl w7.heap.size w7).alloc (Nat.le_refl _) _), Blk.new w7 _ _, HR7.out.alloc _, HA7.out.lt6⟩⟩
          | exact ⟨_, A9, n9, c9, rfl, rfl, Lib.hid ⟨HA7.out.put HN7.out HZ.out.lt6 _ _ _ _ _, ((((HN7.out.set_ 0 _).set_ 1 _).set_ 2 _).set_ 3 _).set_ 4 _, rd_five HR7.out HN7.out _ _ _ _ _, HZ.out.lt6⟩⟩
      case rest =>
        obtain ⟨X, A9, n9, c9, rfl, rfl, H⟩ := hcut
        clear x2 HB7 HI7 HX HM
        obtain ⟨y1, y2, y3, y4⟩ := blk2 H.out.1.res
        rcases putWhat_cases HPW.out with ⟨hok, hc, rfl, rfl, rfl, rfl, rfl, rfl⟩ | ⟨hok, hc, rfl⟩ | ⟨hok, rfl⟩
        · have HOK := Lib.hid hok
          have HC := Lib.hid hc
          clear hok hc HPW y1 y2 y3 y4
          obtain ⟨A8, n8, c8, hB8, -⟩ := H.out.1.box
          rw [← HQ.out] at hB8
          obtain ⟨f1, f2, f3, f4, f5⟩ := blk5 H.out.2.1
          obtain ⟨z1, z2, z3, z4, z5⟩ := frz5 hB8
          obtain ⟨t1, t2, t3, t4, t5⟩ := blk5 hB8
          have hX : ¬ X = b6 := by have := H.out.2.2.2; omega
          clear hB8
          go_wp2_with fail
          go_roundw
          case rel =>
            refine ⟨k + 1, by go_num, by omega, Lib.hid ?_⟩
            have hq := HQ.out
            subst hq
            exact H.out.1.step HG1.out HG2.out HOK.out HC.out H.out.2.2.1
          case measure => simp [intOf]; omega
        · have HE := Lib.hid (show allErr e0 ps = 2 by rw [HZ.out.err, HG1.out, ← HQ.out, allErr_long hok hc])
          clear hok hc HPW
          go_wp2_with fail
          exact bodyPost_ret (v := .tuple #[zeroB, .int .i64 2]) (by simp [results, Try.results27, go_sem, zeroB, y1, y2]) rfl (.inl ⟨by rw [HE.out]; decide, by rw [HE.out]; exact ⟨none, 0, 0, rfl, (H.out.1.blw.setCell HBR.out _).setCell HBR.out _, Rd.none_⟩⟩)
        · have HE := Lib.hid (show allErr e0 ps = 1 by rw [HZ.out.err, HG1.out, allErr_no hok])
          clear hok HPW
          go_wp2_with fail
          exact bodyPost_ret (v := .tuple #[zeroB, .int .i64 1]) (by simp [results, Try.results27, go_sem, zeroB, y1, y2]) rfl (.inl ⟨by rw [HE.out]; decide, by rw [HE.out]; exact ⟨none, 0, 0, rfl, (H.out.1.blw.setCell HBR.out _).setCell HBR.out _, Rd.none_⟩⟩)
    · obtain rfl : k = n := by omega
      have hpl : ps.length = k := by rw [HPS.out]; unfold prs; rw [List.length_zip, List.length_map, hs.out.1, ht.out.1]; omega
      obtain ⟨q, hq⟩ : ∃ q, q = stE e0 ps := ⟨_, rfl⟩
      obtain ⟨A7, n7, c7, hB7, hI7⟩ := HZ.out.box
      have q2 := HZ.out.fine
      have q3 := HZ.out.err
      rw [List.take_of_length_le (by omega), ← hq] at hB7 hI7 q2 q3
      rw [List.drop_of_length_le (by omega)] at q3
      have Q3 := Lib.hid (show allErr e0 ps = 0 from q3)
      have HQ := Lib.hid hq
      have HR := Lib.hid HZ.out.res
      have HBW := Lib.hid HZ.out.blw
      obtain ⟨k1, k2, k3⟩ := okE_fine q2
      obtain ⟨NE, EE, be, hp⟩ : ∃ NE EE be, pWhat (endBits q) = (NE, EE, be) := ⟨_, _, _, rfl⟩
      have HP := Lib.hid hp
      obtain ⟨y1, y2, y3, y4, y5⟩ := blk5 hB7
      have hcon := rend_ok q.low q.high q.wait A7 n7 c7 _ (pack q.out) q.out NE EE be wr (by omega) k3 q2.2.2.2 (Lib.hid hI7.rd) (Lib.hid k1) (Lib.hid hI7) (Lib.hid hp)
      unfold encV at hcon
      have HCON := Lib.hid hcon
      clear q2 q3 hq hpl HZ hB7 hI7 k1 k2 k3 hp hcon
      go_wp2_with fail
      refine HCON.out.mono ?_
      clear HCON
      rintro e w5 ⟨A5, n5, c5, rfl, hb5, hr5⟩
      have HK5 := Lib.hid (HR.out.below hb5 HR.out.lt)
      have HB5 := Lib.hid (HBW.out.trans (hb5.mono HBW.out.size))
      have HR5 := Lib.hid hr5
      clear hb5 hr5 y1 y2 y3 y4 y5
      obtain ⟨y1, y2, y3, y4⟩ := blk2 HK5.out
      go_wp2
      refine bodyPost_ret (v := .tuple #[.agg #[.slice A5 n5 c5, .int .i64 NE], .int .i64 EE]) (by simp [results, Try.results27, go_sem, y1, y2]) rfl (.inr ⟨Q3.out, NE, EE, be, ?_, A5, n5, c5, rfl, (HB5.out.setCell HBR.out _).setCell HBR.out _, ?_⟩)
      · rw [← HQ.out]; exact HP.out
      · have h0 := HR5.out.setCell (p := ⟨b4, 0, none⟩) (.slice A5 n5 c5) (fun x => by rw [HK5.out.cell 0]; simp [byteV])
        exact h0.setCell (p := ⟨b4, 1, none⟩) (.int .i64 NE) (fun x => by rw [(HK5.out.set_ 0 (.slice A5 n5 c5)).cell 1]; simp [byteV])
end Go.Proofs.Ytgelgbfnioagbaa.Cd
