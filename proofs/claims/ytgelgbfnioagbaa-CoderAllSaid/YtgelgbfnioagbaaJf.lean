/-
  Own texts, laid together: Jf.
-/
import Derived.Test.YtgelgbfnioagbaaIf
import Derived.Test.YtgelgbfnioagbaaJc
import Derived.Test.YtgelgbfnioagbaaGs
import Derived.Maps.AppendAt
/- Jf -/
namespace Go.Proofs.Ytgelgbfnioagbaa.Cd
open Go.RowKit
/-- how many steps widening takes -/
theorem widD_at (m : Nat) {l : List Bool} : ∀ {d : De}, Ok d.low d.high → d.low ≤ d.code → d.code ≤ d.high → ∃ k, (widD m l d).at_ = d.at_ + k ∧ (widD m l d).high - (widD m l d).low + 1 = (d.high - d.low + 1) * 2 ^ k := by
  induction m with
  | zero => intro d _ _ _; exact ⟨0, rfl, by simp [widD]⟩
  | succ m ih =>
    intro d hok h1 h2
    unfold widD
    by_cases hk : kind d.low d.high = 3
    · rw [if_pos hk]; exact ⟨0, rfl, by simp⟩
    · rw [if_neg hk]
      obtain ⟨_, b1, b2, b3, b4, b5⟩ := stepD_facts (l := l) hok hk h1 h2
      obtain ⟨k, e1, e2⟩ := ih (d := stepD l d) ⟨b5, b3⟩ b1 b2
      refine ⟨k + 1, ?_, ?_⟩
      · rw [e1]; show d.at_ + 1 + k = _; omega
      · rw [e2, b4, Nat.pow_succ, Nat.mul_comm 2 (d.high - d.low + 1), Nat.mul_assoc, Nat.mul_comm 2]
theorem nxE_at {l : List Bool} {d : De} {xs : List Int} (h : FineD d) (ho : Fq.okF xs = true) : d.at_ ≤ (nxE l d xs).at_ ∧ (nxE l d xs).at_ ≤ d.at_ + 16 := by
  obtain ⟨_, h1, h2, h3, _⟩ := next_sym h ho
  have hS := (symP_of h1).2.2.2
  obtain ⟨n1, n2, n3, _⟩ := narD_in h hS h2 h3
  obtain ⟨k, e1, e2⟩ := widD_at 40 (l := l) n3 n1 n2
  have hf := (nxE_fine (l := l) h ho).1
  obtain ⟨_, w2⟩ := fineD_wid hf
  have e1' : (nxE l d xs).at_ = d.at_ + k := e1
  have e2' : (nxE l d xs).high - (nxE l d xs).low + 1 = ((narD d (spA (nxQ d xs)) (spB (nxQ d xs)) (spT xs)).high - (narD d (spA (nxQ d xs)) (spB (nxQ d xs)) (spT xs)).low + 1) * 2 ^ k := e2
  obtain ⟨w1, _⟩ := fineD_wid h
  obtain ⟨p1, p2, p3⟩ := nar_parts hS (W := d.high - d.low + 1) (by omega)
  have hwid : (narD d (spA (nxQ d xs)) (spB (nxQ d xs)) (spT xs)).high - (narD d (spA (nxQ d xs)) (spB (nxQ d xs)) (spT xs)).low + 1 = (d.high - d.low + 1) * spB (nxQ d xs) / spT xs - (d.high - d.low + 1) * spA (nxQ d xs) / spT xs := by
    show d.low + (d.high - d.low + 1) * spB (nxQ d xs) / spT xs - 1 - (d.low + (d.high - d.low + 1) * spA (nxQ d xs) / spT xs) + 1 = _
    have p1' : (d.high - d.low + 1) * spA (nxQ d xs) / spT xs < (d.high - d.low + 1) * spB (nxQ d xs) / spT xs := p1
    omega
  have hlow : 65536 ≤ (d.high - d.low + 1) * (spB (nxQ d xs) - spA (nxQ d xs)) / spT xs := by
    have hT : 0 < spT xs := (okF_tot ho).1
    rw [Nat.le_div_iff_mul_le hT]
    have t2 := (okF_tot ho).2.1
    have ab : spA (nxQ d xs) < spB (nxQ d xs) := hS.1
    have h5 : (d.high - d.low + 1) * 1 ≤ (d.high - d.low + 1) * (spB (nxQ d xs) - spA (nxQ d xs)) := Nat.mul_le_mul_left _ (by omega)
    have h6 : 65536 * spT xs ≤ 65536 * 16384 := Nat.mul_le_mul_left _ t2
    omega
  have p3' : (d.high - d.low + 1) * (spB (nxQ d xs) - spA (nxQ d xs)) / spT xs ≤ (d.high - d.low + 1) * spB (nxQ d xs) / spT xs - (d.high - d.low + 1) * spA (nxQ d xs) / spT xs := p3
  have h7 : 65536 * 2 ^ k ≤ 4294967296 := by
    rw [e2', hwid] at w2
    exact Nat.le_trans (Nat.mul_le_mul_right _ (by omega)) w2
  have h8 : 2 ^ k ≤ 2 ^ 16 := by
    have : (2 : Nat) ^ 16 = 65536 := by decide
    omega
  have h9 : k ≤ 16 := (Nat.pow_le_pow_iff_right (by omega)).1 h8
  omega
/-- what the loop of Back knows -/
structure BjR (w : World) (B b2 b6 : Nat) (l : List Bool) (N k : Nat) (fs : List (List Int)) (v8 : Value) (u : World) : Prop where
  box : ∃ A7 n7 c7, Blk u b6 45 #[.int .u32 ((stD l (d0 l) (fs.take k)).low : Int), .int .u32 ((stD l (d0 l) (fs.take k)).high : Int), .int .u32 ((stD l (d0 l) (fs.take k)).code : Int), .slice A7 n7 c7, .int .i64 (N : Int), .int .i64 ((stD l (d0 l) (fs.take k)).at_ : Int)] ∧ Rd u A7 n7 (pack l)
  row : u.ownsRow B 3 1 v8 k (((symL l (d0 l) fs).take k).map fun x => Value.int .i64 x)
  fine : FineD (stD l (d0 l) (fs.take k))
  far : (stD l (d0 l) (fs.take k)).at_ ≤ N + 48
  near : 32 ≤ (stD l (d0 l) (fs.take k)).at_
  err : backErr l (d0 l) fs = backErr l (stD l (d0 l) (fs.take k)) (fs.drop k)
  lt6 : b6 < B
  h6 : w.heap.size ≤ b6
  hBu : B ≤ u.heap.size
  blw : Below w.heap.size w u
theorem row_belowC {w w' : World} {b n : Nat} {v : Value} {xs : List Value} (h : w.ownsRow b 3 1 v n xs) (hb : Below w.heap.size w w') : w'.ownsRow b 3 1 v n xs :=
  World.ownsRow.kept h (only_of_below hb none) (by cases hv : v.ownBlock with | none => exact .inl rfl | some k => exact .inr (by simp))
theorem row_blkC {w : World} {b1 g n1 : Nat} {e2 : TypeId} {v1 : Value} {x1 : List Value} {cs : Array Value} (h1 : w.ownsRow b1 3 1 v1 n1 x1) (h2 : Blk w g e2 cs) (he : 3 ≠ e2) : v1.ownBlock ≠ some g := by
  rcases h1.2 with ⟨rfl, _⟩ | ⟨g', cap, cur, rfl, _, hh, _⟩
  · simp [Value.ownBlock]
  · intro e
    simp only [Value.ownBlock, Option.some.injEq] at e
    subst e
    exact Blk.ne_ (t := 3) (t' := e2) hh h2 he rfl
section
variable {w : World} {B b2 b6 : Nat} {l : List Bool} {N k : Nat} {fs : List (List Int)} {v8 v' : Value} {u u' : World}
theorem BjR.next (h : BjR w B b2 b6 l N k fs v8 u) (hb : Below u.heap.size u u') : BjR w B b2 b6 l N k fs v8 u' := by
  obtain ⟨A7, n7, c7, h1, h2⟩ := h.box
  exact ⟨⟨A7, n7, c7, h1.below hb h1.lt, h2.below hb⟩, row_belowC h.row hb, h.fine, h.far, h.near, h.err, h.lt6, h.h6, Nat.le_trans h.hBu hb.size, h.blw.trans (hb.mono h.blw.size)⟩
/-- the new state laid into its box, and the symbol behind the others -/
theorem BjR.step {xs : List Int} {A9 : Option Addr} {n9 c9 : Nat} {o o2 : Obj} (h : BjR w B b2 b6 l N k fs v8 u) (hN : N = l.length) (hx : fs[k]? = some xs) (hd : fs.drop k = xs :: fs.drop (k + 1)) (ht : fs.take (k + 1) = fs.take k ++ [xs]) (ho : Fq.okF xs = true) (ha : (stD l (d0 l) (fs.take k)).at_ ≤ N + 32) (hr : Rd u A9 n9 (pack l)) (hsep : ∀ ad, A9 = some ad → 0 < n9 → v8.ownBlock ≠ some ad.block)
    (hg : ((((((((u.setCell ⟨b6, 0, none⟩ (.int .u32 ((nxE l (stD l (d0 l) (fs.take k)) xs).low : Int))).setCell ⟨b6, 1, none⟩ (.int .u32 ((nxE l (stD l (d0 l) (fs.take k)) xs).high : Int))).setCell ⟨b6, 2, none⟩ (.int .u32 ((nxE l (stD l (d0 l) (fs.take k)) xs).code : Int))).setCell ⟨b6, 3, none⟩ (.slice A9 n9 c9)).setCell ⟨b6, 4, none⟩ (.int .i64 (N : Int))).setCell ⟨b6, 5, none⟩ (.int .i64 ((nxE l (stD l (d0 l) (fs.take k)) xs).at_ : Int))).alloc o).alloc o2).grownBy u' v8.ownBlock)
    (hown : u'.ownsRow B 3 1 v' (k + 1) (((symL l (d0 l) fs).take k).map (fun x => Value.int .i64 x) ++ [.int .i64 ((nxK (stD l (d0 l) (fs.take k)) xs : Nat) : Int)])) : BjR w B b2 b6 l N (k + 1) fs v' u' := by
  obtain ⟨A7, n7, c7, h1, h2⟩ := h.box
  obtain ⟨f1, f2⟩ := nxE_fine (l := l) h.fine ho
  obtain ⟨f3, f4⟩ := nxE_at (l := l) h.fine ho
  have hb6 := (((((h1.set_ 0 (.int .u32 ((nxE l (stD l (d0 l) (fs.take k)) xs).low : Int))).set_ 1 (.int .u32 ((nxE l (stD l (d0 l) (fs.take k)) xs).high : Int))).set_ 2 (.int .u32 ((nxE l (stD l (d0 l) (fs.take k)) xs).code : Int))).set_ 3 (.slice A9 n9 c9)).set_ 4 (.int .i64 (N : Int))).set_ 5 (.int .i64 ((nxE l (stD l (d0 l) (fs.take k)) xs).at_ : Int))
  have hr6 := rd_six hr h1 (.int .u32 ((nxE l (stD l (d0 l) (fs.take k)) xs).low : Int)) (.int .u32 ((nxE l (stD l (d0 l) (fs.take k)) xs).high : Int)) (.int .u32 ((nxE l (stD l (d0 l) (fs.take k)) xs).code : Int)) (.slice A9 n9 c9) (.int .i64 (N : Int)) (.int .i64 ((nxE l (stD l (d0 l) (fs.take k)) xs).at_ : Int))
  have hne : v8.ownBlock ≠ some b6 := fun e => by have := (h.row.lt b6 e).1; have := h.lt6; omega
  refine ⟨?_, ?_, ?_, ?_, ?_, ?_, h.lt6, h.h6, ?_, ?_⟩
  · rw [ht, stD_snoc]
    refine ⟨A9, n9, c9, ((Blk.alloc hb6 o).alloc o2).row hg hne, ?_⟩
    have hr7 := (hr6.alloc o).alloc o2
    refine ⟨hr7.1, hr7.2.1, fun hn => ?_⟩
    obtain ⟨ad, e, hc⟩ := hr7.2.2 hn
    refine ⟨ad, e, fun j x hx => ?_⟩
    refine hg.cell (hc j x hx) ?_
    rw [block_of_add]
    exact fun e2 => hsep ad e hn e2.symm
  · rw [symL_take l (d0 l) fs k xs hx, List.map_append]; exact hown
  · rw [ht, stD_snoc]; exact f1
  · rw [ht, stD_snoc]; omega
  · rw [ht, stD_snoc]; have := h.near; omega
  · rw [h.err, hd, backErr_ok ho (by omega), ht, stD_snoc]
  · have h9 := hg.size; have := h.hBu; simp at h9; omega
  · refine Below.grown (((below6 h.blw h.h6 _ _ _ _ _ _).alloc (below6 h.blw h.h6 _ _ _ _ _ _).size o).alloc ((below6 h.blw h.h6 _ _ _ _ _ _).alloc (below6 h.blw h.h6 _ _ _ _ _ _).size o).size o2) hg ?_ (fun j hj => ?_)
    · have := h.blw.size; simp; omega
    · have := (h.row.lt j hj).1; have := h.lt6; have := h.h6; omega
theorem BjR.rowS (h : BjR w B b2 b6 l N k fs v8 u) (x0 x1 x2 x3 x4 x5 : Value) (o o2 : Obj) : ((((((((u.setCell ⟨b6, 0, none⟩ x0).setCell ⟨b6, 1, none⟩ x1).setCell ⟨b6, 2, none⟩ x2).setCell ⟨b6, 3, none⟩ x3).setCell ⟨b6, 4, none⟩ x4).setCell ⟨b6, 5, none⟩ x5).alloc o).alloc o2).ownsRow B 3 1 v8 k (((symL l (d0 l) fs).take k).map fun x => Value.int .i64 x) :=
  World.ownsRow.alloc (World.ownsRow.alloc (ownsRow_setCell_below (ownsRow_setCell_below (ownsRow_setCell_below (ownsRow_setCell_below (ownsRow_setCell_below (ownsRow_setCell_below h.row (a := ⟨b6, 0, none⟩) h.lt6 x0) (a := ⟨b6, 1, none⟩) h.lt6 x1) (a := ⟨b6, 2, none⟩) h.lt6 x2) (a := ⟨b6, 3, none⟩) h.lt6 x3) (a := ⟨b6, 4, none⟩) h.lt6 x4) (a := ⟨b6, 5, none⟩) h.lt6 x5) o) o2
theorem cell_one_newAt (w : World) (x : Value) (t : TypeId) {g : Nat} (hg : g = w.heap.size) : ∀ j u, [x][j]? = some u → (w.alloc (.cells #[x] t)).cell? ((⟨g, 0, none⟩ : Addr).add j) = some u := by
  subst hg; exact cell_one_new w x t
theorem BjR.rd (h : BjR w B b2 b6 l N k fs v8 u) (hk : k = fs.length) : ∃ A c, v8 = .slice A k c ∧ Fq.RdI u A k (symL l (d0 l) fs) := by
  have hl : (symL l (d0 l) fs).length = k := by rw [symL_length, hk]
  rcases h.row.2 with ⟨rfl, h0⟩ | ⟨g, cap, cur, rfl, hb, _⟩
  · refine ⟨none, 0, by rw [h0], hl, fun hn => absurd hn (by omega)⟩
  · refine ⟨_, cap, rfl, hl, fun _ => ⟨_, rfl, fun j x hx => ?_⟩⟩
    refine World.ownsRow.cells h.row (g := g) rfl j _ ?_
    rw [List.take_of_length_le (by omega), List.getElem?_map, hx]
    rfl
end
/-- what the document's Back answers -/
def BackJ (w : World) (n : Nat) (l : List Bool) (fs : List (List Int)) (e : Ending) (w' : World) : Prop :=
  (backErr l (d0 l) fs = 0 ∧ ∃ A c, e = .returned (.tuple #[.slice A n c, .int .i64 0]) ∧ Fq.RdI w' A n (symL l (d0 l) fs) ∧ Below w.heap.size w w') ∨ (¬ backErr l (d0 l) fs = 0 ∧ BackNo w (backErr l (d0 l) fs) e w')
theorem rback_no (A : Option Addr) (n c : Nat) (N : Int) (bs : List Nat) (L : Option Addr) (m d : Nat) (w : World) (hr : Hid (Rd w A n bs)) (hok : Hid (okB bs N = false)) :
    Calls Try.prog 29 #[.agg #[.slice A n c, .int .i64 N], .slice L m d] w (BackNo w 1) := by
  have HW := Lib.hid ((Below.refl w.heap.size w).alloc (Nat.le_refl _) (.cells #[.slice A n c, .int .i64 N] 25))
  go_enter Try.func29, Try.ntmps29
  go_wp2_with fail
  generalize w.alloc (.cells #[.slice A n c, .int .i64 N] 25) = w0 at HW ⊢
  refine (rstart_no A n c N bs w0 (Lib.hid (hr.out.below HW.out)) hok).mono ?_
  rintro e w1 ⟨A1, n1, c1, rfl, hb1, -⟩
  have HW1 := Lib.hid (HW.out.trans (hb1.mono HW.out.size))
  clear hb1
  unfold decV
  go_wp2
  go_ret2
  exact ⟨rfl, HW1.out.alloc HW1.out.size _⟩
set_option maxRecDepth 100000 in
set_option maxHeartbeats 8000000 in
theorem rback_walk (A : Option Addr) (n8 c N : Nat) (l : List Bool) (L : Option Addr) (m d : Nat) (ts : List Tb) (w : World) (hI : Hid (IsB w (.agg #[.slice A n8 c, .int .i64 (N : Int)]) l)) (hm : m ≤ 1000) (ht : Hid (RdT w L m ts)) :
    Calls Try.prog 29 #[.agg #[.slice A n8 c, .int .i64 (N : Int)], .slice L m d] w (BackJ w m l (tbs ts)) := by
  obtain ⟨i0, hi0, hz0, hz1, hz2⟩ := info_parts Fq.info_int
  obtain ⟨fs, hfs⟩ : ∃ fs, fs = tbs ts := ⟨_, rfl⟩
  rw [← hfs]
  have HFS := Lib.hid hfs
  clear hfs
  obtain ⟨-, hN, hr, hl⟩ := isB_parts hI.out
  have hN2 : N ≤ 65536 := by omega
  have HNL := Lib.hid (show N = l.length by omega)
  have HLL := Lib.hid hl
  clear hN hl hr
  have HW := Lib.hid ((Below.refl w.heap.size w).alloc (Nat.le_refl _) (.cells #[.slice A n8 c, .int .i64 (N : Int)] 25))
  go_enter Try.func29, Try.ntmps29
  go_wp2_with fail
  generalize w.alloc (.cells #[.slice A n8 c, .int .i64 (N : Int)] 25) = w0 at HW ⊢
  refine (rstart_ok A n8 c (N : Int) l w0 (Lib.hid (hI.out.below HW.out))).mono ?_
  rintro e w1 ⟨A1, n1, c1, rfl, hb1, hr1⟩
  obtain ⟨V, hV⟩ : ∃ V, V = val l 32 := ⟨_, rfl⟩
  rw [← hV]
  have HW1 := Lib.hid (HW.out.trans (hb1.mono HW.out.size))
  have HR0 := Lib.hid (show BjR w (w1.heap.size + 1) 0 w1.heap.size l N 0 fs (.slice none 0 0) (w1.alloc (.cells #[.int .u32 0, .int .u32 4294967295, .int .u32 (V : Int), .slice A1 n1 c1, .int .i64 (N : Int), .int .i64 32] 45)) from by
    refine ⟨⟨A1, n1, c1, ?_, hr1.alloc _⟩, World.ownsRow_nil _ _ _ _, fineD0 l, by show (32 : Nat) ≤ N + 48; omega, by show (32 : Nat) ≤ 32; omega, rfl, by omega, HW1.out.size, by simp, HW1.out.alloc HW1.out.size _⟩
    rw [hV]
    exact Blk.new w1 _ _)
  clear hb1 hr1 HW hV
  unfold decV
  go_wp2
  generalize w1.alloc (.cells #[.int .u32 0, .int .u32 4294967295, .int .u32 (V : Int), .slice A1 n1 c1, .int .i64 (N : Int), .int .i64 32] 45) = w2 at HR0 ⊢
  generalize w1.heap.size = b6 at HR0 ⊢
  obtain ⟨B, hB⟩ : ∃ B, B = b6 + 1 := ⟨_, rfl⟩
  rw [← hB] at HR0
  clear hB HW1
  go_loopw [8, 24] (fun v8 v wr => ∃ k : Nat, v = .int .i64 (k : Int) ∧ k ≤ m ∧ Hid (BjR w B 0 b6 l N k fs v8 wr)) (fun _ v _ => m - (intOf v).toNat)
  case atStart => exact ⟨0, rfl, by omega, HR0⟩
  case round =>
    obtain ⟨k, rfl, hk, HZ⟩ := hrel
    clear HR0
    by_cases hlt : k < m
    · obtain ⟨ad2, t, rfl, hget, had2, x2, hx, hmm⟩ := (ht.out.below HZ.out.blw).at_ hlt
      obtain ⟨g0, g1, g2⟩ := tbs_get hget
      rw [← HFS.out] at g0 g1 g2
      have HG0 := Lib.hid g0
      have HG1 := Lib.hid g1
      have HG2 := Lib.hid g2
      have HM := Lib.hid hmm
      obtain ⟨C, mm, dd, xs⟩ := t
      dsimp only at x2 hx HM HG0 HG1 HG2
      have HZA := Lib.hid (HZ.out.next ((Below.refl wr.heap.size wr).alloc (Nat.le_refl _) (.cells #[.slice C mm dd] 30)))
      have HXA := Lib.hid (hx.alloc (.cells #[.slice C mm dd] 30))
      clear g0 g1 g2 hget hx hmm
      obtain ⟨D, hD⟩ : ∃ D, D = stD l (d0 l) (fs.take k) := ⟨_, rfl⟩
      obtain ⟨A7, n7, c7, hB7, hr7⟩ := HZ.out.box
      rw [← hD] at hB7
      obtain ⟨y1, y2, y3, y4, y5, y6⟩ := blk6 hB7
      have l6 := hB7.lt
      have HFA := Lib.hid (show FineD D by rw [hD]; exact HZ.out.fine)
      have hfar : D.at_ ≤ N + 48 := by rw [hD]; exact HZ.out.far
      have hnear : 32 ≤ D.at_ := by rw [hD]; exact HZ.out.near
      have HDD := Lib.hid hD
      have HIA := Lib.hid (mk_isB HLL.out c7 (hr7.alloc (.cells #[.slice C mm dd] 30)))
      rw [← HNL.out] at HIA
      clear hD hB7 hr7
      go_wp2_with fail
      clear x2 y1 y2 y3 y4 y5 y6
      have HWA := Lib.hid (show (wr.alloc (.cells #[.slice C mm dd] 30)).heap.size = wr.heap.size + 1 by simp)
      have HRW := Lib.hid HZ.out.row
      generalize wr.alloc (.cells #[.slice C mm dd] 30) = wa at HZA HXA HIA HWA ⊢
      have o1 := HFA.out.1.2
      have o2 := HFA.out.2.2
      cases ho : Fq.okF xs with
      | false =>
        have HO := Lib.hid ho
        clear ho
        have hcon := rnext_arg D.low D.high D.code A7 n7 c7 (N : Int) (D.at_ : Int) (pack l) C mm dd xs wa (by omega) (by omega) (by omega) (Lib.hid HIA.out.rd) HXA HM (Lib.hid (.inr ⟨by rw [HNL.out]; exact okD_mk HFA.out HLL.out hnear (by omega), HO.out⟩))
        unfold decV at hcon
        refine hcon.mono ?_
        clear hcon
        rintro e w5 ⟨A9, n9, c9, rfl, hb5, -⟩
        have HE := Lib.hid (show backErr l (d0 l) fs = 1 by rw [HZA.out.err, HG1.out, backErr_no HO.out])
        have HB5 := Lib.hid (HZA.out.blw.trans (hb5.mono HZA.out.blw.size))
        clear hb5
        unfold decV
        go_wp2
        go_ret2
        exact .inr ⟨by rw [HE.out]; decide, by rw [HE.out]; rfl, HB5.out.alloc HB5.out.size _⟩
      | true =>
        have HO := Lib.hid ho
        clear ho
        by_cases hsh : N + 32 < D.at_
        · have hcon := rnext_short D A7 n7 c7 N l C mm dd xs wa HIA HFA hnear (by omega) hsh HXA HM HO
          unfold decV at hcon
          refine hcon.mono ?_
          clear hcon
          rintro e w5 ⟨A9, n9, c9, rfl, hb5, -⟩
          have HE := Lib.hid (show backErr l (d0 l) fs = 20 by rw [HZA.out.err, HG1.out, ← HDD.out, backErr_short HO.out (by have := HNL.out; omega)])
          have HB5 := Lib.hid (HZA.out.blw.trans (hb5.mono HZA.out.blw.size))
          clear hb5
          unfold decV
          go_wp2
          go_ret2
          exact .inr ⟨by rw [HE.out]; decide, by rw [HE.out]; rfl, HB5.out.alloc HB5.out.size _⟩
        · obtain ⟨fin, hfin⟩ : ∃ fin, nxE l D xs = fin := ⟨_, rfl⟩
          have HFIN := Lib.hid hfin
          obtain ⟨K, hK⟩ : ∃ K, K = nxK D xs := ⟨_, rfl⟩
          have HKK := Lib.hid hK
          have hcon := rnext_okF D A7 n7 c7 N l C mm dd xs fin wa HIA HFA hnear (by omega) (by omega) HXA HM HO (Lib.hid hfin)
          unfold decV at hcon
          rw [← hK] at hcon
          refine hcon.mono ?_
          clear hcon hfin hK
          rintro e w5 ⟨A9, n9, c9, rfl, hb5, hr5, hfr⟩
          have HZ5 := Lib.hid (HZA.out.next hb5)
          have HR5 := Lib.hid hr5
          have HSEP := Lib.hid (show ∀ ad, A9 = some ad → 0 < n9 → u8.ownBlock ≠ some ad.block from fun ad h1 h2 e => by
            have := hfr ad h1 h2
            have := (HRW.out.lt _ e).2
            have := HWA.out
            omega)
          have HSH := Lib.hid (show D.at_ ≤ N + 32 by omega)
          obtain ⟨A8, m8, c8, hB8, -⟩ := HZ5.out.box
          rw [← HDD.out] at hB8
          obtain ⟨y1, y2, y3, y4, y5, y6⟩ := blk6 hB8
          have z1 := hB8.frozen 0
          have z2 := hB8.frozen 1
          have z3 := hB8.frozen 2
          have z4 := hB8.frozen 3
          have z5 := hB8.frozen 4
          have z6 := hB8.frozen 5
          have l5 := hB8.lt
          clear hb5 hr5 hfr hB8 HIA HXA HM HWA l6 had2
          unfold decV
          go_wp2_with (at_builtin; refine wpList_append_own_at _ rfl (.tmp 39) (.tmp 41) 28 rfl B 3 i0 _ 1 8 Try.underlying28 hi0 hz0 hz1 hz2 rfl (by omega) _ k _ rfl (HZ5.out.rowS _ _ _ _ _ _ _ _) ⟨w5.heap.size + 1, 0, none⟩ 1 1 [.int .i64 (K : Int)] rfl rfl (cell_one_newAt _ _ _ (by simp)) (by intro u hu; simp at hu; subst hu; rfl) (by unfold maxLen; omega) (by omega) (by have := HZ5.out.hBu; simp; omega) ?_; intro v1 w6 hown hg _ _; have HOW := Lib.hid hown; have HG6 := Lib.hid hg; clear hown hg y1 y2 y3 y4 y5 y6 z1 z2 z3 z4 z5 z6)
          go_roundw
          case rel =>
            refine ⟨k + 1, by go_num, by omega, Lib.hid ?_⟩
            have e1 := HDD.out
            have e2 := HFIN.out
            have e3 := HKK.out
            subst e1
            subst e2
            subst e3
            exact HZ5.out.step HNL.out HG0.out HG1.out HG2.out HO.out HSH.out HR5.out HSEP.out HG6.out HOW.out
          case measure => simp [intOf]; omega
    · obtain rfl : k = m := by omega
      have hfl : fs.length = k := by rw [HFS.out]; unfold tbs; rw [List.length_map]; exact ht.out.1
      have he := HZ.out.err
      rw [List.drop_of_length_le (by omega)] at he
      have HE := Lib.hid (show backErr l (d0 l) fs = 0 from he)
      obtain ⟨A6, c6, rfl, h6⟩ := HZ.out.rd hfl.symm
      have H6 := Lib.hid h6
      clear he hfl h6
      go_wp2
      go_ret2
      exact .inl ⟨HE.out, A6, c6, rfl, H6.out, HZ.out.blw⟩
end Go.Proofs.Ytgelgbfnioagbaa.Cd
