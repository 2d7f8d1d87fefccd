/-
  What Put answers.
-/
import Derived.Test.YtffapinabidkiaaUQ
set_option linter.unusedSimpArgs false
set_option linter.unusedVariables false
/- UR -/
namespace Go.Proofs.Ytffapinabidkiaa.Lp
open Go.RowKit Go.Proofs.Ytffapinabidkiaa.Fq
abbrev zeroJ : Value := jtV false 0 0 0 none 0 0
theorem built_jt : Try.prog.built 24 [] = some #[.bool false, .int .i64 0, .int .i64 0, .int .i64 0, .slice none 0 0] := by kernel_rfl
theorem wv_zeroJ {ops : Array Oper} {rest : List Oper} {o : Oper} {a : Act} {w : World} {Q : Exit → Act → World → Prop} (hgd : Region.wanted o (yielded ops a.tmps) = true) (ho : o.op = .build 24 #[])
    (h : wpList Try.prog ops Q rest (a.put o.dst zeroJ) w) : wpList Try.prog ops Q (o :: rest) a w :=
  wl_step hgd fun K hK => by
    have := hK _ _ h
    have hf : Try.prog.built 24 ((#[] : Array (Nat × Operand)).map fun (i, x) => (i, a.eval x)).toList = some #[.bool false, .int .i64 0, .int .i64 0, .int .i64 0, .slice none 0 0] := by simpa using built_jt
    refine wp_build 24 #[] ho (by rw [hf]; rfl) ?_
    rw [hf]
    exact this
theorem MV.join {w0 w1 w w' : World} {m g g' : Nat} {T T' : TypeId} {A C A' C' : Array Value} {R : List Ent} (h : MV w0 w1 ((m, T, A) :: (g, T', C) :: R) w) (hc : Ch w w' [m, g]) (h2 : MV w0 w' [(m, T, A'), (g', T', C')] w') (hg : g' = g ∨ w.heap.size ≤ g') : MV w0 w' ((m, T, A') :: (g', T', C') :: R) w' := by
  have hp := List.pairwise_cons.1 h.2.2.2.1
  have hq := List.pairwise_cons.1 hp.2
  have hg' : ∀ e ∈ R, g' ≠ e.1 := fun e he => by
    rcases hg with rfl | hg
    · exact hq.1 e he
    · have := (h.2.1 e (.tail _ (.tail _ he))).lt
      omega
  refine ⟨h2.1, fun e he => ?_, fun e he => ?_, ?_, MF.refl _ _⟩
  · rcases List.mem_cons.1 he with rfl | he
    · exact h2.get (.head _)
    · rcases List.mem_cons.1 he with rfl | he
      · exact h2.get (.tail _ (.head _))
      · refine hc.blk (h.2.1 e (.tail _ (.tail _ he))) fun hm => ?_
        simp only [List.mem_cons, List.not_mem_nil, or_false] at hm
        rcases hm with hm | hm
        · exact hp.1 e (.tail _ he) hm.symm
        · exact hq.1 e he hm.symm
  · rcases List.mem_cons.1 he with rfl | he
    · exact h2.2.2.1 _ (.head _)
    · rcases List.mem_cons.1 he with rfl | he
      · exact h2.2.2.1 _ (.tail _ (.head _))
      · exact h.2.2.1 e (.tail _ (.tail _ he))
  · refine .cons (fun e he => ?_) (.cons (fun e he => hg' e he) hq.2)
    rcases List.mem_cons.1 he with rfl | he
    · exact (List.pairwise_cons.1 h2.2.2.2.1).1 _ (.head _)
    · exact hp.1 e (.tail _ he)
theorem MV.add {w0 w1 w w' : World} {L : List Ent} (h : MV w0 w1 L w) (hb : Below w.heap.size w w') {r : Nat} {T : TypeId} {cs : Array Value} (hr : w.heap.size ≤ r) (hB : Blk w' r T cs) : MV w0 w1 ((r, T, cs) :: L) w' := by
  refine ⟨h.1.trans (hb.mono h.1.size), fun e he => ?_, fun e he => ?_, .cons (fun e he => Nat.ne_of_gt (Nat.lt_of_lt_of_le (h.2.1 e he).lt hr)) h.2.2.2.1, Nat.le_trans h.2.2.2.2.1 hb.size, fun b hb' hn => ?_⟩
  · rcases List.mem_cons.1 he with rfl | he
    · exact hB
    · exact (h.2.1 e he).below hb (h.2.1 e he).lt
  · rcases List.mem_cons.1 he with rfl | he
    · exact Nat.le_trans h.1.size hr
    · exact h.2.2.1 e he
  · rw [hb.block b (Nat.lt_of_lt_of_le hb' h.2.2.2.2.1)]
    exact h.2.2.2.2.2 b hb' fun e he => hn e (.tail _ he)
theorem MV.perm {w0 w1 w : World} {L L' : List Ent} (h : MV w0 w1 L w) (hp : L.Perm L') : MV w0 w1 L' w :=
  ⟨h.1, fun e he => h.2.1 e (hp.mem_iff.2 he), fun e he => h.2.2.1 e (hp.mem_iff.2 he), (hp.pairwise_iff (fun h => Ne.symm h)).1 h.2.2.2.1, h.2.2.2.2.1, fun b hb hn => h.2.2.2.2.2 b hb fun e he => hn e (hp.mem_iff.1 he)⟩
theorem OwnL.ch {B : Nat} {w w' : World} {gs cs hs : List Nat} {ls : List Pk} (h : OwnL B w gs ls) (hc : Ch w w' cs) (hs' : ∀ g ∈ cs, g ∈ gs) (hh : ∀ g ∈ hs, g ∈ gs ∨ w.heap.size ≤ g) : OwnL B w' hs ls := ⟨fun x hx => (h.1 x hx).ch hc hs' hh, h.2⟩
theorem OwnL.also {B : Nat} {w : World} {gs hs : List Nat} {ls : List Pk} (h : OwnL B w gs ls) (hh : ∀ g ∈ hs, g ∈ gs ∨ g < B) : OwnL B w hs ls :=
  ⟨fun x hx => by
    obtain ⟨gx, e, h1, h2, h3⟩ := h.1 x hx
    exact ⟨gx, e, h1, fun hm => by rcases hh _ hm with k | k; exact h2 k; omega, h3⟩, h.2⟩
theorem OwnL.add {B : Nat} {w : World} {gs : List Nat} {ls : List Pk} (h : OwnL B w gs ls) {r : Nat} {T : TypeId} {cs : Array Value} (hb : Blk w r T cs) (h0 : ∀ v : Int, cs[0]? ≠ some (.int .u8 v)) : OwnL B w (r :: gs) ls :=
  ⟨fun x hx => by
    obtain ⟨gx, e, h1, h2, h3, h4, h5⟩ := h.1 x hx
    refine ⟨gx, e, h1, fun hm => ?_, h3, h4, h5⟩
    rcases List.mem_cons.1 hm with rfl | hm
    · obtain ⟨ad, e', -, -, hc⟩ := h3.at_ h4
      rw [e] at e'
      injection e' with e'
      subst e'
      rw [add_own, hb.cell] at hc
      exact h0 _ hc
    · exact h2 hm, h.2⟩
theorem icells_no8 (xs : List Int) (v : Int) : (icells xs)[0]? ≠ some (.int .u8 v) := by
  intro h
  cases xs with
  | nil => simp [icells] at h
  | cons a l => simp [icells] at h
theorem OwnL.base {B B' : Nat} {w : World} {gs : List Nat} {ls : List Pk} (h : OwnL B w gs ls) (hB : B' ≤ B) : OwnL B' w gs ls :=
  ⟨fun x hx => by obtain ⟨gx, e, h1, h2⟩ := h.1 x hx; exact ⟨gx, e, Nat.le_trans hB h1, h2⟩, h.2⟩
theorem putsJ_eq {on : Bool} {nx dp dr : Int} {q q' : List Pq} {l : List Pq} (h : q' = (putsJ ⟨on, nx, dp, dr, q⟩ l).q) : putsJ ⟨on, nx, dp, dr, q⟩ l = ⟨on, nx, dp, dr, q'⟩ := by
  obtain ⟨h1, h2, h3, h4⟩ := putsJ_same ⟨on, nx, dp, dr, q⟩ l
  generalize putsJ ⟨on, nx, dp, dr, q⟩ l = j at *
  cases j
  simp only at *
  subst h1 h2 h3 h4 h
  rfl
/-- what became of those that were put, and zeros behind -/
def outsZ (j : Jp) (l : List Pq) (k n : Nat) : List Int := outsJ j (l.take k) ++ List.replicate (n - k) 0
theorem outsZ_length {j : Jp} {l : List Pq} {k n : Nat} (hk : k ≤ n) (hl : l.length = n) : (outsZ j l k n).length = n := by
  unfold outsZ; rw [List.length_append, outsJ_length, List.length_take, List.length_replicate]; omega
theorem outsZ_zero (j : Jp) (l : List Pq) (n : Nat) : outsZ j l 0 n = List.replicate n 0 := rfl
theorem outsZ_all {j : Jp} {l : List Pq} {n : Nat} (hl : l.length = n) : outsZ j l n n = outsJ j l := by
  unfold outsZ; rw [← hl, List.take_length, Nat.sub_self]; simp
theorem take_snocP (l : List Pq) (k : Nat) {x : Pq} (h : l[k]? = some x) : l.take (k + 1) = l.take k ++ [x] := by rw [List.take_add_one, h]; rfl
theorem outsZ_set {j : Jp} {l : List Pq} {k n : Nat} {x : Pq} (hx : l[k]? = some x) (hl : l.length = n) : (outsZ j l k n).set k (putR (putsJ j (l.take k)) x).1 = outsZ j l (k + 1) n := by
  have hk := (List.getElem?_eq_some_iff.1 hx).1
  have h1 : (outsJ j (l.take k)).length = k := by rw [outsJ_length, List.length_take]; omega
  unfold outsZ
  rw [take_snocP l k hx, outsJ_snoc, List.set_append_right _ _ (by omega), h1, Nat.sub_self, show n - k = (n - (k + 1)) + 1 by omega, List.replicate_succ, List.set_cons_zero, List.append_assoc]
  rfl
/-- packets that may all be -/
def goodL (l : List Pq) : Bool := !l.any badP
/-- behind all that were put -/
def PutQ (w : World) (j : Jp) (l : List Pq) (e : Ending) (w' : World) : Prop :=
  if OkJ j ∧ goodL l = true then
    ∃ g c cs os r, e = .returned (.tuple #[jtV j.on j.nx j.dp j.dr (some ⟨g, 0, none⟩) os.length c, .slice (some ⟨r, 0, none⟩) l.length l.length, .int .i64 0]) ∧ os.map pl = (putsJ j l).q ∧ Blk w' g 46 cs ∧ RowOk c cs os ∧ OwnL w.heap.size w' [g] os ∧ w.heap.size ≤ g ∧
      RdI w' (some ⟨r, 0, none⟩) l.length (outsJ j l) ∧ w.heap.size ≤ r ∧ Below w.heap.size w w'
  else e = .returned (.tuple #[zeroJ, .slice none 0 0, .int .i64 1]) ∧ Below w.heap.size w w'
set_option maxRecDepth 100000 in
set_option maxHeartbeats 8000000 in
theorem Put_any (on : Bool) (nx dp dr : Int) (A : Option Addr) (n c : Nat) (ls : List Pk) (A2 : Option Addr) (n2 c2 : Nat) (lp : List Pk) (w : World) (h : Hid (RdP w A n ls)) (hn : n ≤ 281474976710656) (h2 : Hid (RdP w A2 n2 lp)) (hn2 : n2 ≤ 1000) :
    Calls Try.prog 16 #[jtV on nx dp dr A n c, .slice A2 n2 c2] w (PutQ w ⟨on, nx, dp, dr, ls.map pl⟩ (lp.map pl)) := by
  have HM := Lib.hid (MV.start w)
  have HN := Lib.hid hn
  have HN2 := Lib.hid hn2
  obtain ⟨ck, hck⟩ : ∃ ck, ck = ckE ⟨on, nx, dp, dr, ls.map pl⟩ := ⟨_, rfl⟩
  have HCK := Lib.hid (fun u (hu : Below w.heap.size w u) => check_any on nx dp dr A n c ls u (Lib.hid (h.out.keep hu)) hn)
  rw [← hck] at HCK
  have HCE := Lib.hid hck
  clear hn hn2 hck
  by_cases hok : OkJ ⟨on, nx, dp, dr, ls.map pl⟩
  · obtain rfl : ck = 0 := by rw [HCE.out]; exact if_pos hok
    have HOK := Lib.hid hok
    clear hok
    obtain ⟨bad, hbad⟩ : ∃ bad, bad = lp.any wrongP := ⟨_, rfl⟩
    have HBAD := Lib.hid hbad
    have HHW := Lib.hid (fun u (hu : Below w.heap.size w u) => hasWrong_any A2 n2 c2 lp u (Lib.hid (h2.out.keep hu)) (by have := HN2.out; omega))
    rw [← hbad] at HHW
    clear hbad
    cases bad with
    | true =>
      have HNG := Lib.hid (show ¬ (OkJ ⟨on, nx, dp, dr, ls.map pl⟩ ∧ goodL (lp.map pl) = true) from fun hh => by
        have := hh.2; unfold goodL at this; rw [← h2.out.any, ← HBAD.out] at this; cases this)
      go_enter Try.func16, Try.ntmps16
      go_wp2_with (first | (refine jL ?_) | (refine jS ?_; clear HM; intro us HM; simp only [List.set, List.setIfInBounds_toArray, List.set_cons_zero, List.set_cons_succ] at HM) | (refine jN ?_; first | (have q : dV HM = 0 := rfl; clear q HM; intro g1 u1 HG1 HM) | (have q : dV HM = 1 := rfl; clear q HM; intro g2 u2 HG2 HM) | (have q : dV HM = 2 := rfl; clear q HM; intro g3 u3 HG3 HM) | (have q : dV HM = 3 := rfl; clear q HM; intro g4 u4 HG4 HM) | (have q : dV HM = 4 := rfl; clear q HM; intro g5 u5 HG5 HM) | (have q : dV HM = 5 := rfl; clear q HM; intro g6 u6 HG6 HM) | (have q : dV HM = 6 := rfl; clear q HM; intro g7 u7 HG7 HM) | (have q : dV HM = 7 := rfl; clear q HM; intro g8 u8 HG8 HM) | (have q : dV HM = 8 := rfl; clear q HM; intro g9 u9 HG9 HM) | (have q : dV HM = 9 := rfl; clear q HM; intro g10 u10 HG10 HM) | (have q : dV HM = 10 := rfl; clear q HM; intro g11 u11 HG11 HM) | (have q : dV HM = 11 := rfl; clear q HM; intro g12 u12 HG12 HM) | (have q : dV HM = 12 := rfl; clear q HM; intro g13 u13 HG13 HM) | (have q : dV HM = 13 := rfl; clear q HM; intro g14 u14 HG14 HM)))
      refine (HCK.out _ HM.out.1).mono ?_
      rintro e u3 ⟨rfl, hb⟩
      have HM2 := Lib.hid (HM.out.below hb)
      clear hb HM HCK
      have HM := HM2
      clear HM2
      go_wp2_with (first | (refine jL ?_) | (refine jS ?_; clear HM; intro us HM; simp only [List.set, List.setIfInBounds_toArray, List.set_cons_zero, List.set_cons_succ] at HM) | (refine jN ?_; first | (have q : dV HM = 0 := rfl; clear q HM; intro g1 u1 HG1 HM) | (have q : dV HM = 1 := rfl; clear q HM; intro g2 u2 HG2 HM) | (have q : dV HM = 2 := rfl; clear q HM; intro g3 u3 HG3 HM) | (have q : dV HM = 3 := rfl; clear q HM; intro g4 u4 HG4 HM) | (have q : dV HM = 4 := rfl; clear q HM; intro g5 u5 HG5 HM) | (have q : dV HM = 5 := rfl; clear q HM; intro g6 u6 HG6 HM) | (have q : dV HM = 6 := rfl; clear q HM; intro g7 u7 HG7 HM) | (have q : dV HM = 7 := rfl; clear q HM; intro g8 u8 HG8 HM) | (have q : dV HM = 8 := rfl; clear q HM; intro g9 u9 HG9 HM) | (have q : dV HM = 9 := rfl; clear q HM; intro g10 u10 HG10 HM) | (have q : dV HM = 10 := rfl; clear q HM; intro g11 u11 HG11 HM) | (have q : dV HM = 11 := rfl; clear q HM; intro g12 u12 HG12 HM) | (have q : dV HM = 12 := rfl; clear q HM; intro g13 u13 HG13 HM) | (have q : dV HM = 13 := rfl; clear q HM; intro g14 u14 HG14 HM)))
      refine (HHW.out _ HM.out.1).mono ?_
      rintro e u4 ⟨rfl, hb⟩
      have HM2 := Lib.hid (HM.out.below hb)
      clear hb HM HHW
      have HM := HM2
      clear HM2
      go_wp2_with (first | (refine wv_zeroJ (by rfl) rfl ?_) | (first | (refine jL ?_) | (refine jS ?_; clear HM; intro us HM; simp only [List.set, List.setIfInBounds_toArray, List.set_cons_zero, List.set_cons_succ] at HM) | (refine jN ?_; first | (have q : dV HM = 0 := rfl; clear q HM; intro g1 u1 HG1 HM) | (have q : dV HM = 1 := rfl; clear q HM; intro g2 u2 HG2 HM) | (have q : dV HM = 2 := rfl; clear q HM; intro g3 u3 HG3 HM) | (have q : dV HM = 3 := rfl; clear q HM; intro g4 u4 HG4 HM) | (have q : dV HM = 4 := rfl; clear q HM; intro g5 u5 HG5 HM) | (have q : dV HM = 5 := rfl; clear q HM; intro g6 u6 HG6 HM) | (have q : dV HM = 6 := rfl; clear q HM; intro g7 u7 HG7 HM) | (have q : dV HM = 7 := rfl; clear q HM; intro g8 u8 HG8 HM) | (have q : dV HM = 8 := rfl; clear q HM; intro g9 u9 HG9 HM) | (have q : dV HM = 9 := rfl; clear q HM; intro g10 u10 HG10 HM) | (have q : dV HM = 10 := rfl; clear q HM; intro g11 u11 HG11 HM) | (have q : dV HM = 11 := rfl; clear q HM; intro g12 u12 HG12 HM) | (have q : dV HM = 12 := rfl; clear q HM; intro g13 u13 HG13 HM) | (have q : dV HM = 13 := rfl; clear q HM; intro g14 u14 HG14 HM))))
      refine bodyPost_ret (v := .tuple #[zeroJ, .slice none 0 0, .int .i64 1]) (vres_three rfl _ rfl rfl rfl rowJt HM (by exact vmemOf) (Lib.hid rfl)) rfl ?_
      unfold PutQ
      rw [if_neg HNG.out]
      exact ⟨rfl, HM.out.1⟩
    | false =>
      have HGD := Lib.hid (show OkJ ⟨on, nx, dp, dr, ls.map pl⟩ ∧ goodL (lp.map pl) = true from ⟨HOK.out, by unfold goodL; rw [← h2.out.any, ← HBAD.out]; rfl⟩)
      have HBP := Lib.hid (show ∀ p ∈ lp.map pl, badP p = false from fun p hp => by
        cases hb : badP p with
        | false => rfl
        | true => have h1 := List.any_eq_true.2 ⟨p, hp, hb⟩; rw [← h2.out.any, ← HBAD.out] at h1; cases h1)
      have HL64 := Lib.hid (show n ≤ 64 by have h1 := okJ_len HOK.out; have h3 := h.out.1; simp only [List.length_map] at h1; omega)
      have HOW := Lib.hid (fun u (hu : Below w.heap.size w u) => own_any on nx dp dr A n c ls u (Lib.hid (h.out.keep hu)) (by have := HL64.out; omega) (Lib.hid (fun x hx => by
        have h1 := bad_iff (HOK.out.2.1 (pl x) (List.mem_map.2 ⟨x, hx, rfl⟩))
        have h3 := (h.out.len hx).1
        unfold pl at h1
        simp only at h1
        omega)))
      obtain ⟨i0, HI0, HZ0, hz1, hz2⟩ := info_partsT (show (Try.prog.info? 3).map (fun i => (i.zero, i.size, i.bytes)) = some (some (.int .i64 0), 1, 8) by kernel_rfl)
      have HY0 : i0.bytes ≤ 1000 := by omega
      have HS0 := Lib.hid hz1
      have HN3 := Lib.hid (show n2 ≤ 100000 by have := HN2.out; omega)
      clear hz1 hz2
      go_enter Try.func16, Try.ntmps16
      go_wp2_with (first | (refine jL ?_) | (refine jS ?_; clear HM; intro us HM; simp only [List.set, List.setIfInBounds_toArray, List.set_cons_zero, List.set_cons_succ] at HM) | (refine jN ?_; first | (have q : dV HM = 0 := rfl; clear q HM; intro g1 u1 HG1 HM) | (have q : dV HM = 1 := rfl; clear q HM; intro g2 u2 HG2 HM) | (have q : dV HM = 2 := rfl; clear q HM; intro g3 u3 HG3 HM) | (have q : dV HM = 3 := rfl; clear q HM; intro g4 u4 HG4 HM) | (have q : dV HM = 4 := rfl; clear q HM; intro g5 u5 HG5 HM) | (have q : dV HM = 5 := rfl; clear q HM; intro g6 u6 HG6 HM) | (have q : dV HM = 6 := rfl; clear q HM; intro g7 u7 HG7 HM) | (have q : dV HM = 7 := rfl; clear q HM; intro g8 u8 HG8 HM) | (have q : dV HM = 8 := rfl; clear q HM; intro g9 u9 HG9 HM) | (have q : dV HM = 9 := rfl; clear q HM; intro g10 u10 HG10 HM) | (have q : dV HM = 10 := rfl; clear q HM; intro g11 u11 HG11 HM) | (have q : dV HM = 11 := rfl; clear q HM; intro g12 u12 HG12 HM) | (have q : dV HM = 12 := rfl; clear q HM; intro g13 u13 HG13 HM) | (have q : dV HM = 13 := rfl; clear q HM; intro g14 u14 HG14 HM)))
      refine (HCK.out _ HM.out.1).mono ?_
      rintro e u3 ⟨rfl, hb⟩
      have HM2 := Lib.hid (HM.out.below hb)
      clear hb HM HCK
      have HM := HM2
      clear HM2
      go_wp2_with (first | (refine jL ?_) | (refine jS ?_; clear HM; intro us HM; simp only [List.set, List.setIfInBounds_toArray, List.set_cons_zero, List.set_cons_succ] at HM) | (refine jN ?_; first | (have q : dV HM = 0 := rfl; clear q HM; intro g1 u1 HG1 HM) | (have q : dV HM = 1 := rfl; clear q HM; intro g2 u2 HG2 HM) | (have q : dV HM = 2 := rfl; clear q HM; intro g3 u3 HG3 HM) | (have q : dV HM = 3 := rfl; clear q HM; intro g4 u4 HG4 HM) | (have q : dV HM = 4 := rfl; clear q HM; intro g5 u5 HG5 HM) | (have q : dV HM = 5 := rfl; clear q HM; intro g6 u6 HG6 HM) | (have q : dV HM = 6 := rfl; clear q HM; intro g7 u7 HG7 HM) | (have q : dV HM = 7 := rfl; clear q HM; intro g8 u8 HG8 HM) | (have q : dV HM = 8 := rfl; clear q HM; intro g9 u9 HG9 HM) | (have q : dV HM = 9 := rfl; clear q HM; intro g10 u10 HG10 HM) | (have q : dV HM = 10 := rfl; clear q HM; intro g11 u11 HG11 HM) | (have q : dV HM = 11 := rfl; clear q HM; intro g12 u12 HG12 HM) | (have q : dV HM = 12 := rfl; clear q HM; intro g13 u13 HG13 HM) | (have q : dV HM = 13 := rfl; clear q HM; intro g14 u14 HG14 HM)))
      refine (HHW.out _ HM.out.1).mono ?_
      rintro e u4 ⟨rfl, hb⟩
      have HM2 := Lib.hid (HM.out.below hb)
      clear hb HM HHW
      have HM := HM2
      clear HM2
      go_wp2_with (first | (refine jL ?_) | (refine jS ?_; clear HM; intro us HM; simp only [List.set, List.setIfInBounds_toArray, List.set_cons_zero, List.set_cons_succ] at HM) | (refine jN ?_; first | (have q : dV HM = 0 := rfl; clear q HM; intro g1 u1 HG1 HM) | (have q : dV HM = 1 := rfl; clear q HM; intro g2 u2 HG2 HM) | (have q : dV HM = 2 := rfl; clear q HM; intro g3 u3 HG3 HM) | (have q : dV HM = 3 := rfl; clear q HM; intro g4 u4 HG4 HM) | (have q : dV HM = 4 := rfl; clear q HM; intro g5 u5 HG5 HM) | (have q : dV HM = 5 := rfl; clear q HM; intro g6 u6 HG6 HM) | (have q : dV HM = 6 := rfl; clear q HM; intro g7 u7 HG7 HM) | (have q : dV HM = 7 := rfl; clear q HM; intro g8 u8 HG8 HM) | (have q : dV HM = 8 := rfl; clear q HM; intro g9 u9 HG9 HM) | (have q : dV HM = 9 := rfl; clear q HM; intro g10 u10 HG10 HM) | (have q : dV HM = 10 := rfl; clear q HM; intro g11 u11 HG11 HM) | (have q : dV HM = 11 := rfl; clear q HM; intro g12 u12 HG12 HM) | (have q : dV HM = 12 := rfl; clear q HM; intro g13 u13 HG13 HM) | (have q : dV HM = 13 := rfl; clear q HM; intro g14 u14 HG14 HM)))
      refine (HOW.out _ HM.out.1).mono ?_
      rintro e u5 ⟨g, os, cs, rfl, hal, hge, hbg, hro, hol, hb⟩
      have hl1 := (HM.out.get (g := g1) (by exact vmemOf)).lt
      have hl2 := (HM.out.get (g := g2) (by exact vmemOf)).lt
      have HM2 := Lib.hid (HM.out.add hb hge hbg).base
      have HAL := Lib.hid hal
      have HRO := Lib.hid hro
      have HSZ := Lib.hid HM.out.1.size
      have HB5 := Lib.hid (HM2.out.1)
      have HOL := Lib.hid (hol.also (hs := [g, g2, g1]) (fun x hx => by
        simp only [List.mem_cons, List.not_mem_nil, or_false] at hx ⊢
        rcases hx with rfl | rfl | rfl
        · exact .inl rfl
        · exact .inr hl2
        · exact .inr hl1))
      clear hb HM HOW hal hge hbg hro hol hl1 hl2
      have HM := HM2
      clear HM2
      go_wp2_with (first | (first | (refine jL ?_) | (refine jS ?_; clear HM; intro us HM; simp only [List.set, List.setIfInBounds_toArray, List.set_cons_zero, List.set_cons_succ] at HM) | (refine jN ?_; first | (have q : dV HM = 0 := rfl; clear q HM; intro g1 u1 HG1 HM) | (have q : dV HM = 1 := rfl; clear q HM; intro g2 u2 HG2 HM) | (have q : dV HM = 2 := rfl; clear q HM; intro g3 u3 HG3 HM) | (have q : dV HM = 3 := rfl; clear q HM; intro g4 u4 HG4 HM) | (have q : dV HM = 4 := rfl; clear q HM; intro g5 u5 HG5 HM) | (have q : dV HM = 5 := rfl; clear q HM; intro g6 u6 HG6 HM) | (have q : dV HM = 6 := rfl; clear q HM; intro g7 u7 HG7 HM) | (have q : dV HM = 7 := rfl; clear q HM; intro g8 u8 HG8 HM) | (have q : dV HM = 8 := rfl; clear q HM; intro g9 u9 HG9 HM) | (have q : dV HM = 9 := rfl; clear q HM; intro g10 u10 HG10 HM) | (have q : dV HM = 10 := rfl; clear q HM; intro g11 u11 HG11 HM) | (have q : dV HM = 11 := rfl; clear q HM; intro g12 u12 HG12 HM) | (have q : dV HM = 12 := rfl; clear q HM; intro g13 u13 HG13 HM) | (have q : dV HM = 13 := rfl; clear q HM; intro g14 u14 HG14 HM))) | (refine wv_stP (by rfl) _ _ rfl rfl rfl HM (by exact vidxOf) (by with_reducible assumption) ?_; clear HM; intro us HM; dsimp only [List.set] at HM) | (refine wv_make (by rfl) _ _ _ rfl rfl rfl _ _ _ (by first | exact Try.underlying22 | exact Try.underlying35) HI0 HZ0 HY0 HM (by with_reducible assumption) ?_; first | (have q : dV HM = 0 := rfl; clear q HM; intro g1 u1 HG1 HM) | (have q : dV HM = 1 := rfl; clear q HM; intro g2 u2 HG2 HM) | (have q : dV HM = 2 := rfl; clear q HM; intro g3 u3 HG3 HM) | (have q : dV HM = 3 := rfl; clear q HM; intro g4 u4 HG4 HM) | (have q : dV HM = 4 := rfl; clear q HM; intro g5 u5 HG5 HM) | (have q : dV HM = 5 := rfl; clear q HM; intro g6 u6 HG6 HM) | (have q : dV HM = 6 := rfl; clear q HM; intro g7 u7 HG7 HM) | (have q : dV HM = 7 := rfl; clear q HM; intro g8 u8 HG8 HM) | (have q : dV HM = 8 := rfl; clear q HM; intro g9 u9 HG9 HM) | (have q : dV HM = 9 := rfl; clear q HM; intro g10 u10 HG10 HM) | (have q : dV HM = 10 := rfl; clear q HM; intro g11 u11 HG11 HM) | (have q : dV HM = 11 := rfl; clear q HM; intro g12 u12 HG12 HM) | (have q : dV HM = 12 := rfl; clear q HM; intro g13 u13 HG13 HM) | (have q : dV HM = 13 := rfl; clear q HM; intro g14 u14 HG14 HM)))
      have HOL2 := Lib.hid ((HOL.out.ch (hs := [g, g4]) (cs := [g, g2, g1]) (Ch.mv (gs := [g, g2, g1]) HB5.out HM.out (fun e he => by
        simp only [List.mem_cons, List.not_mem_nil, or_false] at he ⊢
        rcases he with rfl | rfl | rfl | rfl | rfl
        · exact .inr HG5.out
        · exact .inr HG4.out
        · exact .inl (.inl rfl)
        · exact .inl (.inr (.inl rfl))
        · exact .inl (.inr (.inr rfl)))) (fun x hx => hx) (fun x hx => by
        simp only [List.mem_cons, List.not_mem_nil, or_false] at hx ⊢
        rcases hx with rfl | rfl
        · exact .inl (.inl rfl)
        · exact .inr HG4.out)).base HSZ.out)
      clear HOL HB5 HSZ
      have hz := outsZ_zero ⟨on, nx, dp, dr, ls.map pl⟩ (lp.map pl) n2
      have HM2 := Lib.hid (HM.out.perm (L' := [(g4, 24, jC on nx dp dr g os.length os.length), (g, 46, cs), (g5, 3, icells (outsZ ⟨on, nx, dp, dr, ls.map pl⟩ (lp.map pl) 0 n2)), (g2, 24, #[.bool false, .int .i64 0, .int .i64 0, .int .i64 0, .slice none 0 0]), (g1, 24, #[.bool on, .int .i64 nx, .int .i64 dp, .int .i64 dr, .slice A n c])]) (by
        rw [hz, ← icells_zero, HS0.out, Nat.mul_one]
        exact (List.Perm.swap _ _ _).trans (.cons _ (List.Perm.swap _ _ _)))).base
      have HQ0 := Lib.hid (show os.map pl = (putsJ ⟨on, nx, dp, dr, ls.map pl⟩ ((lp.map pl).take 0)).q from HAL.out.1)
      clear HM hz HAL HI0 HZ0 HY0 HS0 HN3
      go_loopw [26] (fun vi wr => ∃ (k gg kc : Nat) (cs : Array Value) (os : List Pk), vi = .int .i64 (k : Int) ∧ k ≤ n2 ∧ Hid (RowOk kc cs os) ∧ Hid (os.map pl = (putsJ ⟨on, nx, dp, dr, ls.map pl⟩ ((lp.map pl).take k)).q) ∧ Hid (OwnL w.heap.size wr [gg, g4] os) ∧
        Hid (MV w wr [(g4, 24, jC on nx dp dr gg os.length kc), (gg, 46, cs), (g5, 3, icells (outsZ ⟨on, nx, dp, dr, ls.map pl⟩ (lp.map pl) k n2)), (g2, 24, #[.bool false, .int .i64 0, .int .i64 0, .int .i64 0, .slice none 0 0]), (g1, 24, #[.bool on, .int .i64 nx, .int .i64 dp, .int .i64 dr, .slice A n c])] wr)) (fun vi _ => n2 - (intOf vi).toNat)
      case atStart => exact ⟨0, g, _, cs, os, rfl, by omega, HRO, HQ0, HOL2, HM2⟩
      case round =>
        clear HRO HQ0 HOL2 HM2
        obtain ⟨k, gg, cc, cs, os, rfl, hk, HRO, HQ, HOL, HM⟩ := hrel
        have HLL := Lib.hid h2.out.1
        by_cases hlt : k < n2
        · have kn : (k : Int) < (n2 : Int) := by omega
          obtain ⟨L, x, rfl, hL, hx, c0, c1, -, -⟩ := (h2.out.keep HM.out.1).at_ hlt
          have hL2 : (L.add (k * 2)).block < wr.heap.size := by rw [block_of_add]; exact hL
          have n29 : (n2 : Int) ≤ 1000 := by have := HN2.out; omega
          have HX := Lib.hid hx
          have HRX := Lib.hid (h2.out.len (List.mem_of_getElem? hx)).2
          have HJ := Lib.hid (putsJ_eq HQ.out)
          clear hx
          have HM0 := HM
          have HNB := Lib.hid (HBP.out (pl x) (List.mem_map.2 ⟨x, List.mem_of_getElem? HX.out, rfl⟩))
          have HPX := Lib.hid (show (lp.map pl)[k]? = some (pl x) by rw [List.getElem?_map, HX.out]; rfl)
          have HOKJ := Lib.hid (show OkJ ⟨on, nx, dp, dr, os.map pl⟩ by rw [← HJ.out]; exact okJ_puts HOK.out fun p hp => HBP.out p (List.mem_of_mem_take hp))
          go_wp2_with (first | (first | (refine jL ?_) | (refine jS ?_; clear HM; intro us HM; simp only [List.set, List.setIfInBounds_toArray, List.set_cons_zero, List.set_cons_succ] at HM) | (refine jN ?_; first | (have q : dV HM = 0 := rfl; clear q HM; intro g1 u1 HG1 HM) | (have q : dV HM = 1 := rfl; clear q HM; intro g2 u2 HG2 HM) | (have q : dV HM = 2 := rfl; clear q HM; intro g3 u3 HG3 HM) | (have q : dV HM = 3 := rfl; clear q HM; intro g4 u4 HG4 HM) | (have q : dV HM = 4 := rfl; clear q HM; intro g5 u5 HG5 HM) | (have q : dV HM = 5 := rfl; clear q HM; intro g6 u6 HG6 HM) | (have q : dV HM = 6 := rfl; clear q HM; intro g7 u7 HG7 HM) | (have q : dV HM = 7 := rfl; clear q HM; intro g8 u8 HG8 HM) | (have q : dV HM = 8 := rfl; clear q HM; intro g9 u9 HG9 HM) | (have q : dV HM = 9 := rfl; clear q HM; intro g10 u10 HG10 HM) | (have q : dV HM = 10 := rfl; clear q HM; intro g11 u11 HG11 HM) | (have q : dV HM = 11 := rfl; clear q HM; intro g12 u12 HG12 HM) | (have q : dV HM = 12 := rfl; clear q HM; intro g13 u13 HG13 HM) | (have q : dV HM = 13 := rfl; clear q HM; intro g14 u14 HG14 HM))) | (refine wv_stP (by rfl) _ _ rfl rfl rfl HM (by exact vidxOf) (by with_reducible assumption) ?_; clear HM; intro us HM; dsimp only [List.set] at HM) | (refine wv_make (by rfl) _ _ _ rfl rfl rfl _ _ _ (by first | exact Try.underlying22 | exact Try.underlying35) HI0 HZ0 HY0 HM (by with_reducible assumption) ?_; first | (have q : dV HM = 0 := rfl; clear q HM; intro g1 u1 HG1 HM) | (have q : dV HM = 1 := rfl; clear q HM; intro g2 u2 HG2 HM) | (have q : dV HM = 2 := rfl; clear q HM; intro g3 u3 HG3 HM) | (have q : dV HM = 3 := rfl; clear q HM; intro g4 u4 HG4 HM) | (have q : dV HM = 4 := rfl; clear q HM; intro g5 u5 HG5 HM) | (have q : dV HM = 5 := rfl; clear q HM; intro g6 u6 HG6 HM) | (have q : dV HM = 6 := rfl; clear q HM; intro g7 u7 HG7 HM) | (have q : dV HM = 7 := rfl; clear q HM; intro g8 u8 HG8 HM) | (have q : dV HM = 8 := rfl; clear q HM; intro g9 u9 HG9 HM) | (have q : dV HM = 9 := rfl; clear q HM; intro g10 u10 HG10 HM) | (have q : dV HM = 10 := rfl; clear q HM; intro g11 u11 HG11 HM) | (have q : dV HM = 11 := rfl; clear q HM; intro g12 u12 HG12 HM) | (have q : dV HM = 12 := rfl; clear q HM; intro g13 u13 HG13 HM) | (have q : dV HM = 13 := rfl; clear q HM; intro g14 u14 HG14 HM)))
          have HBU := Lib.hid (HM0.out.same HM.out HG6.out)
          refine (put_any w _ g4 gg cc cs on nx dp dr os x (Lib.hid (HM.out.sub ((List.Sublist.refl [_, _]).append (List.nil_sublist _) |>.cons _))) HRO (Lib.hid (HOL.out.below HBU.out)) (Lib.hid (HRX.out.below HM.out.1)) (Lib.hid (show wrong x.s x.n = false by have h1 := HNB.out; unfold badP pl at h1; rw [(h2.out.len (List.mem_of_getElem? HX.out)).1]; exact h1)) HOKJ (Lib.hid (by have := okJ_len HOKJ.out; simpa using this))).mono ?_
          rintro e u8 ⟨gg', cc', cs', os', rfl, hq', hm', hro', hol', hch, hg'⟩
          have HM2 := Lib.hid ((HM.out.sub (List.sublist_cons_self _ _)).join hch hm' hg')
          have HRO2 := Lib.hid hro'
          have HOL2 := Lib.hid hol'
          have HQ2 := Lib.hid hq'
          clear HM HM0 hq' hm' hro' hol' hch hg' HRO HOL HBU c0 c1 hL hL2
          have HM := HM2
          clear HM2
          have HST := Lib.hid (outsZ_set (j := ⟨on, nx, dp, dr, ls.map pl⟩) (n := n2) HPX.out (by rw [List.length_map]; exact HLL.out))
          rw [HJ.out] at HST
          obtain ⟨r, hr⟩ : ∃ r, r = (putR ⟨on, nx, dp, dr, os.map pl⟩ (pl x)).1 := ⟨_, rfl⟩
          rw [← hr] at HST ⊢
          clear hr
          have hgk : (icells (outsZ ⟨on, nx, dp, dr, ls.map pl⟩ (lp.map pl) k n2))[k]? = some (.int .i64 ((outsZ ⟨on, nx, dp, dr, ls.map pl⟩ (lp.map pl) k n2).getD k 0)) := icells_get (by rw [outsZ_length hk (by rw [List.length_map]; exact HLL.out)]; exact hlt)
          have HOL3 := Lib.hid (((HOL2.out.add (HM.out.get (g := g5) (by exact vmemOf)) (icells_no8 _)).add (HM.out.get (g := g2) (by exact vmemOf)) (by intro v hv; cases hv)).add (HM.out.get (g := g1) (by exact vmemOf)) (by intro v hv; cases hv))
          clear HOL2
          go_wp2_with (first | (first | (refine jL ?_) | (refine jS ?_; clear HM; intro us HM; simp only [List.set, List.setIfInBounds_toArray, List.set_cons_zero, List.set_cons_succ] at HM) | (refine jN ?_; first | (have q : dV HM = 0 := rfl; clear q HM; intro g1 u1 HG1 HM) | (have q : dV HM = 1 := rfl; clear q HM; intro g2 u2 HG2 HM) | (have q : dV HM = 2 := rfl; clear q HM; intro g3 u3 HG3 HM) | (have q : dV HM = 3 := rfl; clear q HM; intro g4 u4 HG4 HM) | (have q : dV HM = 4 := rfl; clear q HM; intro g5 u5 HG5 HM) | (have q : dV HM = 5 := rfl; clear q HM; intro g6 u6 HG6 HM) | (have q : dV HM = 6 := rfl; clear q HM; intro g7 u7 HG7 HM) | (have q : dV HM = 7 := rfl; clear q HM; intro g8 u8 HG8 HM) | (have q : dV HM = 8 := rfl; clear q HM; intro g9 u9 HG9 HM) | (have q : dV HM = 9 := rfl; clear q HM; intro g10 u10 HG10 HM) | (have q : dV HM = 10 := rfl; clear q HM; intro g11 u11 HG11 HM) | (have q : dV HM = 11 := rfl; clear q HM; intro g12 u12 HG12 HM) | (have q : dV HM = 12 := rfl; clear q HM; intro g13 u13 HG13 HM) | (have q : dV HM = 13 := rfl; clear q HM; intro g14 u14 HG14 HM))) | (refine wv_stP (by rfl) _ _ rfl rfl rfl HM (by exact vidxOf) (by with_reducible assumption) ?_; clear HM; intro us HM; dsimp only [List.set] at HM) | (refine wv_make (by rfl) _ _ _ rfl rfl rfl _ _ _ (by first | exact Try.underlying22 | exact Try.underlying35) HI0 HZ0 HY0 HM (by with_reducible assumption) ?_; first | (have q : dV HM = 0 := rfl; clear q HM; intro g1 u1 HG1 HM) | (have q : dV HM = 1 := rfl; clear q HM; intro g2 u2 HG2 HM) | (have q : dV HM = 2 := rfl; clear q HM; intro g3 u3 HG3 HM) | (have q : dV HM = 3 := rfl; clear q HM; intro g4 u4 HG4 HM) | (have q : dV HM = 4 := rfl; clear q HM; intro g5 u5 HG5 HM) | (have q : dV HM = 5 := rfl; clear q HM; intro g6 u6 HG6 HM) | (have q : dV HM = 6 := rfl; clear q HM; intro g7 u7 HG7 HM) | (have q : dV HM = 7 := rfl; clear q HM; intro g8 u8 HG8 HM) | (have q : dV HM = 8 := rfl; clear q HM; intro g9 u9 HG9 HM) | (have q : dV HM = 9 := rfl; clear q HM; intro g10 u10 HG10 HM) | (have q : dV HM = 10 := rfl; clear q HM; intro g11 u11 HG11 HM) | (have q : dV HM = 11 := rfl; clear q HM; intro g12 u12 HG12 HM) | (have q : dV HM = 12 := rfl; clear q HM; intro g13 u13 HG13 HM) | (have q : dV HM = 13 := rfl; clear q HM; intro g14 u14 HG14 HM)))
          have HOL4 := Lib.hid ((HOL3.out.keep HM.out (fun e he => by
            simp only [List.mem_cons, List.not_mem_nil, or_false] at he ⊢
            rcases he with rfl | rfl | rfl | rfl | rfl
            · exact .inl (.inr (.inr (.inr (.inr rfl))))
            · exact .inl (.inr (.inr (.inr (.inl rfl))))
            · exact .inl (.inr (.inr (.inl rfl)))
            · exact .inl (.inr (.inl rfl))
            · exact .inl (.inl rfl))).less (hs := [gg', g4]) (fun x hx => by
            simp only [List.mem_cons, List.not_mem_nil, or_false] at hx ⊢
            rcases hx with rfl | rfl
            · exact .inr (.inr (.inr (.inl rfl)))
            · exact .inr (.inr (.inr (.inr rfl)))))
          go_roundw
          case rel =>
            refine ⟨k + 1, gg', cc', cs', os', by first | rfl | go_num, by omega, HRO2, Lib.hid ?_, HOL4, Lib.hid ?_⟩
            · rw [take_snocP _ k HPX.out, putsJ_snoc, HJ.out]
              exact HQ2.out
            · have h9 := HM.out.base
              rw [icells_set, HST.out] at h9
              exact h9
          case measure => simp [intOf]; omega
        · obtain rfl : k = n2 := by omega
          have HZA := Lib.hid (outsZ_all (j := ⟨on, nx, dp, dr, ls.map pl⟩) (l := lp.map pl) (n := k) (by rw [List.length_map]; exact HLL.out))
          have HQA := Lib.hid (show os.map pl = (putsJ ⟨on, nx, dp, dr, ls.map pl⟩ (lp.map pl)).q by have h9 := HQ.out; rwa [List.take_of_length_le (by rw [List.length_map, HLL.out]; omega)] at h9)
          have HOL3 := Lib.hid (((HOL.out.add (HM.out.get (g := g5) (by exact vmemOf)) (icells_no8 _)).add (HM.out.get (g := g2) (by exact vmemOf)) (by intro v hv; cases hv)).add (HM.out.get (g := g1) (by exact vmemOf)) (by intro v hv; cases hv))
          clear HOL
          go_wp2_with (first | (first | (refine jL ?_) | (refine jS ?_; clear HM; intro us HM; simp only [List.set, List.setIfInBounds_toArray, List.set_cons_zero, List.set_cons_succ] at HM) | (refine jN ?_; first | (have q : dV HM = 0 := rfl; clear q HM; intro g1 u1 HG1 HM) | (have q : dV HM = 1 := rfl; clear q HM; intro g2 u2 HG2 HM) | (have q : dV HM = 2 := rfl; clear q HM; intro g3 u3 HG3 HM) | (have q : dV HM = 3 := rfl; clear q HM; intro g4 u4 HG4 HM) | (have q : dV HM = 4 := rfl; clear q HM; intro g5 u5 HG5 HM) | (have q : dV HM = 5 := rfl; clear q HM; intro g6 u6 HG6 HM) | (have q : dV HM = 6 := rfl; clear q HM; intro g7 u7 HG7 HM) | (have q : dV HM = 7 := rfl; clear q HM; intro g8 u8 HG8 HM) | (have q : dV HM = 8 := rfl; clear q HM; intro g9 u9 HG9 HM) | (have q : dV HM = 9 := rfl; clear q HM; intro g10 u10 HG10 HM) | (have q : dV HM = 10 := rfl; clear q HM; intro g11 u11 HG11 HM) | (have q : dV HM = 11 := rfl; clear q HM; intro g12 u12 HG12 HM) | (have q : dV HM = 12 := rfl; clear q HM; intro g13 u13 HG13 HM) | (have q : dV HM = 13 := rfl; clear q HM; intro g14 u14 HG14 HM))) | (refine wv_stP (by rfl) _ _ rfl rfl rfl HM (by exact vidxOf) (by with_reducible assumption) ?_; clear HM; intro us HM; dsimp only [List.set] at HM) | (refine wv_make (by rfl) _ _ _ rfl rfl rfl _ _ _ (by first | exact Try.underlying22 | exact Try.underlying35) HI0 HZ0 HY0 HM (by with_reducible assumption) ?_; first | (have q : dV HM = 0 := rfl; clear q HM; intro g1 u1 HG1 HM) | (have q : dV HM = 1 := rfl; clear q HM; intro g2 u2 HG2 HM) | (have q : dV HM = 2 := rfl; clear q HM; intro g3 u3 HG3 HM) | (have q : dV HM = 3 := rfl; clear q HM; intro g4 u4 HG4 HM) | (have q : dV HM = 4 := rfl; clear q HM; intro g5 u5 HG5 HM) | (have q : dV HM = 5 := rfl; clear q HM; intro g6 u6 HG6 HM) | (have q : dV HM = 6 := rfl; clear q HM; intro g7 u7 HG7 HM) | (have q : dV HM = 7 := rfl; clear q HM; intro g8 u8 HG8 HM) | (have q : dV HM = 8 := rfl; clear q HM; intro g9 u9 HG9 HM) | (have q : dV HM = 9 := rfl; clear q HM; intro g10 u10 HG10 HM) | (have q : dV HM = 10 := rfl; clear q HM; intro g11 u11 HG11 HM) | (have q : dV HM = 11 := rfl; clear q HM; intro g12 u12 HG12 HM) | (have q : dV HM = 12 := rfl; clear q HM; intro g13 u13 HG13 HM) | (have q : dV HM = 13 := rfl; clear q HM; intro g14 u14 HG14 HM)))
          have HOL4 := Lib.hid ((HOL3.out.keep HM.out (fun e he => by
            simp only [List.mem_cons, List.not_mem_nil, or_false] at he ⊢
            rcases he with rfl | rfl | rfl | rfl | rfl
            · exact .inl (.inr (.inr (.inr (.inr rfl))))
            · exact .inl (.inr (.inr (.inr (.inl rfl))))
            · exact .inl (.inr (.inr (.inl rfl)))
            · exact .inl (.inr (.inl rfl))
            · exact .inl (.inl rfl))).less (hs := [gg]) (fun x hx => by
            simp only [List.mem_cons, List.not_mem_nil, or_false] at hx ⊢
            exact .inr (.inr (.inr (.inl hx)))))
          refine bodyPost_ret (v := .tuple #[jtV on nx dp dr (some ⟨gg, 0, none⟩) os.length cc, .slice (some ⟨g5, 0, none⟩) k k, .int .i64 0]) (vres_three rfl _ rfl rfl rfl rowJt HM (by exact vmemOf) (Lib.hid rfl)) rfl ?_
          unfold PutQ
          rw [if_pos HGD.out]
          have hlen : (lp.map pl).length = k := by rw [List.length_map]; exact HLL.out
          refine ⟨gg, cc, cs, os, g5, by rw [hlen], HQA.out, HM.out.get (by exact vmemOf), HRO.out, HOL4.out, HM.out.2.2.1 (gg, _, _) (by exact vmemOf), ?_, HM.out.2.2.1 (g5, _, _) (by exact vmemOf), HM.out.1⟩
          have h9 := RdI.of_blk (HM.out.get (g := g5) (by exact vmemOf)) (n := k) (outsZ_length (Nat.le_refl _) hlen)
          rw [HZA.out] at h9
          rw [hlen]
          exact h9
  · obtain rfl : ck = 1 := by rw [HCE.out]; exact if_neg hok
    have HNG := Lib.hid (show ¬ (OkJ ⟨on, nx, dp, dr, ls.map pl⟩ ∧ goodL (lp.map pl) = true) from fun hh => hok hh.1)
    clear hok
    go_enter Try.func16, Try.ntmps16
    go_wp2_with (first | (refine jL ?_) | (refine jS ?_; clear HM; intro us HM; simp only [List.set, List.setIfInBounds_toArray, List.set_cons_zero, List.set_cons_succ] at HM) | (refine jN ?_; first | (have q : dV HM = 0 := rfl; clear q HM; intro g1 u1 HG1 HM) | (have q : dV HM = 1 := rfl; clear q HM; intro g2 u2 HG2 HM) | (have q : dV HM = 2 := rfl; clear q HM; intro g3 u3 HG3 HM) | (have q : dV HM = 3 := rfl; clear q HM; intro g4 u4 HG4 HM) | (have q : dV HM = 4 := rfl; clear q HM; intro g5 u5 HG5 HM) | (have q : dV HM = 5 := rfl; clear q HM; intro g6 u6 HG6 HM) | (have q : dV HM = 6 := rfl; clear q HM; intro g7 u7 HG7 HM) | (have q : dV HM = 7 := rfl; clear q HM; intro g8 u8 HG8 HM) | (have q : dV HM = 8 := rfl; clear q HM; intro g9 u9 HG9 HM) | (have q : dV HM = 9 := rfl; clear q HM; intro g10 u10 HG10 HM) | (have q : dV HM = 10 := rfl; clear q HM; intro g11 u11 HG11 HM) | (have q : dV HM = 11 := rfl; clear q HM; intro g12 u12 HG12 HM) | (have q : dV HM = 12 := rfl; clear q HM; intro g13 u13 HG13 HM) | (have q : dV HM = 13 := rfl; clear q HM; intro g14 u14 HG14 HM)))
    refine (HCK.out _ HM.out.1).mono ?_
    rintro e u3 ⟨rfl, hb⟩
    have HM2 := Lib.hid (HM.out.below hb)
    clear hb HM HCK
    have HM := HM2
    clear HM2
    go_wp2_with (first | (refine wv_zeroJ (by rfl) rfl ?_) | (first | (refine jL ?_) | (refine jS ?_; clear HM; intro us HM; simp only [List.set, List.setIfInBounds_toArray, List.set_cons_zero, List.set_cons_succ] at HM) | (refine jN ?_; first | (have q : dV HM = 0 := rfl; clear q HM; intro g1 u1 HG1 HM) | (have q : dV HM = 1 := rfl; clear q HM; intro g2 u2 HG2 HM) | (have q : dV HM = 2 := rfl; clear q HM; intro g3 u3 HG3 HM) | (have q : dV HM = 3 := rfl; clear q HM; intro g4 u4 HG4 HM) | (have q : dV HM = 4 := rfl; clear q HM; intro g5 u5 HG5 HM) | (have q : dV HM = 5 := rfl; clear q HM; intro g6 u6 HG6 HM) | (have q : dV HM = 6 := rfl; clear q HM; intro g7 u7 HG7 HM) | (have q : dV HM = 7 := rfl; clear q HM; intro g8 u8 HG8 HM) | (have q : dV HM = 8 := rfl; clear q HM; intro g9 u9 HG9 HM) | (have q : dV HM = 9 := rfl; clear q HM; intro g10 u10 HG10 HM) | (have q : dV HM = 10 := rfl; clear q HM; intro g11 u11 HG11 HM) | (have q : dV HM = 11 := rfl; clear q HM; intro g12 u12 HG12 HM) | (have q : dV HM = 12 := rfl; clear q HM; intro g13 u13 HG13 HM) | (have q : dV HM = 13 := rfl; clear q HM; intro g14 u14 HG14 HM))))
    refine bodyPost_ret (v := .tuple #[zeroJ, .slice none 0 0, .int .i64 1]) (vres_three rfl _ rfl rfl rfl rowJt HM (by exact vmemOf) (Lib.hid rfl)) rfl ?_
    unfold PutQ
    rw [if_neg HNG.out]
    exact ⟨rfl, HM.out.1⟩
end Go.Proofs.Ytffapinabidkiaa.Lp
