/-
  What put answers.
-/
import Derived.Test.YtffapinabidkiaaUJ
set_option linter.unusedSimpArgs false
set_option linter.unusedVariables false
/- UK -/
namespace Go.Proofs.Ytffapinabidkiaa.Lp
open Go.RowKit Go.Proofs.Ytffapinabidkiaa.Fq
theorem insert_any (v g i c : Nat) (x : Pk) (cs : Array Value) (ls : List Pk) (w : World) (hv : Blk w v 46 (pcs [x]).toArray) (hg : Blk w g 46 cs) (hne : v ≠ g) (hr : Hid (RowOk c cs ls)) (hi : i ≤ ls.length) (hl : ls.length ≤ 1000) :
    Calls Try.prog 50 #[.slice (some ⟨g, 0, none⟩) ls.length c, .int .i64 (i : Int), .slice (some ⟨v, 0, none⟩) 1 1] w (InsP w g i x ls) := by
  rcases Nat.lt_or_ge i ls.length with h | h
  · rcases Nat.lt_or_ge c (ls.length + 1) with k | k
    · exact insert_grow v g i c x cs ls w hv hg hr h (by have := hr.out.1; omega) hl
    · exact insert_shift v g i c x cs ls w hv hg hne hr h k hl
  · obtain rfl : i = ls.length := by omega
    exact insert_end v g c x cs ls w hv hg hr hl
/-- all but the blocks gs is as it was -/
def Ch (w w' : World) (gs : List Nat) : Prop := Below 0 w w' ∧ w.heap.size ≤ w'.heap.size ∧ ∀ b, b < w.heap.size → b ∉ gs → w'.heap[b]? = w.heap[b]?
theorem Ch.blk {w w' : World} {gs : List Nat} (h : Ch w w' gs) {g : Nat} {T : TypeId} {cs : Array Value} (hb : Blk w g T cs) (hg : g ∉ gs) : Blk w' g T cs := (h.2.2 g hb.lt hg).trans hb
theorem Ch.of_mv {w0 w1 w : World} {L : List Ent} (h : MV w0 w1 L w) (hB : Below 0 w1 w) : Ch w1 w (L.map (·.1)) :=
  ⟨hB, h.2.2.2.2.1, fun b hb hn => h.2.2.2.2.2 b hb fun e he => fun e' => hn (by rw [← e']; exact List.mem_map.2 ⟨e, he, rfl⟩)⟩
theorem Ch.below {w w' : World} {gs : List Nat} (h : Ch w w' gs) {B : Nat} {w0 : World} (hb : Below B w0 w) (hg : ∀ g ∈ gs, B ≤ g) (hB : B ≤ w.heap.size) : Below B w0 w' :=
  ⟨h.1.os.trans hb.os, h.1.tape.trans hb.tape, h.1.output.trans hb.output, Nat.le_trans hb.size h.2.1, fun i hi => (h.2.2 i (by omega) (fun hm => by have := hg i hm; omega)).trans (hb.block i hi)⟩
theorem Ch.trans {a b c : World} {gs hs : List Nat} (h : Ch a b gs) (k : Ch b c hs) (hh : ∀ g ∈ hs, g ∈ gs ∨ a.heap.size ≤ g) : Ch a c gs :=
  ⟨h.1.trans k.1, Nat.le_trans h.2.1 k.2.1, fun i hi hn => (k.2.2 i (Nat.lt_of_lt_of_le hi h.2.1) (fun hm => by rcases hh i hm with h1 | h1; exact hn h1; omega)).trans (h.2.2 i hi hn)⟩
theorem Ch.of_below {a b : World} (h : Below a.heap.size a b) (gs : List Nat) : Ch a b gs := ⟨h.mono (Nat.zero_le _), h.size, fun i hi _ => h.block i hi⟩
theorem Ch.of_grown {a b : World} {g : Nat} (h : a.grownBy b (some g)) : Ch a b [g] := ⟨⟨h.os, h.tape, h.output, h.size, fun i hi => by omega⟩, h.size, fun i hi hn => h.block i hi (fun e => by injection e with e; exact hn (by rw [e]; exact List.mem_singleton.2 rfl))⟩
theorem Ch.mv {w0 w u : World} {L : List Ent} (h0 : Below w0.heap.size w0 w) (h : MV w0 w L u) {gs : List Nat} (hg : ∀ e ∈ L, e.1 ∈ gs ∨ w.heap.size ≤ e.1) : Ch w u gs :=
  ⟨⟨h.1.os.trans h0.os.symm, h.1.tape.trans h0.tape.symm, h.1.output.trans h0.output.symm, h.2.2.2.2.1, fun i hi => by omega⟩, h.2.2.2.2.1, fun b hb hn => h.2.2.2.2.2 b hb fun e he e' => by
    rcases hg e he with h1 | h1
    · rw [e'] at h1; exact hn h1
    · omega⟩
theorem run_build_pk (s : Int) (A : Option Addr) (n c : Nat) (w : World) : (Instr.buildSlice 22 1 #[(0, .agg #[.int .i64 s, .slice A n c])]).run Try.prog w = .ok (.slice (some ⟨w.heap.size, 0, none⟩) 1 1) (w.alloc (.cells #[.int .i64 s, .slice A n c] 46)) := by
  have hz := rowPk.zero w
  simp only [Instr.buildSlice, Sem.run_bind, run_underlying Try.underlying22 w, Result.andThen_ok, sizePk w]
  rw [if_neg (by decide), if_neg (by decide)]
  simp only [Sem.run_bind, hz, Result.andThen_ok, Sem.run_pure, Value.cells]
  have hf : Instr.fill (fun i => some (i * 2, 2)) ((Array.range (1 * 2)).map (fun x => #[Value.int IntKind.i64 0, Value.slice none 0 0][x % #[Value.int IntKind.i64 0, Value.slice none 0 0].size]!)) [(0, Value.agg #[.int .i64 s, .slice A n c])] = some #[.int .i64 s, .slice A n c] := by kernel_rfl
  rw [hf]
  rfl
theorem ex_build_pk {o : Oper} {a : Act} {w : World} (x : Operand) (ho : o.op = .buildSlice 22 1 #[(0, x)]) {s : Int} {A : Option Addr} {n c : Nat} (hx : a.eval x = .agg #[.int .i64 s, .slice A n c]) :
    (execOp a.eval o).run Try.prog w = .ok (.value (.slice (some ⟨w.heap.size, 0, none⟩) 1 1)) (w.alloc (.cells #[.int .i64 s, .slice A n c] 46)) := by
  have := run_build_pk s A n c w
  unfold execOp
  simp only [ho, List.map_toArray, List.map_cons, List.map_nil, hx, Sem.run_bind, this, Result.andThen_ok, Sem.run_pure]
theorem Ch.rd {w w' : World} {gs : List Nat} (h : Ch w w' gs) {gx n : Nat} {bs : List Nat} (hr : Rd w (some ⟨gx, 0, none⟩) n bs) (hg : gx ∉ gs) : Rd w' (some ⟨gx, 0, none⟩) n bs :=
  ⟨hr.1, hr.2.1, fun hn => by
    obtain ⟨ad, e, hc⟩ := hr.2.2 hn
    injection e with e
    subst e
    refine ⟨_, rfl, fun j x hx => ?_⟩
    have h1 := hc j x hx
    have hl := World.block_lt_of_cell? _ _ h1
    rw [block_of_add] at hl
    refine (World.cell?_of_block ?_).trans h1
    rw [block_of_add]
    exact h.2.2 _ hl hg⟩
theorem Byt.ch {B : Nat} {w w' : World} {gs cs hs : List Nat} {x : Pk} (h : Byt B w gs x) (hc : Ch w w' cs) (hs' : ∀ g ∈ cs, g ∈ gs) (hh : ∀ g ∈ hs, g ∈ gs ∨ w.heap.size ≤ g) : Byt B w' hs x := by
  obtain ⟨gx, e, h1, h2, h3, h4⟩ := h
  rw [e] at h3
  have hl : gx < w.heap.size := rd_lt h3 _ rfl h4.1
  refine ⟨gx, e, h1, fun hm => ?_, by rw [e]; exact hc.rd h3 (fun hm => h2 (hs' _ hm)), h4⟩
  rcases hh _ hm with k | k
  · exact h2 k
  · omega
theorem OwnL.put {B : Nat} {w w' : World} {gs cs hs : List Nat} {ls : List Pk} {y : Pk} (k : Nat) (h : OwnL B w gs ls) (hc : Ch w w' cs) (hs' : ∀ g ∈ cs, g ∈ gs) (hh : ∀ g ∈ hs, g ∈ gs ∨ w.heap.size ≤ g) (hy : Byt B w' hs y) (hn : w.heap.size ≤ blkOf y) : OwnL B w' hs (ls.take k ++ y :: ls.drop k) := by
  have hp : (ls.take k ++ y :: ls.drop k).Perm (y :: ls) := by
    refine List.perm_middle.trans (.cons _ ?_)
    rw [List.take_append_drop]
  refine ⟨fun x hx => ?_, ?_⟩
  · rcases List.mem_cons.1 (hp.mem_iff.1 hx) with rfl | hx
    · exact hy
    · exact (h.1 x hx).ch hc hs' hh
  · refine (hp.map blkOf).nodup_iff.2 ?_
    rw [List.map_cons, List.nodup_cons]
    refine ⟨fun hm => ?_, h.2⟩
    obtain ⟨z, hz, e⟩ := List.mem_map.1 hm
    have := (h.1 z hz).blk.1
    omega
theorem MV.two {w0 w : World} {m g : Nat} {T T' : TypeId} {a b : Array Value} (hb : Below w0.heap.size w0 w) (hm : Blk w m T a) (hg : Blk w g T' b) (h1 : w0.heap.size ≤ m) (h2 : w0.heap.size ≤ g) (hne : m ≠ g) : MV w0 w [(m, T, a), (g, T', b)] w :=
  ⟨hb, fun e he => by
    rcases List.mem_cons.1 he with rfl | he
    · exact hm
    · rw [List.mem_singleton.1 he]; exact hg, fun e he => by
    rcases List.mem_cons.1 he with rfl | he
    · exact h1
    · rw [List.mem_singleton.1 he]; exact h2, by simp [hne], MF.refl _ _⟩
theorem MV.same {w0 w1 w u : World} {L : List Ent} {e : Ent} (h : MV w0 w1 L w) (h' : MV w0 w (e :: L) u) (he : w.heap.size ≤ e.1) : Below w.heap.size w u :=
  ⟨h'.1.os.trans h.1.os.symm, h'.1.tape.trans h.1.tape.symm, h'.1.output.trans h.1.output.symm, h'.2.2.2.2.1, fun i hi => by
    by_cases hx : ∃ x ∈ L, x.1 = i
    · obtain ⟨x, hx, rfl⟩ := hx
      exact (h'.2.1 x (.tail _ hx)).trans (h.2.1 x hx).symm
    · refine h'.2.2.2.2.2 i hi fun x hm e' => ?_
      rcases List.mem_cons.1 hm with rfl | hm
      · omega
      · exact hx ⟨x, hm, e'⟩⟩
theorem Ch.set {w : World} (m k : Nat) (v : Value) : Ch w (w.setCell ⟨m, k, none⟩ v) [m] := Ch.of_grown (grown_set w m k v)
theorem ow_stQ {o : Oper} {a : Act} {w : World} {K : Act → World → Prop} {Q : Exit → Act → World → Prop} (x y : Operand) (ho : o.op = .store 22 x y) {g k : Nat} (hx : a.eval x = .pointer (some ⟨g, k, none⟩)) {A : Option Addr} {n c : Nat} (hy : a.eval y = .slice A n c) {T : TypeId} {cs : Array Value} (hb : Blk w g T cs) {u : Value} (hk : cs[k]? = some u) (hd : o.dst = none)
    (h : K (a.put none undef) (w.setCell ⟨g, k, none⟩ (.slice A n c))) : o.wp Try.prog a w K Q := by
  have h' : K (a.put o.dst undef) (w.setCell ⟨g, k, none⟩ (.slice A n c)) := by rw [hd]; exact h
  clear h
  unfold Oper.wp execOp
  simp only [ho, hx, hy, Instr.storeAt, Instr.sureAddr, Sem.run_bind, Sem.run_pure, Result.andThen_ok, run_store_one onePacks (v := .slice A n c) rfl rfl ((hb.cell k).trans hk) (hb.frozen k)]
  exact h'
/-- what becomes of a packet that is put, in plain words -/
def atQ (seq : Int) (q : List Pq) : Nat := q.findIdx (fun p => decide (seq ≤ p.1))
def thereQ (seq : Int) (q : List Pq) : Bool := match q[atQ seq q]? with | some x => x.1 == seq | none => false
def lateJ (j : Jp) (p : Pq) : Bool := j.on && decide (p.1 < j.nx)
def putR (j : Jp) (p : Pq) : Int × List Pq :=
  if lateJ j p = true then (1, j.q) else if thereQ p.1 j.q = true then (2, j.q) else if farP j.on j.nx p.1 j.q = true then (3, j.q) else (0, j.q.take (atQ p.1 j.q) ++ p :: j.q.drop (atQ p.1 j.q))
theorem atP_map (seq : Int) (ls : List Pk) : atP seq ls = atQ seq (ls.map pl) := by
  unfold atP atQ
  rw [List.findIdx_map]
  rfl
theorem thereP_map (seq : Int) (ls : List Pk) : thereP seq ls = thereQ seq (ls.map pl) := by
  unfold thereP thereQ
  rw [← atP_map, List.getElem?_map]
  cases ls[atP seq ls]? <;> rfl
abbrev jC (on : Bool) (nx dp dr : Int) (g n c : Nat) : Array Value := #[.bool on, .int .i64 nx, .int .i64 dp, .int .i64 dr, .slice (some ⟨g, 0, none⟩) n c]
/-- behind a packet that was put -/
def PutP (w0 w : World) (m g : Nat) (j : Jp) (p : Pq) (e : Ending) (w' : World) : Prop :=
  ∃ g' c' cs' ls', e = .returned (.int .i64 (putR j p).1) ∧ ls'.map pl = (putR j p).2 ∧ MV w0 w' [(m, 24, jC j.on j.nx j.dp j.dr g' ls'.length c'), (g', 46, cs')] w' ∧ RowOk c' cs' ls' ∧ OwnL w0.heap.size w' [g', m] ls' ∧ Ch w w' [m, g] ∧ (g' = g ∨ w.heap.size ≤ g')
theorem put_done {w0 w u5 u9 : World} {m g gx g' c' k cx : Nat} {cs' : Array Value} {on : Bool} {nx dp dr : Int} {ls : List Pk} {p : Pk} (HE : putR ⟨on, nx, dp, dr, ls.map pl⟩ (pl p) = (0, (ls.map pl).take k ++ pl p :: (ls.map pl).drop k)) (H0 : Below w0.heap.size w0 w) (HC5 : Ch w u5 [m, g]) (HO5 : OwnL w0.heap.size u5 [g, m] ls) (HC9 : Ch u5 u9 [m, g])
    (HM9 : Blk u9 m 24 (jC on nx dp dr g' (ls.length + 1) c')) (HG9 : Blk u9 g' 46 cs') (HRO : RowOk c' cs' (ls.take k ++ ⟨p.s, some ⟨gx, 0, none⟩, p.n, cx, p.bs⟩ :: ls.drop k)) (HR9 : Rd u9 (some ⟨gx, 0, none⟩) p.n p.bs)
    (HG8 : g' ≠ m ∧ g' ≠ gx ∧ (g' = g ∨ u5.heap.size ≤ g')) (HX6 : m < gx ∧ g < gx ∧ u5.heap.size ≤ gx) (HNE : m ≠ g) (HGE : w0.heap.size ≤ m ∧ w0.heap.size ≤ g) (HS5 : w.heap.size ≤ u5.heap.size) (h0 : 0 < p.n) (hn : p.n ≤ 40) (HKL : k ≤ ls.length) :
    PutP w0 w m g ⟨on, nx, dp, dr, ls.map pl⟩ (pl p) (.returned (.int .i64 0)) u9 := by
  have hw := H0.size
  have hl : (ls.take k ++ (⟨p.s, some ⟨gx, 0, none⟩, p.n, cx, p.bs⟩ : Pk) :: ls.drop k).length = ls.length + 1 := by simp; omega
  have hc := HC5.trans HC9 (fun x hx => .inl hx)
  refine ⟨g', c', cs', _, by rw [HE], by rw [HE]; simp [List.map_take, List.map_drop, pl], ?_, HRO, ?_, hc, ?_⟩
  · rw [hl]
    refine MV.two (hc.below H0 (fun x hx => ?_) hw) HM9 HG9 HGE.1 (by rcases HG8.2.2 with h | h <;> omega) (Ne.symm HG8.1)
    simp only [List.mem_cons, List.not_mem_nil, or_false] at hx
    rcases hx with rfl | rfl
    · exact HGE.1
    · exact HGE.2
  · refine HO5.put k HC9 (fun x hx => ?_) (fun x hx => ?_) ⟨gx, rfl, by omega, ?_, HR9, h0, hn⟩ HX6.2.2
    · simp only [List.mem_cons, List.not_mem_nil, or_false] at hx ⊢
      exact hx.symm
    · simp only [List.mem_cons, List.not_mem_nil, or_false] at hx ⊢
      rcases hx with rfl | rfl
      · rcases HG8.2.2 with h | h
        · exact .inl (.inl h)
        · exact .inr h
      · exact .inl (.inr rfl)
    · simp only [List.mem_cons, List.not_mem_nil, or_false]
      have := HG8.2.1
      omega
  · rcases HG8.2.2 with h | h
    · exact .inl h
    · exact .inr (by omega)
set_option maxRecDepth 100000 in
set_option maxHeartbeats 16000000 in
theorem put_any (w0 w : World) (m g c : Nat) (cs : Array Value) (on : Bool) (nx dp dr : Int) (ls : List Pk) (p : Pk) (hm : Hid (MV w0 w [(m, 24, jC on nx dp dr g ls.length c), (g, 46, cs)] w)) (hr : Hid (RowOk c cs ls)) (ho : Hid (OwnL w0.heap.size w [g, m] ls))
    (hp : Hid (Rd w p.A p.n p.bs)) (hb : Hid (wrong p.s p.n = false)) (hok : Hid (OkJ ⟨on, nx, dp, dr, ls.map pl⟩)) (hl : Hid (ls.length ≤ 64)) :
    Calls Try.prog 35 #[.pointer (some ⟨m, 0, none⟩), .agg #[.int .i64 p.s, .slice p.A p.n p.c]] w (PutP w0 w m g ⟨on, nx, dp, dr, ls.map pl⟩ (pl p)) := by
  have H0 := Lib.hid hm.out.1
  have HM := hm
  have HM0 := hm
  clear hm
  have hpn : ∀ u : World, True := fun _ => trivial
  go_enter Try.func35, Try.ntmps35
  go_wp2_with (first | (first | (refine jL ?_) | (refine jS ?_; clear HM; intro us HM; simp only [List.set, List.setIfInBounds_toArray, List.set_cons_zero, List.set_cons_succ] at HM) | (refine jN ?_; first | (have q : dV HM = 0 := rfl; clear q HM; intro g1 u1 HG1 HM) | (have q : dV HM = 1 := rfl; clear q HM; intro g2 u2 HG2 HM) | (have q : dV HM = 2 := rfl; clear q HM; intro g3 u3 HG3 HM) | (have q : dV HM = 3 := rfl; clear q HM; intro g4 u4 HG4 HM) | (have q : dV HM = 4 := rfl; clear q HM; intro g5 u5 HG5 HM) | (have q : dV HM = 5 := rfl; clear q HM; intro g6 u6 HG6 HM) | (have q : dV HM = 6 := rfl; clear q HM; intro g7 u7 HG7 HM) | (have q : dV HM = 7 := rfl; clear q HM; intro g8 u8 HG8 HM) | (have q : dV HM = 8 := rfl; clear q HM; intro g9 u9 HG9 HM) | (have q : dV HM = 9 := rfl; clear q HM; intro g10 u10 HG10 HM) | (have q : dV HM = 10 := rfl; clear q HM; intro g11 u11 HG11 HM) | (have q : dV HM = 11 := rfl; clear q HM; intro g12 u12 HG12 HM) | (have q : dV HM = 12 := rfl; clear q HM; intro g13 u13 HG13 HM) | (have q : dV HM = 13 := rfl; clear q HM; intro g14 u14 HG14 HM))) | (refine wv_stP (by rfl) _ _ rfl rfl rfl HM (by exact vidxOf) (by with_reducible assumption) ?_; clear HM; intro us HM; dsimp only [List.set] at HM) | (refine wv_make (by rfl) _ _ _ rfl rfl rfl _ _ _ (by first | exact Try.underlying22 | exact Try.underlying35) HI0 HZ0 HY0 HM (by with_reducible assumption) ?_; first | (have q : dV HM = 0 := rfl; clear q HM; intro g1 u1 HG1 HM) | (have q : dV HM = 1 := rfl; clear q HM; intro g2 u2 HG2 HM) | (have q : dV HM = 2 := rfl; clear q HM; intro g3 u3 HG3 HM) | (have q : dV HM = 3 := rfl; clear q HM; intro g4 u4 HG4 HM) | (have q : dV HM = 4 := rfl; clear q HM; intro g5 u5 HG5 HM) | (have q : dV HM = 5 := rfl; clear q HM; intro g6 u6 HG6 HM) | (have q : dV HM = 6 := rfl; clear q HM; intro g7 u7 HG7 HM) | (have q : dV HM = 7 := rfl; clear q HM; intro g8 u8 HG8 HM) | (have q : dV HM = 8 := rfl; clear q HM; intro g9 u9 HG9 HM) | (have q : dV HM = 9 := rfl; clear q HM; intro g10 u10 HG10 HM) | (have q : dV HM = 10 := rfl; clear q HM; intro g11 u11 HG11 HM) | (have q : dV HM = 11 := rfl; clear q HM; intro g12 u12 HG12 HM) | (have q : dV HM = 12 := rfl; clear q HM; intro g13 u13 HG13 HM) | (have q : dV HM = 13 := rfl; clear q HM; intro g14 u14 HG14 HM)))
  clear hpn
  have bM := HM.out.get (g := m) (T := 24) (cs := jC on nx dp dr g ls.length c) (by exact vmemOf)
  have bP := HM.out.get (g := g3) (T := 46) (cs := #[.int .i64 p.s, .slice p.A p.n p.c]) (by exact vmemOf)
  have bG := HM.out.get (g := g) (T := 46) (cs := cs) (by exact vmemOf)
  have HLQ := Lib.hid (fun (u : World) (hu : Below u3.heap.size u3 u) => run_load_one (T := 22) (ad := ⟨m, 4, none⟩) (v := .slice (some ⟨g, 0, none⟩) ls.length c) onePacks (((bM.below hu bM.lt).cell 4).trans rfl))
  have HLO := Lib.hid (fun (u : World) (hu : Below u3.heap.size u3 u) => run_load_one (T := 4) (ad := ⟨m, 0, none⟩) (v := .bool on) oneBool (((bM.below hu bM.lt).cell 0).trans rfl))
  have HLN := Lib.hid (fun (u : World) (hu : Below u3.heap.size u3 u) => run_load_one (T := 3) (ad := ⟨m, 1, none⟩) (v := .int .i64 nx) oneInt (((bM.below hu bM.lt).cell 1).trans rfl))
  have HLJ := Lib.hid (fun (u : World) (hu : Below u3.heap.size u3 u) => run_load_blk (T := 24) rowJt (bM.below hu bM.lt) rfl)
  have HLS := Lib.hid (fun (u : World) (hu : Below u3.heap.size u3 u) => run_load_one (T := 3) (ad := ⟨g3, 0, none⟩) (v := .int .i64 p.s) oneInt (((bP.below hu bP.lt).cell 0).trans rfl))
  have HLP := Lib.hid (fun (u : World) (hu : Below u3.heap.size u3 u) => run_load_blk (T := 46) rowPk (bP.below hu bP.lt) rfl)
  have HO3 := Lib.hid (ho.out.keep HM.out (fun e he => by
    simp only [List.mem_cons, List.not_mem_nil, or_false] at he ⊢
    rcases he with rfl | rfl | rfl
    · exact .inr HG3.out
    · exact .inl (.inr rfl)
    · exact .inl (.inl rfl)))
  have HRP := Lib.hid (HO3.out.rdP hr.out bG)
  have HL1 := Lib.hid (show ls.length ≤ 281474976710656 by have := hl.out; omega)
  have HL64 := hl
  have HP3 := Lib.hid (hp.out.below (HM0.out.same HM.out HG3.out))
  clear HM0 hp
  have HCH := Lib.hid (Ch.mv (gs := [m, g]) H0.out HM.out (fun e he => by
    simp only [List.mem_cons, List.not_mem_nil, or_false] at he ⊢
    rcases he with rfl | rfl | rfl
    · exact .inr HG3.out
    · exact .inl (.inl rfl)
    · exact .inl (.inr rfl)))
  have HSAME := Lib.hid (show ∀ (u : World) (r : Int), Below u3.heap.size u3 u → putR ⟨on, nx, dp, dr, ls.map pl⟩ (pl p) = (r, ls.map pl) → PutP w0 w m g ⟨on, nx, dp, dr, ls.map pl⟩ (pl p) (.returned (.int .i64 r)) u from fun u r hu he =>
    ⟨g, c, cs, ls, by rw [he], by rw [he], (HM.out.below hu).sub (List.sublist_cons_self _ _), hr.out, HO3.out.below hu, HCH.out.trans (Ch.of_below hu []) (fun x hx => (nomatch hx)), .inl rfl⟩)
  clear bM bP bG ho hl
  refine wp_region_held_drew (S := fun u => Below u3.heap.size u3 u) (by kernel_rfl) (Below.drew (Below.refl _ _)) (fun hHeld => ?_); have HB := Lib.hid (show Below u3.heap.size u3 (World.drew u3) from Below.drew (Below.refl _ _)); generalize World.drew u3 = u0 at HB hHeld ⊢
  (refine wa_take (i := 0) (v := .pointer (some ⟨m, 0, none⟩)) rfl (by kernel_rfl) (by kernel_rfl) (by kernel_rfl) (fun _ _ _ h => h) (yi_free rfl (fun u => rfl)) hHeld rfl ?_; (try simp only [Act.put, List.setIfInBounds_toArray, List.set_cons_zero, List.set_cons_succ]))
  (refine wa_take (i := 1) (v := .pointer (some ⟨m, 0, none⟩)) rfl (by kernel_rfl) (by kernel_rfl) (by kernel_rfl) (fun _ _ _ h => h) (yi_free rfl (fun u => by go_simp)) hHeld rfl ?_; (try simp only [Act.put, List.setIfInBounds_toArray, List.set_cons_zero, List.set_cons_succ]))
  (refine wa_take (i := 2) (v := .pointer (some ⟨m, 4, none⟩)) rfl (by kernel_rfl) (by kernel_rfl) (by kernel_rfl) (fun _ _ _ h => h) (yi_free rfl (fun u => by go_simp)) hHeld rfl ?_; (try simp only [Act.put, List.setIfInBounds_toArray, List.set_cons_zero, List.set_cons_succ]))
  (refine wa_take (i := 3) rfl (by kernel_rfl) (by kernel_rfl) (by kernel_rfl) (fun _ _ _ h => h) (yv_load rfl _ _ rfl rfl (HLQ.out)) hHeld rfl ?_; (try simp only [Act.put, List.setIfInBounds_toArray, List.set_cons_zero, List.set_cons_succ]))
  (refine wa_take (i := 4) (v := .pointer (some ⟨g3, 0, none⟩)) rfl (by kernel_rfl) (by kernel_rfl) (by kernel_rfl) (fun _ _ _ h => h) (yi_free rfl (fun u => by go_simp)) hHeld rfl ?_; (try simp only [Act.put, List.setIfInBounds_toArray, List.set_cons_zero, List.set_cons_succ]))
  (refine wa_take (i := 5) rfl (by kernel_rfl) (by kernel_rfl) (by kernel_rfl) (fun _ _ _ h => h) (yv_load rfl _ _ rfl rfl (HLS.out)) hHeld rfl ?_; (try simp only [Act.put, List.setIfInBounds_toArray, List.set_cons_zero, List.set_cons_succ]))
  refine wpAnyH_ready (rs := [6]) (by kernel_rfl) (by simp) ?_; refine AllReadyH.cons rfl (fun K hK => ?_) (AllReadyH.nil)
  rw [if_pos (by rfl)]; go_simp
  refine (find_any (some ⟨g, 0, none⟩) ls.length c ls p.s _ (Lib.hid (HRP.out.keep HB.out)) HL1.out).mono ?_
  rintro e u4 ⟨rfl, hb⟩
  have HB1 := Lib.hid (HB.out.trans (hb.mono HB.out.size)); clear hb HB; have HB := HB1; clear HB1; go_wp2_with fail; refine hK.out _ _ HB.out (fun hHeld => ?_); clear hK K; (try simp only [Act.put, List.setIfInBounds_toArray, List.set_cons_zero, List.set_cons_succ])
  obtain ⟨k, hk⟩ : ∃ k, k = atP p.s ls := ⟨_, rfl⟩
  obtain ⟨th, hth⟩ : ∃ th, th = thereP p.s ls := ⟨_, rfl⟩
  rw [← hk, ← hth]
  have HK := Lib.hid hk
  have HTH := Lib.hid hth
  clear hk hth
  (refine wa_take (i := 7) (v := .tuple #[.int .i64 (k : Int), .bool th]) rfl (by kernel_rfl) (by kernel_rfl) (by kernel_rfl) (fun _ _ _ h => h) (yi_free rfl (fun u => rfl)) hHeld rfl ?_; (try simp only [Act.put, List.setIfInBounds_toArray, List.set_cons_zero, List.set_cons_succ]))
  (refine wa_take (i := 8) (v := .int .i64 (k : Int)) rfl (by kernel_rfl) (by kernel_rfl) (by kernel_rfl) (fun _ _ _ h => h) (yi_free rfl (fun u => rfl)) hHeld rfl ?_; (try simp only [Act.put, List.setIfInBounds_toArray, List.set_cons_zero, List.set_cons_succ]))
  (refine wa_take (i := 9) (v := .bool th) rfl (by kernel_rfl) (by kernel_rfl) (by kernel_rfl) (fun _ _ _ h => h) (yi_free rfl (fun u => rfl)) hHeld rfl ?_; (try simp only [Act.put, List.setIfInBounds_toArray, List.set_cons_zero, List.set_cons_succ]))
  (refine wa_take (i := 10) (v := .int .i64 (k : Int)) rfl (by kernel_rfl) (by kernel_rfl) (by kernel_rfl) (fun _ _ _ h => h) (yi_free rfl (fun u => rfl)) hHeld rfl ?_; (try simp only [Act.put, List.setIfInBounds_toArray, List.set_cons_zero, List.set_cons_succ]))
  (refine wa_take (i := 11) (v := .bool th) rfl (by kernel_rfl) (by kernel_rfl) (by kernel_rfl) (fun _ _ _ h => h) (yi_free rfl (fun u => rfl)) hHeld rfl ?_; (try simp only [Act.put, List.setIfInBounds_toArray, List.set_cons_zero, List.set_cons_succ]))
  refine wpAnyH_done (by kernel_rfl) ?_ _
  clear hHeld
  go_wp2_with fail
  have HS9 := Lib.hid (show 0 ≤ p.s ∧ p.s ≤ 1099511627776 ∧ 1 ≤ p.n ∧ p.n ≤ 40 by have := of_decide_eq_false hb.out; omega)
  rcases (by cases on <;> simp [Int.not_lt] <;> omega : (on = true ∧ p.s < nx) ∨ on = false ∨ (on = true ∧ ¬ p.s < nx)) with ⟨rfl, hlt⟩ | rfl | ⟨rfl, hlt⟩
  · have HE := Lib.hid (show putR ⟨true, nx, dp, dr, ls.map pl⟩ (pl p) = (1, ls.map pl) from if_pos (by unfold lateJ; rw [Bool.and_eq_true]; exact ⟨rfl, decide_eq_true hlt⟩))
    refine wp_region_held_drew (S := fun u => Below u3.heap.size u3 u) (by kernel_rfl) (Below.drew HB.out) (fun hHeld => ?_); have HB1 := Lib.hid (show Below u3.heap.size u3 (World.drew u4) from Below.drew HB.out); clear HB; have HB := HB1; clear HB1; generalize World.drew u4 = v0 at HB hHeld ⊢
    (refine wa_take (i := 0) (v := .pointer (some ⟨m, 0, none⟩)) rfl (by kernel_rfl) (by kernel_rfl) (by kernel_rfl) (fun _ _ _ h => h) (yi_free rfl (fun u => rfl)) hHeld rfl ?_; (try simp only [Act.put, List.setIfInBounds_toArray, List.set_cons_zero, List.set_cons_succ]))
    (refine wa_take (i := 1) (v := .pointer (some ⟨m, 0, none⟩)) rfl (by kernel_rfl) (by kernel_rfl) (by kernel_rfl) (fun _ _ _ h => h) (yi_free rfl (fun u => by go_simp)) hHeld rfl ?_; (try simp only [Act.put, List.setIfInBounds_toArray, List.set_cons_zero, List.set_cons_succ]))
    (refine wa_take (i := 2) (v := .pointer (some ⟨m, 0, none⟩)) rfl (by kernel_rfl) (by kernel_rfl) (by kernel_rfl) (fun _ _ _ h => h) (yi_free rfl (fun u => by go_simp)) hHeld rfl ?_; (try simp only [Act.put, List.setIfInBounds_toArray, List.set_cons_zero, List.set_cons_succ]))
    (refine wa_take (i := 3) rfl (by kernel_rfl) (by kernel_rfl) (by kernel_rfl) (fun _ _ _ h => h) (yv_load rfl _ _ rfl rfl (HLO.out)) hHeld rfl ?_; (try simp only [Act.put, List.setIfInBounds_toArray, List.set_cons_zero, List.set_cons_succ]))
    (refine wa_take (i := 4) (v := .bool true) rfl (by kernel_rfl) (by kernel_rfl) (by kernel_rfl) (fun _ _ _ h => h) (yi_free rfl (fun u => rfl)) hHeld rfl ?_; (try simp only [Act.put, List.setIfInBounds_toArray, List.set_cons_zero, List.set_cons_succ]))
    (refine wa_take (i := 5) (v := .pointer (some ⟨g3, 0, none⟩)) rfl (by kernel_rfl) (by kernel_rfl) (by kernel_rfl) (fun _ _ _ h => h) (yi_free rfl (fun u => by go_simp)) hHeld rfl ?_; (try simp only [Act.put, List.setIfInBounds_toArray, List.set_cons_zero, List.set_cons_succ]))
    (refine wa_take (i := 6) rfl (by kernel_rfl) (by kernel_rfl) (by kernel_rfl) (fun _ _ _ h => h) (yv_load rfl _ _ rfl rfl (HLS.out)) hHeld rfl ?_; (try simp only [Act.put, List.setIfInBounds_toArray, List.set_cons_zero, List.set_cons_succ]))
    (refine wa_take (i := 7) (v := .pointer (some ⟨m, 0, none⟩)) rfl (by kernel_rfl) (by kernel_rfl) (by kernel_rfl) (fun _ _ _ h => h) (yi_free rfl (fun u => rfl)) hHeld rfl ?_; (try simp only [Act.put, List.setIfInBounds_toArray, List.set_cons_zero, List.set_cons_succ]))
    (refine wa_take (i := 8) (v := .pointer (some ⟨m, 0, none⟩)) rfl (by kernel_rfl) (by kernel_rfl) (by kernel_rfl) (fun _ _ _ h => h) (yi_free rfl (fun u => by go_simp)) hHeld rfl ?_; (try simp only [Act.put, List.setIfInBounds_toArray, List.set_cons_zero, List.set_cons_succ]))
    (refine wa_take (i := 9) (v := .pointer (some ⟨m, 1, none⟩)) rfl (by kernel_rfl) (by kernel_rfl) (by kernel_rfl) (fun _ _ _ h => h) (yi_free rfl (fun u => by go_simp)) hHeld rfl ?_; (try simp only [Act.put, List.setIfInBounds_toArray, List.set_cons_zero, List.set_cons_succ]))
    (refine wa_take (i := 10) rfl (by kernel_rfl) (by kernel_rfl) (by kernel_rfl) (fun _ _ _ h => h) (yv_load rfl _ _ rfl rfl (HLN.out)) hHeld rfl ?_; (try simp only [Act.put, List.setIfInBounds_toArray, List.set_cons_zero, List.set_cons_succ]))
    (refine wa_take (i := 11) (v := .bool true) rfl (by kernel_rfl) (by kernel_rfl) (by kernel_rfl) (fun _ _ _ h => h) (yi_free rfl (fun u => by go_simp)) hHeld rfl ?_; (try simp only [Act.put, List.setIfInBounds_toArray, List.set_cons_zero, List.set_cons_succ]))
    (refine wa_take (i := 12) (v := .bool true) rfl (by kernel_rfl) (by kernel_rfl) (by kernel_rfl) (fun _ _ _ h => h) (yi_free rfl (fun u => rfl)) hHeld rfl ?_; (try simp only [Act.put, List.setIfInBounds_toArray, List.set_cons_zero, List.set_cons_succ]))
    (refine wa_take (i := 13) (v := .bool true) rfl (by kernel_rfl) (by kernel_rfl) (by kernel_rfl) (fun _ _ _ h => h) (yi_free rfl (fun u => rfl)) hHeld rfl ?_; (try simp only [Act.put, List.setIfInBounds_toArray, List.set_cons_zero, List.set_cons_succ]))
    refine wpAnyH_done (by kernel_rfl) ?_ _
    go_wp2_with fail
    go_ret
    exact HSAME.out _ _ HB.out HE.out
  · have HQ := Lib.hid (show ¬ lateJ ⟨false, nx, dp, dr, ls.map pl⟩ (pl p) = true by unfold lateJ; simp)
    refine wp_region_held_drew (S := fun u => Below u3.heap.size u3 u) (by kernel_rfl) (Below.drew HB.out) (fun hHeld => ?_); have HB1 := Lib.hid (show Below u3.heap.size u3 (World.drew u4) from Below.drew HB.out); clear HB; have HB := HB1; clear HB1; generalize World.drew u4 = v0 at HB hHeld ⊢
    (refine wa_take (i := 0) (v := .pointer (some ⟨m, 0, none⟩)) rfl (by kernel_rfl) (by kernel_rfl) (by kernel_rfl) (fun _ _ _ h => h) (yi_free rfl (fun u => rfl)) hHeld rfl ?_; (try simp only [Act.put, List.setIfInBounds_toArray, List.set_cons_zero, List.set_cons_succ]))
    (refine wa_take (i := 1) (v := .pointer (some ⟨m, 0, none⟩)) rfl (by kernel_rfl) (by kernel_rfl) (by kernel_rfl) (fun _ _ _ h => h) (yi_free rfl (fun u => by go_simp)) hHeld rfl ?_; (try simp only [Act.put, List.setIfInBounds_toArray, List.set_cons_zero, List.set_cons_succ]))
    (refine wa_take (i := 2) (v := .pointer (some ⟨m, 0, none⟩)) rfl (by kernel_rfl) (by kernel_rfl) (by kernel_rfl) (fun _ _ _ h => h) (yi_free rfl (fun u => by go_simp)) hHeld rfl ?_; (try simp only [Act.put, List.setIfInBounds_toArray, List.set_cons_zero, List.set_cons_succ]))
    (refine wa_take (i := 3) rfl (by kernel_rfl) (by kernel_rfl) (by kernel_rfl) (fun _ _ _ h => h) (yv_load rfl _ _ rfl rfl (HLO.out)) hHeld rfl ?_; (try simp only [Act.put, List.setIfInBounds_toArray, List.set_cons_zero, List.set_cons_succ]))
    (refine wa_take (i := 4) (v := .bool false) rfl (by kernel_rfl) (by kernel_rfl) (by kernel_rfl) (fun _ _ _ h => h) (yi_free rfl (fun u => rfl)) hHeld rfl ?_; (try simp only [Act.put, List.setIfInBounds_toArray, List.set_cons_zero, List.set_cons_succ]))
    (refine wa_take (i := 5) (v := undef) rfl (by kernel_rfl) (by kernel_rfl) (by kernel_rfl) (fun _ _ _ h => h) (.inr ⟨rfl, rfl⟩) hHeld rfl ?_; (try simp only [Act.put, List.setIfInBounds_toArray, List.set_cons_zero, List.set_cons_succ])); (refine wa_take (i := 6) (v := undef) rfl (by kernel_rfl) (by kernel_rfl) (by kernel_rfl) (fun _ _ _ h => h) (.inr ⟨rfl, rfl⟩) hHeld rfl ?_; (try simp only [Act.put, List.setIfInBounds_toArray, List.set_cons_zero, List.set_cons_succ])); (refine wa_take (i := 7) (v := undef) rfl (by kernel_rfl) (by kernel_rfl) (by kernel_rfl) (fun _ _ _ h => h) (.inr ⟨rfl, rfl⟩) hHeld rfl ?_; (try simp only [Act.put, List.setIfInBounds_toArray, List.set_cons_zero, List.set_cons_succ])); (refine wa_take (i := 8) (v := undef) rfl (by kernel_rfl) (by kernel_rfl) (by kernel_rfl) (fun _ _ _ h => h) (.inr ⟨rfl, rfl⟩) hHeld rfl ?_; (try simp only [Act.put, List.setIfInBounds_toArray, List.set_cons_zero, List.set_cons_succ])); (refine wa_take (i := 9) (v := undef) rfl (by kernel_rfl) (by kernel_rfl) (by kernel_rfl) (fun _ _ _ h => h) (.inr ⟨rfl, rfl⟩) hHeld rfl ?_; (try simp only [Act.put, List.setIfInBounds_toArray, List.set_cons_zero, List.set_cons_succ])); (refine wa_take (i := 10) (v := undef) rfl (by kernel_rfl) (by kernel_rfl) (by kernel_rfl) (fun _ _ _ h => h) (.inr ⟨rfl, rfl⟩) hHeld rfl ?_; (try simp only [Act.put, List.setIfInBounds_toArray, List.set_cons_zero, List.set_cons_succ])); (refine wa_take (i := 11) (v := undef) rfl (by kernel_rfl) (by kernel_rfl) (by kernel_rfl) (fun _ _ _ h => h) (.inr ⟨rfl, rfl⟩) hHeld rfl ?_; (try simp only [Act.put, List.setIfInBounds_toArray, List.set_cons_zero, List.set_cons_succ]))
    (refine wa_take (i := 12) (v := .bool false) rfl (by kernel_rfl) (by kernel_rfl) (by kernel_rfl) (fun _ _ _ h => h) (yi_free rfl (fun u => rfl)) hHeld rfl ?_; (try simp only [Act.put, List.setIfInBounds_toArray, List.set_cons_zero, List.set_cons_succ]))
    (refine wa_take (i := 13) (v := .bool false) rfl (by kernel_rfl) (by kernel_rfl) (by kernel_rfl) (fun _ _ _ h => h) (yi_free rfl (fun u => rfl)) hHeld rfl ?_; (try simp only [Act.put, List.setIfInBounds_toArray, List.set_cons_zero, List.set_cons_succ]))
    refine wpAnyH_done (by kernel_rfl) ?_ _
    cases th with
    | true =>
      have HE := Lib.hid (show putR ⟨false, nx, dp, dr, ls.map pl⟩ (pl p) = (2, ls.map pl) by
        unfold putR
        rw [if_neg HQ.out, if_pos (show thereQ (pl p).1 (ls.map pl) = true by rw [show (pl p).1 = p.s from rfl, ← thereP_map]; exact HTH.out.symm)])
      go_wp2_with fail
      go_ret
      exact HSAME.out _ _ HB.out HE.out
    | false =>
      have HT := Lib.hid (show ¬ thereQ (pl p).1 (ls.map pl) = true by rw [show (pl p).1 = p.s from rfl, ← thereP_map, ← HTH.out]; simp)
      go_wp2_with fail
      refine wp_region_held_drew (S := fun u => Below u3.heap.size u3 u) (by kernel_rfl) (Below.drew HB.out) (fun hHeld => ?_); have HB1 := Lib.hid (show Below u3.heap.size u3 (World.drew v0) from Below.drew HB.out); clear HB; have HB := HB1; clear HB1; generalize World.drew v0 = v0 at HB hHeld ⊢
      (refine wa_take (i := 0) (v := .pointer (some ⟨m, 0, none⟩)) rfl (by kernel_rfl) (by kernel_rfl) (by kernel_rfl) (fun _ _ _ h => h) (yi_free rfl (fun u => rfl)) hHeld rfl ?_; (try simp only [Act.put, List.setIfInBounds_toArray, List.set_cons_zero, List.set_cons_succ]))
      (refine wa_take (i := 1) (v := .pointer (some ⟨m, 0, none⟩)) rfl (by kernel_rfl) (by kernel_rfl) (by kernel_rfl) (fun _ _ _ h => h) (yi_free rfl (fun u => by go_simp)) hHeld rfl ?_; (try simp only [Act.put, List.setIfInBounds_toArray, List.set_cons_zero, List.set_cons_succ]))
      (refine wa_take (i := 2) rfl (by kernel_rfl) (by kernel_rfl) (by kernel_rfl) (fun _ _ _ h => h) (yv_load rfl _ _ rfl rfl (HLJ.out)) hHeld rfl ?_; (try simp only [Act.put, List.setIfInBounds_toArray, List.set_cons_zero, List.set_cons_succ]))
      (refine wa_take (i := 3) (v := .pointer (some ⟨g3, 0, none⟩)) rfl (by kernel_rfl) (by kernel_rfl) (by kernel_rfl) (fun _ _ _ h => h) (yi_free rfl (fun u => by go_simp)) hHeld rfl ?_; (try simp only [Act.put, List.setIfInBounds_toArray, List.set_cons_zero, List.set_cons_succ]))
      (refine wa_take (i := 4) rfl (by kernel_rfl) (by kernel_rfl) (by kernel_rfl) (fun _ _ _ h => h) (yv_load rfl _ _ rfl rfl (HLS.out)) hHeld rfl ?_; (try simp only [Act.put, List.setIfInBounds_toArray, List.set_cons_zero, List.set_cons_succ]))
      refine wpAnyH_ready (rs := [5]) (by kernel_rfl) (by simp) ?_; refine AllReadyH.cons rfl (fun K hK => ?_) (AllReadyH.nil)
      rw [if_pos (by rfl)]; go_simp
      refine (isFar_any false nx dp dr (some ⟨g, 0, none⟩) ls.length c ls p.s _ (Lib.hid (HRP.out.keep HB.out)) HL1.out hok.out.1.2.2.1 (Int.le_trans hok.out.1.2.2.2.1 (mostX_le false)) (by have := HS9.out; omega) (by have := HS9.out; omega) (Lib.hid hok.out.2.1)).mono ?_
      obtain ⟨fr, hfr⟩ : ∃ fr, fr = farP false nx p.s (ls.map pl) := ⟨_, rfl⟩
      rw [← hfr]
      have HFR := Lib.hid hfr
      clear hfr
      rintro e u5 ⟨rfl, hb⟩
      have HB1 := Lib.hid (HB.out.trans (hb.mono HB.out.size)); clear hb HB; have HB := HB1; clear HB1; go_wp2_with fail; refine hK.out _ _ HB.out (fun hHeld => ?_); clear hK K; (try simp only [Act.put, List.setIfInBounds_toArray, List.set_cons_zero, List.set_cons_succ])
      (refine wa_take (i := 6) (v := .bool fr) rfl (by kernel_rfl) (by kernel_rfl) (by kernel_rfl) (fun _ _ _ h => h) (yi_free rfl (fun u => rfl)) hHeld rfl ?_; (try simp only [Act.put, List.setIfInBounds_toArray, List.set_cons_zero, List.set_cons_succ]))
      refine wpAnyH_done (by kernel_rfl) ?_ _
      cases fr with
      | true =>
        have HE := Lib.hid (show putR ⟨false, nx, dp, dr, ls.map pl⟩ (pl p) = (3, ls.map pl) by
          unfold putR
          rw [if_neg HQ.out, if_neg HT.out, if_pos (show farP false nx (pl p).1 (ls.map pl) = true from HFR.out.symm)])
        go_wp2_with fail
        go_ret
        exact HSAME.out _ _ HB.out HE.out
      | false =>
        have HE := Lib.hid (show putR ⟨false, nx, dp, dr, ls.map pl⟩ (pl p) = (0, (ls.map pl).take k ++ pl p :: (ls.map pl).drop k) by
          unfold putR
          rw [if_neg HQ.out, if_neg HT.out, if_neg (show ¬ farP false nx (pl p).1 (ls.map pl) = true by rw [show farP false nx (pl p).1 (ls.map pl) = false from HFR.out.symm]; simp)]
          show (_, (ls.map pl).take (atQ p.s (ls.map pl)) ++ pl p :: (ls.map pl).drop (atQ p.s (ls.map pl))) = _
          rw [← atP_map, ← HK.out])
        go_wp2_with fail
        have hmm := HM.out.2.2.2.1
        have HNE := Lib.hid (show m ≠ g from (List.pairwise_cons.1 (List.pairwise_cons.1 hmm).2).1 (g, 46, cs) (List.mem_singleton.2 rfl))
        have HN3M := Lib.hid (show g3 ≠ m from (List.pairwise_cons.1 hmm).1 (m, 24, jC false nx dp dr g ls.length c) (by simp))
        have HN3 := Lib.hid (show g3 ≠ g from (List.pairwise_cons.1 hmm).1 (g, 46, cs) (by simp))
        have HGE := Lib.hid (show w0.heap.size ≤ m ∧ w0.heap.size ≤ g from ⟨HM.out.2.2.1 (m, _, _) (by exact vmemOf), HM.out.2.2.1 (g, _, _) (by exact vmemOf)⟩)
        have HKL := Lib.hid (show k ≤ ls.length by rw [HK.out]; exact atP_le _ _)
        clear hmm
        have HM5 := Lib.hid (HM.out.below HB.out)
        have HC5 := Lib.hid (HCH.out.trans (Ch.of_below HB.out []) (fun x hx => (nomatch hx)))
        have HO5 := Lib.hid (HO3.out.below HB.out)
        have HS5 := Lib.hid (HM5.out.2.2.2.2.1)
        have HP5 := Lib.hid (HP3.out.below HB.out)
        clear HSAME HLQ HLO HLN HLJ HLS HLP HRP HO3 HCH HM HB hHeld
        have HL9 := Lib.hid (show ls.length ≤ 64 from HL64.out)
        have HLP8 := Lib.hid (fun (u : World) (hu : Blk u g3 46 #[.int .i64 p.s, .slice p.A p.n p.c]) => run_load_blk (T := 46) rowPk hu rfl)
        refine wp_region_held_drew (S := fun u => Blk u g3 46 #[.int .i64 p.s, .slice p.A p.n p.c]) (by kernel_rfl) (HM5.out.get (by exact vmemOf)).drew (fun hHeld => ?_)
        have HMV := Lib.hid (HM5.out.drew)
        have HCV := Lib.hid (show Ch u5 u5.drew [m, g] from Ch.of_below (Below.drew (Below.refl _ _)) _)
        have HPV := Lib.hid (show Rd u5.drew p.A p.n p.bs from HP5.out)
        generalize World.drew u5 = v0 at HMV HCV HPV hHeld ⊢
        (refine wa_take (i := 0) (v := .pointer (some ⟨m, 0, none⟩)) rfl (by kernel_rfl) (by kernel_rfl) (by kernel_rfl) (fun _ _ _ h => h) (yi_free rfl (fun u => rfl)) hHeld rfl ?_; (try simp only [Act.put, List.setIfInBounds_toArray, List.set_cons_zero, List.set_cons_succ]))
        (refine wa_take (i := 1) (v := .pointer (some ⟨m, 0, none⟩)) rfl (by kernel_rfl) (by kernel_rfl) (by kernel_rfl) (fun _ _ _ h => h) (yi_free rfl (fun u => rfl)) hHeld rfl ?_; (try simp only [Act.put, List.setIfInBounds_toArray, List.set_cons_zero, List.set_cons_succ]))
        (refine wa_take (i := 2) (v := .pointer (some ⟨m, 0, none⟩)) rfl (by kernel_rfl) (by kernel_rfl) (by kernel_rfl) (fun _ _ _ h => h) (yi_free rfl (fun u => by go_simp)) hHeld rfl ?_; (try simp only [Act.put, List.setIfInBounds_toArray, List.set_cons_zero, List.set_cons_succ]))
        (refine wa_take (i := 3) (v := .pointer (some ⟨m, 4, none⟩)) rfl (by kernel_rfl) (by kernel_rfl) (by kernel_rfl) (fun _ _ _ h => h) (yi_free rfl (fun u => by go_simp)) hHeld rfl ?_; (try simp only [Act.put, List.setIfInBounds_toArray, List.set_cons_zero, List.set_cons_succ]))
        (refine wa_take (i := 5) (v := .int .i64 (k : Int)) rfl (by kernel_rfl) (by kernel_rfl) (by kernel_rfl) (fun _ _ _ h => h) (yi_free rfl (fun u => rfl)) hHeld rfl ?_; (try simp only [Act.put, List.setIfInBounds_toArray, List.set_cons_zero, List.set_cons_succ]))
        (refine wa_take (i := 6) rfl (by kernel_rfl) (by kernel_rfl) (by kernel_rfl) (fun _ _ _ h => h) (yv_load rfl _ _ rfl rfl (HLP8.out)) hHeld rfl ?_; (try simp only [Act.put, List.setIfInBounds_toArray, List.set_cons_zero, List.set_cons_succ]))
        refine wpAnyH_ready (rs := [4, 7]) (by kernel_rfl) (by simp) ?_; refine AllReadyH.cons rfl (fun K hK => ?_) (AllReadyH.cons rfl (fun K hK => ?_) (AllReadyH.nil))
        · rw [if_pos (by rfl)]
          refine ov_load _ _ rfl rfl (run_load_one (T := 22) (ad := ⟨m, 4, none⟩) (v := .slice (some ⟨g, 0, none⟩) ls.length c) onePacks (((HMV.out.get (g := m) (by exact vmemOf)).cell 4).trans rfl)) ?_
          refine hK.out _ _ (HMV.out.get (by exact vmemOf)) (fun hHeld => ?_)
          clear hK K
          (try simp only [Act.put, List.setIfInBounds_toArray, List.set_cons_zero, List.set_cons_succ])
          refine wpAnyH_ready (rs := [7]) (by kernel_rfl) (by simp) ?_; refine AllReadyH.cons rfl (fun K hK => ?_) (AllReadyH.nil)
          rw [if_pos (by rfl)]; go_simp
          refine (ownPacket_any p _ HPV (by have := HS9.out; omega) (by have := HS9.out; omega)).mono ?_
          rintro e u6 ⟨gx, cx, rfl, hgx, hr6, hb6⟩
          have HM6 := Lib.hid (HMV.out.below hb6)
          have HC6 := Lib.hid (HCV.out.trans (Ch.of_below hb6 []) (fun x hx => (nomatch hx)))
          have HRV := Lib.hid hr6
          have HX6 := Lib.hid (show m < gx ∧ g < gx ∧ u5.heap.size ≤ gx from ⟨Nat.lt_of_lt_of_le (HMV.out.get (g := m) (by exact vmemOf)).lt hgx, Nat.lt_of_lt_of_le (HMV.out.get (g := g) (by exact vmemOf)).lt hgx, Nat.le_trans HCV.out.2.1 hgx⟩)
          clear hgx hr6 hb6 HMV HCV HPV
          have HMV := HM6
          have HCV := HC6
          clear HM6 HC6
          go_wp2_with fail
          refine hK.out _ _ (HMV.out.get (by exact vmemOf)) (fun hHeld => ?_)
          clear hK K
          (try simp only [Act.put, List.setIfInBounds_toArray, List.set_cons_zero, List.set_cons_succ])
          refine wpAnyH_ready (rs := [8]) (by kernel_rfl) (by simp) ?_; refine AllReadyH.cons rfl (fun K hK => ?_) (AllReadyH.nil)
          rw [if_pos (by rfl)]
          refine ow_run (ex_build_pk _ rfl rfl) ?_
          have HM7 := Lib.hid (HMV.out.skip (.cells #[.int .i64 p.s, .slice (some ⟨gx, 0, none⟩) p.n cx] 46))
          have HV7 := Lib.hid (Blk.new u6 46 #[.int .i64 p.s, .slice (some ⟨gx, 0, none⟩) p.n cx])
          have HC7 := Lib.hid (HCV.out.trans (Ch.of_below ((Below.refl u6.heap.size u6).alloc (Nat.le_refl _) (.cells #[.int .i64 p.s, .slice (some ⟨gx, 0, none⟩) p.n cx] 46)) []) (fun x hx => (nomatch hx)))
          have HR7 := Lib.hid (HRV.out.alloc (.cells #[.int .i64 p.s, .slice (some ⟨gx, 0, none⟩) p.n cx] 46))
          have HX7 := Lib.hid (show u6.heap.size ≠ g ∧ m < u6.heap.size from ⟨Nat.ne_of_gt (HMV.out.get (g := g) (by exact vmemOf)).lt, (HMV.out.get (g := m) (by exact vmemOf)).lt⟩)
          clear HMV HCV HRV
          have HMV := HM7
          have HCV := HC7
          have HRV := HR7
          clear HM7 HC7 HR7
          generalize u6.alloc (.cells #[.int .i64 p.s, .slice (some ⟨gx, 0, none⟩) p.n cx] 46) = u7 at HMV HV7 HCV HRV ⊢
          generalize u6.heap.size = gv at HV7 HX7 ⊢
          refine hK.out _ _ (HMV.out.get (by exact vmemOf)) (fun hHeld => ?_)
          clear hK K
          (try simp only [Act.put, List.setIfInBounds_toArray, List.set_cons_zero, List.set_cons_succ])
          refine wpAnyH_ready (rs := [9]) (by kernel_rfl) (by simp) ?_; refine AllReadyH.cons rfl (fun K hK => ?_) (AllReadyH.nil)
          rw [if_pos (by rfl)]; go_simp
          refine (insert_any gv g k c ⟨p.s, some ⟨gx, 0, none⟩, p.n, cx, p.bs⟩ cs ls _ HV7.out (HMV.out.get (g := g) (by exact vmemOf)) HX7.out.1 hr HKL.out (by have := HL9.out; omega)).mono ?_
          rintro e u8 ⟨g', c', cs', rfl, hg8, hr8, hgr, hn8⟩
          have bM8 := (HMV.out.get (g := m) (T := 24) (cs := jC false nx dp dr g ls.length c) (by exact vmemOf)).only hgr HNE.out
          have b38 := (HMV.out.get (g := g3) (T := 46) (cs := #[.int .i64 p.s, .slice p.A p.n p.c]) (by exact vmemOf)).only hgr HN3.out
          have HBM := Lib.hid bM8
          have HB3 := Lib.hid b38
          have HC8 := Lib.hid (HCV.out.trans (Ch.of_grown hgr) (fun x hx => .inl (by rw [List.mem_singleton.1 hx]; simp)))
          have HR8 := Lib.hid ((Ch.of_grown hgr).rd HRV.out (by have := HX6.out; simp; omega))
          have HG8 := Lib.hid (show g' ≠ m ∧ g' ≠ gx ∧ (g' = g ∨ u5.heap.size ≤ g') from by
            have h1 := rd_lt HRV.out _ rfl (by have := HS9.out; omega)
            have h2 := HX6.out
            have h3 := (HMV.out.get (g := m) (by exact vmemOf)).lt
            have h4 := HCV.out.2.1
            have h5 := HNE.out
            have h6 := hgr.size
            simp only at h1
            rcases hn8 with h | h
            · exact ⟨by omega, by omega, .inl h⟩
            · exact ⟨by omega, by omega, .inr (by omega)⟩)
          have HGB := Lib.hid hg8
          have HRO := Lib.hid hr8
          clear hg8 hr8 hgr hn8 HMV HCV HRV bM8 b38 HV7
          go_wp2_with fail
          refine hK.out _ _ HB3.out (fun hHeld => ?_)
          clear hK K
          (try simp only [Act.put, List.setIfInBounds_toArray, List.set_cons_zero, List.set_cons_succ])
          (refine wa_take (i := 10) (v := .pointer (some ⟨m, 0, none⟩)) rfl (by kernel_rfl) (by kernel_rfl) (by kernel_rfl) (fun _ _ _ h => h) (yi_free rfl (fun u => by go_simp)) hHeld rfl ?_; (try simp only [Act.put, List.setIfInBounds_toArray, List.set_cons_zero, List.set_cons_succ]))
          (refine wa_take (i := 11) (v := .pointer (some ⟨m, 4, none⟩)) rfl (by kernel_rfl) (by kernel_rfl) (by kernel_rfl) (fun _ _ _ h => h) (yi_free rfl (fun u => by go_simp)) hHeld rfl ?_; (try simp only [Act.put, List.setIfInBounds_toArray, List.set_cons_zero, List.set_cons_succ]))
          refine wpAnyH_ready (rs := [12]) (by kernel_rfl) (by simp) ?_; refine AllReadyH.cons rfl (fun K hK => ?_) (AllReadyH.nil)
          rw [if_pos (by rfl)]
          refine ow_stQ _ _ rfl rfl rfl HBM.out rfl rfl ?_
          have hc9 := HC8.out.trans (Ch.set (w := u8) m 4 (.slice (some ⟨g', 0, none⟩) (ls.length + 1) c')) (fun x hx => .inl (by rw [List.mem_singleton.1 hx]; simp))
          have HG9 := Lib.hid ((HGB.out.far (show g' ≠ (⟨m, 4, none⟩ : Addr).block from HG8.out.1) (.slice (some ⟨g', 0, none⟩) (ls.length + 1) c')))
          have HM9 := Lib.hid (show Blk (u8.setCell ⟨m, 4, none⟩ (.slice (some ⟨g', 0, none⟩) (ls.length + 1) c')) m 24 (jC false nx dp dr g' (ls.length + 1) c') from HBM.out.set_ 4 _)
          have HR9 := Lib.hid ((Ch.set (w := u8) m 4 (.slice (some ⟨g', 0, none⟩) (ls.length + 1) c')).rd HR8.out (by have := HX6.out; simp; omega))
          have HB9 := Lib.hid (HB3.out.far (show g3 ≠ (⟨m, 4, none⟩ : Addr).block from HN3M.out) (.slice (some ⟨g', 0, none⟩) (ls.length + 1) c'))
          have HC9 := Lib.hid hc9
          clear hc9 HBM HB3 HC8 HR8 HGB
          generalize u8.setCell ⟨m, 4, none⟩ (.slice (some ⟨g', 0, none⟩) (ls.length + 1) c') = u9 at HG9 HM9 HR9 HB9 HC9 ⊢
          refine hK.out _ _ HB9.out (fun hHeld => ?_)
          clear hK K
          (try simp only [Act.put, List.setIfInBounds_toArray, List.set_cons_zero, List.set_cons_succ])
          refine wpAnyH_done (by kernel_rfl) ?_ _
          go_wp2_with fail
          go_ret
          exact put_done HE.out H0.out HC5.out HO5.out HC9.out HM9.out HG9.out HRO.out HR9.out HG8.out HX6.out HNE.out HGE.out HS5.out (by have := HS9.out; omega) (by have := HS9.out; omega) HKL.out
        · rw [if_pos (by rfl)]; go_simp
          refine (ownPacket_any p _ HPV (by have := HS9.out; omega) (by have := HS9.out; omega)).mono ?_
          rintro e u6 ⟨gx, cx, rfl, hgx, hr6, hb6⟩
          have HM6 := Lib.hid (HMV.out.below hb6)
          have HC6 := Lib.hid (HCV.out.trans (Ch.of_below hb6 []) (fun x hx => (nomatch hx)))
          have HRV := Lib.hid hr6
          have HX6 := Lib.hid (show m < gx ∧ g < gx ∧ u5.heap.size ≤ gx from ⟨Nat.lt_of_lt_of_le (HMV.out.get (g := m) (by exact vmemOf)).lt hgx, Nat.lt_of_lt_of_le (HMV.out.get (g := g) (by exact vmemOf)).lt hgx, Nat.le_trans HCV.out.2.1 hgx⟩)
          clear hgx hr6 hb6 HMV HCV HPV
          have HMV := HM6
          have HCV := HC6
          clear HM6 HC6
          go_wp2_with fail
          refine hK.out _ _ (HMV.out.get (by exact vmemOf)) (fun hHeld => ?_)
          clear hK K
          (try simp only [Act.put, List.setIfInBounds_toArray, List.set_cons_zero, List.set_cons_succ])
          refine wpAnyH_ready (rs := [4, 8]) (by kernel_rfl) (by simp) ?_; refine AllReadyH.cons rfl (fun K hK => ?_) (AllReadyH.cons rfl (fun K hK => ?_) (AllReadyH.nil))
          · rw [if_pos (by rfl)]
            refine ov_load _ _ rfl rfl (run_load_one (T := 22) (ad := ⟨m, 4, none⟩) (v := .slice (some ⟨g, 0, none⟩) ls.length c) onePacks (((HMV.out.get (g := m) (by exact vmemOf)).cell 4).trans rfl)) ?_
            refine hK.out _ _ (HMV.out.get (by exact vmemOf)) (fun hHeld => ?_)
            clear hK K
            (try simp only [Act.put, List.setIfInBounds_toArray, List.set_cons_zero, List.set_cons_succ])
            refine wpAnyH_ready (rs := [8]) (by kernel_rfl) (by simp) ?_; refine AllReadyH.cons rfl (fun K hK => ?_) (AllReadyH.nil)
            rw [if_pos (by rfl)]
            refine ow_run (ex_build_pk _ rfl rfl) ?_
            have HM7 := Lib.hid (HMV.out.skip (.cells #[.int .i64 p.s, .slice (some ⟨gx, 0, none⟩) p.n cx] 46))
            have HV7 := Lib.hid (Blk.new u6 46 #[.int .i64 p.s, .slice (some ⟨gx, 0, none⟩) p.n cx])
            have HC7 := Lib.hid (HCV.out.trans (Ch.of_below ((Below.refl u6.heap.size u6).alloc (Nat.le_refl _) (.cells #[.int .i64 p.s, .slice (some ⟨gx, 0, none⟩) p.n cx] 46)) []) (fun x hx => (nomatch hx)))
            have HR7 := Lib.hid (HRV.out.alloc (.cells #[.int .i64 p.s, .slice (some ⟨gx, 0, none⟩) p.n cx] 46))
            have HX7 := Lib.hid (show u6.heap.size ≠ g ∧ m < u6.heap.size from ⟨Nat.ne_of_gt (HMV.out.get (g := g) (by exact vmemOf)).lt, (HMV.out.get (g := m) (by exact vmemOf)).lt⟩)
            clear HMV HCV HRV
            have HMV := HM7
            have HCV := HC7
            have HRV := HR7
            clear HM7 HC7 HR7
            generalize u6.alloc (.cells #[.int .i64 p.s, .slice (some ⟨gx, 0, none⟩) p.n cx] 46) = u7 at HMV HV7 HCV HRV ⊢
            generalize u6.heap.size = gv at HV7 HX7 ⊢
            refine hK.out _ _ (HMV.out.get (by exact vmemOf)) (fun hHeld => ?_)
            clear hK K
            (try simp only [Act.put, List.setIfInBounds_toArray, List.set_cons_zero, List.set_cons_succ])
            refine wpAnyH_ready (rs := [9]) (by kernel_rfl) (by simp) ?_; refine AllReadyH.cons rfl (fun K hK => ?_) (AllReadyH.nil)
            rw [if_pos (by rfl)]; go_simp
            refine (insert_any gv g k c ⟨p.s, some ⟨gx, 0, none⟩, p.n, cx, p.bs⟩ cs ls _ HV7.out (HMV.out.get (g := g) (by exact vmemOf)) HX7.out.1 hr HKL.out (by have := HL9.out; omega)).mono ?_
            rintro e u8 ⟨g', c', cs', rfl, hg8, hr8, hgr, hn8⟩
            have bM8 := (HMV.out.get (g := m) (T := 24) (cs := jC false nx dp dr g ls.length c) (by exact vmemOf)).only hgr HNE.out
            have b38 := (HMV.out.get (g := g3) (T := 46) (cs := #[.int .i64 p.s, .slice p.A p.n p.c]) (by exact vmemOf)).only hgr HN3.out
            have HBM := Lib.hid bM8
            have HB3 := Lib.hid b38
            have HC8 := Lib.hid (HCV.out.trans (Ch.of_grown hgr) (fun x hx => .inl (by rw [List.mem_singleton.1 hx]; simp)))
            have HR8 := Lib.hid ((Ch.of_grown hgr).rd HRV.out (by have := HX6.out; simp; omega))
            have HG8 := Lib.hid (show g' ≠ m ∧ g' ≠ gx ∧ (g' = g ∨ u5.heap.size ≤ g') from by
              have h1 := rd_lt HRV.out _ rfl (by have := HS9.out; omega)
              have h2 := HX6.out
              have h3 := (HMV.out.get (g := m) (by exact vmemOf)).lt
              have h4 := HCV.out.2.1
              have h5 := HNE.out
              have h6 := hgr.size
              simp only at h1
              rcases hn8 with h | h
              · exact ⟨by omega, by omega, .inl h⟩
              · exact ⟨by omega, by omega, .inr (by omega)⟩)
            have HGB := Lib.hid hg8
            have HRO := Lib.hid hr8
            clear hg8 hr8 hgr hn8 HMV HCV HRV bM8 b38 HV7
            go_wp2_with fail
            refine hK.out _ _ HB3.out (fun hHeld => ?_)
            clear hK K
            (try simp only [Act.put, List.setIfInBounds_toArray, List.set_cons_zero, List.set_cons_succ])
            (refine wa_take (i := 10) (v := .pointer (some ⟨m, 0, none⟩)) rfl (by kernel_rfl) (by kernel_rfl) (by kernel_rfl) (fun _ _ _ h => h) (yi_free rfl (fun u => by go_simp)) hHeld rfl ?_; (try simp only [Act.put, List.setIfInBounds_toArray, List.set_cons_zero, List.set_cons_succ]))
            (refine wa_take (i := 11) (v := .pointer (some ⟨m, 4, none⟩)) rfl (by kernel_rfl) (by kernel_rfl) (by kernel_rfl) (fun _ _ _ h => h) (yi_free rfl (fun u => by go_simp)) hHeld rfl ?_; (try simp only [Act.put, List.setIfInBounds_toArray, List.set_cons_zero, List.set_cons_succ]))
            refine wpAnyH_ready (rs := [12]) (by kernel_rfl) (by simp) ?_; refine AllReadyH.cons rfl (fun K hK => ?_) (AllReadyH.nil)
            rw [if_pos (by rfl)]
            refine ow_stQ _ _ rfl rfl rfl HBM.out rfl rfl ?_
            have hc9 := HC8.out.trans (Ch.set (w := u8) m 4 (.slice (some ⟨g', 0, none⟩) (ls.length + 1) c')) (fun x hx => .inl (by rw [List.mem_singleton.1 hx]; simp))
            have HG9 := Lib.hid ((HGB.out.far (show g' ≠ (⟨m, 4, none⟩ : Addr).block from HG8.out.1) (.slice (some ⟨g', 0, none⟩) (ls.length + 1) c')))
            have HM9 := Lib.hid (show Blk (u8.setCell ⟨m, 4, none⟩ (.slice (some ⟨g', 0, none⟩) (ls.length + 1) c')) m 24 (jC false nx dp dr g' (ls.length + 1) c') from HBM.out.set_ 4 _)
            have HR9 := Lib.hid ((Ch.set (w := u8) m 4 (.slice (some ⟨g', 0, none⟩) (ls.length + 1) c')).rd HR8.out (by have := HX6.out; simp; omega))
            have HB9 := Lib.hid (HB3.out.far (show g3 ≠ (⟨m, 4, none⟩ : Addr).block from HN3M.out) (.slice (some ⟨g', 0, none⟩) (ls.length + 1) c'))
            have HC9 := Lib.hid hc9
            clear hc9 HBM HB3 HC8 HR8 HGB
            generalize u8.setCell ⟨m, 4, none⟩ (.slice (some ⟨g', 0, none⟩) (ls.length + 1) c') = u9 at HG9 HM9 HR9 HB9 HC9 ⊢
            refine hK.out _ _ HB9.out (fun hHeld => ?_)
            clear hK K
            (try simp only [Act.put, List.setIfInBounds_toArray, List.set_cons_zero, List.set_cons_succ])
            refine wpAnyH_done (by kernel_rfl) ?_ _
            go_wp2_with fail
            go_ret
            exact put_done HE.out H0.out HC5.out HO5.out HC9.out HM9.out HG9.out HRO.out HR9.out HG8.out HX6.out HNE.out HGE.out HS5.out (by have := HS9.out; omega) (by have := HS9.out; omega) HKL.out
          · rw [if_pos (by rfl)]
            refine ow_run (ex_build_pk _ rfl rfl) ?_
            have HM7 := Lib.hid (HMV.out.skip (.cells #[.int .i64 p.s, .slice (some ⟨gx, 0, none⟩) p.n cx] 46))
            have HV7 := Lib.hid (Blk.new u6 46 #[.int .i64 p.s, .slice (some ⟨gx, 0, none⟩) p.n cx])
            have HC7 := Lib.hid (HCV.out.trans (Ch.of_below ((Below.refl u6.heap.size u6).alloc (Nat.le_refl _) (.cells #[.int .i64 p.s, .slice (some ⟨gx, 0, none⟩) p.n cx] 46)) []) (fun x hx => (nomatch hx)))
            have HR7 := Lib.hid (HRV.out.alloc (.cells #[.int .i64 p.s, .slice (some ⟨gx, 0, none⟩) p.n cx] 46))
            have HX7 := Lib.hid (show u6.heap.size ≠ g ∧ m < u6.heap.size from ⟨Nat.ne_of_gt (HMV.out.get (g := g) (by exact vmemOf)).lt, (HMV.out.get (g := m) (by exact vmemOf)).lt⟩)
            clear HMV HCV HRV
            have HMV := HM7
            have HCV := HC7
            have HRV := HR7
            clear HM7 HC7 HR7
            generalize u6.alloc (.cells #[.int .i64 p.s, .slice (some ⟨gx, 0, none⟩) p.n cx] 46) = u7 at HMV HV7 HCV HRV ⊢
            generalize u6.heap.size = gv at HV7 HX7 ⊢
            refine hK.out _ _ (HMV.out.get (by exact vmemOf)) (fun hHeld => ?_)
            clear hK K
            (try simp only [Act.put, List.setIfInBounds_toArray, List.set_cons_zero, List.set_cons_succ])
            refine wpAnyH_ready (rs := [4]) (by kernel_rfl) (by simp) ?_; refine AllReadyH.cons rfl (fun K hK => ?_) (AllReadyH.nil)
            rw [if_pos (by rfl)]
            refine ov_load _ _ rfl rfl (run_load_one (T := 22) (ad := ⟨m, 4, none⟩) (v := .slice (some ⟨g, 0, none⟩) ls.length c) onePacks (((HMV.out.get (g := m) (by exact vmemOf)).cell 4).trans rfl)) ?_
            refine hK.out _ _ (HMV.out.get (by exact vmemOf)) (fun hHeld => ?_)
            clear hK K
            (try simp only [Act.put, List.setIfInBounds_toArray, List.set_cons_zero, List.set_cons_succ])
            refine wpAnyH_ready (rs := [9]) (by kernel_rfl) (by simp) ?_; refine AllReadyH.cons rfl (fun K hK => ?_) (AllReadyH.nil)
            rw [if_pos (by rfl)]; go_simp
            refine (insert_any gv g k c ⟨p.s, some ⟨gx, 0, none⟩, p.n, cx, p.bs⟩ cs ls _ HV7.out (HMV.out.get (g := g) (by exact vmemOf)) HX7.out.1 hr HKL.out (by have := HL9.out; omega)).mono ?_
            rintro e u8 ⟨g', c', cs', rfl, hg8, hr8, hgr, hn8⟩
            have bM8 := (HMV.out.get (g := m) (T := 24) (cs := jC false nx dp dr g ls.length c) (by exact vmemOf)).only hgr HNE.out
            have b38 := (HMV.out.get (g := g3) (T := 46) (cs := #[.int .i64 p.s, .slice p.A p.n p.c]) (by exact vmemOf)).only hgr HN3.out
            have HBM := Lib.hid bM8
            have HB3 := Lib.hid b38
            have HC8 := Lib.hid (HCV.out.trans (Ch.of_grown hgr) (fun x hx => .inl (by rw [List.mem_singleton.1 hx]; simp)))
            have HR8 := Lib.hid ((Ch.of_grown hgr).rd HRV.out (by have := HX6.out; simp; omega))
            have HG8 := Lib.hid (show g' ≠ m ∧ g' ≠ gx ∧ (g' = g ∨ u5.heap.size ≤ g') from by
              have h1 := rd_lt HRV.out _ rfl (by have := HS9.out; omega)
              have h2 := HX6.out
              have h3 := (HMV.out.get (g := m) (by exact vmemOf)).lt
              have h4 := HCV.out.2.1
              have h5 := HNE.out
              have h6 := hgr.size
              simp only at h1
              rcases hn8 with h | h
              · exact ⟨by omega, by omega, .inl h⟩
              · exact ⟨by omega, by omega, .inr (by omega)⟩)
            have HGB := Lib.hid hg8
            have HRO := Lib.hid hr8
            clear hg8 hr8 hgr hn8 HMV HCV HRV bM8 b38 HV7
            go_wp2_with fail
            refine hK.out _ _ HB3.out (fun hHeld => ?_)
            clear hK K
            (try simp only [Act.put, List.setIfInBounds_toArray, List.set_cons_zero, List.set_cons_succ])
            (refine wa_take (i := 10) (v := .pointer (some ⟨m, 0, none⟩)) rfl (by kernel_rfl) (by kernel_rfl) (by kernel_rfl) (fun _ _ _ h => h) (yi_free rfl (fun u => by go_simp)) hHeld rfl ?_; (try simp only [Act.put, List.setIfInBounds_toArray, List.set_cons_zero, List.set_cons_succ]))
            (refine wa_take (i := 11) (v := .pointer (some ⟨m, 4, none⟩)) rfl (by kernel_rfl) (by kernel_rfl) (by kernel_rfl) (fun _ _ _ h => h) (yi_free rfl (fun u => by go_simp)) hHeld rfl ?_; (try simp only [Act.put, List.setIfInBounds_toArray, List.set_cons_zero, List.set_cons_succ]))
            refine wpAnyH_ready (rs := [12]) (by kernel_rfl) (by simp) ?_; refine AllReadyH.cons rfl (fun K hK => ?_) (AllReadyH.nil)
            rw [if_pos (by rfl)]
            refine ow_stQ _ _ rfl rfl rfl HBM.out rfl rfl ?_
            have hc9 := HC8.out.trans (Ch.set (w := u8) m 4 (.slice (some ⟨g', 0, none⟩) (ls.length + 1) c')) (fun x hx => .inl (by rw [List.mem_singleton.1 hx]; simp))
            have HG9 := Lib.hid ((HGB.out.far (show g' ≠ (⟨m, 4, none⟩ : Addr).block from HG8.out.1) (.slice (some ⟨g', 0, none⟩) (ls.length + 1) c')))
            have HM9 := Lib.hid (show Blk (u8.setCell ⟨m, 4, none⟩ (.slice (some ⟨g', 0, none⟩) (ls.length + 1) c')) m 24 (jC false nx dp dr g' (ls.length + 1) c') from HBM.out.set_ 4 _)
            have HR9 := Lib.hid ((Ch.set (w := u8) m 4 (.slice (some ⟨g', 0, none⟩) (ls.length + 1) c')).rd HR8.out (by have := HX6.out; simp; omega))
            have HB9 := Lib.hid (HB3.out.far (show g3 ≠ (⟨m, 4, none⟩ : Addr).block from HN3M.out) (.slice (some ⟨g', 0, none⟩) (ls.length + 1) c'))
            have HC9 := Lib.hid hc9
            clear hc9 HBM HB3 HC8 HR8 HGB
            generalize u8.setCell ⟨m, 4, none⟩ (.slice (some ⟨g', 0, none⟩) (ls.length + 1) c') = u9 at HG9 HM9 HR9 HB9 HC9 ⊢
            refine hK.out _ _ HB9.out (fun hHeld => ?_)
            clear hK K
            (try simp only [Act.put, List.setIfInBounds_toArray, List.set_cons_zero, List.set_cons_succ])
            refine wpAnyH_done (by kernel_rfl) ?_ _
            go_wp2_with fail
            go_ret
            exact put_done HE.out H0.out HC5.out HO5.out HC9.out HM9.out HG9.out HRO.out HR9.out HG8.out HX6.out HNE.out HGE.out HS5.out (by have := HS9.out; omega) (by have := HS9.out; omega) HKL.out
  · have HQ := Lib.hid (show ¬ lateJ ⟨true, nx, dp, dr, ls.map pl⟩ (pl p) = true from fun h => by unfold lateJ at h; rw [Bool.and_eq_true] at h; exact hlt (of_decide_eq_true h.2))
    refine wp_region_held_drew (S := fun u => Below u3.heap.size u3 u) (by kernel_rfl) (Below.drew HB.out) (fun hHeld => ?_); have HB1 := Lib.hid (show Below u3.heap.size u3 (World.drew u4) from Below.drew HB.out); clear HB; have HB := HB1; clear HB1; generalize World.drew u4 = v0 at HB hHeld ⊢
    (refine wa_take (i := 0) (v := .pointer (some ⟨m, 0, none⟩)) rfl (by kernel_rfl) (by kernel_rfl) (by kernel_rfl) (fun _ _ _ h => h) (yi_free rfl (fun u => rfl)) hHeld rfl ?_; (try simp only [Act.put, List.setIfInBounds_toArray, List.set_cons_zero, List.set_cons_succ]))
    (refine wa_take (i := 1) (v := .pointer (some ⟨m, 0, none⟩)) rfl (by kernel_rfl) (by kernel_rfl) (by kernel_rfl) (fun _ _ _ h => h) (yi_free rfl (fun u => by go_simp)) hHeld rfl ?_; (try simp only [Act.put, List.setIfInBounds_toArray, List.set_cons_zero, List.set_cons_succ]))
    (refine wa_take (i := 2) (v := .pointer (some ⟨m, 0, none⟩)) rfl (by kernel_rfl) (by kernel_rfl) (by kernel_rfl) (fun _ _ _ h => h) (yi_free rfl (fun u => by go_simp)) hHeld rfl ?_; (try simp only [Act.put, List.setIfInBounds_toArray, List.set_cons_zero, List.set_cons_succ]))
    (refine wa_take (i := 3) rfl (by kernel_rfl) (by kernel_rfl) (by kernel_rfl) (fun _ _ _ h => h) (yv_load rfl _ _ rfl rfl (HLO.out)) hHeld rfl ?_; (try simp only [Act.put, List.setIfInBounds_toArray, List.set_cons_zero, List.set_cons_succ]))
    (refine wa_take (i := 4) (v := .bool true) rfl (by kernel_rfl) (by kernel_rfl) (by kernel_rfl) (fun _ _ _ h => h) (yi_free rfl (fun u => rfl)) hHeld rfl ?_; (try simp only [Act.put, List.setIfInBounds_toArray, List.set_cons_zero, List.set_cons_succ]))
    (refine wa_take (i := 5) (v := .pointer (some ⟨g3, 0, none⟩)) rfl (by kernel_rfl) (by kernel_rfl) (by kernel_rfl) (fun _ _ _ h => h) (yi_free rfl (fun u => by go_simp)) hHeld rfl ?_; (try simp only [Act.put, List.setIfInBounds_toArray, List.set_cons_zero, List.set_cons_succ]))
    (refine wa_take (i := 6) rfl (by kernel_rfl) (by kernel_rfl) (by kernel_rfl) (fun _ _ _ h => h) (yv_load rfl _ _ rfl rfl (HLS.out)) hHeld rfl ?_; (try simp only [Act.put, List.setIfInBounds_toArray, List.set_cons_zero, List.set_cons_succ]))
    (refine wa_take (i := 7) (v := .pointer (some ⟨m, 0, none⟩)) rfl (by kernel_rfl) (by kernel_rfl) (by kernel_rfl) (fun _ _ _ h => h) (yi_free rfl (fun u => rfl)) hHeld rfl ?_; (try simp only [Act.put, List.setIfInBounds_toArray, List.set_cons_zero, List.set_cons_succ]))
    (refine wa_take (i := 8) (v := .pointer (some ⟨m, 0, none⟩)) rfl (by kernel_rfl) (by kernel_rfl) (by kernel_rfl) (fun _ _ _ h => h) (yi_free rfl (fun u => by go_simp)) hHeld rfl ?_; (try simp only [Act.put, List.setIfInBounds_toArray, List.set_cons_zero, List.set_cons_succ]))
    (refine wa_take (i := 9) (v := .pointer (some ⟨m, 1, none⟩)) rfl (by kernel_rfl) (by kernel_rfl) (by kernel_rfl) (fun _ _ _ h => h) (yi_free rfl (fun u => by go_simp)) hHeld rfl ?_; (try simp only [Act.put, List.setIfInBounds_toArray, List.set_cons_zero, List.set_cons_succ]))
    (refine wa_take (i := 10) rfl (by kernel_rfl) (by kernel_rfl) (by kernel_rfl) (fun _ _ _ h => h) (yv_load rfl _ _ rfl rfl (HLN.out)) hHeld rfl ?_; (try simp only [Act.put, List.setIfInBounds_toArray, List.set_cons_zero, List.set_cons_succ]))
    (refine wa_take (i := 11) (v := .bool false) rfl (by kernel_rfl) (by kernel_rfl) (by kernel_rfl) (fun _ _ _ h => h) (yi_free rfl (fun u => by go_simp)) hHeld rfl ?_; (try simp only [Act.put, List.setIfInBounds_toArray, List.set_cons_zero, List.set_cons_succ]))
    (refine wa_take (i := 12) (v := .bool false) rfl (by kernel_rfl) (by kernel_rfl) (by kernel_rfl) (fun _ _ _ h => h) (yi_free rfl (fun u => rfl)) hHeld rfl ?_; (try simp only [Act.put, List.setIfInBounds_toArray, List.set_cons_zero, List.set_cons_succ]))
    (refine wa_take (i := 13) (v := .bool false) rfl (by kernel_rfl) (by kernel_rfl) (by kernel_rfl) (fun _ _ _ h => h) (yi_free rfl (fun u => rfl)) hHeld rfl ?_; (try simp only [Act.put, List.setIfInBounds_toArray, List.set_cons_zero, List.set_cons_succ]))
    refine wpAnyH_done (by kernel_rfl) ?_ _
    cases th with
    | true =>
      have HE := Lib.hid (show putR ⟨true, nx, dp, dr, ls.map pl⟩ (pl p) = (2, ls.map pl) by
        unfold putR
        rw [if_neg HQ.out, if_pos (show thereQ (pl p).1 (ls.map pl) = true by rw [show (pl p).1 = p.s from rfl, ← thereP_map]; exact HTH.out.symm)])
      go_wp2_with fail
      go_ret
      exact HSAME.out _ _ HB.out HE.out
    | false =>
      have HT := Lib.hid (show ¬ thereQ (pl p).1 (ls.map pl) = true by rw [show (pl p).1 = p.s from rfl, ← thereP_map, ← HTH.out]; simp)
      go_wp2_with fail
      refine wp_region_held_drew (S := fun u => Below u3.heap.size u3 u) (by kernel_rfl) (Below.drew HB.out) (fun hHeld => ?_); have HB1 := Lib.hid (show Below u3.heap.size u3 (World.drew v0) from Below.drew HB.out); clear HB; have HB := HB1; clear HB1; generalize World.drew v0 = v0 at HB hHeld ⊢
      (refine wa_take (i := 0) (v := .pointer (some ⟨m, 0, none⟩)) rfl (by kernel_rfl) (by kernel_rfl) (by kernel_rfl) (fun _ _ _ h => h) (yi_free rfl (fun u => rfl)) hHeld rfl ?_; (try simp only [Act.put, List.setIfInBounds_toArray, List.set_cons_zero, List.set_cons_succ]))
      (refine wa_take (i := 1) (v := .pointer (some ⟨m, 0, none⟩)) rfl (by kernel_rfl) (by kernel_rfl) (by kernel_rfl) (fun _ _ _ h => h) (yi_free rfl (fun u => by go_simp)) hHeld rfl ?_; (try simp only [Act.put, List.setIfInBounds_toArray, List.set_cons_zero, List.set_cons_succ]))
      (refine wa_take (i := 2) rfl (by kernel_rfl) (by kernel_rfl) (by kernel_rfl) (fun _ _ _ h => h) (yv_load rfl _ _ rfl rfl (HLJ.out)) hHeld rfl ?_; (try simp only [Act.put, List.setIfInBounds_toArray, List.set_cons_zero, List.set_cons_succ]))
      (refine wa_take (i := 3) (v := .pointer (some ⟨g3, 0, none⟩)) rfl (by kernel_rfl) (by kernel_rfl) (by kernel_rfl) (fun _ _ _ h => h) (yi_free rfl (fun u => by go_simp)) hHeld rfl ?_; (try simp only [Act.put, List.setIfInBounds_toArray, List.set_cons_zero, List.set_cons_succ]))
      (refine wa_take (i := 4) rfl (by kernel_rfl) (by kernel_rfl) (by kernel_rfl) (fun _ _ _ h => h) (yv_load rfl _ _ rfl rfl (HLS.out)) hHeld rfl ?_; (try simp only [Act.put, List.setIfInBounds_toArray, List.set_cons_zero, List.set_cons_succ]))
      refine wpAnyH_ready (rs := [5]) (by kernel_rfl) (by simp) ?_; refine AllReadyH.cons rfl (fun K hK => ?_) (AllReadyH.nil)
      rw [if_pos (by rfl)]; go_simp
      refine (isFar_any true nx dp dr (some ⟨g, 0, none⟩) ls.length c ls p.s _ (Lib.hid (HRP.out.keep HB.out)) HL1.out hok.out.1.2.2.1 (Int.le_trans hok.out.1.2.2.2.1 (mostX_le true)) (by have := HS9.out; omega) (by have := HS9.out; omega) (Lib.hid hok.out.2.1)).mono ?_
      obtain ⟨fr, hfr⟩ : ∃ fr, fr = farP true nx p.s (ls.map pl) := ⟨_, rfl⟩
      rw [← hfr]
      have HFR := Lib.hid hfr
      clear hfr
      rintro e u5 ⟨rfl, hb⟩
      have HB1 := Lib.hid (HB.out.trans (hb.mono HB.out.size)); clear hb HB; have HB := HB1; clear HB1; go_wp2_with fail; refine hK.out _ _ HB.out (fun hHeld => ?_); clear hK K; (try simp only [Act.put, List.setIfInBounds_toArray, List.set_cons_zero, List.set_cons_succ])
      (refine wa_take (i := 6) (v := .bool fr) rfl (by kernel_rfl) (by kernel_rfl) (by kernel_rfl) (fun _ _ _ h => h) (yi_free rfl (fun u => rfl)) hHeld rfl ?_; (try simp only [Act.put, List.setIfInBounds_toArray, List.set_cons_zero, List.set_cons_succ]))
      refine wpAnyH_done (by kernel_rfl) ?_ _
      cases fr with
      | true =>
        have HE := Lib.hid (show putR ⟨true, nx, dp, dr, ls.map pl⟩ (pl p) = (3, ls.map pl) by
          unfold putR
          rw [if_neg HQ.out, if_neg HT.out, if_pos (show farP true nx (pl p).1 (ls.map pl) = true from HFR.out.symm)])
        go_wp2_with fail
        go_ret
        exact HSAME.out _ _ HB.out HE.out
      | false =>
        have HE := Lib.hid (show putR ⟨true, nx, dp, dr, ls.map pl⟩ (pl p) = (0, (ls.map pl).take k ++ pl p :: (ls.map pl).drop k) by
          unfold putR
          rw [if_neg HQ.out, if_neg HT.out, if_neg (show ¬ farP true nx (pl p).1 (ls.map pl) = true by rw [show farP true nx (pl p).1 (ls.map pl) = false from HFR.out.symm]; simp)]
          show (_, (ls.map pl).take (atQ p.s (ls.map pl)) ++ pl p :: (ls.map pl).drop (atQ p.s (ls.map pl))) = _
          rw [← atP_map, ← HK.out])
        go_wp2_with fail
        have hmm := HM.out.2.2.2.1
        have HNE := Lib.hid (show m ≠ g from (List.pairwise_cons.1 (List.pairwise_cons.1 hmm).2).1 (g, 46, cs) (List.mem_singleton.2 rfl))
        have HN3M := Lib.hid (show g3 ≠ m from (List.pairwise_cons.1 hmm).1 (m, 24, jC true nx dp dr g ls.length c) (by simp))
        have HN3 := Lib.hid (show g3 ≠ g from (List.pairwise_cons.1 hmm).1 (g, 46, cs) (by simp))
        have HGE := Lib.hid (show w0.heap.size ≤ m ∧ w0.heap.size ≤ g from ⟨HM.out.2.2.1 (m, _, _) (by exact vmemOf), HM.out.2.2.1 (g, _, _) (by exact vmemOf)⟩)
        have HKL := Lib.hid (show k ≤ ls.length by rw [HK.out]; exact atP_le _ _)
        clear hmm
        have HM5 := Lib.hid (HM.out.below HB.out)
        have HC5 := Lib.hid (HCH.out.trans (Ch.of_below HB.out []) (fun x hx => (nomatch hx)))
        have HO5 := Lib.hid (HO3.out.below HB.out)
        have HS5 := Lib.hid (HM5.out.2.2.2.2.1)
        have HP5 := Lib.hid (HP3.out.below HB.out)
        clear HSAME HLQ HLO HLN HLJ HLS HLP HRP HO3 HCH HM HB hHeld
        have HL9 := Lib.hid (show ls.length ≤ 64 from HL64.out)
        have HLP8 := Lib.hid (fun (u : World) (hu : Blk u g3 46 #[.int .i64 p.s, .slice p.A p.n p.c]) => run_load_blk (T := 46) rowPk hu rfl)
        refine wp_region_held_drew (S := fun u => Blk u g3 46 #[.int .i64 p.s, .slice p.A p.n p.c]) (by kernel_rfl) (HM5.out.get (by exact vmemOf)).drew (fun hHeld => ?_)
        have HMV := Lib.hid (HM5.out.drew)
        have HCV := Lib.hid (show Ch u5 u5.drew [m, g] from Ch.of_below (Below.drew (Below.refl _ _)) _)
        have HPV := Lib.hid (show Rd u5.drew p.A p.n p.bs from HP5.out)
        generalize World.drew u5 = v0 at HMV HCV HPV hHeld ⊢
        (refine wa_take (i := 0) (v := .pointer (some ⟨m, 0, none⟩)) rfl (by kernel_rfl) (by kernel_rfl) (by kernel_rfl) (fun _ _ _ h => h) (yi_free rfl (fun u => rfl)) hHeld rfl ?_; (try simp only [Act.put, List.setIfInBounds_toArray, List.set_cons_zero, List.set_cons_succ]))
        (refine wa_take (i := 1) (v := .pointer (some ⟨m, 0, none⟩)) rfl (by kernel_rfl) (by kernel_rfl) (by kernel_rfl) (fun _ _ _ h => h) (yi_free rfl (fun u => rfl)) hHeld rfl ?_; (try simp only [Act.put, List.setIfInBounds_toArray, List.set_cons_zero, List.set_cons_succ]))
        (refine wa_take (i := 2) (v := .pointer (some ⟨m, 0, none⟩)) rfl (by kernel_rfl) (by kernel_rfl) (by kernel_rfl) (fun _ _ _ h => h) (yi_free rfl (fun u => by go_simp)) hHeld rfl ?_; (try simp only [Act.put, List.setIfInBounds_toArray, List.set_cons_zero, List.set_cons_succ]))
        (refine wa_take (i := 3) (v := .pointer (some ⟨m, 4, none⟩)) rfl (by kernel_rfl) (by kernel_rfl) (by kernel_rfl) (fun _ _ _ h => h) (yi_free rfl (fun u => by go_simp)) hHeld rfl ?_; (try simp only [Act.put, List.setIfInBounds_toArray, List.set_cons_zero, List.set_cons_succ]))
        (refine wa_take (i := 5) (v := .int .i64 (k : Int)) rfl (by kernel_rfl) (by kernel_rfl) (by kernel_rfl) (fun _ _ _ h => h) (yi_free rfl (fun u => rfl)) hHeld rfl ?_; (try simp only [Act.put, List.setIfInBounds_toArray, List.set_cons_zero, List.set_cons_succ]))
        (refine wa_take (i := 6) rfl (by kernel_rfl) (by kernel_rfl) (by kernel_rfl) (fun _ _ _ h => h) (yv_load rfl _ _ rfl rfl (HLP8.out)) hHeld rfl ?_; (try simp only [Act.put, List.setIfInBounds_toArray, List.set_cons_zero, List.set_cons_succ]))
        refine wpAnyH_ready (rs := [4, 7]) (by kernel_rfl) (by simp) ?_; refine AllReadyH.cons rfl (fun K hK => ?_) (AllReadyH.cons rfl (fun K hK => ?_) (AllReadyH.nil))
        · rw [if_pos (by rfl)]
          refine ov_load _ _ rfl rfl (run_load_one (T := 22) (ad := ⟨m, 4, none⟩) (v := .slice (some ⟨g, 0, none⟩) ls.length c) onePacks (((HMV.out.get (g := m) (by exact vmemOf)).cell 4).trans rfl)) ?_
          refine hK.out _ _ (HMV.out.get (by exact vmemOf)) (fun hHeld => ?_)
          clear hK K
          (try simp only [Act.put, List.setIfInBounds_toArray, List.set_cons_zero, List.set_cons_succ])
          refine wpAnyH_ready (rs := [7]) (by kernel_rfl) (by simp) ?_; refine AllReadyH.cons rfl (fun K hK => ?_) (AllReadyH.nil)
          rw [if_pos (by rfl)]; go_simp
          refine (ownPacket_any p _ HPV (by have := HS9.out; omega) (by have := HS9.out; omega)).mono ?_
          rintro e u6 ⟨gx, cx, rfl, hgx, hr6, hb6⟩
          have HM6 := Lib.hid (HMV.out.below hb6)
          have HC6 := Lib.hid (HCV.out.trans (Ch.of_below hb6 []) (fun x hx => (nomatch hx)))
          have HRV := Lib.hid hr6
          have HX6 := Lib.hid (show m < gx ∧ g < gx ∧ u5.heap.size ≤ gx from ⟨Nat.lt_of_lt_of_le (HMV.out.get (g := m) (by exact vmemOf)).lt hgx, Nat.lt_of_lt_of_le (HMV.out.get (g := g) (by exact vmemOf)).lt hgx, Nat.le_trans HCV.out.2.1 hgx⟩)
          clear hgx hr6 hb6 HMV HCV HPV
          have HMV := HM6
          have HCV := HC6
          clear HM6 HC6
          go_wp2_with fail
          refine hK.out _ _ (HMV.out.get (by exact vmemOf)) (fun hHeld => ?_)
          clear hK K
          (try simp only [Act.put, List.setIfInBounds_toArray, List.set_cons_zero, List.set_cons_succ])
          refine wpAnyH_ready (rs := [8]) (by kernel_rfl) (by simp) ?_; refine AllReadyH.cons rfl (fun K hK => ?_) (AllReadyH.nil)
          rw [if_pos (by rfl)]
          refine ow_run (ex_build_pk _ rfl rfl) ?_
          have HM7 := Lib.hid (HMV.out.skip (.cells #[.int .i64 p.s, .slice (some ⟨gx, 0, none⟩) p.n cx] 46))
          have HV7 := Lib.hid (Blk.new u6 46 #[.int .i64 p.s, .slice (some ⟨gx, 0, none⟩) p.n cx])
          have HC7 := Lib.hid (HCV.out.trans (Ch.of_below ((Below.refl u6.heap.size u6).alloc (Nat.le_refl _) (.cells #[.int .i64 p.s, .slice (some ⟨gx, 0, none⟩) p.n cx] 46)) []) (fun x hx => (nomatch hx)))
          have HR7 := Lib.hid (HRV.out.alloc (.cells #[.int .i64 p.s, .slice (some ⟨gx, 0, none⟩) p.n cx] 46))
          have HX7 := Lib.hid (show u6.heap.size ≠ g ∧ m < u6.heap.size from ⟨Nat.ne_of_gt (HMV.out.get (g := g) (by exact vmemOf)).lt, (HMV.out.get (g := m) (by exact vmemOf)).lt⟩)
          clear HMV HCV HRV
          have HMV := HM7
          have HCV := HC7
          have HRV := HR7
          clear HM7 HC7 HR7
          generalize u6.alloc (.cells #[.int .i64 p.s, .slice (some ⟨gx, 0, none⟩) p.n cx] 46) = u7 at HMV HV7 HCV HRV ⊢
          generalize u6.heap.size = gv at HV7 HX7 ⊢
          refine hK.out _ _ (HMV.out.get (by exact vmemOf)) (fun hHeld => ?_)
          clear hK K
          (try simp only [Act.put, List.setIfInBounds_toArray, List.set_cons_zero, List.set_cons_succ])
          refine wpAnyH_ready (rs := [9]) (by kernel_rfl) (by simp) ?_; refine AllReadyH.cons rfl (fun K hK => ?_) (AllReadyH.nil)
          rw [if_pos (by rfl)]; go_simp
          refine (insert_any gv g k c ⟨p.s, some ⟨gx, 0, none⟩, p.n, cx, p.bs⟩ cs ls _ HV7.out (HMV.out.get (g := g) (by exact vmemOf)) HX7.out.1 hr HKL.out (by have := HL9.out; omega)).mono ?_
          rintro e u8 ⟨g', c', cs', rfl, hg8, hr8, hgr, hn8⟩
          have bM8 := (HMV.out.get (g := m) (T := 24) (cs := jC true nx dp dr g ls.length c) (by exact vmemOf)).only hgr HNE.out
          have b38 := (HMV.out.get (g := g3) (T := 46) (cs := #[.int .i64 p.s, .slice p.A p.n p.c]) (by exact vmemOf)).only hgr HN3.out
          have HBM := Lib.hid bM8
          have HB3 := Lib.hid b38
          have HC8 := Lib.hid (HCV.out.trans (Ch.of_grown hgr) (fun x hx => .inl (by rw [List.mem_singleton.1 hx]; simp)))
          have HR8 := Lib.hid ((Ch.of_grown hgr).rd HRV.out (by have := HX6.out; simp; omega))
          have HG8 := Lib.hid (show g' ≠ m ∧ g' ≠ gx ∧ (g' = g ∨ u5.heap.size ≤ g') from by
            have h1 := rd_lt HRV.out _ rfl (by have := HS9.out; omega)
            have h2 := HX6.out
            have h3 := (HMV.out.get (g := m) (by exact vmemOf)).lt
            have h4 := HCV.out.2.1
            have h5 := HNE.out
            have h6 := hgr.size
            simp only at h1
            rcases hn8 with h | h
            · exact ⟨by omega, by omega, .inl h⟩
            · exact ⟨by omega, by omega, .inr (by omega)⟩)
          have HGB := Lib.hid hg8
          have HRO := Lib.hid hr8
          clear hg8 hr8 hgr hn8 HMV HCV HRV bM8 b38 HV7
          go_wp2_with fail
          refine hK.out _ _ HB3.out (fun hHeld => ?_)
          clear hK K
          (try simp only [Act.put, List.setIfInBounds_toArray, List.set_cons_zero, List.set_cons_succ])
          (refine wa_take (i := 10) (v := .pointer (some ⟨m, 0, none⟩)) rfl (by kernel_rfl) (by kernel_rfl) (by kernel_rfl) (fun _ _ _ h => h) (yi_free rfl (fun u => by go_simp)) hHeld rfl ?_; (try simp only [Act.put, List.setIfInBounds_toArray, List.set_cons_zero, List.set_cons_succ]))
          (refine wa_take (i := 11) (v := .pointer (some ⟨m, 4, none⟩)) rfl (by kernel_rfl) (by kernel_rfl) (by kernel_rfl) (fun _ _ _ h => h) (yi_free rfl (fun u => by go_simp)) hHeld rfl ?_; (try simp only [Act.put, List.setIfInBounds_toArray, List.set_cons_zero, List.set_cons_succ]))
          refine wpAnyH_ready (rs := [12]) (by kernel_rfl) (by simp) ?_; refine AllReadyH.cons rfl (fun K hK => ?_) (AllReadyH.nil)
          rw [if_pos (by rfl)]
          refine ow_stQ _ _ rfl rfl rfl HBM.out rfl rfl ?_
          have hc9 := HC8.out.trans (Ch.set (w := u8) m 4 (.slice (some ⟨g', 0, none⟩) (ls.length + 1) c')) (fun x hx => .inl (by rw [List.mem_singleton.1 hx]; simp))
          have HG9 := Lib.hid ((HGB.out.far (show g' ≠ (⟨m, 4, none⟩ : Addr).block from HG8.out.1) (.slice (some ⟨g', 0, none⟩) (ls.length + 1) c')))
          have HM9 := Lib.hid (show Blk (u8.setCell ⟨m, 4, none⟩ (.slice (some ⟨g', 0, none⟩) (ls.length + 1) c')) m 24 (jC true nx dp dr g' (ls.length + 1) c') from HBM.out.set_ 4 _)
          have HR9 := Lib.hid ((Ch.set (w := u8) m 4 (.slice (some ⟨g', 0, none⟩) (ls.length + 1) c')).rd HR8.out (by have := HX6.out; simp; omega))
          have HB9 := Lib.hid (HB3.out.far (show g3 ≠ (⟨m, 4, none⟩ : Addr).block from HN3M.out) (.slice (some ⟨g', 0, none⟩) (ls.length + 1) c'))
          have HC9 := Lib.hid hc9
          clear hc9 HBM HB3 HC8 HR8 HGB
          generalize u8.setCell ⟨m, 4, none⟩ (.slice (some ⟨g', 0, none⟩) (ls.length + 1) c') = u9 at HG9 HM9 HR9 HB9 HC9 ⊢
          refine hK.out _ _ HB9.out (fun hHeld => ?_)
          clear hK K
          (try simp only [Act.put, List.setIfInBounds_toArray, List.set_cons_zero, List.set_cons_succ])
          refine wpAnyH_done (by kernel_rfl) ?_ _
          go_wp2_with fail
          go_ret
          exact put_done HE.out H0.out HC5.out HO5.out HC9.out HM9.out HG9.out HRO.out HR9.out HG8.out HX6.out HNE.out HGE.out HS5.out (by have := HS9.out; omega) (by have := HS9.out; omega) HKL.out
        · rw [if_pos (by rfl)]; go_simp
          refine (ownPacket_any p _ HPV (by have := HS9.out; omega) (by have := HS9.out; omega)).mono ?_
          rintro e u6 ⟨gx, cx, rfl, hgx, hr6, hb6⟩
          have HM6 := Lib.hid (HMV.out.below hb6)
          have HC6 := Lib.hid (HCV.out.trans (Ch.of_below hb6 []) (fun x hx => (nomatch hx)))
          have HRV := Lib.hid hr6
          have HX6 := Lib.hid (show m < gx ∧ g < gx ∧ u5.heap.size ≤ gx from ⟨Nat.lt_of_lt_of_le (HMV.out.get (g := m) (by exact vmemOf)).lt hgx, Nat.lt_of_lt_of_le (HMV.out.get (g := g) (by exact vmemOf)).lt hgx, Nat.le_trans HCV.out.2.1 hgx⟩)
          clear hgx hr6 hb6 HMV HCV HPV
          have HMV := HM6
          have HCV := HC6
          clear HM6 HC6
          go_wp2_with fail
          refine hK.out _ _ (HMV.out.get (by exact vmemOf)) (fun hHeld => ?_)
          clear hK K
          (try simp only [Act.put, List.setIfInBounds_toArray, List.set_cons_zero, List.set_cons_succ])
          refine wpAnyH_ready (rs := [4, 8]) (by kernel_rfl) (by simp) ?_; refine AllReadyH.cons rfl (fun K hK => ?_) (AllReadyH.cons rfl (fun K hK => ?_) (AllReadyH.nil))
          · rw [if_pos (by rfl)]
            refine ov_load _ _ rfl rfl (run_load_one (T := 22) (ad := ⟨m, 4, none⟩) (v := .slice (some ⟨g, 0, none⟩) ls.length c) onePacks (((HMV.out.get (g := m) (by exact vmemOf)).cell 4).trans rfl)) ?_
            refine hK.out _ _ (HMV.out.get (by exact vmemOf)) (fun hHeld => ?_)
            clear hK K
            (try simp only [Act.put, List.setIfInBounds_toArray, List.set_cons_zero, List.set_cons_succ])
            refine wpAnyH_ready (rs := [8]) (by kernel_rfl) (by simp) ?_; refine AllReadyH.cons rfl (fun K hK => ?_) (AllReadyH.nil)
            rw [if_pos (by rfl)]
            refine ow_run (ex_build_pk _ rfl rfl) ?_
            have HM7 := Lib.hid (HMV.out.skip (.cells #[.int .i64 p.s, .slice (some ⟨gx, 0, none⟩) p.n cx] 46))
            have HV7 := Lib.hid (Blk.new u6 46 #[.int .i64 p.s, .slice (some ⟨gx, 0, none⟩) p.n cx])
            have HC7 := Lib.hid (HCV.out.trans (Ch.of_below ((Below.refl u6.heap.size u6).alloc (Nat.le_refl _) (.cells #[.int .i64 p.s, .slice (some ⟨gx, 0, none⟩) p.n cx] 46)) []) (fun x hx => (nomatch hx)))
            have HR7 := Lib.hid (HRV.out.alloc (.cells #[.int .i64 p.s, .slice (some ⟨gx, 0, none⟩) p.n cx] 46))
            have HX7 := Lib.hid (show u6.heap.size ≠ g ∧ m < u6.heap.size from ⟨Nat.ne_of_gt (HMV.out.get (g := g) (by exact vmemOf)).lt, (HMV.out.get (g := m) (by exact vmemOf)).lt⟩)
            clear HMV HCV HRV
            have HMV := HM7
            have HCV := HC7
            have HRV := HR7
            clear HM7 HC7 HR7
            generalize u6.alloc (.cells #[.int .i64 p.s, .slice (some ⟨gx, 0, none⟩) p.n cx] 46) = u7 at HMV HV7 HCV HRV ⊢
            generalize u6.heap.size = gv at HV7 HX7 ⊢
            refine hK.out _ _ (HMV.out.get (by exact vmemOf)) (fun hHeld => ?_)
            clear hK K
            (try simp only [Act.put, List.setIfInBounds_toArray, List.set_cons_zero, List.set_cons_succ])
            refine wpAnyH_ready (rs := [9]) (by kernel_rfl) (by simp) ?_; refine AllReadyH.cons rfl (fun K hK => ?_) (AllReadyH.nil)
            rw [if_pos (by rfl)]; go_simp
            refine (insert_any gv g k c ⟨p.s, some ⟨gx, 0, none⟩, p.n, cx, p.bs⟩ cs ls _ HV7.out (HMV.out.get (g := g) (by exact vmemOf)) HX7.out.1 hr HKL.out (by have := HL9.out; omega)).mono ?_
            rintro e u8 ⟨g', c', cs', rfl, hg8, hr8, hgr, hn8⟩
            have bM8 := (HMV.out.get (g := m) (T := 24) (cs := jC true nx dp dr g ls.length c) (by exact vmemOf)).only hgr HNE.out
            have b38 := (HMV.out.get (g := g3) (T := 46) (cs := #[.int .i64 p.s, .slice p.A p.n p.c]) (by exact vmemOf)).only hgr HN3.out
            have HBM := Lib.hid bM8
            have HB3 := Lib.hid b38
            have HC8 := Lib.hid (HCV.out.trans (Ch.of_grown hgr) (fun x hx => .inl (by rw [List.mem_singleton.1 hx]; simp)))
            have HR8 := Lib.hid ((Ch.of_grown hgr).rd HRV.out (by have := HX6.out; simp; omega))
            have HG8 := Lib.hid (show g' ≠ m ∧ g' ≠ gx ∧ (g' = g ∨ u5.heap.size ≤ g') from by
              have h1 := rd_lt HRV.out _ rfl (by have := HS9.out; omega)
              have h2 := HX6.out
              have h3 := (HMV.out.get (g := m) (by exact vmemOf)).lt
              have h4 := HCV.out.2.1
              have h5 := HNE.out
              have h6 := hgr.size
              simp only at h1
              rcases hn8 with h | h
              · exact ⟨by omega, by omega, .inl h⟩
              · exact ⟨by omega, by omega, .inr (by omega)⟩)
            have HGB := Lib.hid hg8
            have HRO := Lib.hid hr8
            clear hg8 hr8 hgr hn8 HMV HCV HRV bM8 b38 HV7
            go_wp2_with fail
            refine hK.out _ _ HB3.out (fun hHeld => ?_)
            clear hK K
            (try simp only [Act.put, List.setIfInBounds_toArray, List.set_cons_zero, List.set_cons_succ])
            (refine wa_take (i := 10) (v := .pointer (some ⟨m, 0, none⟩)) rfl (by kernel_rfl) (by kernel_rfl) (by kernel_rfl) (fun _ _ _ h => h) (yi_free rfl (fun u => by go_simp)) hHeld rfl ?_; (try simp only [Act.put, List.setIfInBounds_toArray, List.set_cons_zero, List.set_cons_succ]))
            (refine wa_take (i := 11) (v := .pointer (some ⟨m, 4, none⟩)) rfl (by kernel_rfl) (by kernel_rfl) (by kernel_rfl) (fun _ _ _ h => h) (yi_free rfl (fun u => by go_simp)) hHeld rfl ?_; (try simp only [Act.put, List.setIfInBounds_toArray, List.set_cons_zero, List.set_cons_succ]))
            refine wpAnyH_ready (rs := [12]) (by kernel_rfl) (by simp) ?_; refine AllReadyH.cons rfl (fun K hK => ?_) (AllReadyH.nil)
            rw [if_pos (by rfl)]
            refine ow_stQ _ _ rfl rfl rfl HBM.out rfl rfl ?_
            have hc9 := HC8.out.trans (Ch.set (w := u8) m 4 (.slice (some ⟨g', 0, none⟩) (ls.length + 1) c')) (fun x hx => .inl (by rw [List.mem_singleton.1 hx]; simp))
            have HG9 := Lib.hid ((HGB.out.far (show g' ≠ (⟨m, 4, none⟩ : Addr).block from HG8.out.1) (.slice (some ⟨g', 0, none⟩) (ls.length + 1) c')))
            have HM9 := Lib.hid (show Blk (u8.setCell ⟨m, 4, none⟩ (.slice (some ⟨g', 0, none⟩) (ls.length + 1) c')) m 24 (jC true nx dp dr g' (ls.length + 1) c') from HBM.out.set_ 4 _)
            have HR9 := Lib.hid ((Ch.set (w := u8) m 4 (.slice (some ⟨g', 0, none⟩) (ls.length + 1) c')).rd HR8.out (by have := HX6.out; simp; omega))
            have HB9 := Lib.hid (HB3.out.far (show g3 ≠ (⟨m, 4, none⟩ : Addr).block from HN3M.out) (.slice (some ⟨g', 0, none⟩) (ls.length + 1) c'))
            have HC9 := Lib.hid hc9
            clear hc9 HBM HB3 HC8 HR8 HGB
            generalize u8.setCell ⟨m, 4, none⟩ (.slice (some ⟨g', 0, none⟩) (ls.length + 1) c') = u9 at HG9 HM9 HR9 HB9 HC9 ⊢
            refine hK.out _ _ HB9.out (fun hHeld => ?_)
            clear hK K
            (try simp only [Act.put, List.setIfInBounds_toArray, List.set_cons_zero, List.set_cons_succ])
            refine wpAnyH_done (by kernel_rfl) ?_ _
            go_wp2_with fail
            go_ret
            exact put_done HE.out H0.out HC5.out HO5.out HC9.out HM9.out HG9.out HRO.out HR9.out HG8.out HX6.out HNE.out HGE.out HS5.out (by have := HS9.out; omega) (by have := HS9.out; omega) HKL.out
          · rw [if_pos (by rfl)]
            refine ow_run (ex_build_pk _ rfl rfl) ?_
            have HM7 := Lib.hid (HMV.out.skip (.cells #[.int .i64 p.s, .slice (some ⟨gx, 0, none⟩) p.n cx] 46))
            have HV7 := Lib.hid (Blk.new u6 46 #[.int .i64 p.s, .slice (some ⟨gx, 0, none⟩) p.n cx])
            have HC7 := Lib.hid (HCV.out.trans (Ch.of_below ((Below.refl u6.heap.size u6).alloc (Nat.le_refl _) (.cells #[.int .i64 p.s, .slice (some ⟨gx, 0, none⟩) p.n cx] 46)) []) (fun x hx => (nomatch hx)))
            have HR7 := Lib.hid (HRV.out.alloc (.cells #[.int .i64 p.s, .slice (some ⟨gx, 0, none⟩) p.n cx] 46))
            have HX7 := Lib.hid (show u6.heap.size ≠ g ∧ m < u6.heap.size from ⟨Nat.ne_of_gt (HMV.out.get (g := g) (by exact vmemOf)).lt, (HMV.out.get (g := m) (by exact vmemOf)).lt⟩)
            clear HMV HCV HRV
            have HMV := HM7
            have HCV := HC7
            have HRV := HR7
            clear HM7 HC7 HR7
            generalize u6.alloc (.cells #[.int .i64 p.s, .slice (some ⟨gx, 0, none⟩) p.n cx] 46) = u7 at HMV HV7 HCV HRV ⊢
            generalize u6.heap.size = gv at HV7 HX7 ⊢
            refine hK.out _ _ (HMV.out.get (by exact vmemOf)) (fun hHeld => ?_)
            clear hK K
            (try simp only [Act.put, List.setIfInBounds_toArray, List.set_cons_zero, List.set_cons_succ])
            refine wpAnyH_ready (rs := [4]) (by kernel_rfl) (by simp) ?_; refine AllReadyH.cons rfl (fun K hK => ?_) (AllReadyH.nil)
            rw [if_pos (by rfl)]
            refine ov_load _ _ rfl rfl (run_load_one (T := 22) (ad := ⟨m, 4, none⟩) (v := .slice (some ⟨g, 0, none⟩) ls.length c) onePacks (((HMV.out.get (g := m) (by exact vmemOf)).cell 4).trans rfl)) ?_
            refine hK.out _ _ (HMV.out.get (by exact vmemOf)) (fun hHeld => ?_)
            clear hK K
            (try simp only [Act.put, List.setIfInBounds_toArray, List.set_cons_zero, List.set_cons_succ])
            refine wpAnyH_ready (rs := [9]) (by kernel_rfl) (by simp) ?_; refine AllReadyH.cons rfl (fun K hK => ?_) (AllReadyH.nil)
            rw [if_pos (by rfl)]; go_simp
            refine (insert_any gv g k c ⟨p.s, some ⟨gx, 0, none⟩, p.n, cx, p.bs⟩ cs ls _ HV7.out (HMV.out.get (g := g) (by exact vmemOf)) HX7.out.1 hr HKL.out (by have := HL9.out; omega)).mono ?_
            rintro e u8 ⟨g', c', cs', rfl, hg8, hr8, hgr, hn8⟩
            have bM8 := (HMV.out.get (g := m) (T := 24) (cs := jC true nx dp dr g ls.length c) (by exact vmemOf)).only hgr HNE.out
            have b38 := (HMV.out.get (g := g3) (T := 46) (cs := #[.int .i64 p.s, .slice p.A p.n p.c]) (by exact vmemOf)).only hgr HN3.out
            have HBM := Lib.hid bM8
            have HB3 := Lib.hid b38
            have HC8 := Lib.hid (HCV.out.trans (Ch.of_grown hgr) (fun x hx => .inl (by rw [List.mem_singleton.1 hx]; simp)))
            have HR8 := Lib.hid ((Ch.of_grown hgr).rd HRV.out (by have := HX6.out; simp; omega))
            have HG8 := Lib.hid (show g' ≠ m ∧ g' ≠ gx ∧ (g' = g ∨ u5.heap.size ≤ g') from by
              have h1 := rd_lt HRV.out _ rfl (by have := HS9.out; omega)
              have h2 := HX6.out
              have h3 := (HMV.out.get (g := m) (by exact vmemOf)).lt
              have h4 := HCV.out.2.1
              have h5 := HNE.out
              have h6 := hgr.size
              simp only at h1
              rcases hn8 with h | h
              · exact ⟨by omega, by omega, .inl h⟩
              · exact ⟨by omega, by omega, .inr (by omega)⟩)
            have HGB := Lib.hid hg8
            have HRO := Lib.hid hr8
            clear hg8 hr8 hgr hn8 HMV HCV HRV bM8 b38 HV7
            go_wp2_with fail
            refine hK.out _ _ HB3.out (fun hHeld => ?_)
            clear hK K
            (try simp only [Act.put, List.setIfInBounds_toArray, List.set_cons_zero, List.set_cons_succ])
            (refine wa_take (i := 10) (v := .pointer (some ⟨m, 0, none⟩)) rfl (by kernel_rfl) (by kernel_rfl) (by kernel_rfl) (fun _ _ _ h => h) (yi_free rfl (fun u => by go_simp)) hHeld rfl ?_; (try simp only [Act.put, List.setIfInBounds_toArray, List.set_cons_zero, List.set_cons_succ]))
            (refine wa_take (i := 11) (v := .pointer (some ⟨m, 4, none⟩)) rfl (by kernel_rfl) (by kernel_rfl) (by kernel_rfl) (fun _ _ _ h => h) (yi_free rfl (fun u => by go_simp)) hHeld rfl ?_; (try simp only [Act.put, List.setIfInBounds_toArray, List.set_cons_zero, List.set_cons_succ]))
            refine wpAnyH_ready (rs := [12]) (by kernel_rfl) (by simp) ?_; refine AllReadyH.cons rfl (fun K hK => ?_) (AllReadyH.nil)
            rw [if_pos (by rfl)]
            refine ow_stQ _ _ rfl rfl rfl HBM.out rfl rfl ?_
            have hc9 := HC8.out.trans (Ch.set (w := u8) m 4 (.slice (some ⟨g', 0, none⟩) (ls.length + 1) c')) (fun x hx => .inl (by rw [List.mem_singleton.1 hx]; simp))
            have HG9 := Lib.hid ((HGB.out.far (show g' ≠ (⟨m, 4, none⟩ : Addr).block from HG8.out.1) (.slice (some ⟨g', 0, none⟩) (ls.length + 1) c')))
            have HM9 := Lib.hid (show Blk (u8.setCell ⟨m, 4, none⟩ (.slice (some ⟨g', 0, none⟩) (ls.length + 1) c')) m 24 (jC true nx dp dr g' (ls.length + 1) c') from HBM.out.set_ 4 _)
            have HR9 := Lib.hid ((Ch.set (w := u8) m 4 (.slice (some ⟨g', 0, none⟩) (ls.length + 1) c')).rd HR8.out (by have := HX6.out; simp; omega))
            have HB9 := Lib.hid (HB3.out.far (show g3 ≠ (⟨m, 4, none⟩ : Addr).block from HN3M.out) (.slice (some ⟨g', 0, none⟩) (ls.length + 1) c'))
            have HC9 := Lib.hid hc9
            clear hc9 HBM HB3 HC8 HR8 HGB
            generalize u8.setCell ⟨m, 4, none⟩ (.slice (some ⟨g', 0, none⟩) (ls.length + 1) c') = u9 at HG9 HM9 HR9 HB9 HC9 ⊢
            refine hK.out _ _ HB9.out (fun hHeld => ?_)
            clear hK K
            (try simp only [Act.put, List.setIfInBounds_toArray, List.set_cons_zero, List.set_cons_succ])
            refine wpAnyH_done (by kernel_rfl) ?_ _
            go_wp2_with fail
            go_ret
            exact put_done HE.out H0.out HC5.out HO5.out HC9.out HM9.out HG9.out HRO.out HR9.out HG8.out HX6.out HNE.out HGE.out HS5.out (by have := HS9.out; omega) (by have := HS9.out; omega) HKL.out
end Go.Proofs.Ytffapinabidkiaa.Lp
