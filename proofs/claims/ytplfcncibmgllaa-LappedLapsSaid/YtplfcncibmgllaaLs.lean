/-
  Own texts, laid together: Ls.
-/
import Derived.Test.YtplfcncibmgllaaLn
import Derived.Deep.OwnRows
/- Ls -/
namespace Go.Proofs.Ytplfcncibmgllaa.Lp
open Go.RowKit Go.Proofs.Ytplfcncibmgllaa.Fx Go.Proofs.Ytplfcncibmgllaa.Fq Go.Proofs.Ytplfcncibmgllaa.Tb
/-- the frames that numbers make up behind a tail, and the tail that is left -/
def backR : List Int → List (List Int) → Option (List (List Int) × List Int)
  | t, [] => some ([], t)
  | t, x :: l => if okX x = true ∧ okW t = true then (backR (leftL (invL x)) l).map fun r => (lapL t (invL x) :: r.1, r.2) else none
def All16 (fs : List (List Int)) : Prop := ∀ f ∈ fs, f.length = 16
theorem flatten_length : ∀ fs : List (List Int), All16 fs → fs.flatten.length = 16 * fs.length
  | [], _ => rfl
  | f :: fs, h => by
    have h1 := h f (by simp)
    have h2 := flatten_length fs fun g hg => h g (by simp [hg])
    rw [List.flatten_cons, List.length_append, h1, h2, List.length_cons]; omega
theorem flatten_get : ∀ (fs : List (List Int)) (i : Nat) (f : List Int) (j : Nat), All16 fs → fs[i]? = some f → j < 16 → fs.flatten[i * 16 + j]? = f[j]?
  | [], i, f, j, _, hf, _ => by simp at hf
  | g :: fs, 0, f, j, h, hf, hj => by
    simp only [List.getElem?_cons_zero, Option.some.injEq] at hf
    subst hf
    have h1 := h g (by simp)
    rw [List.flatten_cons, List.getElem?_append_left (by omega)]
    congr 1; omega
  | g :: fs, i + 1, f, j, h, hf, hj => by
    simp only [List.getElem?_cons_succ] at hf
    have h1 := h g (by simp)
    rw [List.flatten_cons, List.getElem?_append_right (by omega), h1, show (i + 1) * 16 + j - 16 = i * 16 + j by omega]
    exact flatten_get fs i f j (fun k hk => h k (by simp [hk])) hf hj
/-- i frames, and room for m more -/
def flatF (fs : List (List Int)) (m : Nat) : List Int := fs.flatten ++ zr (16 * m)
theorem flatF_length (fs : List (List Int)) (m : Nat) (h : All16 fs) : (flatF fs m).length = 16 * fs.length + 16 * m := by
  unfold flatF
  rw [List.length_append, flatten_length fs h, zr_length]
theorem flatF_put (fs : List (List Int)) (m i : Nat) (ys : List Int) (h : All16 fs) (hi : fs.length = i) :
    (flatF fs (m + 1)).take (i * 16) ++ ys ++ (flatF fs (m + 1)).drop (i * 16 + 16) = flatF (fs ++ [ys]) m := by
  have hl := flatten_length fs h
  rw [hi] at hl
  unfold flatF
  rw [List.take_append_of_le_length (by omega), List.take_of_length_le (by omega), List.drop_append, List.drop_eq_nil_of_le (by omega), List.nil_append, hl]
  unfold zr
  rw [List.drop_replicate, List.flatten_append, List.flatten_cons, List.flatten_nil, List.append_nil]
  congr 2
  omega
/-- the slice value '.slice A n c' reads as the frames fs -/
def RdA (w : World) (A : Option Addr) (n : Nat) (fs : List (List Int)) : Prop :=
  fs.length = n ∧ All16 fs ∧ (0 < n → ∃ ad, A = some ad ∧ ∀ i f, fs[i]? = some f → ∀ j v, (ic f)[j]? = some v → w.cell? ((ad.add (i * 16)).add j) = some v)
section
variable {w w' w0 : World} {A : Option Addr} {n : Nat} {fs : List (List Int)} {L : List (Nat × TypeId × List Int)}
theorem RdA.keep (h : RdA w A n fs) (hk : ∀ p : Addr, p.block < w.heap.size → w'.cell? p = w.cell? p) : RdA w' A n fs :=
  ⟨h.1, h.2.1, fun hn => by
    obtain ⟨ad, e, hc⟩ := h.2.2 hn
    refine ⟨ad, e, fun i f hf j v hv => ?_⟩
    have hcell := hc i f hf j v hv
    exact (hk _ (World.block_lt_of_cell? _ _ hcell)).trans hcell⟩
theorem RdA.below (h : RdA w A n fs) (hb : Below w.heap.size w w') : RdA w' A n fs := h.keep fun _ hp => hb.cell hp
theorem RdA.drew (h : RdA w A n fs) : RdA w.drew A n fs := h
theorem RdA.of_flat {g m : Nat} {T : TypeId} (h : Blk w g T (icells (flatF fs m))) (hf : All16 fs) : RdA w (some ⟨g, 0, none⟩) fs.length fs := by
  refine ⟨rfl, hf, fun _ => ⟨_, rfl, fun i f hi j v hv => ?_⟩⟩
  have hl := hf f (List.mem_of_getElem? hi)
  have hj : j < 16 := by
    have := (List.getElem?_eq_some_iff.1 hv).1
    rw [ic_length] at this; omega
  have hil : i < fs.length := (List.getElem?_eq_some_iff.1 hi).1
  rw [add_of_add, add_own, h.cell]
  have e := flatten_get fs i f j hf hi hj
  have e2 : (flatF fs m)[i * 16 + j]? = f[j]? := by
    unfold flatF
    rw [List.getElem?_append_left (by rw [flatten_length fs hf]; omega), e]
  rw [ic, List.getElem?_map] at hv
  simp only [icells, List.getElem?_toArray, List.getElem?_map, e2, hv]
theorem RdA.at_ {k : Nat} (h : RdA w A n fs) (hk : k < n) : ∃ ad f, A = some ad ∧ fs[k]? = some f ∧ f.length = 16 ∧ ∀ j v, (ic f)[j]? = some v → w.cell? ((ad.add (k * 16)).add j) = some v := by
  obtain ⟨ad, e, hc⟩ := h.2.2 (by omega)
  have hl : k < fs.length := by have := h.1; omega
  have hg : fs[k]? = some fs[k] := List.getElem?_eq_getElem hl
  exact ⟨ad, fs[k], e, hg, h.2.1 _ (List.getElem_mem hl), hc k _ hg⟩
end
section
variable {ops : Array Oper} {rest : List Oper} {o : Oper} {a : Act} {w w0 : World} {Q : Exit → Act → World → Prop} {L : List (Nat × TypeId × List Int)}
theorem run_load_any {n : Nat} {T : TypeId} {xs : List Int} (ha : Arr T n) (ad : Addr) (hl : xs.length = n) (hc : ∀ j v, (ic xs)[j]? = some v → w.cell? (ad.add j) = some v) : (loadVar T ad).run Try.prog w = .ok (.agg (icells xs)) w := by
  obtain ⟨d, h1, h2⟩ := ha.1
  have hld : (loadCells ad (ic xs).length).run Try.prog w = .ok (ic xs).toArray w := run_loadCells_list (P := Try.prog) w ad (ic xs) hc
  rw [ic_length, hl] at hld
  have hsz := ha.size
  cases hq : Try.prog.info? T with
  | none => simp [hq] at hsz
  | some i =>
    have hs : i.size = n := by simpa [hq] using hsz
    have hagg : (isAgg T).run Try.prog w = .ok true w := by
      unfold isAgg
      rw [Sem.run_bind, run_underlying h1 w]
      cases d <;> first | rfl | cases h2
    simp only [loadVar, Sem.run_bind, hagg, Result.andThen_ok, if_true, sizeOf, typeInfo, run_program, hq, Sem.run_pure, hs, hld]
    rfl
theorem wl_loadA (hgd : Region.wanted o (yielded ops a.tmps) = true) (T : TypeId) (x : Operand) (ho : o.op = .load T x) {ad : Addr} {n : Nat} (hx : a.eval x = .pointer (some ad)) (ha : Arr T n) {xs : List Int}
    (hc : Hid (∀ j v, (ic xs)[j]? = some v → w.cell? (ad.add j) = some v)) (hl : Hid (xs.length = n)) (h : wpList Try.prog ops Q rest (a.put o.dst (.agg (icells xs))) w) : wpList Try.prog ops Q (o :: rest) a w :=
  wl_step hgd fun K hK => by
    have := hK _ _ h
    unfold Oper.wp execOp
    simp only [ho, hx, Instr.loadAt, Instr.sureAddr, Sem.run_bind, Sem.run_pure, Result.andThen_ok, run_load_any ha ad hl.out hc.out]
    exact this
theorem run_store_at {g p n : Nat} {T S : TypeId} {zs ys : List Int} (ha : Arr T n) (hB : Blk w g S (icells zs)) (hl : ys.length = n) (hfit : p + n ≤ zs.length) :
    (storeVar T ⟨g, p, none⟩ (.agg (icells ys))).run Try.prog w = .ok () (w.setRow g (icells (zs.take p ++ ys ++ zs.drop (p + n)))) := by
  have h := run_storeCells_at (P := Try.prog) g p S (ic ys) 0 (icells zs) w hB (by rw [ic_length, icells_size]; omega) (ic_one ys)
  rw [ic_length, hl, Nat.add_zero] at h
  have e : ((icells zs).toList.take p ++ ic ys ++ (icells zs).toList.drop (p + n)).toArray = icells (zs.take p ++ ys ++ zs.drop (p + n)) := by
    simp [icells, ic, List.map_take, List.map_drop]
  rw [e] at h
  have hsz := ha.size
  cases hq : Try.prog.info? T with
  | none => simp [hq] at hsz
  | some i =>
    have hs : i.size = n := by simpa [hq] using hsz
    have hn : (icells ys).size = n := by rw [icells_size, hl]
    have h' : (storeCells ⟨g, p, none⟩ (icells ys).toList).run Try.prog w = .ok () (w.setRow g (icells (zs.take p ++ ys ++ zs.drop (p + n)))) := h
    simp only [storeVar, Sem.run_bind, sizeOf, typeInfo, run_program, hq, Result.andThen_ok, Sem.run_pure, Value.cells, hn, hs, ne_eq, not_true_eq_false, if_false, h']
theorem wl_storeA (hgd : Region.wanted o (yielded ops a.tmps) = true) (T : TypeId) (x y : Operand) (ho : o.op = .store T x y) {g p n : Nat} (hx : a.eval x = .pointer (some ⟨g, p, none⟩)) {ys : List Int} (hy : a.eval y = .agg (icells ys)) (ha : Arr T n)
    {S : TypeId} {zs : List Int} (hm : Hid (Mem w0 L w)) (i : Nat) (hi : L[i]? = some (g, S, zs)) (hl : Hid (ys.length = n)) (hfit : Hid (p + n ≤ zs.length))
    (h : ∀ w', Hid (Mem w0 (L.set i (g, S, zs.take p ++ ys ++ zs.drop (p + n))) w') → wpList Try.prog ops Q rest (a.put o.dst undef) w') : wpList Try.prog ops Q (o :: rest) a w :=
  wl_step hgd fun K hK => by
    have := hK _ _ (h _ (Lib.hid (hm.out.row i hi (zs.take p ++ ys ++ zs.drop (p + n)))))
    unfold Oper.wp execOp
    simp only [ho, hx, hy, Instr.storeAt, Instr.sureAddr, Sem.run_bind, Sem.run_pure, Result.andThen_ok, run_store_at ha (hm.out.get (List.mem_of_getElem? hi)) hl.out hfit.out]
    exact this
end
theorem madeCells_zr (m : Nat) : madeCells (icells (zr 16)) m = icells (zr m) := by
  refine Array.ext (by simp [madeCells, icells_size, zr_length]) fun i h1 h2 => ?_
  have e1 : (icells (zr 16)).size = 16 := by rw [icells_size, zr_length]
  have e2 : (icells (zr 16))[i % 16]! = .int .i64 0 := by
    have hc : (icells (zr 16))[i % 16]? = some (.int .i64 ((zr 16).getD (i % 16) 0)) := icells_get (by rw [zr_length]; omega)
    rw [zr_getD] at hc
    simp [getElem!_def, hc]
  have e3 : (icells (zr m))[i] = .int .i64 0 := by
    have hm : i < m := by simpa [madeCells] using h1
    have hc : (icells (zr m))[i]? = some (.int .i64 ((zr m).getD i 0)) := icells_get (by rw [zr_length]; exact hm)
    rw [zr_getD] at hc
    exact (Array.getElem?_eq_some_iff.1 hc).2
  rw [e3]
  simp [madeCells, e1, e2]
theorem run_make_arr (t e : TypeId) (ht : Try.prog.underlying t = some (.slice e)) (hinfo : (Try.prog.info? e).map (fun i => (i.zero, i.size, i.bytes)) = some (some (.agg (icells (zr 16))), 16, 128)) (n : Nat) (hn : n ≤ 1000) (w : World) :
    (Instr.makeSlice t (.int .i64 (n : Int)) (.int .i64 (n : Int))).run Try.prog w = .ok (.slice (some ⟨w.heap.size, 0, none⟩) n n) (w.alloc (.cells (icells (zr (16 * n))) e)) := by
  obtain ⟨i, hi, hzz⟩ := Option.map_eq_some_iff.1 hinfo
  simp only [Prod.mk.injEq] at hzz
  obtain ⟨hz, hs, hb⟩ := hzz
  have := run_make (P := Try.prog) w t e i _ ht hi hz .i64 .i64 (n : Int) (n : Int) (by omega) (by omega) (by rw [hb]; omega) (by omega)
  rw [hs] at this
  rw [this]
  have e2 : (n : Int).toNat = n := by omega
  rw [e2]
  show Result.ok _ (w.alloc (.cells (madeCells (icells (zr 16)) (n * 16)) e)) = _
  rw [madeCells_zr, Nat.mul_comm]
theorem res_scs {fn : Func} {p q u : Tmp} {tz : TypeId} (h : fn.results = #[.tmp p, .cell q tz, .tmp u]) (tmps : Array Value) {w w0 : World} {L : List (Nat × TypeId × List Int)} {k m : Nat} {ys : List Int} {v s : Value}
    (hp : tmps.getD p undef = s) (hq : tmps.getD q undef = .pointer (some ⟨k, 0, none⟩)) (hv : tmps.getD u undef = v) (hb : Arr tz m) (hm : Hid (Mem w0 L w))
    (hin' : (k, tz, ys) ∈ L) (hl' : Hid (ys.length = m)) :
    (results fn tmps).run Try.prog w = .ok (.tuple #[s, .agg (icells ys), v]) w := by
  have hp' : tmps[p]?.getD undef = s := by simpa using hp
  have hq' : tmps[q]?.getD undef = .pointer (some ⟨k, 0, none⟩) := by simpa using hq
  have hv' : tmps[u]?.getD undef = v := by simpa using hv
  simp [results, h, hp', hq', hv', asAddr, Result.andThen, run_load_mem hb hm.out hin' hl'.out]
end Go.Proofs.Ytplfcncibmgllaa.Lp
