/-
  Own texts, laid together: Dn, Nb, Nc, MR, De, Yg, Yh, Yi, Ea, Ec, Ee, Ef, Eg, Eh.
-/
import Derived.Test.YtkdbhndegkldcaaGreatDoorK3
set_option maxHeartbeats 8000000
set_option linter.unusedSimpArgs false
set_option linter.unusedVariables false
set_option maxRecDepth 100000
namespace Go.Proofs.YtkdbhndegkldcaaGreatDoor.Lp
open Go.RowKit Fx Fq Tb
theorem aggB (w : World) : (isAgg 4).run Tryz.prog w = .ok false w := by kernel_rfl
theorem aggU (w : World) : (isAgg 30).run Tryz.prog w = .ok false w := by kernel_rfl
theorem sizB (w : World) : (sizeOf 4).run Tryz.prog w = .ok 1 w := by kernel_rfl
theorem sizU (w : World) : (sizeOf 30).run Tryz.prog w = .ok 1 w := by kernel_rfl
theorem SyW.setT {s : Sy} (h : SyW s) {t : List Int} (ht : t.length = 16) : SyW { s with t := t } := ⟨ht, h.ll, h.sd⟩
theorem SyW.setL {s : Sy} (h : SyW s) {l : List Int} (hl : l.length = 6) : SyW { s with l := l } := ⟨h.lt, hl, h.sd⟩
theorem SyW.setLive {s : Sy} (h : SyW s) (b : Bool) : SyW { s with live := b } := ⟨h.lt, h.ll, h.sd⟩
theorem SyW.setHush {s : Sy} (h : SyW s) (b : Bool) : SyW { s with hush := b } := ⟨h.lt, h.ll, h.sd⟩
theorem SyW.setSeed {s : Sy} (h : SyW s) {z : Int} (hz : 0 ≤ z ∧ z < 4294967296) : SyW { s with seed := z } := ⟨h.lt, h.ll, hz⟩
theorem oneIcl (xs : List Int) : (icl xs).toArray.all (·.oneCell') = true := by unfold icl; simp [Value.oneCell']
theorem wv_bC {ops : Array Oper} {rest : List Oper} {o : Oper} {a : Act} {w : World} {Q : Exit → Act → World → Prop} (hgd : Region.wanted o (yielded ops a.tmps) = true) (T : TypeId) (parts : Array (Nat × Operand)) (ho : o.op = .build T parts) (cs : Array Value)
  (hf : Tryz.prog.built T (parts.map fun (i, x) => (i, a.eval x)).toList = some cs)
  (h : wpList Tryz.prog ops Q rest (a.put o.dst (.agg cs)) w) : wpList Tryz.prog ops Q (o :: rest) a w :=
 wl_step hgd fun K hK => by
  have := hK _ _ h
  refine wp_build T parts ho (by rw [hf]; rfl) ?_
  rw [hf]
  exact this
theorem wv_b1 {ops : Array Oper} {rest : List Oper} {o : Oper} {a : Act} {w : World} {Q : Exit → Act → World → Prop} (hgd : Region.wanted o (yielded ops a.tmps) = true) (T : TypeId) (i : Nat) (x : Operand) (ho : o.op = .build T #[(i, x)]) {v : Value} (hx : a.eval x = v) (cs : Array Value)
  (hf : Tryz.prog.built T [(i, v)] = some cs) (h : wpList Tryz.prog ops Q rest (a.put o.dst (.agg cs)) w) : wpList Tryz.prog ops Q (o :: rest) a w :=
 wv_bC hgd T #[(i, x)] ho cs (by simpa [hx] using hf) h
theorem rowMou : RowT 70 25 (syC Sy.z) := rowT_of (by kernel_rfl) (by kernel_rfl)
theorem built_synZ : Tryz.prog.built 32 [] = some (syC Sy.z) := by kernel_rfl
theorem built_syn1 : Tryz.prog.built 32 [(4, .int .u32 1)] = some (syC Sy.one) := by kernel_rfl
theorem putMid_all {cs : Array Value} (h : cs.size = 25) : Tryz.prog.built 70 [(0, .agg cs)] = some cs := by
 obtain ⟨l⟩ := cs
 have h : l.length = 25 := h
 match l, h with
 | [a, b, c, d, e, f, g, h, i, j, k, l, m, n, o, p, q, r, s, t, u, v, w, x, y], _ =>
  show Tryz.prog.built _ _ = some _
  kernel_rfl
theorem vres_css {fn : Func} {p q u : Tmp} {tp tq : TypeId} (h : fn.results = #[.cell p tp, .cell q tq, .tmp u]) (tmps : Array Value) {w w0 w1 : World} {L : List Ent} {g k n m : Nat} {zp zq cs ds : Array Value} {T1 T2 : TypeId} {v : Value}
  (hp : tmps.getD p undef = .pointer (some ⟨g, 0, none⟩)) (hq : tmps.getD q undef = .pointer (some ⟨k, 0, none⟩)) (hv : tmps.getD u undef = v) (ha : RowT tp n zp) (hb : RowT tq m zq) (hm : Hid (MV w0 w1 L w)) (hin : (g, T1, cs) ∈ L) (hin' : (k, T2, ds) ∈ L) (hl : Hid (cs.size = n)) (hl' : Hid (ds.size = m)) :
  (results fn tmps).run Tryz.prog w = .ok (.tuple #[.agg cs, .agg ds, v]) w := by
 have hp' : tmps[p]?.getD undef = .pointer (some ⟨g, 0, none⟩) := by simpa using hp
 have hq' : tmps[q]?.getD undef = .pointer (some ⟨k, 0, none⟩) := by simpa using hq
 have hv' : tmps[u]?.getD undef = v := by simpa using hv
 simp [results, h, hp', hq', hv', asAddr, Result.andThen, run_load_blk ha (hm.out.get hin) hl.out, run_load_blk hb (hm.out.get hin') hl'.out]
theorem vres_cs {fn : Func} {p : Tmp} {tp : TypeId} (h : fn.results = #[.cell p tp]) (tmps : Array Value) {w w0 w1 : World} {L : List Ent} {g n : Nat} {zp cs : Array Value} {T1 : TypeId}
  (hp : tmps.getD p undef = .pointer (some ⟨g, 0, none⟩)) (ha : RowT tp n zp) (hm : Hid (MV w0 w1 L w)) (hin : (g, T1, cs) ∈ L) (hl : Hid (cs.size = n)) :
  (results fn tmps).run Tryz.prog w = .ok (.agg cs) w := by
 have hp' : tmps[p]?.getD undef = .pointer (some ⟨g, 0, none⟩) := by simpa using hp
 simp [results, h, hp', asAddr, Result.andThen, run_load_blk ha (hm.out.get hin) hl.out]
theorem vres_cts {fn : Func} {p q u : Tmp} {tp : TypeId} (h : fn.results = #[.cell p tp, .tmp q, .tmp u]) (tmps : Array Value) {w w0 w1 : World} {L : List Ent} {g n : Nat} {zp cs : Array Value} {T1 : TypeId} {v x : Value}
  (hp : tmps.getD p undef = .pointer (some ⟨g, 0, none⟩)) (hq : tmps.getD q undef = x) (hv : tmps.getD u undef = v) (ha : RowT tp n zp) (hm : Hid (MV w0 w1 L w)) (hin : (g, T1, cs) ∈ L) (hl : Hid (cs.size = n)) :
  (results fn tmps).run Tryz.prog w = .ok (.tuple #[.agg cs, x, v]) w := by
 have hp' : tmps[p]?.getD undef = .pointer (some ⟨g, 0, none⟩) := by simpa using hp
 have hq' : tmps[q]?.getD undef = x := by simpa using hq
 have hv' : tmps[u]?.getD undef = v := by simpa using hv
 simp [results, h, hp', hq', hv', asAddr, Result.andThen, run_load_blk ha (hm.out.get hin) hl.out]
theorem q7z {s : Sy} (h : Hid (SyW s) := by first | with_reducible assumption | exact Lib.hid syW_z | exact Lib.hid syW_one) : Hid ((syC s).size = 25) := Lib.hid (syC_size h.out)
theorem q7w {s : Sy} (h : Hid (SyW s) := by first | with_reducible assumption | exact Lib.hid syW_z | exact Lib.hid syW_one) : Hid (SyW s) := h
section
variable {ops : Array Oper} {rest : List Oper} {o : Oper} {a : Act} {w w0 w1 : World} {Q : Exit → Act → World → Prop} {L : List Ent} {T0 : TypeId} {s : Sy} {g : Nat}
theorem q8a (hgd : Region.wanted o (yielded ops a.tmps) = true) (x : Operand) (ho : o.op = .load 27 x) (hx : a.eval x = .pointer (some ⟨g, 0, none⟩)) (hm : Hid (MV w0 w1 L w)) (hin : (g, T0, syC s) ∈ L) (hs : Hid (SyW s))
  (h : wpList Tryz.prog ops Q rest (a.put o.dst (.agg (icells s.t))) w) : wpList Tryz.prog ops Q (o :: rest) a w :=
 wv_loadP hgd _ x ho hx (Arr.row arrTail) hm hin (syC_t s) ((icl_length _).trans hs.out.lt) h
theorem q8b (hgd : Region.wanted o (yielded ops a.tmps) = true) (x : Operand) (ho : o.op = .load 29 x) (hx : a.eval x = .pointer (some ⟨g, 16, none⟩)) (hm : Hid (MV w0 w1 L w)) (hin : (g, T0, syC s) ∈ L) (hs : Hid (SyW s))
  (h : wpList Tryz.prog ops Q rest (a.put o.dst (.agg (icells s.l))) w) : wpList Tryz.prog ops Q (o :: rest) a w :=
 wv_loadP hgd _ x ho hx (Arr.row arrLev) hm hin (syC_l hs.out) ((icl_length _).trans hs.out.ll) h
theorem q8c (hgd : Region.wanted o (yielded ops a.tmps) = true) (x : Operand) (ho : o.op = .load 4 x) (hx : a.eval x = .pointer (some ⟨g, 22, none⟩)) (hm : Hid (MV w0 w1 L w)) (hin : (g, T0, syC s) ∈ L) (hs : Hid (SyW s)) {b : Bool} (hb : Hid (s.live = b))
  (h : wpList Tryz.prog ops Q rest (a.put o.dst (.bool b)) w) : wpList Tryz.prog ops Q (o :: rest) a w :=
 wv_cell1 hgd _ x ho hx aggB hm hin (syC_e hs.out (k := 0) (by rw [← hb.out]; rfl)) h
theorem q8d (hgd : Region.wanted o (yielded ops a.tmps) = true) (x : Operand) (ho : o.op = .load 4 x) (hx : a.eval x = .pointer (some ⟨g, 23, none⟩)) (hm : Hid (MV w0 w1 L w)) (hin : (g, T0, syC s) ∈ L) (hs : Hid (SyW s)) {b : Bool} (hb : Hid (s.hush = b))
  (h : wpList Tryz.prog ops Q rest (a.put o.dst (.bool b)) w) : wpList Tryz.prog ops Q (o :: rest) a w :=
 wv_cell1 hgd _ x ho hx aggB hm hin (syC_e hs.out (k := 1) (by rw [← hb.out]; rfl)) h
theorem q8e (hgd : Region.wanted o (yielded ops a.tmps) = true) (x : Operand) (ho : o.op = .load 30 x) (hx : a.eval x = .pointer (some ⟨g, 24, none⟩)) (hm : Hid (MV w0 w1 L w)) (hin : (g, T0, syC s) ∈ L) (hs : Hid (SyW s))
  (h : wpList Tryz.prog ops Q rest (a.put o.dst (.int .u32 s.seed)) w) : wpList Tryz.prog ops Q (o :: rest) a w :=
 wv_cell1 hgd _ x ho hx aggU hm hin (syC_e hs.out (k := 2) rfl) h
theorem q8j (hgd : Region.wanted o (yielded ops a.tmps) = true) (x y : Operand) (ho : o.op = .store 27 x y) (hx : a.eval x = .pointer (some ⟨g, 0, none⟩)) {t : List Int} (hy : a.eval y = .agg (icells t)) (hm : Hid (MV w0 w1 L w)) {i : Nat} (hi : VNth L i (g, T0, syC s)) (hs : Hid (SyW s)) (ht : Hid (t.length = 16))
  (h : ∀ w', Hid (MV w0 w1 (L.set i (g, T0, syC { s with t := t })) w') → Hid (SyW { s with t := t }) → wpList Tryz.prog ops Q rest (a.put o.dst undef) w') : wpList Tryz.prog ops Q (o :: rest) a w :=
 wv_storeP hgd _ x y ho hx (ds := (icl t).toArray) hy (Arr.row arrTail) hm hi (by rw [syC_size hs.out]; omega) (by rw [List.size_toArray, icl_length, ht.out]) (oneIcl t) (put_t hs.out ht.out) fun w' hw => h w' hw (Lib.hid (hs.out.setT ht.out))
theorem q8k (hgd : Region.wanted o (yielded ops a.tmps) = true) (x y : Operand) (ho : o.op = .store 29 x y) (hx : a.eval x = .pointer (some ⟨g, 16, none⟩)) {l : List Int} (hy : a.eval y = .agg (icells l)) (hm : Hid (MV w0 w1 L w)) {i : Nat} (hi : VNth L i (g, T0, syC s)) (hs : Hid (SyW s)) (hl : Hid (l.length = 6))
  (h : ∀ w', Hid (MV w0 w1 (L.set i (g, T0, syC { s with l := l })) w') → Hid (SyW { s with l := l }) → wpList Tryz.prog ops Q rest (a.put o.dst undef) w') : wpList Tryz.prog ops Q (o :: rest) a w :=
 wv_storeP hgd _ x y ho hx (ds := (icl l).toArray) hy (Arr.row arrLev) hm hi (by rw [syC_size hs.out]; omega) (by rw [List.size_toArray, icl_length, hl.out]) (oneIcl l) (put_l hs.out hl.out) fun w' hw => h w' hw (Lib.hid (hs.out.setL hl.out))
theorem q8l (hgd : Region.wanted o (yielded ops a.tmps) = true) (x y : Operand) (ho : o.op = .store 4 x y) (hx : a.eval x = .pointer (some ⟨g, 22, none⟩)) {b : Bool} (hy : a.eval y = .bool b) (hm : Hid (MV w0 w1 L w)) {i : Nat} (hi : VNth L i (g, T0, syC s)) (hs : Hid (SyW s))
  (h : ∀ w', Hid (MV w0 w1 (L.set i (g, T0, syC { s with live := b })) w') → Hid (SyW { s with live := b }) → wpList Tryz.prog ops Q rest (a.put o.dst undef) w') : wpList Tryz.prog ops Q (o :: rest) a w :=
 wv_put1 hgd _ x y ho hx hy sizB hm hi (by rw [syC_size hs.out]; omega) rfl rfl (put_live hs.out b) fun w' hw => h w' hw (Lib.hid (hs.out.setLive b))
theorem q8m (hgd : Region.wanted o (yielded ops a.tmps) = true) (x y : Operand) (ho : o.op = .store 4 x y) (hx : a.eval x = .pointer (some ⟨g, 23, none⟩)) {b : Bool} (hy : a.eval y = .bool b) (hm : Hid (MV w0 w1 L w)) {i : Nat} (hi : VNth L i (g, T0, syC s)) (hs : Hid (SyW s))
  (h : ∀ w', Hid (MV w0 w1 (L.set i (g, T0, syC { s with hush := b })) w') → Hid (SyW { s with hush := b }) → wpList Tryz.prog ops Q rest (a.put o.dst undef) w') : wpList Tryz.prog ops Q (o :: rest) a w :=
 wv_put1 hgd _ x y ho hx hy sizB hm hi (by rw [syC_size hs.out]; omega) rfl rfl (put_hush hs.out b) fun w' hw => h w' hw (Lib.hid (hs.out.setHush b))
theorem q8n (hgd : Region.wanted o (yielded ops a.tmps) = true) (x y : Operand) (ho : o.op = .store 30 x y) (hx : a.eval x = .pointer (some ⟨g, 24, none⟩)) {z : Int} (hy : a.eval y = .int .u32 z) (hm : Hid (MV w0 w1 L w)) {i : Nat} (hi : VNth L i (g, T0, syC s)) (hs : Hid (SyW s)) (hz : Hid (0 ≤ z ∧ z < 4294967296))
  (h : ∀ w', Hid (MV w0 w1 (L.set i (g, T0, syC { s with seed := z })) w') → Hid (SyW { s with seed := z }) → wpList Tryz.prog ops Q rest (a.put o.dst undef) w') : wpList Tryz.prog ops Q (o :: rest) a w :=
 wv_put1 hgd _ x y ho hx hy sizU hm hi (by rw [syC_size hs.out]; omega) rfl rfl (put_seed hs.out z) fun w' hw => h w' hw (Lib.hid (hs.out.setSeed hz.out))
theorem q8g (hgd : Region.wanted o (yielded ops a.tmps) = true) (ho : o.op = .build 32 #[]) (h : wpList Tryz.prog ops Q rest (a.put o.dst (.agg (syC Sy.z))) w) : wpList Tryz.prog ops Q (o :: rest) a w :=
 wv_bC hgd 32 #[] ho _ (by have h := built_synZ; simpa using h) h
theorem q8h (hgd : Region.wanted o (yielded ops a.tmps) = true) (x : Operand) (ho : o.op = .build 32 #[(4, x)]) (hx : a.eval x = .int .u32 1) (h : wpList Tryz.prog ops Q rest (a.put o.dst (.agg (syC Sy.one))) w) : wpList Tryz.prog ops Q (o :: rest) a w :=
 wv_b1 hgd _ 4 x ho hx _ built_syn1 h
theorem q8i (hgd : Region.wanted o (yielded ops a.tmps) = true) (x : Operand) (ho : o.op = .build 70 #[(0, x)]) (hx : a.eval x = .agg (syC s)) (hs : Hid (SyW s)) (h : wpList Tryz.prog ops Q rest (a.put o.dst (.agg (syC s))) w) : wpList Tryz.prog ops Q (o :: rest) a w :=
 wv_b1 hgd _ 0 x ho hx _ (putMid_all (syC_size hs.out)) h
theorem q8p (hgd : Region.wanted o (yielded ops a.tmps) = true) (x y : Operand) (ho : o.op = .store 70 x y) (hx : a.eval x = .pointer (some ⟨g, 0, none⟩)) {t : Sy} (hy : a.eval y = .agg (syC t)) (hm : Hid (MV w0 w1 L w)) {i : Nat} (hi : VNth L i (g, T0, syC s)) (hs : Hid (SyW s)) (ht : Hid (SyW t))
  (h : ∀ w', Hid (MV w0 w1 (L.set i (g, T0, syC t)) w') → wpList Tryz.prog ops Q rest (a.put o.dst undef) w') : wpList Tryz.prog ops Q (o :: rest) a w :=
 q8s hgd _ x y ho hx hy rowMou hm hi (Lib.hid (syC_size hs.out)) (Lib.hid (syC_size ht.out)) (syC_one t) h
theorem q8f (hgd : Region.wanted o (yielded ops a.tmps) = true) (x : Operand) (ho : o.op = .load 32 x) (hx : a.eval x = .pointer (some ⟨g, 0, none⟩)) (hm : Hid (MV w0 w1 L w)) (hin : (g, T0, syC s) ∈ L) (hs : Hid (SyW s))
  (h : wpList Tryz.prog ops Q rest (a.put o.dst (.agg (syC s))) w) : wpList Tryz.prog ops Q (o :: rest) a w :=
 q8q hgd _ x ho hx rowSyn hm hin (Lib.hid (syC_size hs.out)) h
theorem q8o (hgd : Region.wanted o (yielded ops a.tmps) = true) (x y : Operand) (ho : o.op = .store 32 x y) (hx : a.eval x = .pointer (some ⟨g, 0, none⟩)) {t : Sy} (hy : a.eval y = .agg (syC t)) (hm : Hid (MV w0 w1 L w)) {i : Nat} (hi : VNth L i (g, T0, syC s)) (hs : Hid (SyW s)) (ht : Hid (SyW t))
  (h : ∀ w', Hid (MV w0 w1 (L.set i (g, T0, syC t)) w') → wpList Tryz.prog ops Q rest (a.put o.dst undef) w') : wpList Tryz.prog ops Q (o :: rest) a w :=
 q8s hgd _ x y ho hx hy rowSyn hm hi (Lib.hid (syC_size hs.out)) (Lib.hid (syC_size ht.out)) (syC_one t) h
end
theorem aggI (w : World) : (isAgg 3).run Tryz.prog w = .ok false w := by kernel_rfl
theorem sizI (w : World) : (sizeOf 3).run Tryz.prog w = .ok 1 w := by kernel_rfl
def cnL (t : Ty) : List Value := [.int .i64 t.hang, .int .i64 t.sent, .int .i64 t.quiet]
@[irreducible] def tyC (t : Ty) : Array Value := (icl t.p ++ (cnL t ++ (syC t.s).toList)).toArray
theorem tyC_size {t : Ty} (h : TyW t) : (tyC t).size = 44 := by
 have h2 : (syC t.s).toList.length = 25 := by rw [Array.length_toList, syC_size h.sy]
 unfold tyC cnL
 rw [List.size_toArray, List.length_append, List.length_append, icl_length, h.lp, h2]
 rfl
theorem tyC_one (t : Ty) : (tyC t).all (·.oneCell') = true := by
 unfold tyC
 have h := syC_one t.s
 rw [← Array.all_toList] at h
 rw [List.all_toArray, List.all_append, List.all_append, h]
 unfold icl cnL
 simp [Value.oneCell']
theorem tyC_p {t : Ty} : ∀ j v, (icl t.p)[j]? = some v → (tyC t)[0 + j]? = some v := fun j v h => by
 unfold tyC
 rw [Nat.zero_add, List.getElem?_toArray, List.getElem?_append_left (List.getElem?_eq_some_iff.1 h).1]
 exact h
theorem tyC_c {t : Ty} (ht : TyW t) {k : Nat} {v : Value} (h : (cnL t)[k]? = some v) : (tyC t)[16 + k]? = some v := by
 unfold tyC
 rw [List.getElem?_toArray, List.getElem?_append_right (by rw [icl_length, ht.lp]; omega), icl_length, ht.lp, Nat.add_sub_cancel_left, List.getElem?_append_left (List.getElem?_eq_some_iff.1 h).1]
 exact h
theorem tyC_s {t : Ty} (ht : TyW t) : ∀ j v, (syC t.s).toList[j]? = some v → (tyC t)[19 + j]? = some v := fun j v h => by
 unfold tyC
 rw [List.getElem?_toArray, List.getElem?_append_right (by rw [icl_length, ht.lp]; omega), icl_length, ht.lp, List.getElem?_append_right (by unfold cnL; simp; omega), show 19 + j - 16 - (cnL t).length = j by unfold cnL; simp; omega]
 exact h
theorem tyC_sC {t : Ty} (ht : TyW t) {j : Nat} {v : Value} (h : (syC t.s)[j]? = some v) : (tyC t)[19 + j]? = some v := tyC_s ht j v (by rw [Array.getElem?_toList]; exact h)
theorem tyC_l {t : Ty} (ht : TyW t) : ∀ j v, (icl t.s.l)[j]? = some v → (tyC t)[35 + j]? = some v := fun j v h => by
 have := tyC_sC ht (syC_l ht.sy j v h)
 rw [← Nat.add_assoc] at this
 exact this
theorem tput_p {t : Ty} {p : List Int} (ht : TyW t) (hp : p.length = 16) : putAt (tyC t) 0 (icl p) = tyC { t with p := p } := by
 unfold tyC
 exact putAt_mid (icl p) (icl t.p) [] _ (by rw [icl_length, icl_length, ht.lp, hp])
theorem tset_c {t : Ty} (ht : TyW t) {k : Nat} (hk : k < 3) (v : Value) : (tyC t).setIfInBounds (16 + k) v = (icl t.p ++ ((cnL t).set k v ++ (syC t.s).toList)).toArray := by
 unfold tyC
 rw [List.setIfInBounds_toArray, List.set_append_right _ _ (by rw [icl_length, ht.lp]; omega), icl_length, ht.lp, Nat.add_sub_cancel_left, List.set_append_left _ _ (by unfold cnL; simp; omega)]
theorem tput_hang {t : Ty} (ht : TyW t) (v : Int) : (tyC t).setIfInBounds 16 (.int .i64 v) = tyC { t with hang := v } := (tset_c ht (k := 0) (by omega) _).trans (by unfold tyC; rfl)
theorem tput_sent {t : Ty} (ht : TyW t) (v : Int) : (tyC t).setIfInBounds 17 (.int .i64 v) = tyC { t with sent := v } := (tset_c ht (k := 1) (by omega) _).trans (by unfold tyC; rfl)
theorem tput_quiet {t : Ty} (ht : TyW t) (v : Int) : (tyC t).setIfInBounds 18 (.int .i64 v) = tyC { t with quiet := v } := (tset_c ht (k := 2) (by omega) _).trans (by unfold tyC; rfl)
theorem tput_s {t : Ty} {s : Sy} (ht : TyW t) (hs : SyW s) : putAt (tyC t) 19 (syC s).toList = tyC { t with s := s } := by
 unfold tyC
 have h := putAt_mid (syC s).toList (syC t.s).toList (icl t.p ++ cnL t) [] (by rw [Array.length_toList, Array.length_toList, syC_size ht.sy, syC_size hs])
 rw [List.length_append, icl_length, ht.lp, List.append_nil, List.append_nil, List.append_assoc, List.append_assoc] at h
 exact h
theorem tyC_zero : tyC Ty.z = (icl (zr 16) ++ ([Value.int .i64 0, Value.int .i64 0, Value.int .i64 0] ++ (syC Sy.z).toList)).toArray := by unfold tyC; rfl
theorem rowTal : RowT 52 44 (tyC Ty.z) := by rw [tyC_zero]; exact rowT_of (by kernel_rfl) (by kernel_rfl)
theorem rowTlk : RowT 80 44 (tyC Ty.z) := by rw [tyC_zero]; exact rowT_of (by kernel_rfl) (by kernel_rfl)
theorem tyW_z : TyW Ty.z := ⟨zr_length 16, syW_z⟩
theorem TyW.setP {t : Ty} (h : TyW t) {p : List Int} (hp : p.length = 16) : TyW { t with p := p } := ⟨hp, h.sy⟩
theorem TyW.setS {t : Ty} (h : TyW t) {s : Sy} (hs : SyW s) : TyW { t with s := s } := ⟨h.lp, hs⟩
theorem TyW.setC {t : Ty} (h : TyW t) (a b c : Int) : TyW { t with hang := a, sent := b, quiet := c } := ⟨h.lp, h.sy⟩
theorem built_talZ : Tryz.prog.built 52 [] = some (tyC Ty.z) := by rw [tyC_zero]; kernel_rfl
theorem putTlk_all {cs : Array Value} (h : cs.size = 44) : Tryz.prog.built 80 [(0, .agg cs)] = some cs := by
 obtain ⟨l⟩ := cs
 have h : l.length = 44 := h
 iterate 44
  rcases l with _ | ⟨_, l⟩
  ·simp at h
 rcases l with _ | ⟨_, l⟩
 ·show Tryz.prog.built _ _ = some _
  kernel_rfl
 ·simp at h
theorem twOf {t : Ty} (h : Hid (TyW t) := by first | with_reducible assumption | exact Lib.hid tyW_z | exact Lib.hid tyW_one) : Hid (TyW t) := h
theorem tsizOf {t : Ty} (h : Hid (TyW t) := by first | with_reducible assumption | exact Lib.hid tyW_z | exact Lib.hid tyW_one) : Hid ((tyC t).size = 44) := Lib.hid (tyC_size h.out)
section
variable {ops : Array Oper} {rest : List Oper} {o : Oper} {a : Act} {w w0 w1 : World} {Q : Exit → Act → World → Prop} {L : List Ent} {T0 : TypeId} {t : Ty} {g : Nat}
theorem wt_ldP (hgd : Region.wanted o (yielded ops a.tmps) = true) (x : Operand) (ho : o.op = .load 35 x) (hx : a.eval x = .pointer (some ⟨g, 0, none⟩)) (hm : Hid (MV w0 w1 L w)) (hin : (g, T0, tyC t) ∈ L) (hs : Hid (TyW t))
  (h : wpList Tryz.prog ops Q rest (a.put o.dst (.agg (icells t.p))) w) : wpList Tryz.prog ops Q (o :: rest) a w :=
 wv_loadP hgd _ x ho hx (Arr.row arrPcm) hm hin tyC_p ((icl_length _).trans hs.out.lp) h
theorem wt_ldL (hgd : Region.wanted o (yielded ops a.tmps) = true) (x : Operand) (ho : o.op = .load 29 x) (hx : a.eval x = .pointer (some ⟨g, 35, none⟩)) (hm : Hid (MV w0 w1 L w)) (hin : (g, T0, tyC t) ∈ L) (hs : Hid (TyW t))
  (h : wpList Tryz.prog ops Q rest (a.put o.dst (.agg (icells t.s.l))) w) : wpList Tryz.prog ops Q (o :: rest) a w :=
 wv_loadP hgd _ x ho hx (Arr.row arrLev) hm hin (tyC_l hs.out) ((icl_length _).trans hs.out.sy.ll) h
theorem wt_ldS (hgd : Region.wanted o (yielded ops a.tmps) = true) (x : Operand) (ho : o.op = .load 32 x) (hx : a.eval x = .pointer (some ⟨g, 19, none⟩)) (hm : Hid (MV w0 w1 L w)) (hin : (g, T0, tyC t) ∈ L) (hs : Hid (TyW t))
  (h : wpList Tryz.prog ops Q rest (a.put o.dst (.agg (syC t.s))) w) : wpList Tryz.prog ops Q (o :: rest) a w :=
 wv_loadP hgd _ x ho hx rowSyn hm hin (tyC_s hs.out) (by rw [Array.length_toList, syC_size hs.out.sy]) h
theorem wt_ldHang (hgd : Region.wanted o (yielded ops a.tmps) = true) (x : Operand) (ho : o.op = .load 3 x) (hx : a.eval x = .pointer (some ⟨g, 16, none⟩)) (hm : Hid (MV w0 w1 L w)) (hin : (g, T0, tyC t) ∈ L) (hs : Hid (TyW t))
  (h : wpList Tryz.prog ops Q rest (a.put o.dst (.int .i64 t.hang)) w) : wpList Tryz.prog ops Q (o :: rest) a w :=
 wv_cell1 hgd _ x ho hx aggI hm hin (tyC_c hs.out (k := 0) rfl) h
theorem wt_ldSent (hgd : Region.wanted o (yielded ops a.tmps) = true) (x : Operand) (ho : o.op = .load 3 x) (hx : a.eval x = .pointer (some ⟨g, 17, none⟩)) (hm : Hid (MV w0 w1 L w)) (hin : (g, T0, tyC t) ∈ L) (hs : Hid (TyW t))
  (h : wpList Tryz.prog ops Q rest (a.put o.dst (.int .i64 t.sent)) w) : wpList Tryz.prog ops Q (o :: rest) a w :=
 wv_cell1 hgd _ x ho hx aggI hm hin (tyC_c hs.out (k := 1) rfl) h
theorem wt_ldQuiet (hgd : Region.wanted o (yielded ops a.tmps) = true) (x : Operand) (ho : o.op = .load 3 x) (hx : a.eval x = .pointer (some ⟨g, 18, none⟩)) (hm : Hid (MV w0 w1 L w)) (hin : (g, T0, tyC t) ∈ L) (hs : Hid (TyW t))
  (h : wpList Tryz.prog ops Q rest (a.put o.dst (.int .i64 t.quiet)) w) : wpList Tryz.prog ops Q (o :: rest) a w :=
 wv_cell1 hgd _ x ho hx aggI hm hin (tyC_c hs.out (k := 2) rfl) h
theorem wt_ldLive (hgd : Region.wanted o (yielded ops a.tmps) = true) (x : Operand) (ho : o.op = .load 4 x) (hx : a.eval x = .pointer (some ⟨g, 41, none⟩)) (hm : Hid (MV w0 w1 L w)) (hin : (g, T0, tyC t) ∈ L) (hs : Hid (TyW t)) {b : Bool} (hb : Hid (t.s.live = b))
  (h : wpList Tryz.prog ops Q rest (a.put o.dst (.bool b)) w) : wpList Tryz.prog ops Q (o :: rest) a w :=
 wv_cell1 hgd _ x ho hx aggB hm hin (tyC_sC hs.out (syC_e hs.out.sy (k := 0) (by rw [← hb.out]; rfl))) h
theorem wt_ldHush (hgd : Region.wanted o (yielded ops a.tmps) = true) (x : Operand) (ho : o.op = .load 4 x) (hx : a.eval x = .pointer (some ⟨g, 42, none⟩)) (hm : Hid (MV w0 w1 L w)) (hin : (g, T0, tyC t) ∈ L) (hs : Hid (TyW t)) {b : Bool} (hb : Hid (t.s.hush = b))
  (h : wpList Tryz.prog ops Q rest (a.put o.dst (.bool b)) w) : wpList Tryz.prog ops Q (o :: rest) a w :=
 wv_cell1 hgd _ x ho hx aggB hm hin (tyC_sC hs.out (syC_e hs.out.sy (k := 1) (by rw [← hb.out]; rfl))) h
theorem wt_ldT (hgd : Region.wanted o (yielded ops a.tmps) = true) (x : Operand) (ho : o.op = .load 52 x) (hx : a.eval x = .pointer (some ⟨g, 0, none⟩)) (hm : Hid (MV w0 w1 L w)) (hin : (g, T0, tyC t) ∈ L) (hs : Hid (TyW t))
  (h : wpList Tryz.prog ops Q rest (a.put o.dst (.agg (tyC t))) w) : wpList Tryz.prog ops Q (o :: rest) a w :=
 q8q hgd _ x ho hx rowTal hm hin (Lib.hid (tyC_size hs.out)) h
theorem wt_stP (hgd : Region.wanted o (yielded ops a.tmps) = true) (x y : Operand) (ho : o.op = .store 35 x y) (hx : a.eval x = .pointer (some ⟨g, 0, none⟩)) {p : List Int} (hy : a.eval y = .agg (icells p)) (hm : Hid (MV w0 w1 L w)) {i : Nat} (hi : VNth L i (g, T0, tyC t)) (hs : Hid (TyW t)) (hp : Hid (p.length = 16))
  (h : ∀ w', Hid (MV w0 w1 (L.set i (g, T0, tyC { t with p := p })) w') → Hid (TyW { t with p := p }) → wpList Tryz.prog ops Q rest (a.put o.dst undef) w') : wpList Tryz.prog ops Q (o :: rest) a w :=
 wv_storeP hgd _ x y ho hx (ds := (icl p).toArray) hy (Arr.row arrPcm) hm hi (by rw [tyC_size hs.out]; omega) (by rw [List.size_toArray, icl_length, hp.out]) (oneIcl p) (tput_p hs.out hp.out) fun w' hw => h w' hw (Lib.hid (hs.out.setP hp.out))
theorem wt_stHang (hgd : Region.wanted o (yielded ops a.tmps) = true) (x y : Operand) (ho : o.op = .store 3 x y) (hx : a.eval x = .pointer (some ⟨g, 16, none⟩)) {v : Int} (hy : a.eval y = .int .i64 v) (hm : Hid (MV w0 w1 L w)) {i : Nat} (hi : VNth L i (g, T0, tyC t)) (hs : Hid (TyW t))
  (h : ∀ w', Hid (MV w0 w1 (L.set i (g, T0, tyC { t with hang := v })) w') → Hid (TyW { t with hang := v }) → wpList Tryz.prog ops Q rest (a.put o.dst undef) w') : wpList Tryz.prog ops Q (o :: rest) a w :=
 wv_put1 hgd _ x y ho hx hy sizI hm hi (by rw [tyC_size hs.out]; omega) rfl rfl (tput_hang hs.out v) fun w' hw => h w' hw (Lib.hid (hs.out.setC v t.sent t.quiet))
theorem wt_stSent (hgd : Region.wanted o (yielded ops a.tmps) = true) (x y : Operand) (ho : o.op = .store 3 x y) (hx : a.eval x = .pointer (some ⟨g, 17, none⟩)) {v : Int} (hy : a.eval y = .int .i64 v) (hm : Hid (MV w0 w1 L w)) {i : Nat} (hi : VNth L i (g, T0, tyC t)) (hs : Hid (TyW t))
  (h : ∀ w', Hid (MV w0 w1 (L.set i (g, T0, tyC { t with sent := v })) w') → Hid (TyW { t with sent := v }) → wpList Tryz.prog ops Q rest (a.put o.dst undef) w') : wpList Tryz.prog ops Q (o :: rest) a w :=
 wv_put1 hgd _ x y ho hx hy sizI hm hi (by rw [tyC_size hs.out]; omega) rfl rfl (tput_sent hs.out v) fun w' hw => h w' hw (Lib.hid (hs.out.setC t.hang v t.quiet))
theorem wt_stQuiet (hgd : Region.wanted o (yielded ops a.tmps) = true) (x y : Operand) (ho : o.op = .store 3 x y) (hx : a.eval x = .pointer (some ⟨g, 18, none⟩)) {v : Int} (hy : a.eval y = .int .i64 v) (hm : Hid (MV w0 w1 L w)) {i : Nat} (hi : VNth L i (g, T0, tyC t)) (hs : Hid (TyW t))
  (h : ∀ w', Hid (MV w0 w1 (L.set i (g, T0, tyC { t with quiet := v })) w') → Hid (TyW { t with quiet := v }) → wpList Tryz.prog ops Q rest (a.put o.dst undef) w') : wpList Tryz.prog ops Q (o :: rest) a w :=
 wv_put1 hgd _ x y ho hx hy sizI hm hi (by rw [tyC_size hs.out]; omega) rfl rfl (tput_quiet hs.out v) fun w' hw => h w' hw (Lib.hid (hs.out.setC t.hang t.sent v))
theorem wt_stS (hgd : Region.wanted o (yielded ops a.tmps) = true) (x y : Operand) (ho : o.op = .store 32 x y) (hx : a.eval x = .pointer (some ⟨g, 19, none⟩)) {s : Sy} (hy : a.eval y = .agg (syC s)) (hm : Hid (MV w0 w1 L w)) {i : Nat} (hi : VNth L i (g, T0, tyC t)) (hs : Hid (TyW t)) (hp : Hid (SyW s))
  (h : ∀ w', Hid (MV w0 w1 (L.set i (g, T0, tyC { t with s := s })) w') → Hid (TyW { t with s := s }) → wpList Tryz.prog ops Q rest (a.put o.dst undef) w') : wpList Tryz.prog ops Q (o :: rest) a w :=
 wv_storeP hgd _ x y ho hx hy rowSyn hm hi (by rw [tyC_size hs.out]; omega) (syC_size hp.out) (syC_one s) (tput_s hs.out hp.out) fun w' hw => h w' hw (Lib.hid (hs.out.setS hp.out))
theorem wt_stT (hgd : Region.wanted o (yielded ops a.tmps) = true) (x y : Operand) (ho : o.op = .store 52 x y) (hx : a.eval x = .pointer (some ⟨g, 0, none⟩)) {u : Ty} (hy : a.eval y = .agg (tyC u)) (hm : Hid (MV w0 w1 L w)) {i : Nat} (hi : VNth L i (g, T0, tyC t)) (hs : Hid (TyW t)) (ht : Hid (TyW u))
  (h : ∀ w', Hid (MV w0 w1 (L.set i (g, T0, tyC u)) w') → wpList Tryz.prog ops Q rest (a.put o.dst undef) w') : wpList Tryz.prog ops Q (o :: rest) a w :=
 q8s hgd _ x y ho hx hy rowTal hm hi (Lib.hid (tyC_size hs.out)) (Lib.hid (tyC_size ht.out)) (tyC_one u) h
theorem wt_stM (hgd : Region.wanted o (yielded ops a.tmps) = true) (x y : Operand) (ho : o.op = .store 80 x y) (hx : a.eval x = .pointer (some ⟨g, 0, none⟩)) {u : Ty} (hy : a.eval y = .agg (tyC u)) (hm : Hid (MV w0 w1 L w)) {i : Nat} (hi : VNth L i (g, T0, tyC t)) (hs : Hid (TyW t)) (ht : Hid (TyW u))
  (h : ∀ w', Hid (MV w0 w1 (L.set i (g, T0, tyC u)) w') → wpList Tryz.prog ops Q rest (a.put o.dst undef) w') : wpList Tryz.prog ops Q (o :: rest) a w :=
 q8s hgd _ x y ho hx hy rowTlk hm hi (Lib.hid (tyC_size hs.out)) (Lib.hid (tyC_size ht.out)) (tyC_one u) h
theorem wt_zero (hgd : Region.wanted o (yielded ops a.tmps) = true) (ho : o.op = .build 52 #[]) (h : wpList Tryz.prog ops Q rest (a.put o.dst (.agg (tyC Ty.z))) w) : wpList Tryz.prog ops Q (o :: rest) a w :=
 wv_bC hgd 52 #[] ho _ (by have h := built_talZ; simpa using h) h
theorem wt_talker (hgd : Region.wanted o (yielded ops a.tmps) = true) (x : Operand) (ho : o.op = .build 80 #[(0, x)]) (hx : a.eval x = .agg (tyC t)) (hs : Hid (TyW t)) (h : wpList Tryz.prog ops Q rest (a.put o.dst (.agg (tyC t))) w) : wpList Tryz.prog ops Q (o :: rest) a w :=
 wv_b1 hgd _ 0 x ho hx _ (putTlk_all (tyC_size hs.out)) h
end
theorem isDue_any (v : Int) (b : Bool) (w : World) (h0 : 0 ≤ v ∧ v ≤ 1099511627776) (hb : decide (v % 8 = 0) = b) :
  Calls Tryz.prog 124 #[.int .i64 v] w (ValQ w (.bool b)) := by
 have HM := Lib.hid (MV.start w)
 have e1 : v.tmod 8 = v % 8 := Int.tmod_eq_emod_of_nonneg h0.1
 have d1 : (v % 8 == 0) = b := by
  rw [← hb]
  by_cases h : v % 8 = 0
  ·rw [decide_eq_true h, h]; rfl
  ·rw [decide_eq_false h, beq_eq_false_iff_ne]; exact h
 have w1 : IntKind.i64.wrap (v % 8) = v % 8 := i64_w (by omega) (by omega)
 have D1 := Lib.hid d1
 clear d1
 clear hb
 go_enter Tryz.func124, Tryz.ntmps124
 go_wp2_with (first | (refine aQl ?_) | (refine aQs ?_; clear HM; intro us HM; dsimp only [List.set] at HM) | (refine aQt ?_; clear HM HSW; intro us HM HSW; dsimp only [List.set] at HM HSW) | (refine aQv ?_; clear HM; intro us HM; dsimp only [List.set] at HM) | (refine aQb ?_) | (refine aQn ?_; first | (have q:dV HM = 0:=rfl;clear q HM;intro g1 u1 HG1 HM) | (have q:dV HM = 1:=rfl;clear q HM;intro g2 u2 HG2 HM) | (have q:dV HM = 2:=rfl;clear q HM;intro g3 u3 HG3 HM) | (have q:dV HM = 3:=rfl;clear q HM;intro g4 u4 HG4 HM) | (have q:dV HM = 4:=rfl;clear q HM;intro g5 u5 HG5 HM) | (have q:dV HM = 5:=rfl;clear q HM;intro g6 u6 HG6 HM) | (have q:dV HM = 6:=rfl;clear q HM;intro g7 u7 HG7 HM) | (have q:dV HM = 7:=rfl;clear q HM;intro g8 u8 HG8 HM) | (have q:dV HM = 8:=rfl;clear q HM;intro g9 u9 HG9 HM) | (have q:dV HM = 9:=rfl;clear q HM;intro g10 u10 HG10 HM)))
 go_ret
 exact ⟨by show Ending.returned (Value.bool (v % 8 == 0)) = _; rw [D1.out], HM.out.1⟩
theorem isCount_any (hi : Int) (A : Option Addr) (n c : Nat) (zs : List Int) (b : Bool) (w : World) (hr : Hid (RdI w A n zs)) (hn : n ≤ maxLen) (hb : inR 0 hi zs = b) :
  Calls Tryz.prog 50 #[.int .i64 hi, .slice A n c] w fun e w' => e = .returned (.bool b) ∧ w = w' := by
 have HI := Lib.hid (inR_iff (lo := 0) (hi := hi) hr.out.1)
 rw [hb] at HI
 clear hb
 unfold maxLen at hn
 go_enter Tryz.func50, Tryz.ntmps50
 go_wp2_with fail
 go_loop [9] (fun vi => ∃ k : Nat, vi = .int .i64 (k : Int) ∧ k ≤ n ∧ Hid (∀ j, j < k → 0 ≤ zs.getD j 0 ∧ zs.getD j 0 ≤ hi)) (fun vi => n - (intOf vi).toNat)
 case atStart => exact ⟨0, rfl, by omega, Lib.hid (fun j hj => by omega)⟩
 case round =>
  obtain ⟨k, rfl, hk, HK⟩ := hrel
  by_cases hlt : k < n
  ·obtain ⟨ad, rfl, hlt2, hcell⟩ := hr.out.at_ hlt
   obtain ⟨x, hx⟩ : ∃ x, zs.getD k 0 = x := ⟨_, rfl⟩
   rw [hx] at hcell
   have HX := Lib.hid hx
   clear hx hlt2
   by_cases h1 : x < 0
   ·obtain rfl : b = false := by
     cases b with
     | false => rfl
     | true => have := HI.out.1 rfl k hlt; rw [HX.out] at this; omega
    go_wp2
    go_ret
    exact ⟨rfl, rfl⟩
   ·by_cases h2 : hi < x
    ·obtain rfl : b = false := by
      cases b with
      | false => rfl
      | true => have := HI.out.1 rfl k hlt; rw [HX.out] at this; omega
     go_wp2
     go_ret
     exact ⟨rfl, rfl⟩
    ·go_wp2
     go_round
     case rel =>
      refine ⟨k + 1, by go_num, by omega, Lib.hid fun j hj => ?_⟩
      by_cases hjk : j < k
      ·exact HK.out j hjk
      ·obtain rfl : j = k := by omega
       rw [HX.out]; omega
     case measure => simp [intOf]; omega
  ·obtain rfl : k = n := by omega
   obtain rfl : b = true := HI.out.2 HK.out
   go_wp2
   go_ret
   exact ⟨rfl, rfl⟩
theorem smax_any (A : Option Addr) (n c : Nat) (zs : List Int) (w : World) (hr : Hid (RdI w A n zs)) (hn : n ≤ maxLen) (h1 : 0 < n) (h0 : 0 ≤ zs.getD 0 0) :
  Calls Tryz.prog 104 #[.slice A n c] w fun e w' => e = .returned (.int .i64 (ldN zs n)) ∧ w = w' := by
 unfold maxLen at hn
 obtain ⟨ad, rfl, hlt2, hcell⟩ := hr.out.at_ h1
 have hc0 := hr.out.cell0 h1
 have H0 := Lib.hid (show zs.getD 0 0 = ldN zs 1 by rw [ldN_succ, show ldN zs 0 = 0 from rfl]; omega)
 rw [H0.out] at hc0
 have HP := Lib.hid h1
 have d1 : decide ((n : Int) < 1) = false := decide_eq_false (by omega)
 clear hlt2 hcell h0
 go_enter Tryz.func104, Tryz.ntmps104
 go_wp2_with fail
 go_loop [3, 4] (fun vm vi => ∃ k : Nat, vm = .int .i64 (ldN zs k) ∧ vi = .int .i64 (k : Int) ∧ 1 ≤ k ∧ k ≤ n) (fun _ vi => n - (intOf vi).toNat)
 case atStart => exact ⟨1, rfl, rfl, by omega, HP.out⟩
 case round =>
  clear d1 hc0
  obtain ⟨k, rfl, rfl, hk1, hk⟩ := hrel
  by_cases hlt : k < n
  ·have hcell := hr.out.cell hlt
   have HS := Lib.hid (ldN_succ zs k)
   generalize ldN zs k = a at HS
   generalize zs.getD k 0 = x at hcell HS
   go_wp2
   go_round
   case rel => exact ⟨k + 1, by rw [HS.out], by go_num, by omega, by omega⟩
   case measure => simp [intOf]; omega
  ·obtain rfl : k = n := by omega
   go_wp2
   go_ret
   exact ⟨rfl, rfl⟩
theorem bloud_any (l : List Int) (w : World) (ll : l.length = 6) (hc : chkL l = true) :
  Calls Tryz.prog 73 #[.agg (icells l)] w (ValQ w (.int .i64 (ldN l 6))) := by
 have HM := Lib.hid (Mem.start w)
 have LL := Lib.hid ll
 have HC := Lib.hid (fun u => bcheck_any l true 0 u ll hc rfl)
 have H0 := Lib.hid (inR_bd hc (by omega) (by omega) 0).1
 clear ll hc
 go_enter Tryz.func73, Tryz.ntmps73
 go_wp2_with (first | (refine q8w (by rfl) ?_) | (first | (first | (refine aNw ?_; first | (have q:dL HM = 0:=rfl;clear q HM;intro g1 u1 HM) | (have q:dL HM = 1:=rfl;clear q HM;intro g2 u2 HM) | (have q:dL HM = 2:=rfl;clear q HM;intro g3 u3 HM) | (have q:dL HM = 3:=rfl;clear q HM;intro g4 u4 HM) | (have q:dL HM = 4:=rfl;clear q HM;intro g5 u5 HM) | (have q:dL HM = 5:=rfl;clear q HM;intro g6 u6 HM) | (have q:dL HM = 6:=rfl;clear q HM;intro g7 u7 HM) | (have q:dL HM = 7:=rfl;clear q HM;intro g8 u8 HM) | (have q:dL HM = 8:=rfl;clear q HM;intro g9 u9 HM) | (have q:dL HM = 9:=rfl;clear q HM;intro g10 u10 HM)) | (refine aLo ?_) | (refine aSt ?_; clear HM; intro us HM; dsimp only [List.set] at HM) | (refine aZe ?_)) | (refine aLs ?_) | (refine aCf ?_)))
 refine (HC.out _).mono ?_
 rintro e w2 ⟨rfl, h1⟩
 replace HM := Lib.hid (HM.out.below h1)
 clear h1 HC
 go_wp2_with (first | (refine q8w (by rfl) ?_) | (first | (first | (refine aNw ?_; first | (have q:dL HM = 0:=rfl;clear q HM;intro g1 u1 HM) | (have q:dL HM = 1:=rfl;clear q HM;intro g2 u2 HM) | (have q:dL HM = 2:=rfl;clear q HM;intro g3 u3 HM) | (have q:dL HM = 3:=rfl;clear q HM;intro g4 u4 HM) | (have q:dL HM = 4:=rfl;clear q HM;intro g5 u5 HM) | (have q:dL HM = 5:=rfl;clear q HM;intro g6 u6 HM) | (have q:dL HM = 6:=rfl;clear q HM;intro g7 u7 HM) | (have q:dL HM = 7:=rfl;clear q HM;intro g8 u8 HM) | (have q:dL HM = 8:=rfl;clear q HM;intro g9 u9 HM) | (have q:dL HM = 9:=rfl;clear q HM;intro g10 u10 HM)) | (refine aLo ?_) | (refine aSt ?_; clear HM; intro us HM; dsimp only [List.set] at HM) | (refine aZe ?_)) | (refine aLs ?_) | (refine aCf ?_)))
 refine (smax_any _ 6 6 l _ (Lib.hid (HM.out.rd (.head _) LL.out)) (by unfold maxLen; omega) (by omega) H0.out).mono ?_
 rintro e w2 ⟨rfl, rfl⟩
 go_wp2_with (first | (refine q8w (by rfl) ?_) | (first | (first | (refine aNw ?_; first | (have q:dL HM = 0:=rfl;clear q HM;intro g1 u1 HM) | (have q:dL HM = 1:=rfl;clear q HM;intro g2 u2 HM) | (have q:dL HM = 2:=rfl;clear q HM;intro g3 u3 HM) | (have q:dL HM = 3:=rfl;clear q HM;intro g4 u4 HM) | (have q:dL HM = 4:=rfl;clear q HM;intro g5 u5 HM) | (have q:dL HM = 5:=rfl;clear q HM;intro g6 u6 HM) | (have q:dL HM = 6:=rfl;clear q HM;intro g7 u7 HM) | (have q:dL HM = 7:=rfl;clear q HM;intro g8 u8 HM) | (have q:dL HM = 8:=rfl;clear q HM;intro g9 u9 HM) | (have q:dL HM = 9:=rfl;clear q HM;intro g10 u10 HM)) | (refine aLo ?_) | (refine aSt ?_; clear HM; intro us HM; dsimp only [List.set] at HM) | (refine aZe ?_)) | (refine aLs ?_) | (refine aCf ?_)))
 go_ret
 exact ⟨rfl, HM.out.1⟩
theorem isLoud_any (l : List Int) (w : World) (ll : l.length = 6) (hc : chkL l = true) :
  Calls Tryz.prog 48 #[.agg (icells l)] w (ValQ w (.bool (decide (100 ≤ ldN l 6)))) := by
 have HM := Lib.hid (Mem.start w)
 have LL := Lib.hid ll
 have HC := Lib.hid (fun u => bloud_any l u ll hc)
 generalize ldN l 6 = v at HC ⊢
 clear ll hc
 go_enter Tryz.func48, Tryz.ntmps48
 go_wp2_with (first | (refine q8w (by rfl) ?_) | (first | (first | (refine aNw ?_; first | (have q:dL HM = 0:=rfl;clear q HM;intro g1 u1 HM) | (have q:dL HM = 1:=rfl;clear q HM;intro g2 u2 HM) | (have q:dL HM = 2:=rfl;clear q HM;intro g3 u3 HM) | (have q:dL HM = 3:=rfl;clear q HM;intro g4 u4 HM) | (have q:dL HM = 4:=rfl;clear q HM;intro g5 u5 HM) | (have q:dL HM = 5:=rfl;clear q HM;intro g6 u6 HM) | (have q:dL HM = 6:=rfl;clear q HM;intro g7 u7 HM) | (have q:dL HM = 7:=rfl;clear q HM;intro g8 u8 HM) | (have q:dL HM = 8:=rfl;clear q HM;intro g9 u9 HM) | (have q:dL HM = 9:=rfl;clear q HM;intro g10 u10 HM)) | (refine aLo ?_) | (refine aSt ?_; clear HM; intro us HM; dsimp only [List.set] at HM) | (refine aZe ?_)) | (refine aLs ?_) | (refine aCf ?_)))
 refine (HC.out _).mono ?_
 rintro e w2 ⟨rfl, h1⟩
 replace HM := Lib.hid (HM.out.below h1)
 clear h1 HC
 go_wp2_with (first | (refine q8w (by rfl) ?_) | (first | (first | (refine aNw ?_; first | (have q:dL HM = 0:=rfl;clear q HM;intro g1 u1 HM) | (have q:dL HM = 1:=rfl;clear q HM;intro g2 u2 HM) | (have q:dL HM = 2:=rfl;clear q HM;intro g3 u3 HM) | (have q:dL HM = 3:=rfl;clear q HM;intro g4 u4 HM) | (have q:dL HM = 4:=rfl;clear q HM;intro g5 u5 HM) | (have q:dL HM = 5:=rfl;clear q HM;intro g6 u6 HM) | (have q:dL HM = 6:=rfl;clear q HM;intro g7 u7 HM) | (have q:dL HM = 7:=rfl;clear q HM;intro g8 u8 HM) | (have q:dL HM = 8:=rfl;clear q HM;intro g9 u9 HM) | (have q:dL HM = 9:=rfl;clear q HM;intro g10 u10 HM)) | (refine aLo ?_) | (refine aSt ?_; clear HM; intro us HM; dsimp only [List.set] at HM) | (refine aZe ?_)) | (refine aLs ?_) | (refine aCf ?_)))
 go_ret
 exact ⟨rfl, HM.out.1⟩
theorem qmost_is (v : Int) (w : World) : Calls Tryz.prog 96 #[.int .i64 v] w fun e w' => e = .returned (.int .i64 (mostV v : Int)) ∧ w = w' := by
 obtain ⟨c, hc⟩ : ∃ c : Nat, max 0 (min v 7) = (c : Int) := ⟨(max 0 (min v 7)).toNat, by omega⟩
 have c7 : c ≤ 7 := by omega
 have hV : mostV v = mostN c := by unfold mostV; congr 1; omega
 obtain ⟨P, hP⟩ : ∃ P, 2 ^ c = P := ⟨_, rfl⟩
 have hp := pow_cast c
 have HV := Lib.hid (show (mostV v : Int) = (P : Int) - 1 by
  have := Nat.two_pow_pos c
  rw [hV]; unfold mostN; omega)
 have p1 : 1 ≤ P := by rw [← hP]; exact Nat.two_pow_pos c
 have p2 : P ≤ 128 := by rw [← hP]; exact Nat.pow_le_pow_right (n := 2) (i := c) (j := 7) (by omega) c7
 rw [hP] at hp
 clear hP hV
 go_enter Tryz.func96, Tryz.ntmps96
 go_wp2
 go_ret
 exact ⟨ri (by rw [HV.out]), rfl⟩
theorem qpeak_good (l : Nat) (w : World) (hl : l < 256) : Calls Tryz.prog 151 #[.int .i64 (l : Int)] w fun e w' => e = .returned (.tuple #[.int .i64 (peakN l : Int), .int .i64 0]) ∧ w = w' := by
 have HP := Lib.hid (show peakN l = (8 + l % 8) * 2 ^ (l / 8) / 8 + 1 from rfl)
 obtain ⟨r, hr⟩ : ∃ r, l % 8 = r := ⟨_, rfl⟩
 obtain ⟨a, ha⟩ : ∃ a, l / 8 = a := ⟨_, rfl⟩
 rw [hr, ha] at HP
 have hri : (l : Int) % 8 = (r : Int) := by omega
 have hai : (l : Int) / 8 = (a : Int) := by omega
 have r8 : r < 8 := by omega
 have a31 : a ≤ 31 := by omega
 have l255 : (l : Int) ≤ 255 := by omega
 generalize peakN l = P at HP
 obtain ⟨T, hT⟩ : ∃ T, 2 ^ a = T := ⟨_, rfl⟩
 have hp := pow_cast a
 have t1 : T ≤ 2147483648 := by rw [← hT]; exact two_pow_le31 a31
 rw [hT] at hp HP
 obtain ⟨z, hz⟩ : ∃ z, (8 + r) * T = z := ⟨_, rfl⟩
 have z1 : z ≤ 15 * 2147483648 := by rw [← hz]; exact Nat.mul_le_mul (by omega) t1
 have hzi : (8 + (r : Int)) * (T : Int) = (z : Int) := by rw [← hz, Int.natCast_mul]; rfl
 have hzw : IntKind.i64.wrap ((8 + (r : Int)) * (T : Int)) = (z : Int) := by rw [hzi]; exact i64_w (by omega) (by omega)
 rw [hz] at HP
 clear hr ha hl hT hz t1
 go_enter Tryz.func151, Tryz.ntmps151
 go_wp2
 go_ret2
 refine ⟨?_, rfl⟩
 have e : (P : Int) = (z : Int) / 8 + 1 := by have := HP.out; omega
 rw [e]; rfl
theorem qstep_good (l k : Nat) (w : World) (hl : l < 256) (h1 : 1 ≤ k) (h7 : k ≤ 7) : Calls Tryz.prog 153 #[.int .i64 (l : Int), .int .i64 (k : Int)] w fun e w' => e = .returned (.tuple #[.int .i64 (stepN l k : Int), .int .i64 0]) ∧ w = w' := by
 have HP := Lib.hid (fun u => qpeak_good l u hl)
 have HQ := Lib.hid (fun u => qmost_is (k : Int) u)
 rw [show mostV (k : Int) = mostN k by unfold mostV; congr 1; omega] at HQ
 have HS := Lib.hid (show stepN l k = (peakN l + mostN k - 1) / mostN k from rfl)
 have p1 := peakN_bd l hl
 have m1 := mostN_pos h1
 have m7 := mostN_bd k h7
 generalize peakN l = P at HP HS p1
 generalize mostN k = m at HQ HS m1 m7
 generalize stepN l k = s at HS
 have k1 : 1 ≤ (k : Int) := by omega
 have k7 : (k : Int) ≤ 7 := by omega
 have m1i : 1 ≤ (m : Int) := by omega
 have hs0 : ((P : Int) + (m : Int) - 1) / (m : Int) = (s : Int) := by
  rw [HS.out, Int.natCast_ediv]
  congr 1
  omega
 have hsb : s ≤ P + m := by rw [HS.out]; exact Nat.le_trans (Nat.div_le_self _ _) (by omega)
 have hd : IntKind.i64.wrap (((P : Int) + (m : Int) - 1).tdiv (m : Int)) = (s : Int) := by
  rw [Int.tdiv_eq_ediv_of_nonneg (by omega), hs0]
  exact i64_w (by omega) (by omega)
 have HD0 := Lib.hid hs0
 clear hl h1 h7 hs0
 go_enter Tryz.func153, Tryz.ntmps153
 go_wp2_with fail
 refine (HP.out _).mono ?_
 rintro e wb ⟨rfl, rfl⟩
 go_wp2_with fail
 refine (HQ.out _).mono ?_
 rintro e wb ⟨rfl, rfl⟩
 go_wp2_with fail
 go_ret2
 exact ⟨rfl, rfl⟩
theorem qnext_any (t : Int) (w : World) : Calls Tryz.prog 114 #[.int .u32 t] w fun e w' => e = .returned (.int .u32 (nextS t)) ∧ w = w' := by
 have e1 : IntKind.u32.wrap (t * 1664525) = (t * 1664525) % 4294967296 := rfl
 obtain ⟨t', ht⟩ : ∃ x, nextS t = x := ⟨_, rfl⟩
 have e2 : IntKind.u32.wrap ((t * 1664525) % 4294967296 + 1013904223) = t' := by
  have h : IntKind.u32.wrap ((t * 1664525) % 4294967296 + 1013904223) = ((t * 1664525) % 4294967296 + 1013904223) % 4294967296 := rfl
  rw [h, ← ht]; unfold nextS; omega
 rw [ht]
 clear ht
 go_enter Tryz.func114, Tryz.ntmps114
 go_wp2
 go_ret
 exact ⟨rfl, rfl⟩
theorem qswing_any (t : Int) (w : World) (h1 : 0 ≤ t) (h2 : t < 4294967296) : Calls Tryz.prog 115 #[.int .u32 t] w fun e w' => e = .returned (.int .i64 (t / 65536 - 32768)) ∧ w = w' := by
 go_enter Tryz.func115, Tryz.ntmps115
 go_wp2
 go_ret
 exact ⟨rfl, rfl⟩
theorem arrSix : Arr 28 6 := ⟨⟨.array 6 3, by kernel_rfl, rfl⟩, by kernel_rfl⟩
def spreadL (e : List Int) : List Int := tab 16 (fun n => e.getD (bnd n) 0)
theorem spread_tab {f g : Nat → Int} (h : ∀ n, n < 16 → f (bnd n) = g n) : spreadL (tab 6 f) = tab 16 g := tab_congr fun n hn => by
 show (tab 6 f).getD (bnd n) 0 = g n
 rw [tab_getD f (bnd_all n hn).1, h n hn]
theorem qspread_any (e : List Int) (w : World) (le : e.length = 6) (he : Edg w) :
  Calls Tryz.prog 152 #[.agg (icells e)] w (ValQ w (.agg (icells (spreadL e)))) := by
 have LE := Lib.hid le
 have HE := Lib.hid he
 have HM := Lib.hid (Mem.start w)
 have HV := Lib.hid (show spreadL e = tab 16 (fun n => e.getD (bnd n) 0) from rfl)
 generalize spreadL e = V at HV
 clear le he
 go_enter Tryz.func152, Tryz.ntmps152
 go_wp2_with (first | (refine aNw ?_; first | (have q:dL HM = 0:=rfl;clear q HM;intro g1 u1 HM) | (have q:dL HM = 1:=rfl;clear q HM;intro g2 u2 HM) | (have q:dL HM = 2:=rfl;clear q HM;intro g3 u3 HM) | (have q:dL HM = 3:=rfl;clear q HM;intro g4 u4 HM) | (have q:dL HM = 4:=rfl;clear q HM;intro g5 u5 HM) | (have q:dL HM = 5:=rfl;clear q HM;intro g6 u6 HM) | (have q:dL HM = 6:=rfl;clear q HM;intro g7 u7 HM) | (have q:dL HM = 7:=rfl;clear q HM;intro g8 u8 HM) | (have q:dL HM = 8:=rfl;clear q HM;intro g9 u9 HM) | (have q:dL HM = 9:=rfl;clear q HM;intro g10 u10 HM)) | (refine aLo ?_) | (refine aSt ?_; clear HM; intro us HM; dsimp only [List.set] at HM) | (refine aZe ?_))
 go_loopw [7] (fun vi wr => ∃ k : Nat, k ≤ 16 ∧ vi = .int .i64 (k : Int) ∧ Hid (Mem w [(g3, 26, tab 16 (part2 k (fun n => e.getD (bnd n) 0) (fun _ => 0))), (g2, 26, zr 16), (g1, 28, e)] wr)) (fun vi _ => 16 - (intOf vi).toNat)
 case atStart => exact ⟨0, by omega, rfl, Lib.hid (by rw [part2_none, tab_zero]; exact HM.out)⟩
 case round =>
  clear HM
  obtain ⟨k, hk, rfl, HM⟩ := hrel
  by_cases hlt : k < 16
  ·have k16 : (k : Int) < 16 := by omega
   have SS := Lib.hid (part2_set (n := 16) (k := k) (fun n => e.getD (bnd n) 0) (fun _ => 0))
   have HO := Lib.hid (fun u (hu : Edg u) => of_good k u hlt hu)
   have hb6 := (bnd_all k hlt).1
   obtain ⟨b, hb⟩ : ∃ b, bnd k = b := ⟨_, rfl⟩
   simp only [hb] at SS
   rw [hb] at HO hb6
   clear hb
   have b6 : (b : Int) < 6 := by omega
   go_wp2_with fail
   refine (HO.out _ (HE.out.mem HM.out)).mono ?_
   rintro e wb ⟨rfl, rfl⟩
   have c1 := HM.out.cell (.tail _ (.tail _ (.head _))) (k := b) (by rw [LE.out]; exact hb6)
   have c3 := HM.out.cell (.head _) (k := k) (by rw [tab_length]; exact hlt)
   have f3 := HM.out.free (.head _) k
   generalize List.getD (tab 16 _) k 0 = o at c3
   generalize e.getD b 0 = v at c1 SS
   go_wp2_with fail
   have HM3 := Lib.hid (HM.out.put 0 rfl k v)
   simp only [List.set_cons_zero] at HM3
   rw [SS.out] at HM3
   clear HM c1 c3 f3
   go_roundw
   case rel => exact ⟨k + 1, by omega, by go_num, HM3⟩
   case measure => simp [intOf]; omega
  ·obtain rfl : k = 16 := by omega
   rw [part2_all, ← HV.out] at HM
   have L5 := Lib.hid (show V.length = 16 by rw [HV.out]; exact tab_length _ _)
   go_wp2_with (first | (refine aNw ?_; first | (have q:dL HM = 0:=rfl;clear q HM;intro g1 u1 HM) | (have q:dL HM = 1:=rfl;clear q HM;intro g2 u2 HM) | (have q:dL HM = 2:=rfl;clear q HM;intro g3 u3 HM) | (have q:dL HM = 3:=rfl;clear q HM;intro g4 u4 HM) | (have q:dL HM = 4:=rfl;clear q HM;intro g5 u5 HM) | (have q:dL HM = 5:=rfl;clear q HM;intro g6 u6 HM) | (have q:dL HM = 6:=rfl;clear q HM;intro g7 u7 HM) | (have q:dL HM = 7:=rfl;clear q HM;intro g8 u8 HM) | (have q:dL HM = 8:=rfl;clear q HM;intro g9 u9 HM) | (have q:dL HM = 9:=rfl;clear q HM;intro g10 u10 HM)) | (refine aLo ?_) | (refine aSt ?_; clear HM; intro us HM; dsimp only [List.set] at HM) | (refine aZe ?_))
   refine bodyPost_ret (v := .agg (icells V)) (res_one rfl _ rfl arrHop HM (by exact q7e) L5) rfl ⟨rfl, HM.out.1⟩
def stB (l a : List Int) (b : Nat) : Int := if 0 < a.getD b 0 then (stepN (l.getD b 0).toNat (a.getD b 0).toNat : Int) else 0
def moB (a : List Int) (b : Nat) : Int := (mostV (a.getD b 0) : Int)
def pkB (l : List Int) (b : Nat) : Int := if 0 < l.getD b 0 then (peakN (l.getD b 0).toNat : Int) else 0
theorem stB_is (l a : List Int) (b : Nat) : stB l a b = if 0 < a.getD b 0 then (stepN (l.getD b 0).toNat (a.getD b 0).toNat : Int) else 0 := rfl
theorem moB_is (a : List Int) (b : Nat) : moB a b = (mostV (a.getD b 0) : Int) := rfl
theorem pkB_is (l : List Int) (b : Nat) : pkB l b = if 0 < l.getD b 0 then (peakN (l.getD b 0).toNat : Int) else 0 := rfl
def pkL (l : List Int) : List Int := tab 16 (fun n => pkB l (bnd n))
theorem st_spread (l a : List Int) : spreadL (tab 6 (stB l a)) = stL l a := spread_tab fun _ _ => rfl
theorem mo_spread {a : List Int} (ha : OkA a) : spreadL (tab 6 (moB a)) = moL a := spread_tab fun n hn => by
 have h := ha.2 (bnd n) (bnd_all n hn).1
 unfold moB moF mostV
 generalize a.getD (bnd n) 0 = z at h
 by_cases e : 0 < z
 ·rw [if_pos e]; congr 2; omega
 ·rw [if_neg e, show z = 0 by omega]; decide
theorem pk_spread (l : List Int) : spreadL (tab 6 (pkB l)) = pkL l := spread_tab fun _ _ => rfl
theorem qmosts_any (a : List Int) (w : World) (ha : OkA a) (he : Edg w) :
  Calls Tryz.prog 145 #[.agg (icells a)] w (ValQ w (.agg (icells (moL a)))) := by
 have LA := Lib.hid ha.1
 have HE := Lib.hid he
 have HM := Lib.hid (Mem.start w)
 have L6 := Lib.hid (tab_length 6 (moB a))
 have HC := Lib.hid (fun u (hu : Edg u) => qspread_any (tab 6 (moB a)) u (tab_length 6 (moB a)) hu)
 rw [mo_spread ha] at HC
 have LV := Lib.hid (show (moL a).length = 16 from tab_length _ _)
 generalize moL a = V at HC LV
 clear ha he
 go_enter Tryz.func145, Tryz.ntmps145
 go_wp2_with (first | (refine aNw ?_; first | (have q:dL HM = 0:=rfl;clear q HM;intro g1 u1 HM) | (have q:dL HM = 1:=rfl;clear q HM;intro g2 u2 HM) | (have q:dL HM = 2:=rfl;clear q HM;intro g3 u3 HM) | (have q:dL HM = 3:=rfl;clear q HM;intro g4 u4 HM) | (have q:dL HM = 4:=rfl;clear q HM;intro g5 u5 HM) | (have q:dL HM = 5:=rfl;clear q HM;intro g6 u6 HM) | (have q:dL HM = 6:=rfl;clear q HM;intro g7 u7 HM) | (have q:dL HM = 7:=rfl;clear q HM;intro g8 u8 HM) | (have q:dL HM = 8:=rfl;clear q HM;intro g9 u9 HM) | (have q:dL HM = 9:=rfl;clear q HM;intro g10 u10 HM)) | (refine aLo ?_) | (refine aSt ?_; clear HM; intro us HM; dsimp only [List.set] at HM) | (refine aZe ?_))
 go_loopw [7] (fun vi wr => ∃ k : Nat, k ≤ 6 ∧ vi = .int .i64 (k : Int) ∧ Hid (Mem w [(g3, 28, tab 6 (part2 k (moB a) (fun _ => 0))), (g2, 26, zr 16), (g1, 165, a)] wr)) (fun vi _ => 6 - (intOf vi).toNat)
 case atStart => exact ⟨0, by omega, rfl, Lib.hid (by rw [part2_none, tab_zero]; exact HM.out)⟩
 case round =>
  clear HM
  obtain ⟨k, hk, rfl, HM⟩ := hrel
  by_cases hlt : k < 6
  ·have k6 : (k : Int) < 6 := by omega
   have SS := Lib.hid (part2_set (n := 6) (k := k) (moB a) (fun _ => 0))
   have hix := run_index 165 (n := 6) (by kernel_rfl) a LA.out k hlt
   rw [moB_is] at SS
   generalize a.getD k 0 = z at hix SS
   have HQ := Lib.hid (fun u => qmost_is z u)
   generalize mostV z = m at HQ SS
   go_wp2_with fail
   refine (HQ.out _).mono ?_
   rintro e wb ⟨rfl, rfl⟩
   clear hix
   have c3 := HM.out.cell (.head _) (k := k) (by rw [tab_length]; exact hlt)
   have f3 := HM.out.free (.head _) k
   generalize List.getD (tab 6 _) k 0 = o at c3
   go_wp2_with fail
   have HM3 := Lib.hid (HM.out.put 0 rfl k m)
   simp only [List.set_cons_zero] at HM3
   rw [SS.out] at HM3
   clear HM c3 f3
   go_roundw
   case rel => exact ⟨k + 1, by omega, by go_num, HM3⟩
   case measure => simp [intOf]; omega
  ·obtain rfl : k = 6 := by omega
   rw [part2_all] at HM
   go_wp2_with (first | (refine aNw ?_; first | (have q:dL HM = 0:=rfl;clear q HM;intro g1 u1 HM) | (have q:dL HM = 1:=rfl;clear q HM;intro g2 u2 HM) | (have q:dL HM = 2:=rfl;clear q HM;intro g3 u3 HM) | (have q:dL HM = 3:=rfl;clear q HM;intro g4 u4 HM) | (have q:dL HM = 4:=rfl;clear q HM;intro g5 u5 HM) | (have q:dL HM = 5:=rfl;clear q HM;intro g6 u6 HM) | (have q:dL HM = 6:=rfl;clear q HM;intro g7 u7 HM) | (have q:dL HM = 7:=rfl;clear q HM;intro g8 u8 HM) | (have q:dL HM = 8:=rfl;clear q HM;intro g9 u9 HM) | (have q:dL HM = 9:=rfl;clear q HM;intro g10 u10 HM)) | (refine aLo ?_) | (refine aSt ?_; clear HM; intro us HM; dsimp only [List.set] at HM) | (refine aZe ?_))
   refine (HC.out _ (HE.out.mem HM.out)).mono ?_
   rintro e w2 ⟨rfl, h1⟩
   replace HM := Lib.hid (HM.out.below h1)
   clear h1 HC
   go_wp2_with (first | (refine aNw ?_; first | (have q:dL HM = 0:=rfl;clear q HM;intro g1 u1 HM) | (have q:dL HM = 1:=rfl;clear q HM;intro g2 u2 HM) | (have q:dL HM = 2:=rfl;clear q HM;intro g3 u3 HM) | (have q:dL HM = 3:=rfl;clear q HM;intro g4 u4 HM) | (have q:dL HM = 4:=rfl;clear q HM;intro g5 u5 HM) | (have q:dL HM = 5:=rfl;clear q HM;intro g6 u6 HM) | (have q:dL HM = 6:=rfl;clear q HM;intro g7 u7 HM) | (have q:dL HM = 7:=rfl;clear q HM;intro g8 u8 HM) | (have q:dL HM = 8:=rfl;clear q HM;intro g9 u9 HM) | (have q:dL HM = 9:=rfl;clear q HM;intro g10 u10 HM)) | (refine aLo ?_) | (refine aSt ?_; clear HM; intro us HM; dsimp only [List.set] at HM) | (refine aZe ?_))
   refine bodyPost_ret (v := .agg (icells V)) (res_one rfl _ rfl arrHop HM (by exact q7e) LV) rfl ⟨rfl, HM.out.1⟩
theorem qpeaks_any (l : List Int) (w : World) (ll : l.length = 6) (hl : ∀ k, 0 ≤ l.getD k 0 ∧ l.getD k 0 ≤ 255) (he : Edg w) :
  Calls Tryz.prog 113 #[.agg (icells l)] w (ValQ w (.agg (icells (pkL l)))) := by
 have LA := Lib.hid ll
 have HL := Lib.hid hl
 have HE := Lib.hid he
 have HM := Lib.hid (Mem.start w)
 have L6 := Lib.hid (tab_length 6 (pkB l))
 have HC := Lib.hid (fun u (hu : Edg u) => qspread_any (tab 6 (pkB l)) u (tab_length 6 (pkB l)) hu)
 rw [pk_spread l] at HC
 have LV := Lib.hid (show (pkL l).length = 16 from tab_length _ _)
 generalize pkL l = V at HC LV
 clear ll hl he
 go_enter Tryz.func113, Tryz.ntmps113
 go_wp2_with (first | (refine aNw ?_; first | (have q:dL HM = 0:=rfl;clear q HM;intro g1 u1 HM) | (have q:dL HM = 1:=rfl;clear q HM;intro g2 u2 HM) | (have q:dL HM = 2:=rfl;clear q HM;intro g3 u3 HM) | (have q:dL HM = 3:=rfl;clear q HM;intro g4 u4 HM) | (have q:dL HM = 4:=rfl;clear q HM;intro g5 u5 HM) | (have q:dL HM = 5:=rfl;clear q HM;intro g6 u6 HM) | (have q:dL HM = 6:=rfl;clear q HM;intro g7 u7 HM) | (have q:dL HM = 7:=rfl;clear q HM;intro g8 u8 HM) | (have q:dL HM = 8:=rfl;clear q HM;intro g9 u9 HM) | (have q:dL HM = 9:=rfl;clear q HM;intro g10 u10 HM)) | (refine aLo ?_) | (refine aSt ?_; clear HM; intro us HM; dsimp only [List.set] at HM) | (refine aZe ?_))
 go_loopw [7] (fun vi wr => ∃ k : Nat, k ≤ 6 ∧ vi = .int .i64 (k : Int) ∧ Hid (Mem w [(g3, 28, tab 6 (part2 k (pkB l) (fun _ => 0))), (g2, 26, zr 16), (g1, 29, l)] wr)) (fun vi _ => 6 - (intOf vi).toNat)
 case atStart => exact ⟨0, by omega, rfl, Lib.hid (by rw [part2_none, tab_zero]; exact HM.out)⟩
 case round =>
  clear HM
  obtain ⟨k, hk, rfl, HM⟩ := hrel
  by_cases hlt : k < 6
  ·have k6 : (k : Int) < 6 := by omega
   have SS := Lib.hid (part2_set (n := 6) (k := k) (pkB l) (fun _ => 0))
   have KS := Lib.hid (fun h => part2_skip (n := 6) (k := k) (f := pkB l) (g := fun _ => 0) h)
   have HS := Lib.hid (pkB_is l k)
   have hix := run_index 29 (n := 6) (by kernel_rfl) l LA.out k hlt
   have hl := HL.out k
   obtain ⟨y, hy⟩ : ∃ y : Nat, l.getD k 0 = (y : Int) := ⟨(l.getD k 0).toNat, by omega⟩
   rw [hy] at hix hl HS
   have hy2 : y < 256 := by omega
   clear hy hl
   by_cases hpos : 0 < (y : Int)
   ·have HQ := Lib.hid (fun u => qpeak_good y u hy2)
    rw [if_pos hpos, show ((y : Int)).toNat = y from rfl] at HS
    rw [HS.out] at SS
    generalize peakN y = m at HQ SS
    clear KS HS hy2
    go_wp2_with fail
    refine (HQ.out _).mono ?_
    rintro e wb ⟨rfl, rfl⟩
    clear hix
    have c3 := HM.out.cell (.head _) (k := k) (by rw [tab_length]; exact hlt)
    have f3 := HM.out.free (.head _) k
    generalize List.getD (tab 6 _) k 0 = o at c3
    go_wp2_with fail
    have HM3 := Lib.hid (HM.out.put 0 rfl k m)
    simp only [List.set_cons_zero] at HM3
    rw [SS.out] at HM3
    clear HM c3 f3
    go_roundw
    case rel => exact ⟨k + 1, by omega, by go_num, HM3⟩
    case measure => simp [intOf]; omega
   ·have hd : decide (0 < (y : Int)) = false := decide_eq_false hpos
    rw [if_neg hpos] at HS
    rw [KS.out HS.out] at HM
    clear KS HS SS hy2
    go_wp2_with fail
    go_roundw
    case rel => exact ⟨k + 1, by omega, by go_num, HM⟩
    case measure => simp [intOf]; omega
  ·obtain rfl : k = 6 := by omega
   rw [part2_all] at HM
   go_wp2_with (first | (refine aNw ?_; first | (have q:dL HM = 0:=rfl;clear q HM;intro g1 u1 HM) | (have q:dL HM = 1:=rfl;clear q HM;intro g2 u2 HM) | (have q:dL HM = 2:=rfl;clear q HM;intro g3 u3 HM) | (have q:dL HM = 3:=rfl;clear q HM;intro g4 u4 HM) | (have q:dL HM = 4:=rfl;clear q HM;intro g5 u5 HM) | (have q:dL HM = 5:=rfl;clear q HM;intro g6 u6 HM) | (have q:dL HM = 6:=rfl;clear q HM;intro g7 u7 HM) | (have q:dL HM = 7:=rfl;clear q HM;intro g8 u8 HM) | (have q:dL HM = 8:=rfl;clear q HM;intro g9 u9 HM) | (have q:dL HM = 9:=rfl;clear q HM;intro g10 u10 HM)) | (refine aLo ?_) | (refine aSt ?_; clear HM; intro us HM; dsimp only [List.set] at HM) | (refine aZe ?_))
   refine (HC.out _ (HE.out.mem HM.out)).mono ?_
   rintro e w2 ⟨rfl, h1⟩
   replace HM := Lib.hid (HM.out.below h1)
   clear h1 HC
   go_wp2_with (first | (refine aNw ?_; first | (have q:dL HM = 0:=rfl;clear q HM;intro g1 u1 HM) | (have q:dL HM = 1:=rfl;clear q HM;intro g2 u2 HM) | (have q:dL HM = 2:=rfl;clear q HM;intro g3 u3 HM) | (have q:dL HM = 3:=rfl;clear q HM;intro g4 u4 HM) | (have q:dL HM = 4:=rfl;clear q HM;intro g5 u5 HM) | (have q:dL HM = 5:=rfl;clear q HM;intro g6 u6 HM) | (have q:dL HM = 6:=rfl;clear q HM;intro g7 u7 HM) | (have q:dL HM = 7:=rfl;clear q HM;intro g8 u8 HM) | (have q:dL HM = 8:=rfl;clear q HM;intro g9 u9 HM) | (have q:dL HM = 9:=rfl;clear q HM;intro g10 u10 HM)) | (refine aLo ?_) | (refine aSt ?_; clear HM; intro us HM; dsimp only [List.set] at HM) | (refine aZe ?_))
   refine bodyPost_ret (v := .agg (icells V)) (res_one rfl _ rfl arrHop HM (by exact q7e) LV) rfl ⟨rfl, HM.out.1⟩
theorem qsteps_any (l a : List Int) (w : World) (ll : l.length = 6) (hl : ∀ k, 0 ≤ l.getD k 0 ∧ l.getD k 0 ≤ 255) (ha : OkA a) (he : Edg w) :
  Calls Tryz.prog 117 #[.agg (icells l), .agg (icells a)] w (ValQ w (.agg (icells (stL l a)))) := by
 have LL := Lib.hid ll
 have HL := Lib.hid hl
 have LA := Lib.hid ha.1
 have HA := Lib.hid ha.2
 have HE := Lib.hid he
 have HM := Lib.hid (Mem.start w)
 have L6 := Lib.hid (tab_length 6 (stB l a))
 have HC := Lib.hid (fun u (hu : Edg u) => qspread_any (tab 6 (stB l a)) u (tab_length 6 (stB l a)) hu)
 rw [st_spread l a] at HC
 have LV := Lib.hid (show (stL l a).length = 16 from tab_length _ _)
 generalize stL l a = V at HC LV
 clear ll hl ha he
 go_enter Tryz.func117, Tryz.ntmps117
 go_wp2_with (first | (refine aNw ?_; first | (have q:dL HM = 0:=rfl;clear q HM;intro g1 u1 HM) | (have q:dL HM = 1:=rfl;clear q HM;intro g2 u2 HM) | (have q:dL HM = 2:=rfl;clear q HM;intro g3 u3 HM) | (have q:dL HM = 3:=rfl;clear q HM;intro g4 u4 HM) | (have q:dL HM = 4:=rfl;clear q HM;intro g5 u5 HM) | (have q:dL HM = 5:=rfl;clear q HM;intro g6 u6 HM) | (have q:dL HM = 6:=rfl;clear q HM;intro g7 u7 HM) | (have q:dL HM = 7:=rfl;clear q HM;intro g8 u8 HM) | (have q:dL HM = 8:=rfl;clear q HM;intro g9 u9 HM) | (have q:dL HM = 9:=rfl;clear q HM;intro g10 u10 HM)) | (refine aLo ?_) | (refine aSt ?_; clear HM; intro us HM; dsimp only [List.set] at HM) | (refine aZe ?_))
 go_loopw [9] (fun vi wr => ∃ k : Nat, k ≤ 6 ∧ vi = .int .i64 (k : Int) ∧ Hid (Mem w [(g4, 28, tab 6 (part2 k (stB l a) (fun _ => 0))), (g3, 26, zr 16), (g2, 165, a), (g1, 29, l)] wr)) (fun vi _ => 6 - (intOf vi).toNat)
 case atStart => exact ⟨0, by omega, rfl, Lib.hid (by rw [part2_none, tab_zero]; exact HM.out)⟩
 case round =>
  clear HM
  obtain ⟨k, hk, rfl, HM⟩ := hrel
  by_cases hlt : k < 6
  ·have k6 : (k : Int) < 6 := by omega
   have SS := Lib.hid (part2_set (n := 6) (k := k) (stB l a) (fun _ => 0))
   have KS := Lib.hid (fun h => part2_skip (n := 6) (k := k) (f := stB l a) (g := fun _ => 0) h)
   have HS := Lib.hid (stB_is l a k)
   have hix := run_index 165 (n := 6) (by kernel_rfl) a LA.out k hlt
   have c1 := HM.out.cell (.tail _ (.tail _ (.tail _ (.head _)))) (k := k) (by rw [LL.out]; exact hlt)
   have hl := HL.out k
   have ha := HA.out k hlt
   obtain ⟨y, hy⟩ : ∃ y : Nat, l.getD k 0 = (y : Int) := ⟨(l.getD k 0).toNat, by omega⟩
   obtain ⟨z, hz⟩ : ∃ z : Nat, a.getD k 0 = (z : Int) := ⟨(a.getD k 0).toNat, by omega⟩
   rw [hy] at c1 hl HS
   rw [hz] at hix ha HS
   have hy2 : y < 256 := by omega
   have hz2 : z ≤ 7 := by omega
   clear hy hl hz ha
   by_cases hpos : 0 < (z : Int)
   ·have HQ := Lib.hid (fun u => qstep_good y z u hy2 (by omega) hz2)
    rw [if_pos hpos, show ((y : Int)).toNat = y from rfl, show ((z : Int)).toNat = z from rfl] at HS
    rw [HS.out] at SS
    generalize stepN y z = m at HQ SS
    clear KS HS hy2 hz2
    go_wp2_with fail
    refine (HQ.out _).mono ?_
    rintro e wb ⟨rfl, rfl⟩
    clear hix c1
    have c3 := HM.out.cell (.head _) (k := k) (by rw [tab_length]; exact hlt)
    have f3 := HM.out.free (.head _) k
    generalize List.getD (tab 6 _) k 0 = o at c3
    go_wp2_with fail
    have HM3 := Lib.hid (HM.out.put 0 rfl k m)
    simp only [List.set_cons_zero] at HM3
    rw [SS.out] at HM3
    clear HM c3 f3
    go_roundw
    case rel => exact ⟨k + 1, by omega, by go_num, HM3⟩
    case measure => simp [intOf]; omega
   ·have hd : decide (0 < (z : Int)) = false := decide_eq_false hpos
    rw [if_neg hpos] at HS
    rw [KS.out HS.out] at HM
    clear KS HS SS hy2 hz2 c1
    go_wp2_with fail
    go_roundw
    case rel => exact ⟨k + 1, by omega, by go_num, HM⟩
    case measure => simp [intOf]; omega
  ·obtain rfl : k = 6 := by omega
   rw [part2_all] at HM
   go_wp2_with (first | (refine aNw ?_; first | (have q:dL HM = 0:=rfl;clear q HM;intro g1 u1 HM) | (have q:dL HM = 1:=rfl;clear q HM;intro g2 u2 HM) | (have q:dL HM = 2:=rfl;clear q HM;intro g3 u3 HM) | (have q:dL HM = 3:=rfl;clear q HM;intro g4 u4 HM) | (have q:dL HM = 4:=rfl;clear q HM;intro g5 u5 HM) | (have q:dL HM = 5:=rfl;clear q HM;intro g6 u6 HM) | (have q:dL HM = 6:=rfl;clear q HM;intro g7 u7 HM) | (have q:dL HM = 7:=rfl;clear q HM;intro g8 u8 HM) | (have q:dL HM = 8:=rfl;clear q HM;intro g9 u9 HM) | (have q:dL HM = 9:=rfl;clear q HM;intro g10 u10 HM)) | (refine aLo ?_) | (refine aSt ?_; clear HM; intro us HM; dsimp only [List.set] at HM) | (refine aZe ?_))
   refine (HC.out _ (HE.out.mem HM.out)).mono ?_
   rintro e w2 ⟨rfl, h1⟩
   replace HM := Lib.hid (HM.out.below h1)
   clear h1 HC
   go_wp2_with (first | (refine aNw ?_; first | (have q:dL HM = 0:=rfl;clear q HM;intro g1 u1 HM) | (have q:dL HM = 1:=rfl;clear q HM;intro g2 u2 HM) | (have q:dL HM = 2:=rfl;clear q HM;intro g3 u3 HM) | (have q:dL HM = 3:=rfl;clear q HM;intro g4 u4 HM) | (have q:dL HM = 4:=rfl;clear q HM;intro g5 u5 HM) | (have q:dL HM = 5:=rfl;clear q HM;intro g6 u6 HM) | (have q:dL HM = 6:=rfl;clear q HM;intro g7 u7 HM) | (have q:dL HM = 7:=rfl;clear q HM;intro g8 u8 HM) | (have q:dL HM = 8:=rfl;clear q HM;intro g9 u9 HM) | (have q:dL HM = 9:=rfl;clear q HM;intro g10 u10 HM)) | (refine aLo ?_) | (refine aSt ?_; clear HM; intro us HM; dsimp only [List.set] at HM) | (refine aZe ?_))
   refine bodyPost_ret (v := .agg (icells V)) (res_one rfl _ rfl arrHop HM (by exact q7e) LV) rfl ⟨rfl, HM.out.1⟩
def hcF (v m : List Int) (n : Nat) : Int := clampI (v.getD n 0) (m.getD n 0)
theorem hcF_is {v m : List Int} {n : Nat} (h : 0 ≤ m.getD n 0) : hcF v m n = max (-(m.getD n 0)) (min (v.getD n 0) (m.getD n 0)) := by
 unfold hcF clampI; omega
def hcL (v m : List Int) : List Int := tab 16 (hcF v m)
theorem hcL_length (v m : List Int) : (hcL v m).length = 16 := tab_length _ _
theorem part2_now {n k : Nat} (f g : Nat → Int) (h : k < n) : (tab n (part2 k f g)).getD k 0 = g k := by
 rw [tab_getD _ h]; unfold part2; rw [if_neg (by omega)]
theorem mayN_of {q m : List Int} : ∀ n, (∀ k, k < n → -(m.getD k 0) ≤ q.getD k 0 ∧ q.getD k 0 ≤ m.getD k 0) → mayN q m n = true
 | 0, _ => rfl
 | n + 1, h => by
  have h1 := mayN_of n fun k hk => h k (by omega)
  have h2 := h n (by omega)
  rw [mayN_succ, h1, decide_eq_true h2.1, decide_eq_true h2.2]; rfl
theorem hcL_iff {q m : List Int} (lq : q.length = 16) (hm : ∀ k, k < 16 → 0 ≤ m.getD k 0) : hcL q m = q ↔ mayN q m 16 = true := by
 constructor
 ·intro h
  refine mayN_of 16 fun k hk => ?_
  have h1 : (hcL q m).getD k 0 = q.getD k 0 := by rw [h]
  have h2 := hm k hk
  unfold hcL at h1
  rw [tab_getD _ hk, hcF_is h2] at h1
  omega
 ·intro h
  refine (tab_congr (g := fun i => q.getD i 0) fun k hk => ?_).trans (tab_self lq)
  have h1 := mayN_at 16 k hk h
  have h2 := hm k hk
  rw [hcF_is h2]
  omega
theorem qheld_any (v m : List Int) (w : World) (lv : v.length = 16) (lm : m.length = 16) (hm : ∀ k, k < 16 → 0 ≤ m.getD k 0 ∧ m.getD k 0 ≤ 67108864) :
  Calls Tryz.prog 144 #[.agg (icells v), .agg (icells m)] w (ValQ w (.agg (icells (hcL v m)))) := by
 have LV := Lib.hid lv
 have LM := Lib.hid lm
 have HB := Lib.hid hm
 have HM := Lib.hid (Mem.start w)
 have HV := Lib.hid (show hcL v m = tab 16 (hcF v m) from rfl)
 generalize hcL v m = V at HV
 clear lv lm hm
 go_enter Tryz.func144, Tryz.ntmps144
 go_wp2_with (first | (refine aNw ?_; first | (have q:dL HM = 0:=rfl;clear q HM;intro g1 u1 HM) | (have q:dL HM = 1:=rfl;clear q HM;intro g2 u2 HM) | (have q:dL HM = 2:=rfl;clear q HM;intro g3 u3 HM) | (have q:dL HM = 3:=rfl;clear q HM;intro g4 u4 HM) | (have q:dL HM = 4:=rfl;clear q HM;intro g5 u5 HM) | (have q:dL HM = 5:=rfl;clear q HM;intro g6 u6 HM) | (have q:dL HM = 6:=rfl;clear q HM;intro g7 u7 HM) | (have q:dL HM = 7:=rfl;clear q HM;intro g8 u8 HM) | (have q:dL HM = 8:=rfl;clear q HM;intro g9 u9 HM) | (have q:dL HM = 9:=rfl;clear q HM;intro g10 u10 HM)) | (refine aLo ?_) | (refine aSt ?_; clear HM; intro us HM; dsimp only [List.set] at HM) | (refine aZe ?_))
 go_loopw [8] (fun vi wr => ∃ k : Nat, k ≤ 16 ∧ vi = .int .i64 (k : Int) ∧ Hid (Mem w [(g3, 26, zr 16), (g2, 26, m), (g1, 26, tab 16 (part2 k (hcF v m) (fun n => v.getD n 0)))] wr)) (fun vi _ => 16 - (intOf vi).toNat)
 case atStart => exact ⟨0, by omega, rfl, Lib.hid (by rw [part2_none, tab_self LV.out]; exact HM.out)⟩
 case round =>
  clear HM
  obtain ⟨k, hk, rfl, HM⟩ := hrel
  by_cases hlt : k < 16
  ·have k16 : (k : Int) < 16 := by omega
   have SS := Lib.hid (part2_set (n := 16) (k := k) (hcF v m) (fun n => v.getD n 0))
   have hb := HB.out k hlt
   rw [hcF_is hb.1] at SS
   have hix := run_index 26 (n := 16) (by kernel_rfl) m LM.out k hlt
   have c1 := HM.out.cell (.tail _ (.tail _ (.head _))) (k := k) (by rw [tab_length]; exact hlt)
   have f1 := HM.out.free (.tail _ (.tail _ (.head _))) k
   rw [part2_now _ _ hlt] at c1
   generalize v.getD k 0 = x at c1 SS
   generalize m.getD k 0 = y at hix SS hb
   obtain ⟨y1, y2⟩ := hb
   have hn : IntKind.i64.wrap (-y) = -y := i64_w (by omega) (by omega)
   clear y1 y2
   go_wp2_with fail
   have HM3 := Lib.hid (HM.out.put 2 rfl k (max (-y) (min x y)))
   simp only [List.set_cons_zero, List.set_cons_succ] at HM3
   rw [SS.out] at HM3
   clear HM c1 f1
   go_roundw
   case rel => exact ⟨k + 1, by omega, by go_num, HM3⟩
   case measure => simp [intOf]; omega
  ·obtain rfl : k = 16 := by omega
   rw [part2_all, ← HV.out] at HM
   have L5 := Lib.hid (show V.length = 16 by rw [HV.out]; exact tab_length _ _)
   go_wp2_with (first | (refine aNw ?_; first | (have q:dL HM = 0:=rfl;clear q HM;intro g1 u1 HM) | (have q:dL HM = 1:=rfl;clear q HM;intro g2 u2 HM) | (have q:dL HM = 2:=rfl;clear q HM;intro g3 u3 HM) | (have q:dL HM = 3:=rfl;clear q HM;intro g4 u4 HM) | (have q:dL HM = 4:=rfl;clear q HM;intro g5 u5 HM) | (have q:dL HM = 5:=rfl;clear q HM;intro g6 u6 HM) | (have q:dL HM = 6:=rfl;clear q HM;intro g7 u7 HM) | (have q:dL HM = 7:=rfl;clear q HM;intro g8 u8 HM) | (have q:dL HM = 8:=rfl;clear q HM;intro g9 u9 HM) | (have q:dL HM = 9:=rfl;clear q HM;intro g10 u10 HM)) | (refine aLo ?_) | (refine aSt ?_; clear HM; intro us HM; dsimp only [List.set] at HM) | (refine aZe ?_))
   refine bodyPost_ret (v := .agg (icells V)) (res_one rfl _ rfl arrHop HM (by exact q7e) L5) rfl ⟨rfl, HM.out.1⟩
def bdL (x : List Int) : List Int := tab 16 (fun n => clampI (x.getD n 0) 67108864)
theorem bdL_length (x : List Int) : (bdL x).length = 16 := tab_length _ _
theorem bd_hc (x : List Int) : hcL x (tab 16 fun _ => 67108864) = bdL x := tab_congr fun n hn => by
 unfold hcF; rw [tab_getD _ hn]
theorem qbounded_any (x : List Int) (w : World) (lx : x.length = 16) :
  Calls Tryz.prog 116 #[.agg (icells x)] w (ValQ w (.agg (icells (bdL x)))) := by
 have LX := Lib.hid lx
 have HM := Lib.hid (Mem.start w)
 have L6 := Lib.hid (tab_length 16 (fun _ => 67108864))
 have HC := Lib.hid (fun u => qheld_any x (tab 16 fun _ => 67108864) u lx (tab_length _ _) (fun k hk => by rw [tab_getD _ hk]; omega))
 rw [bd_hc x] at HC
 have LV := Lib.hid (bdL_length x)
 generalize bdL x = V at HC LV
 clear lx
 go_enter Tryz.func116, Tryz.ntmps116
 go_wp2_with (first | (refine aNw ?_; first | (have q:dL HM = 0:=rfl;clear q HM;intro g1 u1 HM) | (have q:dL HM = 1:=rfl;clear q HM;intro g2 u2 HM) | (have q:dL HM = 2:=rfl;clear q HM;intro g3 u3 HM) | (have q:dL HM = 3:=rfl;clear q HM;intro g4 u4 HM) | (have q:dL HM = 4:=rfl;clear q HM;intro g5 u5 HM) | (have q:dL HM = 5:=rfl;clear q HM;intro g6 u6 HM) | (have q:dL HM = 6:=rfl;clear q HM;intro g7 u7 HM) | (have q:dL HM = 7:=rfl;clear q HM;intro g8 u8 HM) | (have q:dL HM = 8:=rfl;clear q HM;intro g9 u9 HM) | (have q:dL HM = 9:=rfl;clear q HM;intro g10 u10 HM)) | (refine aLo ?_) | (refine aSt ?_; clear HM; intro us HM; dsimp only [List.set] at HM) | (refine aZe ?_))
 go_loopw [5] (fun vi wr => ∃ k : Nat, k ≤ 16 ∧ vi = .int .i64 (k : Int) ∧ Hid (Mem w [(g3, 26, tab 16 (part2 k (fun _ => 67108864) (fun _ => 0))), (g2, 89, zr 16), (g1, 89, x)] wr)) (fun vi _ => 16 - (intOf vi).toNat)
 case atStart => exact ⟨0, by omega, rfl, Lib.hid (by rw [part2_none, tab_zero]; exact HM.out)⟩
 case round =>
  clear HM
  obtain ⟨k, hk, rfl, HM⟩ := hrel
  by_cases hlt : k < 16
  ·have k16 : (k : Int) < 16 := by omega
   have SS := Lib.hid (part2_set (n := 16) (k := k) (fun _ => 67108864) (fun _ => 0))
   have c3 := HM.out.cell (.head _) (k := k) (by rw [tab_length]; exact hlt)
   have f3 := HM.out.free (.head _) k
   generalize List.getD (tab 16 _) k 0 = o at c3
   go_wp2_with fail
   have HM3 := Lib.hid (HM.out.put 0 rfl k 67108864)
   simp only [List.set_cons_zero] at HM3
   rw [SS.out] at HM3
   clear HM c3 f3
   go_roundw
   case rel => exact ⟨k + 1, by omega, by go_num, HM3⟩
   case measure => simp [intOf]; omega
  ·obtain rfl : k = 16 := by omega
   rw [part2_all] at HM
   go_wp2_with (first | (refine aNw ?_; first | (have q:dL HM = 0:=rfl;clear q HM;intro g1 u1 HM) | (have q:dL HM = 1:=rfl;clear q HM;intro g2 u2 HM) | (have q:dL HM = 2:=rfl;clear q HM;intro g3 u3 HM) | (have q:dL HM = 3:=rfl;clear q HM;intro g4 u4 HM) | (have q:dL HM = 4:=rfl;clear q HM;intro g5 u5 HM) | (have q:dL HM = 5:=rfl;clear q HM;intro g6 u6 HM) | (have q:dL HM = 6:=rfl;clear q HM;intro g7 u7 HM) | (have q:dL HM = 7:=rfl;clear q HM;intro g8 u8 HM) | (have q:dL HM = 8:=rfl;clear q HM;intro g9 u9 HM) | (have q:dL HM = 9:=rfl;clear q HM;intro g10 u10 HM)) | (refine aLo ?_) | (refine aSt ?_; clear HM; intro us HM; dsimp only [List.set] at HM) | (refine aZe ?_))
   refine (HC.out _).mono ?_
   rintro e w2 ⟨rfl, h1⟩
   replace HM := Lib.hid (HM.out.below h1)
   clear h1 HC
   go_wp2_with (first | (refine aNw ?_; first | (have q:dL HM = 0:=rfl;clear q HM;intro g1 u1 HM) | (have q:dL HM = 1:=rfl;clear q HM;intro g2 u2 HM) | (have q:dL HM = 2:=rfl;clear q HM;intro g3 u3 HM) | (have q:dL HM = 3:=rfl;clear q HM;intro g4 u4 HM) | (have q:dL HM = 4:=rfl;clear q HM;intro g5 u5 HM) | (have q:dL HM = 5:=rfl;clear q HM;intro g6 u6 HM) | (have q:dL HM = 6:=rfl;clear q HM;intro g7 u7 HM) | (have q:dL HM = 7:=rfl;clear q HM;intro g8 u8 HM) | (have q:dL HM = 8:=rfl;clear q HM;intro g9 u9 HM) | (have q:dL HM = 9:=rfl;clear q HM;intro g10 u10 HM)) | (refine aLo ?_) | (refine aSt ?_; clear HM; intro us HM; dsimp only [List.set] at HM) | (refine aZe ?_))
   refine bodyPost_ret (v := .agg (icells V)) (res_one rfl _ rfl arrSpec HM (by exact q7e) LV) rfl ⟨rfl, HM.out.1⟩
theorem grdHopQ : Tryz.prog.eqGuardType Tryz.prog.depth 26 = false := by kernel_rfl
theorem moL_length (a : List Int) : (moL a).length = 16 := tab_length _ _
theorem moL_bd {a : List Int} (ha : OkA a) (k : Nat) (hk : k < 16) : 0 ≤ (moL a).getD k 0 ∧ (moL a).getD k 0 ≤ 67108864 := by
 unfold moL
 rw [tab_getD _ hk]
 unfold moF
 have h := ha.2 (bnd k) (bnd_all k hk).1
 split
 ·have := mostN_bd (a.getD (bnd k) 0).toNat (by omega)
  omega
 ·omega
theorem qfits_any (q a : List Int) (b : Bool) (w : World) (lq : q.length = 16) (ha : OkA a) (he : Edg w) (hb : mayN q (moL a) 16 = b) :
  Calls Tryz.prog 105 #[.agg (icells q), .agg (icells a)] w (ValQ w (.bool b)) := by
 have LQ := Lib.hid lq
 have LA := Lib.hid ha.1
 have HE := Lib.hid he
 have HM := Lib.hid (Mem.start w)
 have HO := Lib.hid (fun u (hu : Edg u) => qmosts_any a u ha hu)
 have HH := Lib.hid (fun u => qheld_any q (moL a) u lq (moL_length a) (moL_bd ha))
 have L1 := Lib.hid (moL_length a)
 have L2 := Lib.hid (hcL_length q (moL a))
 have hi := hcL_iff (m := moL a) lq fun k hk => (moL_bd ha k hk).1
 have hgd := grdHopQ
 cases b with
 | true =>
  have heq := fun u => run_equalIn_same 26 (n := 16) (by kernel_rfl) q lq u
  rw [hi.2 hb] at HH L2
  generalize moL a = M at HO HH L1
  clear lq ha he hi hb
  go_enter Tryz.func105, Tryz.ntmps105
  go_wp2_with (first | (refine aNw ?_; first | (have q:dL HM = 0:=rfl;clear q HM;intro g1 u1 HM) | (have q:dL HM = 1:=rfl;clear q HM;intro g2 u2 HM) | (have q:dL HM = 2:=rfl;clear q HM;intro g3 u3 HM) | (have q:dL HM = 3:=rfl;clear q HM;intro g4 u4 HM) | (have q:dL HM = 4:=rfl;clear q HM;intro g5 u5 HM) | (have q:dL HM = 5:=rfl;clear q HM;intro g6 u6 HM) | (have q:dL HM = 6:=rfl;clear q HM;intro g7 u7 HM) | (have q:dL HM = 7:=rfl;clear q HM;intro g8 u8 HM) | (have q:dL HM = 8:=rfl;clear q HM;intro g9 u9 HM) | (have q:dL HM = 9:=rfl;clear q HM;intro g10 u10 HM)) | (refine aLo ?_) | (refine aSt ?_; clear HM; intro us HM; dsimp only [List.set] at HM) | (refine aZe ?_))
  refine wp_region_held_drew (S := Mem w [(g2, 165, a), (g1, 26, q)]) (by kernel_rfl) (HM.out.drew.sub (by exact q7u)) (fun hHeld => ?_)
  have HMd := Lib.hid HM.out.drew
  clear HM
  have HM := HMd
  clear HMd
  generalize World.drew _ = wd at HM hHeld ⊢
  (refine tk 0 rfl (yi_load rfl _ _ rfl rfl (by exact q7a) (fun u hu => hu) (by exact q7e) (by exact q7l)) ?_)
  (refine tk 1 rfl (yi_load rfl _ _ rfl rfl (by exact q7a) (fun u hu => hu) (by exact q7e) (by exact q7l)) ?_)
  (refine tk 4 rfl (yi_load rfl _ _ rfl rfl (by exact q7a) (fun u hu => hu) (by exact q7e) (by exact q7l)) ?_)
  refine wpAnyH_ready (rs := [2]) (by kernel_rfl) (by simp) ?_; refine AllReadyH.cons rfl (fun K hK => ?_) (AllReadyH.nil)
  rw [if_pos (by rfl)]; go_simp
  refine (HO.out _ (HE.out.mem HM.out)).mono ?_
  rintro e wb ⟨rfl, h1⟩
  replace HM := Lib.hid (HM.out.below h1)
  clear h1 HO hHeld
  go_wp2_with fail; refine hK.out _ _ (HM.out.sub (by exact q7u)) (fun hHeld => ?_); clear hK K; (try simp only [Act.put, qz1, qz2, qz3])
  refine wpAnyH_ready (rs := [3]) (by kernel_rfl) (by simp) ?_; refine AllReadyH.cons rfl (fun K hK => ?_) (AllReadyH.nil)
  rw [if_pos (by rfl)]; go_simp
  refine (HH.out _).mono ?_
  rintro e wb ⟨rfl, h1⟩
  replace HM := Lib.hid (HM.out.below h1)
  clear h1 HH hHeld
  go_wp2_with fail; refine hK.out _ _ (HM.out.sub (by exact q7u)) (fun hHeld => ?_); clear hK K; (try simp only [Act.put, qz1, qz2, qz3])
  (refine tkg 5 (.bool true) rfl ?_)
  (refine tk 6 rfl (yi_free rfl (fun u => rfl)) ?_)
  refine wpAnyH_done (by kernel_rfl) ?_ _
  go_wp2
  go_ret
  exact ⟨rfl, HM.out.1⟩
 | false =>
  have heq := fun u => run_equalIn_diff 26 (n := 16) (by kernel_rfl) (hcL q (moL a)) q L2.out lq (fun e => by rw [hi.1 e] at hb; cases hb) u
  generalize hcL q (moL a) = H at HH L2 heq
  generalize moL a = M at HO HH L1
  clear lq ha he hi hb
  go_enter Tryz.func105, Tryz.ntmps105
  go_wp2_with (first | (refine aNw ?_; first | (have q:dL HM = 0:=rfl;clear q HM;intro g1 u1 HM) | (have q:dL HM = 1:=rfl;clear q HM;intro g2 u2 HM) | (have q:dL HM = 2:=rfl;clear q HM;intro g3 u3 HM) | (have q:dL HM = 3:=rfl;clear q HM;intro g4 u4 HM) | (have q:dL HM = 4:=rfl;clear q HM;intro g5 u5 HM) | (have q:dL HM = 5:=rfl;clear q HM;intro g6 u6 HM) | (have q:dL HM = 6:=rfl;clear q HM;intro g7 u7 HM) | (have q:dL HM = 7:=rfl;clear q HM;intro g8 u8 HM) | (have q:dL HM = 8:=rfl;clear q HM;intro g9 u9 HM) | (have q:dL HM = 9:=rfl;clear q HM;intro g10 u10 HM)) | (refine aLo ?_) | (refine aSt ?_; clear HM; intro us HM; dsimp only [List.set] at HM) | (refine aZe ?_))
  refine wp_region_held_drew (S := Mem w [(g2, 165, a), (g1, 26, q)]) (by kernel_rfl) (HM.out.drew.sub (by exact q7u)) (fun hHeld => ?_)
  have HMd := Lib.hid HM.out.drew
  clear HM
  have HM := HMd
  clear HMd
  generalize World.drew _ = wd at HM hHeld ⊢
  (refine tk 0 rfl (yi_load rfl _ _ rfl rfl (by exact q7a) (fun u hu => hu) (by exact q7e) (by exact q7l)) ?_)
  (refine tk 1 rfl (yi_load rfl _ _ rfl rfl (by exact q7a) (fun u hu => hu) (by exact q7e) (by exact q7l)) ?_)
  (refine tk 4 rfl (yi_load rfl _ _ rfl rfl (by exact q7a) (fun u hu => hu) (by exact q7e) (by exact q7l)) ?_)
  refine wpAnyH_ready (rs := [2]) (by kernel_rfl) (by simp) ?_; refine AllReadyH.cons rfl (fun K hK => ?_) (AllReadyH.nil)
  rw [if_pos (by rfl)]; go_simp
  refine (HO.out _ (HE.out.mem HM.out)).mono ?_
  rintro e wb ⟨rfl, h1⟩
  replace HM := Lib.hid (HM.out.below h1)
  clear h1 HO hHeld
  go_wp2_with fail; refine hK.out _ _ (HM.out.sub (by exact q7u)) (fun hHeld => ?_); clear hK K; (try simp only [Act.put, qz1, qz2, qz3])
  refine wpAnyH_ready (rs := [3]) (by kernel_rfl) (by simp) ?_; refine AllReadyH.cons rfl (fun K hK => ?_) (AllReadyH.nil)
  rw [if_pos (by rfl)]; go_simp
  refine (HH.out _).mono ?_
  rintro e wb ⟨rfl, h1⟩
  replace HM := Lib.hid (HM.out.below h1)
  clear h1 HH hHeld
  go_wp2_with fail; refine hK.out _ _ (HM.out.sub (by exact q7u)) (fun hHeld => ?_); clear hK K; (try simp only [Act.put, qz1, qz2, qz3])
  (refine tkg 5 (.bool false) rfl ?_)
  (refine tk 6 rfl (yi_free rfl (fun u => rfl)) ?_)
  refine wpAnyH_done (by kernel_rfl) ?_ _
  go_wp2
  go_ret
  exact ⟨rfl, HM.out.1⟩
theorem share_v (l : List Int) (h : chkL l = true) : shareV l 120 = .tuple #[.agg (icells (shareL l 120)), .int .i64 0] := by
 unfold shareV; rw [if_pos ⟨h, by decide⟩]
theorem share_vno (l : List Int) (h : chkL l = false) : shareV l 120 = .tuple #[.agg (icells (zr 6)), .int .i64 1] := by
 unfold shareV; rw [if_neg (fun k => by rw [h] at k; exact Bool.false_ne_true k.1)]
theorem ms_is {l : List Int} (h : chkL l = true) : msL l = moL (shareL l 120) := by unfold msL; rw [if_pos h]
theorem ss_is {l : List Int} (h : chkL l = true) : ssL l = stL l (shareL l 120) := by unfold ssL; rw [if_pos h]
theorem as_is {l : List Int} (h : chkL l = true) : asL l = shareL l 120 := by unfold asL; rw [if_pos h]
theorem qmay_any (q l : List Int) (w : World) (lq : q.length = 16) (ll : l.length = 6) (he : Edg w) :
  Calls Tryz.prog 75 #[.agg (icells q), .agg (icells l)] w (ValQ w (.bool (mayB q l))) := by
 have LQ := Lib.hid lq
 have LL := Lib.hid ll
 have HE := Lib.hid he
 have LZ := Lib.hid (zr_length 6)
 have HM := Lib.hid (Mem.start w)
 have HC := Lib.hid (fun u (hu : Edg u) => bshare_any l 120 u ll hu)
 cases hc : chkL l with
 | true =>
  rw [share_v l hc] at HC
  have HV : mayB q l = mayN q (moL (shareL l 120)) 16 := by unfold mayB; rw [hc, ms_is hc, Bool.true_and]
  have hok := (share_ok l (B := 120) (by decide)).1
  have LA := Lib.hid hok.1
  have HF := Lib.hid (fun u (hu : Edg u) => qfits_any q (shareL l 120) (mayB q l) u lq hok hu HV.symm)
  generalize mayB q l = V at HF HV
  generalize shareL l 120 = A at HC HF LA
  clear lq ll he hc HV hok
  go_enter Tryz.func75, Tryz.ntmps75
  go_wp2_with (first | (refine aNw ?_; first | (have q:dL HM = 0:=rfl;clear q HM;intro g1 u1 HM) | (have q:dL HM = 1:=rfl;clear q HM;intro g2 u2 HM) | (have q:dL HM = 2:=rfl;clear q HM;intro g3 u3 HM) | (have q:dL HM = 3:=rfl;clear q HM;intro g4 u4 HM) | (have q:dL HM = 4:=rfl;clear q HM;intro g5 u5 HM) | (have q:dL HM = 5:=rfl;clear q HM;intro g6 u6 HM) | (have q:dL HM = 6:=rfl;clear q HM;intro g7 u7 HM) | (have q:dL HM = 7:=rfl;clear q HM;intro g8 u8 HM) | (have q:dL HM = 8:=rfl;clear q HM;intro g9 u9 HM) | (have q:dL HM = 9:=rfl;clear q HM;intro g10 u10 HM)) | (refine aLo ?_) | (refine aSt ?_; clear HM; intro us HM; dsimp only [List.set] at HM) | (refine aZe ?_))
  refine (HC.out _ (HE.out.mem HM.out)).mono ?_
  rintro e w2 ⟨rfl, h1⟩
  replace HM := Lib.hid (HM.out.below h1)
  clear h1 HC
  go_wp2_with (first | (refine aNw ?_; first | (have q:dL HM = 0:=rfl;clear q HM;intro g1 u1 HM) | (have q:dL HM = 1:=rfl;clear q HM;intro g2 u2 HM) | (have q:dL HM = 2:=rfl;clear q HM;intro g3 u3 HM) | (have q:dL HM = 3:=rfl;clear q HM;intro g4 u4 HM) | (have q:dL HM = 4:=rfl;clear q HM;intro g5 u5 HM) | (have q:dL HM = 5:=rfl;clear q HM;intro g6 u6 HM) | (have q:dL HM = 6:=rfl;clear q HM;intro g7 u7 HM) | (have q:dL HM = 7:=rfl;clear q HM;intro g8 u8 HM) | (have q:dL HM = 8:=rfl;clear q HM;intro g9 u9 HM) | (have q:dL HM = 9:=rfl;clear q HM;intro g10 u10 HM)) | (refine aLo ?_) | (refine aSt ?_; clear HM; intro us HM; dsimp only [List.set] at HM) | (refine aZe ?_))
  refine (HF.out _ (HE.out.mem HM.out)).mono ?_
  rintro e w2 ⟨rfl, h1⟩
  replace HM := Lib.hid (HM.out.below h1)
  clear h1 HF
  go_wp2_with (first | (refine aNw ?_; first | (have q:dL HM = 0:=rfl;clear q HM;intro g1 u1 HM) | (have q:dL HM = 1:=rfl;clear q HM;intro g2 u2 HM) | (have q:dL HM = 2:=rfl;clear q HM;intro g3 u3 HM) | (have q:dL HM = 3:=rfl;clear q HM;intro g4 u4 HM) | (have q:dL HM = 4:=rfl;clear q HM;intro g5 u5 HM) | (have q:dL HM = 5:=rfl;clear q HM;intro g6 u6 HM) | (have q:dL HM = 6:=rfl;clear q HM;intro g7 u7 HM) | (have q:dL HM = 7:=rfl;clear q HM;intro g8 u8 HM) | (have q:dL HM = 8:=rfl;clear q HM;intro g9 u9 HM) | (have q:dL HM = 9:=rfl;clear q HM;intro g10 u10 HM)) | (refine aLo ?_) | (refine aSt ?_; clear HM; intro us HM; dsimp only [List.set] at HM) | (refine aZe ?_))
  go_ret
  exact ⟨rfl, HM.out.1⟩
 | false =>
  rw [share_vno l hc] at HC
  have HV : mayB q l = false := by unfold mayB; rw [hc, Bool.false_and]
  rw [HV]
  clear lq ll he hc HV
  go_enter Tryz.func75, Tryz.ntmps75
  go_wp2_with (first | (refine aNw ?_; first | (have q:dL HM = 0:=rfl;clear q HM;intro g1 u1 HM) | (have q:dL HM = 1:=rfl;clear q HM;intro g2 u2 HM) | (have q:dL HM = 2:=rfl;clear q HM;intro g3 u3 HM) | (have q:dL HM = 3:=rfl;clear q HM;intro g4 u4 HM) | (have q:dL HM = 4:=rfl;clear q HM;intro g5 u5 HM) | (have q:dL HM = 5:=rfl;clear q HM;intro g6 u6 HM) | (have q:dL HM = 6:=rfl;clear q HM;intro g7 u7 HM) | (have q:dL HM = 7:=rfl;clear q HM;intro g8 u8 HM) | (have q:dL HM = 8:=rfl;clear q HM;intro g9 u9 HM) | (have q:dL HM = 9:=rfl;clear q HM;intro g10 u10 HM)) | (refine aLo ?_) | (refine aSt ?_; clear HM; intro us HM; dsimp only [List.set] at HM) | (refine aZe ?_))
  refine (HC.out _ (HE.out.mem HM.out)).mono ?_
  rintro e w2 ⟨rfl, h1⟩
  replace HM := Lib.hid (HM.out.below h1)
  clear h1 HC
  go_wp2_with (first | (refine aNw ?_; first | (have q:dL HM = 0:=rfl;clear q HM;intro g1 u1 HM) | (have q:dL HM = 1:=rfl;clear q HM;intro g2 u2 HM) | (have q:dL HM = 2:=rfl;clear q HM;intro g3 u3 HM) | (have q:dL HM = 3:=rfl;clear q HM;intro g4 u4 HM) | (have q:dL HM = 4:=rfl;clear q HM;intro g5 u5 HM) | (have q:dL HM = 5:=rfl;clear q HM;intro g6 u6 HM) | (have q:dL HM = 6:=rfl;clear q HM;intro g7 u7 HM) | (have q:dL HM = 7:=rfl;clear q HM;intro g8 u8 HM) | (have q:dL HM = 8:=rfl;clear q HM;intro g9 u9 HM) | (have q:dL HM = 9:=rfl;clear q HM;intro g10 u10 HM)) | (refine aLo ?_) | (refine aSt ?_; clear HM; intro us HM; dsimp only [List.set] at HM) | (refine aZe ?_))
  go_ret
  exact ⟨rfl, HM.out.1⟩
theorem qgreat_bad (q l : List Int) (w : World) (lq : q.length = 16) (ll : l.length = 6) (he : Edg w) (hb : mayB q l = false) :
  Calls Tryz.prog 83 #[.agg (icells q), .agg (icells l)] w (ValQ w (.tuple #[.agg (icells (zr 16)), .int .i64 1])) := by
 have LQ := Lib.hid lq
 have LL := Lib.hid ll
 have HE := Lib.hid he
 have LZ := Lib.hid (zr_length 6)
 have LY := Lib.hid (zr_length 16)
 have HM := Lib.hid (Mem.start w)
 have HC := Lib.hid (fun u (hu : Edg u) => bshare_any l 120 u ll hu)
 cases hc : chkL l with
 | true =>
  rw [share_v l hc] at HC
  have HV : mayN q (moL (shareL l 120)) 16 = false := by unfold mayB at hb; rw [hc, ms_is hc, Bool.true_and] at hb; exact hb
  have hok := (share_ok l (B := 120) (by decide)).1
  have LA := Lib.hid hok.1
  have HF := Lib.hid (fun u (hu : Edg u) => qfits_any q (shareL l 120) false u lq hok hu HV)
  clear HV hok
  generalize shareL l 120 = A at HC HF LA
  clear lq ll he hc hb
  go_enter Tryz.func83, Tryz.ntmps83
  go_wp2_with (first | (refine aNw ?_; first | (have q:dL HM = 0:=rfl;clear q HM;intro g1 u1 HM) | (have q:dL HM = 1:=rfl;clear q HM;intro g2 u2 HM) | (have q:dL HM = 2:=rfl;clear q HM;intro g3 u3 HM) | (have q:dL HM = 3:=rfl;clear q HM;intro g4 u4 HM) | (have q:dL HM = 4:=rfl;clear q HM;intro g5 u5 HM) | (have q:dL HM = 5:=rfl;clear q HM;intro g6 u6 HM) | (have q:dL HM = 6:=rfl;clear q HM;intro g7 u7 HM) | (have q:dL HM = 7:=rfl;clear q HM;intro g8 u8 HM) | (have q:dL HM = 8:=rfl;clear q HM;intro g9 u9 HM) | (have q:dL HM = 9:=rfl;clear q HM;intro g10 u10 HM)) | (refine aLo ?_) | (refine aSt ?_; clear HM; intro us HM; dsimp only [List.set] at HM) | (refine aZe ?_))
  refine (HC.out _ (HE.out.mem HM.out)).mono ?_
  rintro e w2 ⟨rfl, h1⟩
  replace HM := Lib.hid (HM.out.below h1)
  clear h1 HC
  go_wp2_with (first | (refine aNw ?_; first | (have q:dL HM = 0:=rfl;clear q HM;intro g1 u1 HM) | (have q:dL HM = 1:=rfl;clear q HM;intro g2 u2 HM) | (have q:dL HM = 2:=rfl;clear q HM;intro g3 u3 HM) | (have q:dL HM = 3:=rfl;clear q HM;intro g4 u4 HM) | (have q:dL HM = 4:=rfl;clear q HM;intro g5 u5 HM) | (have q:dL HM = 5:=rfl;clear q HM;intro g6 u6 HM) | (have q:dL HM = 6:=rfl;clear q HM;intro g7 u7 HM) | (have q:dL HM = 7:=rfl;clear q HM;intro g8 u8 HM) | (have q:dL HM = 8:=rfl;clear q HM;intro g9 u9 HM) | (have q:dL HM = 9:=rfl;clear q HM;intro g10 u10 HM)) | (refine aLo ?_) | (refine aSt ?_; clear HM; intro us HM; dsimp only [List.set] at HM) | (refine aZe ?_))
  refine (HF.out _ (HE.out.mem HM.out)).mono ?_
  rintro e w2 ⟨rfl, h1⟩
  replace HM := Lib.hid (HM.out.below h1)
  clear h1 HF
  go_wp2_with (first | (refine aNw ?_; first | (have q:dL HM = 0:=rfl;clear q HM;intro g1 u1 HM) | (have q:dL HM = 1:=rfl;clear q HM;intro g2 u2 HM) | (have q:dL HM = 2:=rfl;clear q HM;intro g3 u3 HM) | (have q:dL HM = 3:=rfl;clear q HM;intro g4 u4 HM) | (have q:dL HM = 4:=rfl;clear q HM;intro g5 u5 HM) | (have q:dL HM = 5:=rfl;clear q HM;intro g6 u6 HM) | (have q:dL HM = 6:=rfl;clear q HM;intro g7 u7 HM) | (have q:dL HM = 7:=rfl;clear q HM;intro g8 u8 HM) | (have q:dL HM = 8:=rfl;clear q HM;intro g9 u9 HM) | (have q:dL HM = 9:=rfl;clear q HM;intro g10 u10 HM)) | (refine aLo ?_) | (refine aSt ?_; clear HM; intro us HM; dsimp only [List.set] at HM) | (refine aZe ?_))
  refine bodyPost_ret (v := .tuple #[.agg (icells (zr 16)), .int .i64 1]) (res_two rfl _ rfl rfl arrSpec HM (by exact q7e) LY) rfl ⟨rfl, HM.out.1⟩
 | false =>
  rw [share_vno l hc] at HC
  clear lq ll he hc hb
  go_enter Tryz.func83, Tryz.ntmps83
  go_wp2_with (first | (refine aNw ?_; first | (have q:dL HM = 0:=rfl;clear q HM;intro g1 u1 HM) | (have q:dL HM = 1:=rfl;clear q HM;intro g2 u2 HM) | (have q:dL HM = 2:=rfl;clear q HM;intro g3 u3 HM) | (have q:dL HM = 3:=rfl;clear q HM;intro g4 u4 HM) | (have q:dL HM = 4:=rfl;clear q HM;intro g5 u5 HM) | (have q:dL HM = 5:=rfl;clear q HM;intro g6 u6 HM) | (have q:dL HM = 6:=rfl;clear q HM;intro g7 u7 HM) | (have q:dL HM = 7:=rfl;clear q HM;intro g8 u8 HM) | (have q:dL HM = 8:=rfl;clear q HM;intro g9 u9 HM) | (have q:dL HM = 9:=rfl;clear q HM;intro g10 u10 HM)) | (refine aLo ?_) | (refine aSt ?_; clear HM; intro us HM; dsimp only [List.set] at HM) | (refine aZe ?_))
  refine (HC.out _ (HE.out.mem HM.out)).mono ?_
  rintro e w2 ⟨rfl, h1⟩
  replace HM := Lib.hid (HM.out.below h1)
  clear h1 HC
  go_wp2_with (first | (refine aNw ?_; first | (have q:dL HM = 0:=rfl;clear q HM;intro g1 u1 HM) | (have q:dL HM = 1:=rfl;clear q HM;intro g2 u2 HM) | (have q:dL HM = 2:=rfl;clear q HM;intro g3 u3 HM) | (have q:dL HM = 3:=rfl;clear q HM;intro g4 u4 HM) | (have q:dL HM = 4:=rfl;clear q HM;intro g5 u5 HM) | (have q:dL HM = 5:=rfl;clear q HM;intro g6 u6 HM) | (have q:dL HM = 6:=rfl;clear q HM;intro g7 u7 HM) | (have q:dL HM = 7:=rfl;clear q HM;intro g8 u8 HM) | (have q:dL HM = 8:=rfl;clear q HM;intro g9 u9 HM) | (have q:dL HM = 9:=rfl;clear q HM;intro g10 u10 HM)) | (refine aLo ?_) | (refine aSt ?_; clear HM; intro us HM; dsimp only [List.set] at HM) | (refine aZe ?_))
  refine bodyPost_ret (v := .tuple #[.agg (icells (zr 16)), .int .i64 1]) (res_two rfl _ rfl rfl arrSpec HM (by exact q7e) LY) rfl ⟨rfl, HM.out.1⟩
def prF (q s : List Int) (n : Nat) : Int := q.getD n 0 * s.getD n 0
theorem bd_pr (q s : List Int) : bdL (tab 16 (prF q s)) = tab 16 (greatF q s) := tab_congr fun n hn => by
 show clampI ((tab 16 (prF q s)).getD n 0) 67108864 = greatF q s n
 rw [tab_getD _ hn]; rfl
theorem qgreat_good (q l : List Int) (w : World) (lq : q.length = 16) (ll : l.length = 6) (he : Edg w) (hb : mayB q l = true) :
  Calls Tryz.prog 83 #[.agg (icells q), .agg (icells l)] w (ValQ w (.tuple #[.agg (icells (greatL q l)), .int .i64 0])) := by
 have LQ := Lib.hid lq
 have LL := Lib.hid ll
 have HE := Lib.hid he
 have LZ := Lib.hid (zr_length 6)
 have LY := Lib.hid (zr_length 16)
 have HM := Lib.hid (Mem.start w)
 have hc : chkL l = true := by
  unfold mayB at hb
  rw [Bool.and_eq_true] at hb
  exact hb.1
 have HC := Lib.hid (fun u (hu : Edg u) => bshare_any l 120 u ll hu)
 rw [share_v l hc] at HC
 have HV : mayN q (moL (shareL l 120)) 16 = true := by unfold mayB at hb; rw [hc, ms_is hc, Bool.true_and] at hb; exact hb
 have hok := (share_ok l (B := 120) (by decide)).1
 have LA := Lib.hid hok.1
 have HF := Lib.hid (fun u (hu : Edg u) => qfits_any q (shareL l 120) true u lq hok hu HV)
 have HT := Lib.hid (fun u (hu : Edg u) => qsteps_any l (shareL l 120) u ll (fun k => inR_bd hc (by omega) (by omega) k) hok hu)
 have HB := Lib.hid (fun (k : Nat) (hk : k < 16) => (show -(127 * 4026531967) ≤ q.getD k 0 * (ssL l).getD k 0 ∧ q.getD k 0 * (ssL l).getD k 0 ≤ 127 * 4026531967 from by
  have h1 := mayN_at 16 k hk HV
  rw [← ms_is hc] at h1
  have h2 := msL_bd l hk
  have h3 := ssL_bd l hk
  exact mulq_bd (by omega) (by omega) h3.1 h3.2 (by decide)))
 have L1 := Lib.hid (ssL_length l)
 have HG := Lib.hid (fun u => qbounded_any (tab 16 (prF q (ssL l))) u (tab_length _ _))
 rw [bd_pr, show tab 16 (greatF q (ssL l)) = greatL q l from rfl] at HG
 have L5 := Lib.hid (show (greatL q l).length = 16 from tab_length _ _)
 rw [← ss_is hc] at HT
 generalize greatL q l = V at HG L5
 generalize shareL l 120 = A at HC HF HT LA
 generalize ssL l = S at HT HB HG L1
 have L6 := Lib.hid (tab_length 16 (prF q S))
 clear lq ll he hc hb HV hok
 go_enter Tryz.func83, Tryz.ntmps83
 go_wp2_with (first | (refine aNw ?_; first | (have q:dL HM = 0:=rfl;clear q HM;intro g1 u1 HM) | (have q:dL HM = 1:=rfl;clear q HM;intro g2 u2 HM) | (have q:dL HM = 2:=rfl;clear q HM;intro g3 u3 HM) | (have q:dL HM = 3:=rfl;clear q HM;intro g4 u4 HM) | (have q:dL HM = 4:=rfl;clear q HM;intro g5 u5 HM) | (have q:dL HM = 5:=rfl;clear q HM;intro g6 u6 HM) | (have q:dL HM = 6:=rfl;clear q HM;intro g7 u7 HM) | (have q:dL HM = 7:=rfl;clear q HM;intro g8 u8 HM) | (have q:dL HM = 8:=rfl;clear q HM;intro g9 u9 HM) | (have q:dL HM = 9:=rfl;clear q HM;intro g10 u10 HM)) | (refine aLo ?_) | (refine aSt ?_; clear HM; intro us HM; dsimp only [List.set] at HM) | (refine aZe ?_))
 refine (HC.out _ (HE.out.mem HM.out)).mono ?_
 rintro e w2 ⟨rfl, h1⟩
 replace HM := Lib.hid (HM.out.below h1)
 clear h1 HC
 go_wp2_with (first | (refine aNw ?_; first | (have q:dL HM = 0:=rfl;clear q HM;intro g1 u1 HM) | (have q:dL HM = 1:=rfl;clear q HM;intro g2 u2 HM) | (have q:dL HM = 2:=rfl;clear q HM;intro g3 u3 HM) | (have q:dL HM = 3:=rfl;clear q HM;intro g4 u4 HM) | (have q:dL HM = 4:=rfl;clear q HM;intro g5 u5 HM) | (have q:dL HM = 5:=rfl;clear q HM;intro g6 u6 HM) | (have q:dL HM = 6:=rfl;clear q HM;intro g7 u7 HM) | (have q:dL HM = 7:=rfl;clear q HM;intro g8 u8 HM) | (have q:dL HM = 8:=rfl;clear q HM;intro g9 u9 HM) | (have q:dL HM = 9:=rfl;clear q HM;intro g10 u10 HM)) | (refine aLo ?_) | (refine aSt ?_; clear HM; intro us HM; dsimp only [List.set] at HM) | (refine aZe ?_))
 refine (HF.out _ (HE.out.mem HM.out)).mono ?_
 rintro e w2 ⟨rfl, h1⟩
 replace HM := Lib.hid (HM.out.below h1)
 clear h1 HF
 go_wp2_with (first | (refine aNw ?_; first | (have q:dL HM = 0:=rfl;clear q HM;intro g1 u1 HM) | (have q:dL HM = 1:=rfl;clear q HM;intro g2 u2 HM) | (have q:dL HM = 2:=rfl;clear q HM;intro g3 u3 HM) | (have q:dL HM = 3:=rfl;clear q HM;intro g4 u4 HM) | (have q:dL HM = 4:=rfl;clear q HM;intro g5 u5 HM) | (have q:dL HM = 5:=rfl;clear q HM;intro g6 u6 HM) | (have q:dL HM = 6:=rfl;clear q HM;intro g7 u7 HM) | (have q:dL HM = 7:=rfl;clear q HM;intro g8 u8 HM) | (have q:dL HM = 8:=rfl;clear q HM;intro g9 u9 HM) | (have q:dL HM = 9:=rfl;clear q HM;intro g10 u10 HM)) | (refine aLo ?_) | (refine aSt ?_; clear HM; intro us HM; dsimp only [List.set] at HM) | (refine aZe ?_))
 refine (HT.out _ (HE.out.mem HM.out)).mono ?_
 rintro e w2 ⟨rfl, h1⟩
 replace HM := Lib.hid (HM.out.below h1)
 clear h1 HT
 go_wp2_with (first | (refine aNw ?_; first | (have q:dL HM = 0:=rfl;clear q HM;intro g1 u1 HM) | (have q:dL HM = 1:=rfl;clear q HM;intro g2 u2 HM) | (have q:dL HM = 2:=rfl;clear q HM;intro g3 u3 HM) | (have q:dL HM = 3:=rfl;clear q HM;intro g4 u4 HM) | (have q:dL HM = 4:=rfl;clear q HM;intro g5 u5 HM) | (have q:dL HM = 5:=rfl;clear q HM;intro g6 u6 HM) | (have q:dL HM = 6:=rfl;clear q HM;intro g7 u7 HM) | (have q:dL HM = 7:=rfl;clear q HM;intro g8 u8 HM) | (have q:dL HM = 8:=rfl;clear q HM;intro g9 u9 HM) | (have q:dL HM = 9:=rfl;clear q HM;intro g10 u10 HM)) | (refine aLo ?_) | (refine aSt ?_; clear HM; intro us HM; dsimp only [List.set] at HM) | (refine aZe ?_))
 go_loopw [28] (fun vi wr => ∃ k : Nat, k ≤ 16 ∧ vi = .int .i64 (k : Int) ∧ Hid (Mem w [(g5, 89, tab 16 (part2 k (prF q S) (fun _ => 0))), (g4, 165, A), (g3, 89, zr 16), (g2, 29, l), (g1, 26, q)] wr)) (fun vi _ => 16 - (intOf vi).toNat)
 case atStart => exact ⟨0, by omega, rfl, Lib.hid (by rw [part2_none, tab_zero]; exact HM.out)⟩
 case round =>
  clear HM
  obtain ⟨k, hk, rfl, HM⟩ := hrel
  by_cases hlt : k < 16
  ·have k16 : (k : Int) < 16 := by omega
   have SS := Lib.hid (part2_set (n := 16) (k := k) (prF q S) (fun _ => 0))
   rw [show prF q S k = q.getD k 0 * S.getD k 0 from rfl] at SS
   have hb := HB.out k hlt
   have hix := run_index 26 (n := 16) (by kernel_rfl) S L1.out k hlt
   have c1 := HM.out.cell (.tail _ (.tail _ (.tail _ (.tail _ (.head _))))) (k := k) (by rw [LQ.out]; exact hlt)
   have c5 := HM.out.cell (.head _) (k := k) (by rw [tab_length]; exact hlt)
   have f5 := HM.out.free (.head _) k
   generalize List.getD (tab 16 _) k 0 = o at c5
   generalize q.getD k 0 = x at c1 hb SS
   generalize S.getD k 0 = s at hix hb SS
   have hw : IntKind.i64.wrap (x * s) = x * s := i64_w (by omega) (by omega)
   clear hb
   go_wp2_with fail
   have HM3 := Lib.hid (HM.out.put 0 rfl k (x * s))
   simp only [List.set_cons_zero] at HM3
   rw [SS.out] at HM3
   clear HM c1 c5 f5 hix
   go_roundw
   case rel => exact ⟨k + 1, by omega, by go_num, HM3⟩
   case measure => simp [intOf]; omega
  ·obtain rfl : k = 16 := by omega
   rw [part2_all] at HM
   go_wp2_with (first | (refine aNw ?_; first | (have q:dL HM = 0:=rfl;clear q HM;intro g1 u1 HM) | (have q:dL HM = 1:=rfl;clear q HM;intro g2 u2 HM) | (have q:dL HM = 2:=rfl;clear q HM;intro g3 u3 HM) | (have q:dL HM = 3:=rfl;clear q HM;intro g4 u4 HM) | (have q:dL HM = 4:=rfl;clear q HM;intro g5 u5 HM) | (have q:dL HM = 5:=rfl;clear q HM;intro g6 u6 HM) | (have q:dL HM = 6:=rfl;clear q HM;intro g7 u7 HM) | (have q:dL HM = 7:=rfl;clear q HM;intro g8 u8 HM) | (have q:dL HM = 8:=rfl;clear q HM;intro g9 u9 HM) | (have q:dL HM = 9:=rfl;clear q HM;intro g10 u10 HM)) | (refine aLo ?_) | (refine aSt ?_; clear HM; intro us HM; dsimp only [List.set] at HM) | (refine aZe ?_))
   refine (HG.out _).mono ?_
   rintro e w2 ⟨rfl, h1⟩
   replace HM := Lib.hid (HM.out.below h1)
   clear h1 HG
   go_wp2_with (first | (refine aNw ?_; first | (have q:dL HM = 0:=rfl;clear q HM;intro g1 u1 HM) | (have q:dL HM = 1:=rfl;clear q HM;intro g2 u2 HM) | (have q:dL HM = 2:=rfl;clear q HM;intro g3 u3 HM) | (have q:dL HM = 3:=rfl;clear q HM;intro g4 u4 HM) | (have q:dL HM = 4:=rfl;clear q HM;intro g5 u5 HM) | (have q:dL HM = 5:=rfl;clear q HM;intro g6 u6 HM) | (have q:dL HM = 6:=rfl;clear q HM;intro g7 u7 HM) | (have q:dL HM = 7:=rfl;clear q HM;intro g8 u8 HM) | (have q:dL HM = 8:=rfl;clear q HM;intro g9 u9 HM) | (have q:dL HM = 9:=rfl;clear q HM;intro g10 u10 HM)) | (refine aLo ?_) | (refine aSt ?_; clear HM; intro us HM; dsimp only [List.set] at HM) | (refine aZe ?_))
   refine bodyPost_ret (v := .tuple #[.agg (icells V), .int .i64 0]) (res_two rfl _ rfl rfl arrSpec HM (by exact q7e) L5) rfl ⟨rfl, HM.out.1⟩
theorem qgreat_any (q l : List Int) (w : World) (lq : q.length = 16) (ll : l.length = 6) (he : Edg w) :
  Calls Tryz.prog 83 #[.agg (icells q), .agg (icells l)] w (ValQ w (greatV q l)) := by
 unfold greatV
 cases h : mayB q l with
 | true => rw [if_pos rfl]; exact qgreat_good q l w lq ll he h
 | false => rw [if_neg Bool.false_ne_true]; exact qgreat_bad q l w lq ll he h
def nrF (t : Int) (l : List Int) (n : Nat) : Int := roundI ((seedN t (n + 1) / 65536 - 32768) * (pkL l).getD n 0) 18
theorem nr_is (t : Int) (l : List Int) {n : Nat} (h : n < 16) : nrF t l n = roundI ((seedN t (n + 1) / 65536 - 32768) * pkB l (bnd n)) 18 := by
 unfold nrF pkL; rw [tab_getD _ h]
theorem bd_nr (t : Int) (l : List Int) : bdL (tab 16 (nrF t l)) = noiseL t l := tab_congr fun n hn => by
 show clampI ((tab 16 (nrF t l)).getD n 0) 67108864 = noiseF t l n
 rw [tab_getD _ hn, nr_is t l hn]
 unfold noiseF pkB noiseR
 split
 ·rfl
 ·rw [Int.mul_zero]; decide
theorem pk_bd {l : List Int} (h : chkL l = true) (k : Nat) (hk : k < 16) : 0 ≤ (pkL l).getD k 0 ∧ (pkL l).getD k 0 ≤ 4026531841 := by
 unfold pkL
 rw [tab_getD _ hk]
 unfold pkB
 have hl := inR_bd h (by omega) (by omega) (bnd k)
 split
 ·have := peakN_bd (l.getD (bnd k) 0).toNat (by omega)
  omega
 ·omega
theorem qnoise_bad (t : Int) (l : List Int) (w : World) (ll : l.length = 6) (hc : chkL l = false) :
  Calls Tryz.prog 82 #[.int .u32 t, .agg (icells l)] w (ValQ w (.tuple #[.agg (icells (zr 16)), .int .u32 0, .int .i64 1])) := by
 have LL := Lib.hid ll
 have LY := Lib.hid (zr_length 16)
 have HM := Lib.hid (Mem.start w)
 have HC := Lib.hid (fun u => bcheck_any l false 1 u ll hc rfl)
 clear ll hc
 go_enter Tryz.func82, Tryz.ntmps82
 go_wp2_with (first | (refine aNw ?_; first | (have q:dL HM = 0:=rfl;clear q HM;intro g1 u1 HM) | (have q:dL HM = 1:=rfl;clear q HM;intro g2 u2 HM) | (have q:dL HM = 2:=rfl;clear q HM;intro g3 u3 HM) | (have q:dL HM = 3:=rfl;clear q HM;intro g4 u4 HM) | (have q:dL HM = 4:=rfl;clear q HM;intro g5 u5 HM) | (have q:dL HM = 5:=rfl;clear q HM;intro g6 u6 HM) | (have q:dL HM = 6:=rfl;clear q HM;intro g7 u7 HM) | (have q:dL HM = 7:=rfl;clear q HM;intro g8 u8 HM) | (have q:dL HM = 8:=rfl;clear q HM;intro g9 u9 HM) | (have q:dL HM = 9:=rfl;clear q HM;intro g10 u10 HM) | (have q:dL HM = 10:=rfl;clear q HM;intro g11 u11 HM) | (have q:dL HM = 11:=rfl;clear q HM;intro g12 u12 HM) | (have q:dL HM = 12:=rfl;clear q HM;intro g13 u13 HM) | (have q:dL HM = 13:=rfl;clear q HM;intro g14 u14 HM)) | (refine aLo ?_) | (refine aSt ?_; clear HM; intro us HM; dsimp only [List.set] at HM) | (refine aZe ?_))
 refine (HC.out _).mono ?_
 rintro e w2 ⟨rfl, h1⟩
 replace HM := Lib.hid (HM.out.below h1)
 clear h1 HC
 go_wp2_with (first | (refine aNw ?_; first | (have q:dL HM = 0:=rfl;clear q HM;intro g1 u1 HM) | (have q:dL HM = 1:=rfl;clear q HM;intro g2 u2 HM) | (have q:dL HM = 2:=rfl;clear q HM;intro g3 u3 HM) | (have q:dL HM = 3:=rfl;clear q HM;intro g4 u4 HM) | (have q:dL HM = 4:=rfl;clear q HM;intro g5 u5 HM) | (have q:dL HM = 5:=rfl;clear q HM;intro g6 u6 HM) | (have q:dL HM = 6:=rfl;clear q HM;intro g7 u7 HM) | (have q:dL HM = 7:=rfl;clear q HM;intro g8 u8 HM) | (have q:dL HM = 8:=rfl;clear q HM;intro g9 u9 HM) | (have q:dL HM = 9:=rfl;clear q HM;intro g10 u10 HM) | (have q:dL HM = 10:=rfl;clear q HM;intro g11 u11 HM) | (have q:dL HM = 11:=rfl;clear q HM;intro g12 u12 HM) | (have q:dL HM = 12:=rfl;clear q HM;intro g13 u13 HM) | (have q:dL HM = 13:=rfl;clear q HM;intro g14 u14 HM)) | (refine aLo ?_) | (refine aSt ?_; clear HM; intro us HM; dsimp only [List.set] at HM) | (refine aZe ?_))
 refine bodyPost_ret (v := .tuple #[.agg (icells (zr 16)), .int .u32 0, .int .i64 1]) (res_css rfl _ rfl rfl rfl arrSpec HM (by exact q7e) LY) rfl ⟨rfl, HM.out.1⟩
theorem qnoise_good (t : Int) (l : List Int) (w : World) (ht : 0 ≤ t ∧ t < 4294967296) (ll : l.length = 6) (hc : chkL l = true) (he : Edg w) :
  Calls Tryz.prog 82 #[.int .u32 t, .agg (icells l)] w (ValQ w (.tuple #[.agg (icells (noiseL t l)), .int .u32 (seedN t 16), .int .i64 0])) := by
 have LL := Lib.hid ll
 have HE := Lib.hid he
 have LY := Lib.hid (zr_length 16)
 have HM := Lib.hid (Mem.start w)
 have HC := Lib.hid (fun u => bcheck_any l true 0 u ll hc rfl)
 have HP := Lib.hid (fun u (hu : Edg u) => qpeaks_any l u ll (fun k => inR_bd hc (by omega) (by omega) k) hu)
 have HB := Lib.hid (pk_bd hc)
 have LP := Lib.hid (show (pkL l).length = 16 from tab_length _ _)
 have HT := Lib.hid (seedN_bd ht)
 have HG := Lib.hid (fun u => qbounded_any (tab 16 (nrF t l)) u (tab_length _ _))
 rw [bd_nr] at HG
 have HN := Lib.hid (fun n => (show nrF t l n = roundI ((seedN t (n + 1) / 65536 - 32768) * (pkL l).getD n 0) 18 from rfl))
 have L5 := Lib.hid (show (noiseL t l).length = 16 from tab_length _ _)
 have L6 := Lib.hid (tab_length 16 (nrF t l))
 generalize noiseL t l = V at HG L5
 generalize pkL l = P at HP HB LP HN
 clear ll hc ht he
 go_enter Tryz.func82, Tryz.ntmps82
 go_wp2_with (first | (refine aNw ?_; first | (have q:dL HM = 0:=rfl;clear q HM;intro g1 u1 HM) | (have q:dL HM = 1:=rfl;clear q HM;intro g2 u2 HM) | (have q:dL HM = 2:=rfl;clear q HM;intro g3 u3 HM) | (have q:dL HM = 3:=rfl;clear q HM;intro g4 u4 HM) | (have q:dL HM = 4:=rfl;clear q HM;intro g5 u5 HM) | (have q:dL HM = 5:=rfl;clear q HM;intro g6 u6 HM) | (have q:dL HM = 6:=rfl;clear q HM;intro g7 u7 HM) | (have q:dL HM = 7:=rfl;clear q HM;intro g8 u8 HM) | (have q:dL HM = 8:=rfl;clear q HM;intro g9 u9 HM) | (have q:dL HM = 9:=rfl;clear q HM;intro g10 u10 HM) | (have q:dL HM = 10:=rfl;clear q HM;intro g11 u11 HM) | (have q:dL HM = 11:=rfl;clear q HM;intro g12 u12 HM) | (have q:dL HM = 12:=rfl;clear q HM;intro g13 u13 HM) | (have q:dL HM = 13:=rfl;clear q HM;intro g14 u14 HM)) | (refine aLo ?_) | (refine aSt ?_; clear HM; intro us HM; dsimp only [List.set] at HM) | (refine aZe ?_))
 refine (HC.out _).mono ?_
 rintro e w2 ⟨rfl, h1⟩
 replace HM := Lib.hid (HM.out.below h1)
 clear h1 HC
 go_wp2_with (first | (refine aNw ?_; first | (have q:dL HM = 0:=rfl;clear q HM;intro g1 u1 HM) | (have q:dL HM = 1:=rfl;clear q HM;intro g2 u2 HM) | (have q:dL HM = 2:=rfl;clear q HM;intro g3 u3 HM) | (have q:dL HM = 3:=rfl;clear q HM;intro g4 u4 HM) | (have q:dL HM = 4:=rfl;clear q HM;intro g5 u5 HM) | (have q:dL HM = 5:=rfl;clear q HM;intro g6 u6 HM) | (have q:dL HM = 6:=rfl;clear q HM;intro g7 u7 HM) | (have q:dL HM = 7:=rfl;clear q HM;intro g8 u8 HM) | (have q:dL HM = 8:=rfl;clear q HM;intro g9 u9 HM) | (have q:dL HM = 9:=rfl;clear q HM;intro g10 u10 HM) | (have q:dL HM = 10:=rfl;clear q HM;intro g11 u11 HM) | (have q:dL HM = 11:=rfl;clear q HM;intro g12 u12 HM) | (have q:dL HM = 12:=rfl;clear q HM;intro g13 u13 HM) | (have q:dL HM = 13:=rfl;clear q HM;intro g14 u14 HM)) | (refine aLo ?_) | (refine aSt ?_; clear HM; intro us HM; dsimp only [List.set] at HM) | (refine aZe ?_))
 refine (HP.out _ (HE.out.mem HM.out)).mono ?_
 rintro e w2 ⟨rfl, h1⟩
 replace HM := Lib.hid (HM.out.below h1)
 clear h1 HP
 go_wp2_with (first | (refine aNw ?_; first | (have q:dL HM = 0:=rfl;clear q HM;intro g1 u1 HM) | (have q:dL HM = 1:=rfl;clear q HM;intro g2 u2 HM) | (have q:dL HM = 2:=rfl;clear q HM;intro g3 u3 HM) | (have q:dL HM = 3:=rfl;clear q HM;intro g4 u4 HM) | (have q:dL HM = 4:=rfl;clear q HM;intro g5 u5 HM) | (have q:dL HM = 5:=rfl;clear q HM;intro g6 u6 HM) | (have q:dL HM = 6:=rfl;clear q HM;intro g7 u7 HM) | (have q:dL HM = 7:=rfl;clear q HM;intro g8 u8 HM) | (have q:dL HM = 8:=rfl;clear q HM;intro g9 u9 HM) | (have q:dL HM = 9:=rfl;clear q HM;intro g10 u10 HM) | (have q:dL HM = 10:=rfl;clear q HM;intro g11 u11 HM) | (have q:dL HM = 11:=rfl;clear q HM;intro g12 u12 HM) | (have q:dL HM = 12:=rfl;clear q HM;intro g13 u13 HM) | (have q:dL HM = 13:=rfl;clear q HM;intro g14 u14 HM)) | (refine aLo ?_) | (refine aSt ?_; clear HM; intro us HM; dsimp only [List.set] at HM) | (refine aZe ?_))
 go_loopw [0, 16] (fun vs vi wr => ∃ k : Nat, k ≤ 16 ∧ vi = .int .i64 (k : Int) ∧ vs = .int .u32 (seedN t k) ∧ Hid (Mem w [(g3, 89, tab 16 (part2 k (nrF t l) (fun _ => 0))), (g2, 89, zr 16), (g1, 29, l)] wr)) (fun _ vi _ => 16 - (intOf vi).toNat)
 case atStart => exact ⟨0, by omega, rfl, rfl, Lib.hid (by rw [part2_none, tab_zero]; exact HM.out)⟩
 case round =>
  clear HM
  obtain ⟨k, hk, rfl, rfl, HM⟩ := hrel
  by_cases hlt : k < 16
  ·have k16 : (k : Int) < 16 := by omega
   have SS := Lib.hid (part2_set (n := 16) (k := k) (nrF t l) (fun _ => 0))
   have hb := HB.out k hlt
   have hix := run_index 26 (n := 16) (by kernel_rfl) P LP.out k hlt
   rw [HN.out k] at SS
   have t2 := HT.out (k + 1)
   have HX := Lib.hid (fun u => qnext_any (seedN t k) u)
   rw [← seedN_succ t k] at HX
   obtain ⟨t', ht'⟩ : ∃ x, seedN t (k + 1) = x := ⟨_, rfl⟩
   rw [ht'] at t2 SS HX
   have HT' := Lib.hid ht'
   clear ht'
   generalize seedN t k = t0 at HX
   generalize P.getD k 0 = p at hix hb SS
   obtain ⟨t21, t22⟩ := t2
   have hv := mulq_bd (a := t' / 65536 - 32768) (b := p) (m := 32768) (n := 4026531841) (by omega) (by omega) hb.1 hb.2 (by decide)
   have HS := Lib.hid (fun u => qswing_any t' u t21 t22)
   have hw : IntKind.i64.wrap ((t' / 65536 - 32768) * p) = (t' / 65536 - 32768) * p := i64_w (by omega) (by omega)
   have HR := Lib.hid (fun u => round_any ((t' / 65536 - 32768) * p) 18 u (by omega))
   generalize t' / 65536 - 32768 = y at HS hw HR SS
   generalize roundI (y * p) 18 = r at SS HR
   clear hv hb t21 t22
   have c3 := HM.out.cell (.head _) (k := k) (by rw [tab_length]; exact hlt)
   have f3 := HM.out.free (.head _) k
   generalize List.getD (tab 16 _) k 0 = o at c3
   go_wp2_with fail
   refine (HX.out _).mono ?_
   rintro e wb ⟨rfl, rfl⟩
   go_wp2_with fail
   refine (HS.out _).mono ?_
   rintro e wb ⟨rfl, rfl⟩
   go_wp2_with fail
   refine (HR.out _).mono ?_
   rintro e wb ⟨rfl, rfl⟩
   clear hw hix
   go_wp2_with fail
   have HM3 := Lib.hid (HM.out.put 0 rfl k r)
   simp only [List.set_cons_zero] at HM3
   rw [SS.out] at HM3
   clear HM c3 f3
   go_roundw
   case rel => exact ⟨k + 1, by omega, by go_num, by rw [HT'.out], HM3⟩
   case measure => simp [intOf]; omega
  ·obtain rfl : k = 16 := by omega
   rw [part2_all] at HM
   go_wp2_with (first | (refine aNw ?_; first | (have q:dL HM = 0:=rfl;clear q HM;intro g1 u1 HM) | (have q:dL HM = 1:=rfl;clear q HM;intro g2 u2 HM) | (have q:dL HM = 2:=rfl;clear q HM;intro g3 u3 HM) | (have q:dL HM = 3:=rfl;clear q HM;intro g4 u4 HM) | (have q:dL HM = 4:=rfl;clear q HM;intro g5 u5 HM) | (have q:dL HM = 5:=rfl;clear q HM;intro g6 u6 HM) | (have q:dL HM = 6:=rfl;clear q HM;intro g7 u7 HM) | (have q:dL HM = 7:=rfl;clear q HM;intro g8 u8 HM) | (have q:dL HM = 8:=rfl;clear q HM;intro g9 u9 HM) | (have q:dL HM = 9:=rfl;clear q HM;intro g10 u10 HM) | (have q:dL HM = 10:=rfl;clear q HM;intro g11 u11 HM) | (have q:dL HM = 11:=rfl;clear q HM;intro g12 u12 HM) | (have q:dL HM = 12:=rfl;clear q HM;intro g13 u13 HM) | (have q:dL HM = 13:=rfl;clear q HM;intro g14 u14 HM)) | (refine aLo ?_) | (refine aSt ?_; clear HM; intro us HM; dsimp only [List.set] at HM) | (refine aZe ?_))
   refine (HG.out _).mono ?_
   rintro e w2 ⟨rfl, h1⟩
   replace HM := Lib.hid (HM.out.below h1)
   clear h1 HG
   go_wp2_with (first | (refine aNw ?_; first | (have q:dL HM = 0:=rfl;clear q HM;intro g1 u1 HM) | (have q:dL HM = 1:=rfl;clear q HM;intro g2 u2 HM) | (have q:dL HM = 2:=rfl;clear q HM;intro g3 u3 HM) | (have q:dL HM = 3:=rfl;clear q HM;intro g4 u4 HM) | (have q:dL HM = 4:=rfl;clear q HM;intro g5 u5 HM) | (have q:dL HM = 5:=rfl;clear q HM;intro g6 u6 HM) | (have q:dL HM = 6:=rfl;clear q HM;intro g7 u7 HM) | (have q:dL HM = 7:=rfl;clear q HM;intro g8 u8 HM) | (have q:dL HM = 8:=rfl;clear q HM;intro g9 u9 HM) | (have q:dL HM = 9:=rfl;clear q HM;intro g10 u10 HM) | (have q:dL HM = 10:=rfl;clear q HM;intro g11 u11 HM) | (have q:dL HM = 11:=rfl;clear q HM;intro g12 u12 HM) | (have q:dL HM = 12:=rfl;clear q HM;intro g13 u13 HM) | (have q:dL HM = 13:=rfl;clear q HM;intro g14 u14 HM)) | (refine aLo ?_) | (refine aSt ?_; clear HM; intro us HM; dsimp only [List.set] at HM) | (refine aZe ?_))
   refine bodyPost_ret (v := .tuple #[.agg (icells V), .int .u32 (seedN t 16), .int .i64 0]) (res_css rfl _ rfl rfl rfl arrSpec HM (by exact q7e) L5) rfl ⟨rfl, HM.out.1⟩
theorem qnoise_any (t : Int) (l : List Int) (w : World) (ht : 0 ≤ t ∧ t < 4294967296) (ll : l.length = 6) (he : Edg w) :
  Calls Tryz.prog 82 #[.int .u32 t, .agg (icells l)] w (ValQ w (noiseV t l)) := by
 unfold noiseV
 cases h : chkL l with
 | true => rw [if_pos rfl]; exact qnoise_good t l w ht ll h he
 | false => rw [if_neg Bool.false_ne_true]; exact qnoise_bad t l w ll h
theorem bdL_iff {x : List Int} (lx : x.length = 16) : bdL x = x ↔ okX x = true := by
 constructor
 ·intro h
  refine (inR_iff lx).2 fun k hk => ?_
  have h1 : (bdL x).getD k 0 = x.getD k 0 := by rw [h]
  unfold bdL at h1
  rw [tab_getD _ hk] at h1
  unfold clampI at h1
  omega
 ·intro h
  refine (tab_congr (g := fun i => x.getD i 0) fun k hk => ?_).trans (tab_self lx)
  have h1 := inR_bd h (by omega) (by omega) k
  unfold clampI
  omega
def dvF (x s : List Int) (n : Nat) : Int := if 0 < s.getD n 0 then divI (x.getD n 0) (s.getD n 0) else 0
theorem dvF_is (x s : List Int) (n : Nat) : dvF x s n = if 0 < s.getD n 0 then divI (x.getD n 0) (s.getD n 0) else 0 := rfl
theorem hc_dv {x s m : List Int} (hm : ∀ k, k < 16 → 0 ≤ m.getD k 0) : hcL (tab 16 (dvF x s)) m = tab 16 (smallF x s m) := tab_congr fun n hn => by
 have h := hm n hn
 unfold hcF
 rw [tab_getD _ hn, dvF_is, smallF_is]
 unfold clampI
 split
 ·rfl
 ·omega
theorem qsmall_bad1 (x l : List Int) (w : World) (lx : x.length = 16) (ll : l.length = 6) (he : Edg w) (hc : chkL l = false) :
  Calls Tryz.prog 122 #[.agg (icells x), .agg (icells l)] w (ValQ w (.tuple #[.agg (icells (zr 16)), .agg (icells (zr 6)), .int .i64 1])) := by
 have LX := Lib.hid lx
 have LL := Lib.hid ll
 have HE := Lib.hid he
 have LZ := Lib.hid (zr_length 6)
 have LY := Lib.hid (zr_length 16)
 have HM := Lib.hid (Mem.start w)
 have HC := Lib.hid (fun u (hu : Edg u) => bshare_any l 120 u ll hu)
 rw [share_vno l hc] at HC
 clear lx ll he hc
 go_enter Tryz.func122, Tryz.ntmps122
 go_wp2_with (first | (refine aNw ?_; first | (have q:dL HM = 0:=rfl;clear q HM;intro g1 u1 HM) | (have q:dL HM = 1:=rfl;clear q HM;intro g2 u2 HM) | (have q:dL HM = 2:=rfl;clear q HM;intro g3 u3 HM) | (have q:dL HM = 3:=rfl;clear q HM;intro g4 u4 HM) | (have q:dL HM = 4:=rfl;clear q HM;intro g5 u5 HM) | (have q:dL HM = 5:=rfl;clear q HM;intro g6 u6 HM) | (have q:dL HM = 6:=rfl;clear q HM;intro g7 u7 HM) | (have q:dL HM = 7:=rfl;clear q HM;intro g8 u8 HM) | (have q:dL HM = 8:=rfl;clear q HM;intro g9 u9 HM) | (have q:dL HM = 9:=rfl;clear q HM;intro g10 u10 HM)) | (refine aLo ?_) | (refine aSt ?_; clear HM; intro us HM; dsimp only [List.set] at HM) | (refine aZe ?_))
 refine (HC.out _ (HE.out.mem HM.out)).mono ?_
 rintro e w2 ⟨rfl, h1⟩
 replace HM := Lib.hid (HM.out.below h1)
 clear h1 HC
 go_wp2_with (first | (refine aNw ?_; first | (have q:dL HM = 0:=rfl;clear q HM;intro g1 u1 HM) | (have q:dL HM = 1:=rfl;clear q HM;intro g2 u2 HM) | (have q:dL HM = 2:=rfl;clear q HM;intro g3 u3 HM) | (have q:dL HM = 3:=rfl;clear q HM;intro g4 u4 HM) | (have q:dL HM = 4:=rfl;clear q HM;intro g5 u5 HM) | (have q:dL HM = 5:=rfl;clear q HM;intro g6 u6 HM) | (have q:dL HM = 6:=rfl;clear q HM;intro g7 u7 HM) | (have q:dL HM = 7:=rfl;clear q HM;intro g8 u8 HM) | (have q:dL HM = 8:=rfl;clear q HM;intro g9 u9 HM) | (have q:dL HM = 9:=rfl;clear q HM;intro g10 u10 HM)) | (refine aLo ?_) | (refine aSt ?_; clear HM; intro us HM; dsimp only [List.set] at HM) | (refine aZe ?_))
 go_quiet (fail)
 have HM2 := Lib.hid (HM.out.drewN nq)
 clear HM
 have HM := HM2
 clear HM2
 generalize World.drewN _ _ = wd at HM ⊢
 go_wp2_with (first | (refine aNw ?_; first | (have q:dL HM = 0:=rfl;clear q HM;intro g1 u1 HM) | (have q:dL HM = 1:=rfl;clear q HM;intro g2 u2 HM) | (have q:dL HM = 2:=rfl;clear q HM;intro g3 u3 HM) | (have q:dL HM = 3:=rfl;clear q HM;intro g4 u4 HM) | (have q:dL HM = 4:=rfl;clear q HM;intro g5 u5 HM) | (have q:dL HM = 5:=rfl;clear q HM;intro g6 u6 HM) | (have q:dL HM = 6:=rfl;clear q HM;intro g7 u7 HM) | (have q:dL HM = 7:=rfl;clear q HM;intro g8 u8 HM) | (have q:dL HM = 8:=rfl;clear q HM;intro g9 u9 HM) | (have q:dL HM = 9:=rfl;clear q HM;intro g10 u10 HM)) | (refine aLo ?_) | (refine aSt ?_; clear HM; intro us HM; dsimp only [List.set] at HM) | (refine aZe ?_))
 refine bodyPost_ret (v := .tuple #[.agg (icells (zr 16)), .agg (icells (zr 6)), .int .i64 1]) (res_three rfl _ rfl rfl rfl arrHop arrAll HM (by exact q7e) (by exact q7e) LY LZ) rfl ⟨rfl, HM.out.1⟩
theorem qsmall_bad2 (x l : List Int) (w : World) (lx : x.length = 16) (ll : l.length = 6) (he : Edg w) (hc : chkL l = true) (hx : okX x = false) :
  Calls Tryz.prog 122 #[.agg (icells x), .agg (icells l)] w (ValQ w (.tuple #[.agg (icells (zr 16)), .agg (icells (zr 6)), .int .i64 1])) := by
 have LX := Lib.hid lx
 have LL := Lib.hid ll
 have HE := Lib.hid he
 have LZ := Lib.hid (zr_length 6)
 have LY := Lib.hid (zr_length 16)
 have HM := Lib.hid (Mem.start w)
 have HC := Lib.hid (fun u (hu : Edg u) => bshare_any l 120 u ll hu)
 rw [share_v l hc] at HC
 have LA := Lib.hid (share_ok l (B := 120) (by decide)).1.1
 generalize shareL l 120 = A at HC LA
 have HG := Lib.hid (fun u => qbounded_any x u lx)
 have L7 := Lib.hid (bdL_length x)
 have hgd := grdSpec
 have heq := fun u => run_equalIn_diff 89 (n := 16) (by kernel_rfl) (bdL x) x L7.out lx (fun e => by rw [(bdL_iff lx).1 e] at hx; cases hx) u
 generalize bdL x = X at HG L7 heq
 clear lx ll he hc hx
 go_enter Tryz.func122, Tryz.ntmps122
 go_wp2_with (first | (refine aNw ?_; first | (have q:dL HM = 0:=rfl;clear q HM;intro g1 u1 HM) | (have q:dL HM = 1:=rfl;clear q HM;intro g2 u2 HM) | (have q:dL HM = 2:=rfl;clear q HM;intro g3 u3 HM) | (have q:dL HM = 3:=rfl;clear q HM;intro g4 u4 HM) | (have q:dL HM = 4:=rfl;clear q HM;intro g5 u5 HM) | (have q:dL HM = 5:=rfl;clear q HM;intro g6 u6 HM) | (have q:dL HM = 6:=rfl;clear q HM;intro g7 u7 HM) | (have q:dL HM = 7:=rfl;clear q HM;intro g8 u8 HM) | (have q:dL HM = 8:=rfl;clear q HM;intro g9 u9 HM) | (have q:dL HM = 9:=rfl;clear q HM;intro g10 u10 HM)) | (refine aLo ?_) | (refine aSt ?_; clear HM; intro us HM; dsimp only [List.set] at HM) | (refine aZe ?_))
 refine (HC.out _ (HE.out.mem HM.out)).mono ?_
 rintro e w2 ⟨rfl, h1⟩
 replace HM := Lib.hid (HM.out.below h1)
 clear h1 HC
 go_wp2_with (first | (refine aNw ?_; first | (have q:dL HM = 0:=rfl;clear q HM;intro g1 u1 HM) | (have q:dL HM = 1:=rfl;clear q HM;intro g2 u2 HM) | (have q:dL HM = 2:=rfl;clear q HM;intro g3 u3 HM) | (have q:dL HM = 3:=rfl;clear q HM;intro g4 u4 HM) | (have q:dL HM = 4:=rfl;clear q HM;intro g5 u5 HM) | (have q:dL HM = 5:=rfl;clear q HM;intro g6 u6 HM) | (have q:dL HM = 6:=rfl;clear q HM;intro g7 u7 HM) | (have q:dL HM = 7:=rfl;clear q HM;intro g8 u8 HM) | (have q:dL HM = 8:=rfl;clear q HM;intro g9 u9 HM) | (have q:dL HM = 9:=rfl;clear q HM;intro g10 u10 HM)) | (refine aLo ?_) | (refine aSt ?_; clear HM; intro us HM; dsimp only [List.set] at HM) | (refine aZe ?_))
 refine wp_region_held_drew (S := Mem w [(g2, 29, l), (g1, 89, x)]) (by kernel_rfl) (HM.out.drew.sub (by exact q7u)) (fun hHeld => ?_)
 have HMd := Lib.hid HM.out.drew
 clear HM
 have HM := HMd
 clear HMd
 generalize World.drew _ = wd at HM hHeld ⊢
 (refine tk 0 rfl (yi_free rfl (fun u => rfl)) ?_)
 (refine tkg 1 (.bool false) rfl ?_)
 (refine tkv 2 (.bool false) rfl ?_)
 (refine tk 3 rfl (yi_load rfl _ _ rfl rfl (by exact q7a) (fun u hu => hu) (by exact q7e) (by exact q7l)) ?_)
 (refine tk 5 rfl (yi_load rfl _ _ rfl rfl (by exact q7a) (fun u hu => hu) (by exact q7e) (by exact q7l)) ?_)
 refine wpAnyH_ready (rs := [4]) (by kernel_rfl) (by simp) ?_; refine AllReadyH.cons rfl (fun K hK => ?_) (AllReadyH.nil)
 rw [if_pos (by rfl)]; go_simp
 refine (HG.out _).mono ?_
 rintro e wb ⟨rfl, h1⟩
 replace HM := Lib.hid (HM.out.below h1)
 clear h1 HG hHeld
 go_wp2_with fail; refine hK.out _ _ (HM.out.sub (by exact q7u)) (fun hHeld => ?_); clear hK K; (try simp only [Act.put, qz1, qz2, qz3])
 (refine tkg 6 (.bool true) rfl ?_)
 (refine tkg 7 (.bool true) rfl ?_)
 refine wpAnyH_done (by kernel_rfl) ?_ _
 go_wp2_with (first | (refine aNw ?_; first | (have q:dL HM = 0:=rfl;clear q HM;intro g1 u1 HM) | (have q:dL HM = 1:=rfl;clear q HM;intro g2 u2 HM) | (have q:dL HM = 2:=rfl;clear q HM;intro g3 u3 HM) | (have q:dL HM = 3:=rfl;clear q HM;intro g4 u4 HM) | (have q:dL HM = 4:=rfl;clear q HM;intro g5 u5 HM) | (have q:dL HM = 5:=rfl;clear q HM;intro g6 u6 HM) | (have q:dL HM = 6:=rfl;clear q HM;intro g7 u7 HM) | (have q:dL HM = 7:=rfl;clear q HM;intro g8 u8 HM) | (have q:dL HM = 8:=rfl;clear q HM;intro g9 u9 HM) | (have q:dL HM = 9:=rfl;clear q HM;intro g10 u10 HM)) | (refine aLo ?_) | (refine aSt ?_; clear HM; intro us HM; dsimp only [List.set] at HM) | (refine aZe ?_))
 refine bodyPost_ret (v := .tuple #[.agg (icells (zr 16)), .agg (icells (zr 6)), .int .i64 1]) (res_three rfl _ rfl rfl rfl arrHop arrAll HM (by exact q7e) (by exact q7e) LY LZ) rfl ⟨rfl, HM.out.1⟩
theorem qsmall_good (x l : List Int) (w : World) (lx : x.length = 16) (ll : l.length = 6) (he : Edg w) (hc : chkL l = true) (hx : okX x = true) :
  Calls Tryz.prog 122 #[.agg (icells x), .agg (icells l)] w (ValQ w (.tuple #[.agg (icells (smallL x l)), .agg (icells (asL l)), .int .i64 0])) := by
 have LX := Lib.hid lx
 have LL := Lib.hid ll
 have HE := Lib.hid he
 have LZ := Lib.hid (zr_length 6)
 have LY := Lib.hid (zr_length 16)
 have HM := Lib.hid (Mem.start w)
 have HC := Lib.hid (fun u (hu : Edg u) => bshare_any l 120 u ll hu)
 rw [share_v l hc] at HC
 have hok := (share_ok l (B := 120) (by decide)).1
 have LA := Lib.hid hok.1
 have HG := Lib.hid (fun u => qbounded_any x u lx)
 rw [(bdL_iff lx).2 hx] at HG
 have hgd := grdSpec
 have heq := fun u => run_equalIn_same 89 (n := 16) (by kernel_rfl) x lx u
 have HT := Lib.hid (fun u (hu : Edg u) => qsteps_any l (shareL l 120) u ll (fun k => inR_bd hc (by omega) (by omega) k) hok hu)
 have HO := Lib.hid (fun u (hu : Edg u) => qmosts_any (shareL l 120) u hok hu)
 have hmb := moL_bd hok
 have HH := Lib.hid (fun u => qheld_any (tab 16 (dvF x (ssL l))) (moL (shareL l 120)) u (tab_length _ _) (moL_length _) hmb)
 rw [hc_dv fun k hk => (hmb k hk).1] at HH
 have L2 := Lib.hid (moL_length (shareL l 120))
 rw [← ms_is hc] at HH HO L2
 rw [show tab 16 (smallF x (ssL l) (msL l)) = smallL x l from rfl] at HH
 rw [← ss_is hc] at HT
 rw [as_is hc]
 have HX := Lib.hid (fun k => inR_bd hx (by omega) (by omega) k)
 have HQ := Lib.hid (fun (k : Nat) (hk : k < 16) => ssL_bd l hk)
 have L1 := Lib.hid (ssL_length l)
 have L5 := Lib.hid (show (smallL x l).length = 16 from tab_length _ _)
 clear hmb hok
 generalize smallL x l = V at HH L5
 generalize shareL l 120 = A at HC HT HO LA
 generalize ssL l = S at HT HH HQ L1
 generalize msL l = M at HO HH L2
 have L6 := Lib.hid (tab_length 16 (dvF x S))
 clear lx ll he hc hx
 go_enter Tryz.func122, Tryz.ntmps122
 go_wp2_with (first | (refine aNw ?_; first | (have q:dL HM = 0:=rfl;clear q HM;intro g1 u1 HM) | (have q:dL HM = 1:=rfl;clear q HM;intro g2 u2 HM) | (have q:dL HM = 2:=rfl;clear q HM;intro g3 u3 HM) | (have q:dL HM = 3:=rfl;clear q HM;intro g4 u4 HM) | (have q:dL HM = 4:=rfl;clear q HM;intro g5 u5 HM) | (have q:dL HM = 5:=rfl;clear q HM;intro g6 u6 HM) | (have q:dL HM = 6:=rfl;clear q HM;intro g7 u7 HM) | (have q:dL HM = 7:=rfl;clear q HM;intro g8 u8 HM) | (have q:dL HM = 8:=rfl;clear q HM;intro g9 u9 HM) | (have q:dL HM = 9:=rfl;clear q HM;intro g10 u10 HM)) | (refine aLo ?_) | (refine aSt ?_; clear HM; intro us HM; dsimp only [List.set] at HM) | (refine aZe ?_))
 refine (HC.out _ (HE.out.mem HM.out)).mono ?_
 rintro e w2 ⟨rfl, h1⟩
 replace HM := Lib.hid (HM.out.below h1)
 clear h1 HC
 go_wp2_with (first | (refine aNw ?_; first | (have q:dL HM = 0:=rfl;clear q HM;intro g1 u1 HM) | (have q:dL HM = 1:=rfl;clear q HM;intro g2 u2 HM) | (have q:dL HM = 2:=rfl;clear q HM;intro g3 u3 HM) | (have q:dL HM = 3:=rfl;clear q HM;intro g4 u4 HM) | (have q:dL HM = 4:=rfl;clear q HM;intro g5 u5 HM) | (have q:dL HM = 5:=rfl;clear q HM;intro g6 u6 HM) | (have q:dL HM = 6:=rfl;clear q HM;intro g7 u7 HM) | (have q:dL HM = 7:=rfl;clear q HM;intro g8 u8 HM) | (have q:dL HM = 8:=rfl;clear q HM;intro g9 u9 HM) | (have q:dL HM = 9:=rfl;clear q HM;intro g10 u10 HM)) | (refine aLo ?_) | (refine aSt ?_; clear HM; intro us HM; dsimp only [List.set] at HM) | (refine aZe ?_))
 refine wp_region_held_drew (S := Mem w [(g2, 29, l), (g1, 89, x)]) (by kernel_rfl) (HM.out.drew.sub (by exact q7u)) (fun hHeld => ?_)
 have HMd := Lib.hid HM.out.drew
 clear HM
 have HM := HMd
 clear HMd
 generalize World.drew _ = wd at HM hHeld ⊢
 (refine tk 0 rfl (yi_free rfl (fun u => rfl)) ?_)
 (refine tkg 1 (.bool false) rfl ?_)
 (refine tkv 2 (.bool false) rfl ?_)
 (refine tk 3 rfl (yi_load rfl _ _ rfl rfl (by exact q7a) (fun u hu => hu) (by exact q7e) (by exact q7l)) ?_)
 (refine tk 5 rfl (yi_load rfl _ _ rfl rfl (by exact q7a) (fun u hu => hu) (by exact q7e) (by exact q7l)) ?_)
 refine wpAnyH_ready (rs := [4]) (by kernel_rfl) (by simp) ?_; refine AllReadyH.cons rfl (fun K hK => ?_) (AllReadyH.nil)
 rw [if_pos (by rfl)]; go_simp
 refine (HG.out _).mono ?_
 rintro e wb ⟨rfl, h1⟩
 replace HM := Lib.hid (HM.out.below h1)
 clear h1 HG hHeld
 go_wp2_with fail; refine hK.out _ _ (HM.out.sub (by exact q7u)) (fun hHeld => ?_); clear hK K; (try simp only [Act.put, qz1, qz2, qz3])
 (refine tkg 6 (.bool false) rfl ?_)
 (refine tkg 7 (.bool false) rfl ?_)
 refine wpAnyH_done (by kernel_rfl) ?_ _
 clear heq hgd
 go_wp2_with (first | (refine aNw ?_; first | (have q:dL HM = 0:=rfl;clear q HM;intro g1 u1 HM) | (have q:dL HM = 1:=rfl;clear q HM;intro g2 u2 HM) | (have q:dL HM = 2:=rfl;clear q HM;intro g3 u3 HM) | (have q:dL HM = 3:=rfl;clear q HM;intro g4 u4 HM) | (have q:dL HM = 4:=rfl;clear q HM;intro g5 u5 HM) | (have q:dL HM = 5:=rfl;clear q HM;intro g6 u6 HM) | (have q:dL HM = 6:=rfl;clear q HM;intro g7 u7 HM) | (have q:dL HM = 7:=rfl;clear q HM;intro g8 u8 HM) | (have q:dL HM = 8:=rfl;clear q HM;intro g9 u9 HM) | (have q:dL HM = 9:=rfl;clear q HM;intro g10 u10 HM)) | (refine aLo ?_) | (refine aSt ?_; clear HM; intro us HM; dsimp only [List.set] at HM) | (refine aZe ?_))
 refine (HT.out _ (HE.out.mem HM.out)).mono ?_
 rintro e w2 ⟨rfl, h1⟩
 replace HM := Lib.hid (HM.out.below h1)
 clear h1 HT
 go_wp2_with (first | (refine aNw ?_; first | (have q:dL HM = 0:=rfl;clear q HM;intro g1 u1 HM) | (have q:dL HM = 1:=rfl;clear q HM;intro g2 u2 HM) | (have q:dL HM = 2:=rfl;clear q HM;intro g3 u3 HM) | (have q:dL HM = 3:=rfl;clear q HM;intro g4 u4 HM) | (have q:dL HM = 4:=rfl;clear q HM;intro g5 u5 HM) | (have q:dL HM = 5:=rfl;clear q HM;intro g6 u6 HM) | (have q:dL HM = 6:=rfl;clear q HM;intro g7 u7 HM) | (have q:dL HM = 7:=rfl;clear q HM;intro g8 u8 HM) | (have q:dL HM = 8:=rfl;clear q HM;intro g9 u9 HM) | (have q:dL HM = 9:=rfl;clear q HM;intro g10 u10 HM)) | (refine aLo ?_) | (refine aSt ?_; clear HM; intro us HM; dsimp only [List.set] at HM) | (refine aZe ?_))
 go_loopw [30] (fun vi wr => ∃ k : Nat, k ≤ 16 ∧ vi = .int .i64 (k : Int) ∧ Hid (Mem w [(g6, 26, tab 16 (part2 k (dvF x S) (fun _ => 0))), (g5, 165, A), (g4, 165, zr 6), (g3, 26, zr 16), (g2, 29, l), (g1, 89, x)] wr)) (fun vi _ => 16 - (intOf vi).toNat)
 case atStart => exact ⟨0, by omega, rfl, Lib.hid (by rw [part2_none, tab_zero]; exact HM.out)⟩
 case round =>
  clear HM
  obtain ⟨k, hk, rfl, HM⟩ := hrel
  by_cases hlt : k < 16
  ·have k16 : (k : Int) < 16 := by omega
   have SS := Lib.hid (part2_set (n := 16) (k := k) (dvF x S) (fun _ => 0))
   have KS := Lib.hid (fun h => part2_skip (n := 16) (k := k) (f := dvF x S) (g := fun _ => 0) h)
   have HS := Lib.hid (dvF_is x S k)
   have hs := HQ.out k hlt
   have hv := HX.out k
   have hix := run_index 26 (n := 16) (by kernel_rfl) S L1.out k hlt
   have c1 := HM.out.cell (.tail _ (.tail _ (.tail _ (.tail _ (.tail _ (.head _)))))) (k := k) (by rw [LX.out]; exact hlt)
   generalize x.getD k 0 = v at c1 hv HS
   generalize S.getD k 0 = s at hix hs HS
   by_cases hpos : 0 < s
   ·have HD := Lib.hid (fun u => div_any v s u (by omega) (by omega))
    rw [show divV v s = .tuple #[.int .i64 (divI v s), .int .i64 0] by unfold divV; rw [if_neg (by omega)]] at HD
    rw [if_pos hpos] at HS
    rw [HS.out] at SS
    generalize divI v s = d at HD SS
    clear KS HS hs hv
    go_wp2_with fail
    refine (HD.out _).mono ?_
    rintro e wb ⟨rfl, qn, rfl⟩
    have HM2 := Lib.hid (HM.out.drewN qn)
    clear HM c1 hix
    have HM := HM2
    clear HM2
    generalize World.drewN _ _ = wd at HM ⊢
    have c6 := HM.out.cell (.head _) (k := k) (by rw [tab_length]; exact hlt)
    have f6 := HM.out.free (.head _) k
    generalize List.getD (tab 16 _) k 0 = o at c6
    go_wp2_with fail
    have HM3 := Lib.hid (HM.out.put 0 rfl k d)
    simp only [List.set_cons_zero] at HM3
    rw [SS.out] at HM3
    clear HM c6 f6
    go_roundw
    case rel => exact ⟨k + 1, by omega, by go_num, HM3⟩
    case measure => simp [intOf]; omega
   ·have hd : decide (0 < s) = false := decide_eq_false hpos
    rw [if_neg hpos] at HS
    rw [KS.out HS.out] at HM
    clear KS HS SS hs hv c1
    go_wp2_with fail
    go_roundw
    case rel => exact ⟨k + 1, by omega, by go_num, HM⟩
    case measure => simp [intOf]; omega
  ·obtain rfl : k = 16 := by omega
   rw [part2_all] at HM
   go_wp2_with (first | (refine aNw ?_; first | (have q:dL HM = 0:=rfl;clear q HM;intro g1 u1 HM) | (have q:dL HM = 1:=rfl;clear q HM;intro g2 u2 HM) | (have q:dL HM = 2:=rfl;clear q HM;intro g3 u3 HM) | (have q:dL HM = 3:=rfl;clear q HM;intro g4 u4 HM) | (have q:dL HM = 4:=rfl;clear q HM;intro g5 u5 HM) | (have q:dL HM = 5:=rfl;clear q HM;intro g6 u6 HM) | (have q:dL HM = 6:=rfl;clear q HM;intro g7 u7 HM) | (have q:dL HM = 7:=rfl;clear q HM;intro g8 u8 HM) | (have q:dL HM = 8:=rfl;clear q HM;intro g9 u9 HM) | (have q:dL HM = 9:=rfl;clear q HM;intro g10 u10 HM)) | (refine aLo ?_) | (refine aSt ?_; clear HM; intro us HM; dsimp only [List.set] at HM) | (refine aZe ?_))
   refine wp_region_held_drew (S := Mem w [(g6, 26, tab 16 (dvF x S)), (g5, 165, A)]) (by kernel_rfl) (HM.out.drew.sub (by exact q7u)) (fun hHeld => ?_)
   have HMd := Lib.hid HM.out.drew
   clear HM
   have HM := HMd
   clear HMd
   generalize World.drew _ = wd at HM hHeld ⊢
   (refine tk 0 rfl (yi_load rfl _ _ rfl rfl (by exact q7a) (fun u hu => hu) (by exact q7e) (by exact q7l)) ?_)
   (refine tk 1 rfl (yi_load rfl _ _ rfl rfl (by exact q7a) (fun u hu => hu) (by exact q7e) (by exact q7l)) ?_)
   (refine tk 4 rfl (yi_load rfl _ _ rfl rfl (by exact q7a) (fun u hu => hu) (by exact q7e) (by exact q7l)) ?_)
   refine wpAnyH_ready (rs := [2]) (by kernel_rfl) (by simp) ?_; refine AllReadyH.cons rfl (fun K hK => ?_) (AllReadyH.nil)
   rw [if_pos (by rfl)]; go_simp
   refine (HO.out _ (HE.out.mem HM.out)).mono ?_
   rintro e wb ⟨rfl, h1⟩
   replace HM := Lib.hid (HM.out.below h1)
   clear h1 HO hHeld
   go_wp2_with fail; refine hK.out _ _ (HM.out.sub (by exact q7u)) (fun hHeld => ?_); clear hK K; (try simp only [Act.put, qz1, qz2, qz3])
   refine wpAnyH_ready (rs := [3]) (by kernel_rfl) (by simp) ?_; refine AllReadyH.cons rfl (fun K hK => ?_) (AllReadyH.nil)
   rw [if_pos (by rfl)]; go_simp
   refine (HH.out _).mono ?_
   rintro e wb ⟨rfl, h1⟩
   replace HM := Lib.hid (HM.out.below h1)
   clear h1 HH hHeld
   go_wp2_with fail; refine hK.out _ _ (HM.out.sub (by exact q7u)) (fun hHeld => ?_); clear hK K; (try simp only [Act.put, qz1, qz2, qz3])
   (refine wpAnyH_ready (rs := [5]) (by kernel_rfl) (by simp) ?_; refine AllReadyH.cons rfl (fun K hK => ?_) AllReadyH.nil; rw [if_pos (by rfl)]; refine ow_store _ _ _ rfl rfl rfl (by exact q7a) HM 3 rfl (by exact q7l) (by exact q7l) rfl ?_; clear HM; intro us HM; simp only [List.set_cons_zero, List.set_cons_succ] at HM; refine hK.out _ _ (HM.out.sub (by exact q7u)) (fun hHeld => ?_); clear hK K; (try simp only [Act.put]))
   (refine wpAnyH_ready (rs := [6]) (by kernel_rfl) (by simp) ?_; refine AllReadyH.cons rfl (fun K hK => ?_) AllReadyH.nil; rw [if_pos (by rfl)]; refine ow_store _ _ _ rfl rfl rfl (by exact q7a) HM 2 rfl (by exact q7l) (by exact q7l) rfl ?_; clear HM; intro us HM; simp only [List.set_cons_zero, List.set_cons_succ] at HM; refine hK.out _ _ (HM.out.sub (by exact q7u)) (fun hHeld => ?_); clear hK K; (try simp only [Act.put]))
   (refine tk 7 rfl (yi_free rfl (fun u => rfl)) ?_)
   refine wpAnyH_done (by kernel_rfl) ?_ _
   go_wp2
   refine bodyPost_ret (v := .tuple #[.agg (icells V), .agg (icells A), .int .i64 0]) (res_three rfl _ rfl rfl rfl arrHop arrAll HM (by exact q7e) (by exact q7e) L5 LA) rfl ⟨rfl, HM.out.1⟩
theorem qsmall_any (x l : List Int) (w : World) (lx : x.length = 16) (ll : l.length = 6) (he : Edg w) :
  Calls Tryz.prog 122 #[.agg (icells x), .agg (icells l)] w (ValQ w (smallV x l)) := by
 unfold smallV
 by_cases h : chkL l = true ∧ okX x = true
 ·rw [if_pos h]; exact qsmall_good x l w lx ll he h.1 h.2
 ·rw [if_neg h]
  cases hc : chkL l with
  | false => exact qsmall_bad1 x l w lx ll he hc
  | true =>
   refine qsmall_bad2 x l w lx ll he hc ?_
   cases hx : okX x with
   | false => rfl
   | true => exact absurd ⟨hc, hx⟩ h
section
variable {w0 w1 w u : World} {L : List Ent} {g : Nat} {T : TypeId} {cs ds : Array Value}
theorem MV.popH (h : MV w0 w1 ((g, T, cs) :: L) w) (hg : Hid (w1.heap.size ≤ g)) : MV w0 w1 L w :=
 ⟨h.1, fun e he => h.2.1 e (.tail _ he), fun e he => h.2.2.1 e (.tail _ he), (List.pairwise_cons.1 h.2.2.2.1).2, h.2.2.2.2.1, fun b hb hn => h.2.2.2.2.2 b hb fun e he => by
  rcases List.mem_cons.1 he with rfl | he
  ·have := hg.out
   show g ≠ b
   omega
  ·exact hn e he⟩
theorem q7v {L L' : List Ent} (h : List.Sublist L L' := by repeat' first | exact List.nil_sublist _ | exact .slnil | refine List.Sublist.cons_cons _ ?_ | refine List.Sublist.cons _ ?_) : List.Sublist L L' := h
theorem MV.after (h : MV w0 w1 L w) {i : Nat} (hi : VNth L i (g, T, cs)) (h2 : MV w0 w [(g, T, ds)] u) : MV w0 w1 (L.set i (g, T, ds)) u :=
 h.turn i hi ds ⟨h2.1.os.trans h.1.os.symm, h2.1.tape.trans h.1.tape.symm, h2.1.output.trans h.1.output.symm, h2.2.2.2.2.1, fun b hb hn => h2.2.2.2.2.2 b hb fun e he => by
  rw [List.mem_singleton] at he
  subst he
  exact fun k => hn (by rw [← k])⟩ (h2.get (.head _))
end
theorem run_load_T {s : Sy} {w : World} {g : Nat} {T0 : TypeId} (hs : Hid (SyW s)) (h : Blk w g T0 (syC s)) : (loadVar 27 ⟨g, 0, none⟩).run Tryz.prog w = .ok (.agg (icells s.t)) w :=
 run_load_partC (Arr.row arrTail) h (syC_t s) ((icl_length _).trans hs.out.lt)
theorem run_load_Se {s : Sy} {w : World} {g : Nat} {T0 : TypeId} (hs : Hid (SyW s)) (h : Blk w g T0 (syC s)) : (loadVar 30 ⟨g, 24, none⟩).run Tryz.prog w = .ok (.int .u32 s.seed) w :=
 run_load_1 aggU ((h.cell 24).trans (syC_e hs.out (k := 2) rfl))
def SdQ (w0 w1 : World) (m : Nat) (d : Ds) (e : Ending) (u : World) : Prop :=
 match d with
 | .ok (s, p) => e = .returned (.tuple #[.agg (icells p), .int .i64 0]) ∧ SyW s ∧ p.length = 16 ∧ MV w0 w1 [(m, 70, syC s)] u
 | .error z => (z == 0) = false ∧ e = .returned (.tuple #[.agg (icells (zr 16)), .int .i64 z]) ∧ ∃ cs, MV w0 w1 [(m, 70, cs)] u
theorem invV_ok {x : List Int} (h : okX x = true) : invV x = .tuple #[.agg (icells (invL x)), .int .i64 0] := by unfold invV; rw [if_pos h]
theorem lapV_ok {t v : List Int} (h : okW t = true) (h2 : okW v = true) : lapV t v = .tuple #[.agg (icells (lapL t v)), .agg (icells (leftL v)), .int .i64 0] := by unfold lapV; rw [if_pos ⟨h, h2⟩]
theorem noiseV_ok {t : Int} {l : List Int} (h : chkL l = true) : noiseV t l = .tuple #[.agg (icells (noiseL t l)), .int .u32 (seedN t 16), .int .i64 0] := by unfold noiseV; rw [if_pos h]
theorem greatV_ok {q l : List Int} (h : mayB q l = true) : greatV q l = .tuple #[.agg (icells (greatL q l)), .int .i64 0] := by unfold greatV; rw [if_pos h]
theorem msound_any {w0 w1 w : World} {m : Nat} (s : Sy) (x : List Int) (hm : Hid (MV w0 w1 [(m, 70, syC s)] w)) (hs : Hid (SyW s)) (lx : x.length = 16) (hx : okX x = true) (ht : okW s.t = true) :
  Calls Tryz.prog 59 #[.pointer (some ⟨m, 0, none⟩), .agg (icells x)] w (SdQ w0 w1 m (.ok (sndS s x))) := by
 have HM := hm
 have HSW := hs
 have HI := Lib.hid (fun u => inverse_any x u lx)
 have HLP := Lib.hid (fun u => lap_any s.t (invL x) u hs.out.lt (tab_length 32 _))
 rw [invV_ok hx] at HI
 rw [lapV_ok ht (okW_inv hx)] at HLP
 unfold sndS SdQ
 have LX := Lib.hid lx
 have LI := Lib.hid (show (invL x).length = 32 from tab_length 32 _)
 have LL := Lib.hid (show (leftL (invL x)).length = 16 from tab_length 16 _)
 have LP := Lib.hid (show (lapL s.t (invL x)).length = 16 from tab_length 16 _)
 have LZ := Lib.hid (zr_length 16)
 generalize lapL s.t (invL x) = p at HLP LP ⊢
 generalize leftL (invL x) = t at HLP LL ⊢
 generalize invL x = v at HI HLP LI
 clear hm hs hx ht lx
 go_enter Tryz.func59, Tryz.ntmps59
 go_wp2_with (first | (refine aQl ?_) | (refine aQs ?_; clear HM; intro us HM; dsimp only [List.set] at HM) | (refine aQt ?_; clear HM HSW; intro us HM HSW; dsimp only [List.set] at HM HSW) | (refine aQv ?_; clear HM; intro us HM; dsimp only [List.set] at HM) | (refine aQb ?_) | (refine aQn ?_; first | (have q:dV HM = 0:=rfl;clear q HM;intro g1 u1 HG1 HM) | (have q:dV HM = 1:=rfl;clear q HM;intro g2 u2 HG2 HM) | (have q:dV HM = 2:=rfl;clear q HM;intro g3 u3 HG3 HM) | (have q:dV HM = 3:=rfl;clear q HM;intro g4 u4 HG4 HM) | (have q:dV HM = 4:=rfl;clear q HM;intro g5 u5 HG5 HM)))
 refine (HI.out _).mono ?_
 rintro e w2 ⟨rfl, hb⟩
 replace HM := Lib.hid (HM.out.below hb)
 clear hb HI
 go_wp2_with (first | (refine aQl ?_) | (refine aQs ?_; clear HM; intro us HM; dsimp only [List.set] at HM) | (refine aQt ?_; clear HM HSW; intro us HM HSW; dsimp only [List.set] at HM HSW) | (refine aQv ?_; clear HM; intro us HM; dsimp only [List.set] at HM) | (refine aQb ?_) | (refine aQn ?_; first | (have q:dV HM = 0:=rfl;clear q HM;intro g1 u1 HG1 HM) | (have q:dV HM = 1:=rfl;clear q HM;intro g2 u2 HG2 HM) | (have q:dV HM = 2:=rfl;clear q HM;intro g3 u3 HG3 HM) | (have q:dV HM = 3:=rfl;clear q HM;intro g4 u4 HG4 HM) | (have q:dV HM = 4:=rfl;clear q HM;intro g5 u5 HG5 HM)))
 refine wp_region_held_drew (S := fun y => Blk y m 70 (syC s) ∧ Blk y g4 111 (icells v)) (by kernel_rfl) ⟨HM.out.drew.get (by exact q7m), HM.out.drew.get (by exact q7m)⟩ (fun hHeld => ?_)
 have HMd := Lib.hid HM.out.drew
 clear HM
 have HM := HMd
 clear HMd
 generalize World.drew _ = wd at HM hHeld ⊢
 (refine tkv 0 (.pointer (some ⟨m, 0, none⟩)) rfl ?_)
 (refine tkv 1 (.pointer (some ⟨m, 0, none⟩)) rfl ?_)
 (refine tkg 2 (.pointer (some ⟨m, 0, none⟩)) rfl ?_)
 (refine tkg 3 (.pointer (some ⟨m, 0, none⟩)) rfl ?_)
 (refine tk 4 rfl (yv_load rfl _ _ rfl rfl (fun u hu => run_load_T HSW hu.1)) ?_)
 (refine tk 5 rfl (yv_load rfl _ _ rfl rfl (fun u hu => run_load_blk (Arr.row arrWave) hu.2 ((icells_size _).trans LI.out))) ?_)
 refine wpAnyH_ready (rs := [6, 11, 12]) (by kernel_rfl) (by simp) ?_; refine AllReadyH.cons rfl (fun K hK => ?_) (AllReadyH.cons rfl (fun K hK => ?_) (AllReadyH.cons rfl (fun K hK => ?_) (AllReadyH.nil)))
 ·rw [if_pos (by rfl)]; go_simp
  refine (HLP.out _).mono ?_
  rintro e w3 ⟨rfl, hb⟩
  replace HM := Lib.hid (HM.out.below hb)
  clear hb
  clear hHeld
  go_wp2_with fail
  refine hK.out _ _ ⟨HM.out.get (by exact q7m), HM.out.get (by exact q7m)⟩ (fun hHeld => ?_)
  clear hK K
  (try simp only [Act.put, qz1, qz2, qz3])
  (refine tkv 7 (.tuple #[.agg (icells p), .agg (icells t), .int .i64 0]) rfl ?_)
  (refine tkv 8 (.agg (icells p)) rfl ?_)
  (refine tkv 9 (.agg (icells t)) rfl ?_)
  (refine tkv 10 (.int .i64 0) rfl ?_)
  refine wpAnyH_ready (rs := [11, 12]) (by kernel_rfl) (by simp) ?_; refine AllReadyH.cons rfl (fun K hK => ?_) (AllReadyH.cons rfl (fun K hK => ?_) (AllReadyH.nil))
  ·rw [if_pos (by rfl)]
   refine ov_alloc _ rfl rfl (by exact q7r) HM ?_
   intro gA11 wA HMA HWA HGA
   have HGx11 := Lib.hid (Nat.le_trans HM.out.2.2.2.2.1 HGA.out)
   clear HM hHeld HWA HGA
   have HM := HMA
   clear HMA
   refine hK.out _ _ ⟨HM.out.get (by exact q7m), HM.out.get (by exact q7m)⟩ (fun hHeld => ?_)
   clear hK K
   (try simp only [Act.put, qz1, qz2, qz3])
   refine wpAnyH_ready (rs := [12]) (by kernel_rfl) (by simp) ?_; refine AllReadyH.cons rfl (fun K hK => ?_) (AllReadyH.nil)
   rw [if_pos (by rfl)]
   refine ov_alloc _ rfl rfl (by exact q7r) HM ?_
   intro gA12 wA HMA HWA HGA
   have HGx12 := Lib.hid (Nat.le_trans HM.out.2.2.2.2.1 HGA.out)
   clear HM hHeld HWA HGA
   have HM := HMA
   clear HMA
   refine hK.out _ _ ⟨HM.out.get (by exact q7m), HM.out.get (by exact q7m)⟩ (fun hHeld => ?_)
   clear hK K
   (try simp only [Act.put, qz1, qz2, qz3])
   refine wpAnyH_ready (rs := [13]) (by kernel_rfl) (by simp) ?_; refine AllReadyH.cons rfl (fun K hK => ?_) (AllReadyH.nil)
   rw [if_pos (by rfl)]; refine ov_store _ _ _ rfl rfl rfl (by exact q7r) HM (by exact q7i) (by exact q7s) (by exact q7s) (by exact q7o) rfl ?_; clear HM; intro us HM; dsimp only [List.set] at HM
   clear hHeld
   refine hK.out _ _ ⟨HM.out.get (by exact q7m), HM.out.get (by exact q7m)⟩ (fun hHeld => ?_)
   clear hK K
   (try simp only [Act.put, qz1, qz2, qz3])
   refine wpAnyH_ready (rs := [14]) (by kernel_rfl) (by simp) ?_; refine AllReadyH.cons rfl (fun K hK => ?_) (AllReadyH.nil)
   rw [if_pos (by rfl)]; refine ov_store _ _ _ rfl rfl rfl (by exact q7r) HM (by exact q7i) (by exact q7s) (by exact q7s) (by exact q7o) rfl ?_; clear HM; intro us HM; dsimp only [List.set] at HM
   clear hHeld
   refine hK.out _ _ ⟨HM.out.get (by exact q7m), HM.out.get (by exact q7m)⟩ (fun hHeld => ?_)
   clear hK K
   (try simp only [Act.put, qz1, qz2, qz3])
   (refine tkv 15 (.int .i64 0) rfl ?_)
   refine wpAnyH_done (by kernel_rfl) ?_ _
   clear hHeld
   go_wp2_with (first | (refine aQl ?_) | (refine aQs ?_; clear HM; intro us HM; dsimp only [List.set] at HM) | (refine aQt ?_; clear HM HSW; intro us HM HSW; dsimp only [List.set] at HM HSW) | (refine aQv ?_; clear HM; intro us HM; dsimp only [List.set] at HM) | (refine aQb ?_) | (refine aQn ?_; first | (have q:dV HM = 0:=rfl;clear q HM;intro g1 u1 HG1 HM) | (have q:dV HM = 1:=rfl;clear q HM;intro g2 u2 HG2 HM) | (have q:dV HM = 2:=rfl;clear q HM;intro g3 u3 HG3 HM) | (have q:dV HM = 3:=rfl;clear q HM;intro g4 u4 HG4 HM) | (have q:dV HM = 4:=rfl;clear q HM;intro g5 u5 HG5 HM)))
   refine bodyPost_ret (v := .tuple #[.agg (icells p), .int .i64 0]) (vres_two rfl _ rfl rfl (by exact q7r) HM (by exact q7m) (by exact q7s)) rfl ⟨rfl, HSW.out, LP.out, (by have HP := HM.out; (repeat (replace HP := HP.popH (by with_reducible assumption))); exact HP)⟩
  ·rw [if_pos (by rfl)]
   refine ov_alloc _ rfl rfl (by exact q7r) HM ?_
   intro gA12 wA HMA HWA HGA
   have HGx12 := Lib.hid (Nat.le_trans HM.out.2.2.2.2.1 HGA.out)
   clear HM hHeld HWA HGA
   have HM := HMA
   clear HMA
   refine hK.out _ _ ⟨HM.out.get (by exact q7m), HM.out.get (by exact q7m)⟩ (fun hHeld => ?_)
   clear hK K
   (try simp only [Act.put, qz1, qz2, qz3])
   refine wpAnyH_ready (rs := [11]) (by kernel_rfl) (by simp) ?_; refine AllReadyH.cons rfl (fun K hK => ?_) (AllReadyH.nil)
   rw [if_pos (by rfl)]
   refine ov_alloc _ rfl rfl (by exact q7r) HM ?_
   intro gA11 wA HMA HWA HGA
   have HGx11 := Lib.hid (Nat.le_trans HM.out.2.2.2.2.1 HGA.out)
   clear HM hHeld HWA HGA
   have HM := HMA
   clear HMA
   refine hK.out _ _ ⟨HM.out.get (by exact q7m), HM.out.get (by exact q7m)⟩ (fun hHeld => ?_)
   clear hK K
   (try simp only [Act.put, qz1, qz2, qz3])
   refine wpAnyH_ready (rs := [13]) (by kernel_rfl) (by simp) ?_; refine AllReadyH.cons rfl (fun K hK => ?_) (AllReadyH.nil)
   rw [if_pos (by rfl)]; refine ov_store _ _ _ rfl rfl rfl (by exact q7r) HM (by exact q7i) (by exact q7s) (by exact q7s) (by exact q7o) rfl ?_; clear HM; intro us HM; dsimp only [List.set] at HM
   clear hHeld
   refine hK.out _ _ ⟨HM.out.get (by exact q7m), HM.out.get (by exact q7m)⟩ (fun hHeld => ?_)
   clear hK K
   (try simp only [Act.put, qz1, qz2, qz3])
   refine wpAnyH_ready (rs := [14]) (by kernel_rfl) (by simp) ?_; refine AllReadyH.cons rfl (fun K hK => ?_) (AllReadyH.nil)
   rw [if_pos (by rfl)]; refine ov_store _ _ _ rfl rfl rfl (by exact q7r) HM (by exact q7i) (by exact q7s) (by exact q7s) (by exact q7o) rfl ?_; clear HM; intro us HM; dsimp only [List.set] at HM
   clear hHeld
   refine hK.out _ _ ⟨HM.out.get (by exact q7m), HM.out.get (by exact q7m)⟩ (fun hHeld => ?_)
   clear hK K
   (try simp only [Act.put, qz1, qz2, qz3])
   (refine tkv 15 (.int .i64 0) rfl ?_)
   refine wpAnyH_done (by kernel_rfl) ?_ _
   clear hHeld
   go_wp2_with (first | (refine aQl ?_) | (refine aQs ?_; clear HM; intro us HM; dsimp only [List.set] at HM) | (refine aQt ?_; clear HM HSW; intro us HM HSW; dsimp only [List.set] at HM HSW) | (refine aQv ?_; clear HM; intro us HM; dsimp only [List.set] at HM) | (refine aQb ?_) | (refine aQn ?_; first | (have q:dV HM = 0:=rfl;clear q HM;intro g1 u1 HG1 HM) | (have q:dV HM = 1:=rfl;clear q HM;intro g2 u2 HG2 HM) | (have q:dV HM = 2:=rfl;clear q HM;intro g3 u3 HG3 HM) | (have q:dV HM = 3:=rfl;clear q HM;intro g4 u4 HG4 HM) | (have q:dV HM = 4:=rfl;clear q HM;intro g5 u5 HG5 HM)))
   refine bodyPost_ret (v := .tuple #[.agg (icells p), .int .i64 0]) (vres_two rfl _ rfl rfl (by exact q7r) HM (by exact q7m) (by exact q7s)) rfl ⟨rfl, HSW.out, LP.out, (by have HP := HM.out; (repeat (replace HP := HP.popH (by with_reducible assumption))); exact HP)⟩
 ·rw [if_pos (by rfl)]
  refine ov_alloc _ rfl rfl (by exact q7r) HM ?_
  intro gA11 wA HMA HWA HGA
  have HGx11 := Lib.hid (Nat.le_trans HM.out.2.2.2.2.1 HGA.out)
  clear HM hHeld HWA HGA
  have HM := HMA
  clear HMA
  refine hK.out _ _ ⟨HM.out.get (by exact q7m), HM.out.get (by exact q7m)⟩ (fun hHeld => ?_)
  clear hK K
  (try simp only [Act.put, qz1, qz2, qz3])
  refine wpAnyH_ready (rs := [6, 12]) (by kernel_rfl) (by simp) ?_; refine AllReadyH.cons rfl (fun K hK => ?_) (AllReadyH.cons rfl (fun K hK => ?_) (AllReadyH.nil))
  ·rw [if_pos (by rfl)]; go_simp
   refine (HLP.out _).mono ?_
   rintro e w3 ⟨rfl, hb⟩
   replace HM := Lib.hid (HM.out.below hb)
   clear hb
   clear hHeld
   go_wp2_with fail
   refine hK.out _ _ ⟨HM.out.get (by exact q7m), HM.out.get (by exact q7m)⟩ (fun hHeld => ?_)
   clear hK K
   (try simp only [Act.put, qz1, qz2, qz3])
   (refine tkv 7 (.tuple #[.agg (icells p), .agg (icells t), .int .i64 0]) rfl ?_)
   (refine tkv 8 (.agg (icells p)) rfl ?_)
   (refine tkv 9 (.agg (icells t)) rfl ?_)
   (refine tkv 10 (.int .i64 0) rfl ?_)
   refine wpAnyH_ready (rs := [12]) (by kernel_rfl) (by simp) ?_; refine AllReadyH.cons rfl (fun K hK => ?_) (AllReadyH.nil)
   rw [if_pos (by rfl)]
   refine ov_alloc _ rfl rfl (by exact q7r) HM ?_
   intro gA12 wA HMA HWA HGA
   have HGx12 := Lib.hid (Nat.le_trans HM.out.2.2.2.2.1 HGA.out)
   clear HM hHeld HWA HGA
   have HM := HMA
   clear HMA
   refine hK.out _ _ ⟨HM.out.get (by exact q7m), HM.out.get (by exact q7m)⟩ (fun hHeld => ?_)
   clear hK K
   (try simp only [Act.put, qz1, qz2, qz3])
   refine wpAnyH_ready (rs := [13]) (by kernel_rfl) (by simp) ?_; refine AllReadyH.cons rfl (fun K hK => ?_) (AllReadyH.nil)
   rw [if_pos (by rfl)]; refine ov_store _ _ _ rfl rfl rfl (by exact q7r) HM (by exact q7i) (by exact q7s) (by exact q7s) (by exact q7o) rfl ?_; clear HM; intro us HM; dsimp only [List.set] at HM
   clear hHeld
   refine hK.out _ _ ⟨HM.out.get (by exact q7m), HM.out.get (by exact q7m)⟩ (fun hHeld => ?_)
   clear hK K
   (try simp only [Act.put, qz1, qz2, qz3])
   refine wpAnyH_ready (rs := [14]) (by kernel_rfl) (by simp) ?_; refine AllReadyH.cons rfl (fun K hK => ?_) (AllReadyH.nil)
   rw [if_pos (by rfl)]; refine ov_store _ _ _ rfl rfl rfl (by exact q7r) HM (by exact q7i) (by exact q7s) (by exact q7s) (by exact q7o) rfl ?_; clear HM; intro us HM; dsimp only [List.set] at HM
   clear hHeld
   refine hK.out _ _ ⟨HM.out.get (by exact q7m), HM.out.get (by exact q7m)⟩ (fun hHeld => ?_)
   clear hK K
   (try simp only [Act.put, qz1, qz2, qz3])
   (refine tkv 15 (.int .i64 0) rfl ?_)
   refine wpAnyH_done (by kernel_rfl) ?_ _
   clear hHeld
   go_wp2_with (first | (refine aQl ?_) | (refine aQs ?_; clear HM; intro us HM; dsimp only [List.set] at HM) | (refine aQt ?_; clear HM HSW; intro us HM HSW; dsimp only [List.set] at HM HSW) | (refine aQv ?_; clear HM; intro us HM; dsimp only [List.set] at HM) | (refine aQb ?_) | (refine aQn ?_; first | (have q:dV HM = 0:=rfl;clear q HM;intro g1 u1 HG1 HM) | (have q:dV HM = 1:=rfl;clear q HM;intro g2 u2 HG2 HM) | (have q:dV HM = 2:=rfl;clear q HM;intro g3 u3 HG3 HM) | (have q:dV HM = 3:=rfl;clear q HM;intro g4 u4 HG4 HM) | (have q:dV HM = 4:=rfl;clear q HM;intro g5 u5 HG5 HM)))
   refine bodyPost_ret (v := .tuple #[.agg (icells p), .int .i64 0]) (vres_two rfl _ rfl rfl (by exact q7r) HM (by exact q7m) (by exact q7s)) rfl ⟨rfl, HSW.out, LP.out, (by have HP := HM.out; (repeat (replace HP := HP.popH (by with_reducible assumption))); exact HP)⟩
  ·rw [if_pos (by rfl)]
   refine ov_alloc _ rfl rfl (by exact q7r) HM ?_
   intro gA12 wA HMA HWA HGA
   have HGx12 := Lib.hid (Nat.le_trans HM.out.2.2.2.2.1 HGA.out)
   clear HM hHeld HWA HGA
   have HM := HMA
   clear HMA
   refine hK.out _ _ ⟨HM.out.get (by exact q7m), HM.out.get (by exact q7m)⟩ (fun hHeld => ?_)
   clear hK K
   (try simp only [Act.put, qz1, qz2, qz3])
   refine wpAnyH_ready (rs := [6]) (by kernel_rfl) (by simp) ?_; refine AllReadyH.cons rfl (fun K hK => ?_) (AllReadyH.nil)
   rw [if_pos (by rfl)]; go_simp
   refine (HLP.out _).mono ?_
   rintro e w3 ⟨rfl, hb⟩
   replace HM := Lib.hid (HM.out.below hb)
   clear hb
   clear hHeld
   go_wp2_with fail
   refine hK.out _ _ ⟨HM.out.get (by exact q7m), HM.out.get (by exact q7m)⟩ (fun hHeld => ?_)
   clear hK K
   (try simp only [Act.put, qz1, qz2, qz3])
   (refine tkv 7 (.tuple #[.agg (icells p), .agg (icells t), .int .i64 0]) rfl ?_)
   (refine tkv 8 (.agg (icells p)) rfl ?_)
   (refine tkv 9 (.agg (icells t)) rfl ?_)
   (refine tkv 10 (.int .i64 0) rfl ?_)
   refine wpAnyH_ready (rs := [13]) (by kernel_rfl) (by simp) ?_; refine AllReadyH.cons rfl (fun K hK => ?_) (AllReadyH.nil)
   rw [if_pos (by rfl)]; refine ov_store _ _ _ rfl rfl rfl (by exact q7r) HM (by exact q7i) (by exact q7s) (by exact q7s) (by exact q7o) rfl ?_; clear HM; intro us HM; dsimp only [List.set] at HM
   clear hHeld
   refine hK.out _ _ ⟨HM.out.get (by exact q7m), HM.out.get (by exact q7m)⟩ (fun hHeld => ?_)
   clear hK K
   (try simp only [Act.put, qz1, qz2, qz3])
   refine wpAnyH_ready (rs := [14]) (by kernel_rfl) (by simp) ?_; refine AllReadyH.cons rfl (fun K hK => ?_) (AllReadyH.nil)
   rw [if_pos (by rfl)]; refine ov_store _ _ _ rfl rfl rfl (by exact q7r) HM (by exact q7i) (by exact q7s) (by exact q7s) (by exact q7o) rfl ?_; clear HM; intro us HM; dsimp only [List.set] at HM
   clear hHeld
   refine hK.out _ _ ⟨HM.out.get (by exact q7m), HM.out.get (by exact q7m)⟩ (fun hHeld => ?_)
   clear hK K
   (try simp only [Act.put, qz1, qz2, qz3])
   (refine tkv 15 (.int .i64 0) rfl ?_)
   refine wpAnyH_done (by kernel_rfl) ?_ _
   clear hHeld
   go_wp2_with (first | (refine aQl ?_) | (refine aQs ?_; clear HM; intro us HM; dsimp only [List.set] at HM) | (refine aQt ?_; clear HM HSW; intro us HM HSW; dsimp only [List.set] at HM HSW) | (refine aQv ?_; clear HM; intro us HM; dsimp only [List.set] at HM) | (refine aQb ?_) | (refine aQn ?_; first | (have q:dV HM = 0:=rfl;clear q HM;intro g1 u1 HG1 HM) | (have q:dV HM = 1:=rfl;clear q HM;intro g2 u2 HG2 HM) | (have q:dV HM = 2:=rfl;clear q HM;intro g3 u3 HG3 HM) | (have q:dV HM = 3:=rfl;clear q HM;intro g4 u4 HG4 HM) | (have q:dV HM = 4:=rfl;clear q HM;intro g5 u5 HG5 HM)))
   refine bodyPost_ret (v := .tuple #[.agg (icells p), .int .i64 0]) (vres_two rfl _ rfl rfl (by exact q7r) HM (by exact q7m) (by exact q7s)) rfl ⟨rfl, HSW.out, LP.out, (by have HP := HM.out; (repeat (replace HP := HP.popH (by with_reducible assumption))); exact HP)⟩
 ·rw [if_pos (by rfl)]
  refine ov_alloc _ rfl rfl (by exact q7r) HM ?_
  intro gA12 wA HMA HWA HGA
  have HGx12 := Lib.hid (Nat.le_trans HM.out.2.2.2.2.1 HGA.out)
  clear HM hHeld HWA HGA
  have HM := HMA
  clear HMA
  refine hK.out _ _ ⟨HM.out.get (by exact q7m), HM.out.get (by exact q7m)⟩ (fun hHeld => ?_)
  clear hK K
  (try simp only [Act.put, qz1, qz2, qz3])
  refine wpAnyH_ready (rs := [6, 11]) (by kernel_rfl) (by simp) ?_; refine AllReadyH.cons rfl (fun K hK => ?_) (AllReadyH.cons rfl (fun K hK => ?_) (AllReadyH.nil))
  ·rw [if_pos (by rfl)]; go_simp
   refine (HLP.out _).mono ?_
   rintro e w3 ⟨rfl, hb⟩
   replace HM := Lib.hid (HM.out.below hb)
   clear hb
   clear hHeld
   go_wp2_with fail
   refine hK.out _ _ ⟨HM.out.get (by exact q7m), HM.out.get (by exact q7m)⟩ (fun hHeld => ?_)
   clear hK K
   (try simp only [Act.put, qz1, qz2, qz3])
   (refine tkv 7 (.tuple #[.agg (icells p), .agg (icells t), .int .i64 0]) rfl ?_)
   (refine tkv 8 (.agg (icells p)) rfl ?_)
   (refine tkv 9 (.agg (icells t)) rfl ?_)
   (refine tkv 10 (.int .i64 0) rfl ?_)
   refine wpAnyH_ready (rs := [11]) (by kernel_rfl) (by simp) ?_; refine AllReadyH.cons rfl (fun K hK => ?_) (AllReadyH.nil)
   rw [if_pos (by rfl)]
   refine ov_alloc _ rfl rfl (by exact q7r) HM ?_
   intro gA11 wA HMA HWA HGA
   have HGx11 := Lib.hid (Nat.le_trans HM.out.2.2.2.2.1 HGA.out)
   clear HM hHeld HWA HGA
   have HM := HMA
   clear HMA
   refine hK.out _ _ ⟨HM.out.get (by exact q7m), HM.out.get (by exact q7m)⟩ (fun hHeld => ?_)
   clear hK K
   (try simp only [Act.put, qz1, qz2, qz3])
   refine wpAnyH_ready (rs := [13]) (by kernel_rfl) (by simp) ?_; refine AllReadyH.cons rfl (fun K hK => ?_) (AllReadyH.nil)
   rw [if_pos (by rfl)]; refine ov_store _ _ _ rfl rfl rfl (by exact q7r) HM (by exact q7i) (by exact q7s) (by exact q7s) (by exact q7o) rfl ?_; clear HM; intro us HM; dsimp only [List.set] at HM
   clear hHeld
   refine hK.out _ _ ⟨HM.out.get (by exact q7m), HM.out.get (by exact q7m)⟩ (fun hHeld => ?_)
   clear hK K
   (try simp only [Act.put, qz1, qz2, qz3])
   refine wpAnyH_ready (rs := [14]) (by kernel_rfl) (by simp) ?_; refine AllReadyH.cons rfl (fun K hK => ?_) (AllReadyH.nil)
   rw [if_pos (by rfl)]; refine ov_store _ _ _ rfl rfl rfl (by exact q7r) HM (by exact q7i) (by exact q7s) (by exact q7s) (by exact q7o) rfl ?_; clear HM; intro us HM; dsimp only [List.set] at HM
   clear hHeld
   refine hK.out _ _ ⟨HM.out.get (by exact q7m), HM.out.get (by exact q7m)⟩ (fun hHeld => ?_)
   clear hK K
   (try simp only [Act.put, qz1, qz2, qz3])
   (refine tkv 15 (.int .i64 0) rfl ?_)
   refine wpAnyH_done (by kernel_rfl) ?_ _
   clear hHeld
   go_wp2_with (first | (refine aQl ?_) | (refine aQs ?_; clear HM; intro us HM; dsimp only [List.set] at HM) | (refine aQt ?_; clear HM HSW; intro us HM HSW; dsimp only [List.set] at HM HSW) | (refine aQv ?_; clear HM; intro us HM; dsimp only [List.set] at HM) | (refine aQb ?_) | (refine aQn ?_; first | (have q:dV HM = 0:=rfl;clear q HM;intro g1 u1 HG1 HM) | (have q:dV HM = 1:=rfl;clear q HM;intro g2 u2 HG2 HM) | (have q:dV HM = 2:=rfl;clear q HM;intro g3 u3 HG3 HM) | (have q:dV HM = 3:=rfl;clear q HM;intro g4 u4 HG4 HM) | (have q:dV HM = 4:=rfl;clear q HM;intro g5 u5 HG5 HM)))
   refine bodyPost_ret (v := .tuple #[.agg (icells p), .int .i64 0]) (vres_two rfl _ rfl rfl (by exact q7r) HM (by exact q7m) (by exact q7s)) rfl ⟨rfl, HSW.out, LP.out, (by have HP := HM.out; (repeat (replace HP := HP.popH (by with_reducible assumption))); exact HP)⟩
  ·rw [if_pos (by rfl)]
   refine ov_alloc _ rfl rfl (by exact q7r) HM ?_
   intro gA11 wA HMA HWA HGA
   have HGx11 := Lib.hid (Nat.le_trans HM.out.2.2.2.2.1 HGA.out)
   clear HM hHeld HWA HGA
   have HM := HMA
   clear HMA
   refine hK.out _ _ ⟨HM.out.get (by exact q7m), HM.out.get (by exact q7m)⟩ (fun hHeld => ?_)
   clear hK K
   (try simp only [Act.put, qz1, qz2, qz3])
   refine wpAnyH_ready (rs := [6]) (by kernel_rfl) (by simp) ?_; refine AllReadyH.cons rfl (fun K hK => ?_) (AllReadyH.nil)
   rw [if_pos (by rfl)]; go_simp
   refine (HLP.out _).mono ?_
   rintro e w3 ⟨rfl, hb⟩
   replace HM := Lib.hid (HM.out.below hb)
   clear hb
   clear hHeld
   go_wp2_with fail
   refine hK.out _ _ ⟨HM.out.get (by exact q7m), HM.out.get (by exact q7m)⟩ (fun hHeld => ?_)
   clear hK K
   (try simp only [Act.put, qz1, qz2, qz3])
   (refine tkv 7 (.tuple #[.agg (icells p), .agg (icells t), .int .i64 0]) rfl ?_)
   (refine tkv 8 (.agg (icells p)) rfl ?_)
   (refine tkv 9 (.agg (icells t)) rfl ?_)
   (refine tkv 10 (.int .i64 0) rfl ?_)
   refine wpAnyH_ready (rs := [13]) (by kernel_rfl) (by simp) ?_; refine AllReadyH.cons rfl (fun K hK => ?_) (AllReadyH.nil)
   rw [if_pos (by rfl)]; refine ov_store _ _ _ rfl rfl rfl (by exact q7r) HM (by exact q7i) (by exact q7s) (by exact q7s) (by exact q7o) rfl ?_; clear HM; intro us HM; dsimp only [List.set] at HM
   clear hHeld
   refine hK.out _ _ ⟨HM.out.get (by exact q7m), HM.out.get (by exact q7m)⟩ (fun hHeld => ?_)
   clear hK K
   (try simp only [Act.put, qz1, qz2, qz3])
   refine wpAnyH_ready (rs := [14]) (by kernel_rfl) (by simp) ?_; refine AllReadyH.cons rfl (fun K hK => ?_) (AllReadyH.nil)
   rw [if_pos (by rfl)]; refine ov_store _ _ _ rfl rfl rfl (by exact q7r) HM (by exact q7i) (by exact q7s) (by exact q7s) (by exact q7o) rfl ?_; clear HM; intro us HM; dsimp only [List.set] at HM
   clear hHeld
   refine hK.out _ _ ⟨HM.out.get (by exact q7m), HM.out.get (by exact q7m)⟩ (fun hHeld => ?_)
   clear hK K
   (try simp only [Act.put, qz1, qz2, qz3])
   (refine tkv 15 (.int .i64 0) rfl ?_)
   refine wpAnyH_done (by kernel_rfl) ?_ _
   clear hHeld
   go_wp2_with (first | (refine aQl ?_) | (refine aQs ?_; clear HM; intro us HM; dsimp only [List.set] at HM) | (refine aQt ?_; clear HM HSW; intro us HM HSW; dsimp only [List.set] at HM HSW) | (refine aQv ?_; clear HM; intro us HM; dsimp only [List.set] at HM) | (refine aQb ?_) | (refine aQn ?_; first | (have q:dV HM = 0:=rfl;clear q HM;intro g1 u1 HG1 HM) | (have q:dV HM = 1:=rfl;clear q HM;intro g2 u2 HG2 HM) | (have q:dV HM = 2:=rfl;clear q HM;intro g3 u3 HG3 HM) | (have q:dV HM = 3:=rfl;clear q HM;intro g4 u4 HG4 HM) | (have q:dV HM = 4:=rfl;clear q HM;intro g5 u5 HG5 HM)))
   refine bodyPost_ret (v := .tuple #[.agg (icells p), .int .i64 0]) (vres_two rfl _ rfl rfl (by exact q7r) HM (by exact q7m) (by exact q7s)) rfl ⟨rfl, HSW.out, LP.out, (by have HP := HM.out; (repeat (replace HP := HP.popH (by with_reducible assumption))); exact HP)⟩
theorem mnoise_any {w0 w1 w : World} {m : Nat} (s : Sy) (l : List Int) (hm : Hid (MV w0 w1 [(m, 70, syC s)] w)) (hs : Hid (SyW s)) (ll : l.length = 6) (hc : chkL l = true) (ht : okW s.t = true) (he : Hid (Edg w0)) :
  Calls Tryz.prog 54 #[.pointer (some ⟨m, 0, none⟩), .agg (icells l)] w (SdQ w0 w1 m (.ok (hisS { s with l := l, live := false }))) := by
 have HM := hm
 have HSW := hs
 have HE := he
 have HNO := Lib.hid (fun u => qnoise_any s.seed l u hs.out.sd ll)
 rw [noiseV_ok hc] at HNO
 rw [show hisS { s with l := l, live := false } = sndS ⟨s.t, l, false, s.hush, seedN s.seed 16⟩ (noiseL s.seed l) from rfl]
 have HSD := Lib.hid (seedN_bd hs.out.sd 16)
 have HSN := Lib.hid (fun (a b : World) (h : Hid (MV w0 a [(m, 70, syC ⟨s.t, l, false, s.hush, seedN s.seed 16⟩)] b)) => msound_any ⟨s.t, l, false, s.hush, seedN s.seed 16⟩ (noiseL s.seed l) h (Lib.hid ⟨hs.out.lt, ll, seedN_bd hs.out.sd 16⟩) (tab_length 16 _) (okX_noise _ _) ht)
 have LX := Lib.hid (show (noiseL s.seed l).length = 16 from tab_length 16 _)
 have LZ := Lib.hid (zr_length 16)
 have LL := Lib.hid ll
 generalize noiseL s.seed l = x at HNO HSN LX ⊢
 generalize seedN s.seed 16 = z at HNO HSN HSD ⊢
 generalize sndS ⟨s.t, l, false, s.hush, z⟩ x = r at HSN ⊢
 obtain ⟨s3, p⟩ := r
 unfold SdQ at HSN ⊢
 dsimp only at HSN ⊢
 clear hm hs hc ht ll he
 go_enter Tryz.func54, Tryz.ntmps54
 go_wp2_with (first | (refine aQl ?_) | (refine aQs ?_; clear HM; intro us HM; dsimp only [List.set] at HM) | (refine aQt ?_; clear HM HSW; intro us HM HSW; dsimp only [List.set] at HM HSW) | (refine aQv ?_; clear HM; intro us HM; dsimp only [List.set] at HM) | (refine aQb ?_) | (refine aQn ?_; first | (have q:dV HM = 0:=rfl;clear q HM;intro g1 u1 HG1 HM) | (have q:dV HM = 1:=rfl;clear q HM;intro g2 u2 HG2 HM) | (have q:dV HM = 2:=rfl;clear q HM;intro g3 u3 HG3 HM) | (have q:dV HM = 3:=rfl;clear q HM;intro g4 u4 HG4 HM) | (have q:dV HM = 4:=rfl;clear q HM;intro g5 u5 HG5 HM) | (have q:dV HM = 5:=rfl;clear q HM;intro g6 u6 HG6 HM) | (have q:dV HM = 6:=rfl;clear q HM;intro g7 u7 HG7 HM) | (have q:dV HM = 7:=rfl;clear q HM;intro g8 u8 HG8 HM) | (have q:dV HM = 8:=rfl;clear q HM;intro g9 u9 HG9 HM) | (have q:dV HM = 9:=rfl;clear q HM;intro g10 u10 HG10 HM) | (have q:dV HM = 10:=rfl;clear q HM;intro g11 u11 HG11 HM) | (have q:dV HM = 11:=rfl;clear q HM;intro g12 u12 HG12 HM) | (have q:dV HM = 12:=rfl;clear q HM;intro g13 u13 HG13 HM) | (have q:dV HM = 13:=rfl;clear q HM;intro g14 u14 HG14 HM)))
 refine wp_region_held_drew (S := fun y => Blk y m 70 (syC s) ∧ Blk y g2 29 (icells l)) (by kernel_rfl) ⟨HM.out.drew.get (by exact q7m), HM.out.drew.get (by exact q7m)⟩ (fun hHeld => ?_)
 have HMd := Lib.hid HM.out.drew
 clear HM
 have HM := HMd
 clear HMd
 generalize World.drew _ = wd at HM hHeld ⊢
 (refine tkv 0 (.pointer (some ⟨m, 0, none⟩)) rfl ?_)
 (refine tkv 1 (.pointer (some ⟨m, 0, none⟩)) rfl ?_)
 (refine tkg 2 (.pointer (some ⟨m, 0, none⟩)) rfl ?_)
 (refine tkg 3 (.pointer (some ⟨m, 24, none⟩)) rfl ?_)
 (refine tk 4 rfl (yv_load rfl _ _ rfl rfl (fun u hu => run_load_Se HSW hu.1)) ?_)
 (refine tk 5 rfl (yv_load rfl _ _ rfl rfl (fun u hu => run_load_blk (Arr.row arrLev) hu.2 ((icells_size _).trans LL.out))) ?_)
 refine wpAnyH_ready (rs := [6, 11]) (by kernel_rfl) (by simp) ?_; refine AllReadyH.cons rfl (fun K hK => ?_) (AllReadyH.cons rfl (fun K hK => ?_) (AllReadyH.nil))
 ·rw [if_pos (by rfl)]; go_simp
  refine (HNO.out _ (HE.out.below HM.out.1)).mono ?_
  rintro e w3 ⟨rfl, hb⟩
  replace HM := Lib.hid (HM.out.below hb)
  clear hb
  clear hHeld
  go_wp2_with fail
  refine hK.out _ _ ⟨HM.out.get (by exact q7m), HM.out.get (by exact q7m)⟩ (fun hHeld => ?_)
  clear hK K
  (try simp only [Act.put, qz1, qz2, qz3])
  (refine tkv 7 (.tuple #[.agg (icells x), .int .u32 z, .int .i64 0]) rfl ?_)
  (refine tkv 8 (.agg (icells x)) rfl ?_)
  (refine tkv 9 (.int .u32 z) rfl ?_)
  (refine tkv 10 (.int .i64 0) rfl ?_)
  refine wpAnyH_ready (rs := [11]) (by kernel_rfl) (by simp) ?_; refine AllReadyH.cons rfl (fun K hK => ?_) (AllReadyH.nil)
  rw [if_pos (by rfl)]
  refine ov_alloc _ rfl rfl (by exact q7r) HM ?_
  intro gA11 wA HMA HWA HGA
  have HGx11 := Lib.hid (Nat.le_trans HM.out.2.2.2.2.1 HGA.out)
  clear HM hHeld HWA HGA
  have HM := HMA
  clear HMA
  refine hK.out _ _ ⟨HM.out.get (by exact q7m), HM.out.get (by exact q7m)⟩ (fun hHeld => ?_)
  clear hK K
  (try simp only [Act.put, qz1, qz2, qz3])
  refine wpAnyH_ready (rs := [12]) (by kernel_rfl) (by simp) ?_; refine AllReadyH.cons rfl (fun K hK => ?_) (AllReadyH.nil)
  rw [if_pos (by rfl)]; refine ov_store _ _ _ rfl rfl rfl (by exact q7r) HM (by exact q7i) (by exact q7s) (by exact q7s) (by exact q7o) rfl ?_; clear HM; intro us HM; dsimp only [List.set] at HM
  clear hHeld
  refine hK.out _ _ ⟨HM.out.get (by exact q7m), HM.out.get (by exact q7m)⟩ (fun hHeld => ?_)
  clear hK K
  (try simp only [Act.put, qz1, qz2, qz3])
  (refine tkv 13 (.int .u32 z) rfl ?_)
  (refine tkv 14 (.int .i64 0) rfl ?_)
  refine wpAnyH_done (by kernel_rfl) ?_ _
  clear hHeld
  go_wp2_with (first | (refine aQl ?_) | (refine aQs ?_; clear HM; intro us HM; dsimp only [List.set] at HM) | (refine aQt ?_; clear HM HSW; intro us HM HSW; dsimp only [List.set] at HM HSW) | (refine aQv ?_; clear HM; intro us HM; dsimp only [List.set] at HM) | (refine aQb ?_) | (refine aQn ?_; first | (have q:dV HM = 0:=rfl;clear q HM;intro g1 u1 HG1 HM) | (have q:dV HM = 1:=rfl;clear q HM;intro g2 u2 HG2 HM) | (have q:dV HM = 2:=rfl;clear q HM;intro g3 u3 HG3 HM) | (have q:dV HM = 3:=rfl;clear q HM;intro g4 u4 HG4 HM) | (have q:dV HM = 4:=rfl;clear q HM;intro g5 u5 HG5 HM) | (have q:dV HM = 5:=rfl;clear q HM;intro g6 u6 HG6 HM) | (have q:dV HM = 6:=rfl;clear q HM;intro g7 u7 HG7 HM) | (have q:dV HM = 7:=rfl;clear q HM;intro g8 u8 HG8 HM) | (have q:dV HM = 8:=rfl;clear q HM;intro g9 u9 HG9 HM) | (have q:dV HM = 9:=rfl;clear q HM;intro g10 u10 HG10 HM) | (have q:dV HM = 10:=rfl;clear q HM;intro g11 u11 HG11 HM) | (have q:dV HM = 11:=rfl;clear q HM;intro g12 u12 HG12 HM) | (have q:dV HM = 12:=rfl;clear q HM;intro g13 u13 HG13 HM) | (have q:dV HM = 13:=rfl;clear q HM;intro g14 u14 HG14 HM)))
  refine (HSN.out _ _ (Lib.hid (HM.out.sub (by exact q7v)))).mono ?_
  rintro e w4 ⟨rfl, hw, hp, hm⟩
  have HSW3 := Lib.hid hw
  have LP := Lib.hid hp
  have HM2 := Lib.hid (HM.out.after (by exact q7i) hm)
  clear hw hp hm HM HSN
  have HM := HM2
  clear HM2
  dsimp only [List.set] at HM
  go_wp2_with (first | (refine aQl ?_) | (refine aQs ?_; clear HM; intro us HM; dsimp only [List.set] at HM) | (refine aQt ?_; clear HM HSW; intro us HM HSW; dsimp only [List.set] at HM HSW) | (refine aQv ?_; clear HM; intro us HM; dsimp only [List.set] at HM) | (refine aQb ?_) | (refine aQn ?_; first | (have q:dV HM = 0:=rfl;clear q HM;intro g1 u1 HG1 HM) | (have q:dV HM = 1:=rfl;clear q HM;intro g2 u2 HG2 HM) | (have q:dV HM = 2:=rfl;clear q HM;intro g3 u3 HG3 HM) | (have q:dV HM = 3:=rfl;clear q HM;intro g4 u4 HG4 HM) | (have q:dV HM = 4:=rfl;clear q HM;intro g5 u5 HG5 HM) | (have q:dV HM = 5:=rfl;clear q HM;intro g6 u6 HG6 HM) | (have q:dV HM = 6:=rfl;clear q HM;intro g7 u7 HG7 HM) | (have q:dV HM = 7:=rfl;clear q HM;intro g8 u8 HG8 HM) | (have q:dV HM = 8:=rfl;clear q HM;intro g9 u9 HG9 HM) | (have q:dV HM = 9:=rfl;clear q HM;intro g10 u10 HG10 HM) | (have q:dV HM = 10:=rfl;clear q HM;intro g11 u11 HG11 HM) | (have q:dV HM = 11:=rfl;clear q HM;intro g12 u12 HG12 HM) | (have q:dV HM = 12:=rfl;clear q HM;intro g13 u13 HG13 HM) | (have q:dV HM = 13:=rfl;clear q HM;intro g14 u14 HG14 HM)))
  refine bodyPost_ret (v := .tuple #[.agg (icells p), .int .i64 0]) (vres_two rfl _ rfl rfl (by exact q7r) HM (by exact q7m) (by exact q7s)) rfl ⟨rfl, HSW3.out, LP.out, (by have HP := HM.out; (repeat (replace HP := HP.popH (by with_reducible assumption))); exact HP)⟩
 ·rw [if_pos (by rfl)]
  refine ov_alloc _ rfl rfl (by exact q7r) HM ?_
  intro gA11 wA HMA HWA HGA
  have HGx11 := Lib.hid (Nat.le_trans HM.out.2.2.2.2.1 HGA.out)
  clear HM hHeld HWA HGA
  have HM := HMA
  clear HMA
  refine hK.out _ _ ⟨HM.out.get (by exact q7m), HM.out.get (by exact q7m)⟩ (fun hHeld => ?_)
  clear hK K
  (try simp only [Act.put, qz1, qz2, qz3])
  refine wpAnyH_ready (rs := [6]) (by kernel_rfl) (by simp) ?_; refine AllReadyH.cons rfl (fun K hK => ?_) (AllReadyH.nil)
  rw [if_pos (by rfl)]; go_simp
  refine (HNO.out _ (HE.out.below HM.out.1)).mono ?_
  rintro e w3 ⟨rfl, hb⟩
  replace HM := Lib.hid (HM.out.below hb)
  clear hb
  clear hHeld
  go_wp2_with fail
  refine hK.out _ _ ⟨HM.out.get (by exact q7m), HM.out.get (by exact q7m)⟩ (fun hHeld => ?_)
  clear hK K
  (try simp only [Act.put, qz1, qz2, qz3])
  (refine tkv 7 (.tuple #[.agg (icells x), .int .u32 z, .int .i64 0]) rfl ?_)
  (refine tkv 8 (.agg (icells x)) rfl ?_)
  (refine tkv 9 (.int .u32 z) rfl ?_)
  (refine tkv 10 (.int .i64 0) rfl ?_)
  refine wpAnyH_ready (rs := [12]) (by kernel_rfl) (by simp) ?_; refine AllReadyH.cons rfl (fun K hK => ?_) (AllReadyH.nil)
  rw [if_pos (by rfl)]; refine ov_store _ _ _ rfl rfl rfl (by exact q7r) HM (by exact q7i) (by exact q7s) (by exact q7s) (by exact q7o) rfl ?_; clear HM; intro us HM; dsimp only [List.set] at HM
  clear hHeld
  refine hK.out _ _ ⟨HM.out.get (by exact q7m), HM.out.get (by exact q7m)⟩ (fun hHeld => ?_)
  clear hK K
  (try simp only [Act.put, qz1, qz2, qz3])
  (refine tkv 13 (.int .u32 z) rfl ?_)
  (refine tkv 14 (.int .i64 0) rfl ?_)
  refine wpAnyH_done (by kernel_rfl) ?_ _
  clear hHeld
  go_wp2_with (first | (refine aQl ?_) | (refine aQs ?_; clear HM; intro us HM; dsimp only [List.set] at HM) | (refine aQt ?_; clear HM HSW; intro us HM HSW; dsimp only [List.set] at HM HSW) | (refine aQv ?_; clear HM; intro us HM; dsimp only [List.set] at HM) | (refine aQb ?_) | (refine aQn ?_; first | (have q:dV HM = 0:=rfl;clear q HM;intro g1 u1 HG1 HM) | (have q:dV HM = 1:=rfl;clear q HM;intro g2 u2 HG2 HM) | (have q:dV HM = 2:=rfl;clear q HM;intro g3 u3 HG3 HM) | (have q:dV HM = 3:=rfl;clear q HM;intro g4 u4 HG4 HM) | (have q:dV HM = 4:=rfl;clear q HM;intro g5 u5 HG5 HM) | (have q:dV HM = 5:=rfl;clear q HM;intro g6 u6 HG6 HM) | (have q:dV HM = 6:=rfl;clear q HM;intro g7 u7 HG7 HM) | (have q:dV HM = 7:=rfl;clear q HM;intro g8 u8 HG8 HM) | (have q:dV HM = 8:=rfl;clear q HM;intro g9 u9 HG9 HM) | (have q:dV HM = 9:=rfl;clear q HM;intro g10 u10 HG10 HM) | (have q:dV HM = 10:=rfl;clear q HM;intro g11 u11 HG11 HM) | (have q:dV HM = 11:=rfl;clear q HM;intro g12 u12 HG12 HM) | (have q:dV HM = 12:=rfl;clear q HM;intro g13 u13 HG13 HM) | (have q:dV HM = 13:=rfl;clear q HM;intro g14 u14 HG14 HM)))
  refine (HSN.out _ _ (Lib.hid (HM.out.sub (by exact q7v)))).mono ?_
  rintro e w4 ⟨rfl, hw, hp, hm⟩
  have HSW3 := Lib.hid hw
  have LP := Lib.hid hp
  have HM2 := Lib.hid (HM.out.after (by exact q7i) hm)
  clear hw hp hm HM HSN
  have HM := HM2
  clear HM2
  dsimp only [List.set] at HM
  go_wp2_with (first | (refine aQl ?_) | (refine aQs ?_; clear HM; intro us HM; dsimp only [List.set] at HM) | (refine aQt ?_; clear HM HSW; intro us HM HSW; dsimp only [List.set] at HM HSW) | (refine aQv ?_; clear HM; intro us HM; dsimp only [List.set] at HM) | (refine aQb ?_) | (refine aQn ?_; first | (have q:dV HM = 0:=rfl;clear q HM;intro g1 u1 HG1 HM) | (have q:dV HM = 1:=rfl;clear q HM;intro g2 u2 HG2 HM) | (have q:dV HM = 2:=rfl;clear q HM;intro g3 u3 HG3 HM) | (have q:dV HM = 3:=rfl;clear q HM;intro g4 u4 HG4 HM) | (have q:dV HM = 4:=rfl;clear q HM;intro g5 u5 HG5 HM) | (have q:dV HM = 5:=rfl;clear q HM;intro g6 u6 HG6 HM) | (have q:dV HM = 6:=rfl;clear q HM;intro g7 u7 HG7 HM) | (have q:dV HM = 7:=rfl;clear q HM;intro g8 u8 HG8 HM) | (have q:dV HM = 8:=rfl;clear q HM;intro g9 u9 HG9 HM) | (have q:dV HM = 9:=rfl;clear q HM;intro g10 u10 HG10 HM) | (have q:dV HM = 10:=rfl;clear q HM;intro g11 u11 HG11 HM) | (have q:dV HM = 11:=rfl;clear q HM;intro g12 u12 HG12 HM) | (have q:dV HM = 12:=rfl;clear q HM;intro g13 u13 HG13 HM) | (have q:dV HM = 13:=rfl;clear q HM;intro g14 u14 HG14 HM)))
  refine bodyPost_ret (v := .tuple #[.agg (icells p), .int .i64 0]) (vres_two rfl _ rfl rfl (by exact q7r) HM (by exact q7m) (by exact q7s)) rfl ⟨rfl, HSW3.out, LP.out, (by have HP := HM.out; (repeat (replace HP := HP.popH (by with_reducible assumption))); exact HP)⟩
end Go.Proofs.YtkdbhndegkldcaaGreatDoor.Lp
namespace Go.Proofs.YtkdbhndegkldcaaGreatDoor.Fq
open Go.RowKit
open Tb (iV own_rdI own_snocI info_partsT info_intT)
theorem RdI.far {w : World} {A : Option Addr} {n : Nat} {zs : List Int} (h : RdI w A n zs) {p : Addr} (hA : ∀ ad, A = some ad → 0 < n → ad.block ≠ p.block) (v : Value) : RdI (w.setCell p v) A n zs :=
 ⟨h.1, fun hn => by
  obtain ⟨ad, e, hc⟩ := h.2 hn
  refine ⟨ad, e, fun j x hx => ?_⟩
  exact (World.cell?_setCell_far w p (ad.add j) v (by rw [block_of_add]; exact fun e2 => hA ad e hn e2.symm)).trans (hc j x hx)⟩
structure NwS (w : World) (B k : Nat) (zs : List Int) (v : Value) (u : World) : Prop where
 row : u.ownsRow B 3 1 v (k + 1) (((acc zs).take (k + 1)).map iV)
 box : Blk u w.heap.size 130 #[.slice none 0 0]
 hB : w.heap.size < B
 hu : B ≤ u.heap.size
 blw : Below w.heap.size w u
theorem NwS.step {w u u' : World} {B k : Nat} {zs : List Int} {v v' : Value} {o : Obj} {y : Int} (h : NwS w B k zs v u) (hy : (acc zs).take (k + 1 + 1) = (acc zs).take (k + 1) ++ [y])
  (hown : u'.ownsRow B 3 1 v' (k + 1 + 1) (((acc zs).take (k + 1)).map iV ++ [.int .i64 y])) (hg : (u.alloc o).grownBy u' v.ownBlock) : NwS w B (k + 1) zs v' u' := by
 have hne : v.ownBlock ≠ some w.heap.size := fun e => by have := (h.row.lt _ e).1; have := h.hB; omega
 have hs := hg.size
 simp at hs
 refine ⟨by rw [hy, List.map_append]; exact hown, (h.box.alloc o).row hg hne, h.hB, by have := h.hu; omega, ?_⟩
 exact (h.blw.alloc h.blw.size o).grown hg (h.blw.alloc h.blw.size o).size (fun j hj => by have := (h.row.lt j hj).1; have := h.hB; omega)
structure RwS (w : World) (b B k : Nat) (xs : List Int) (v : Value) (u : World) : Prop where
 row : u.ownsRow B 3 1 v k (xs.map iV)
 box : Blk u b 130 #[.slice none 0 0]
 hB : b < B
 hb : w.heap.size ≤ b
 hu : B ≤ u.heap.size
 blw : Below w.heap.size w u
theorem RwS.step {w u u' : World} {b B k : Nat} {xs : List Int} {v v' : Value} {o : Obj} {y : Int} (h : RwS w b B k xs v u)
  (hown : u'.ownsRow B 3 1 v' (k + 1) (xs.map iV ++ [.int .i64 y])) (hg : (u.alloc o).grownBy u' v.ownBlock) : RwS w b B (k + 1) (xs ++ [y]) v' u' := by
 have hne : v.ownBlock ≠ some b := fun e => by have := (h.row.lt _ e).1; have := h.hB; omega
 have hs := hg.size
 simp at hs
 refine ⟨by rw [List.map_append]; exact hown, (h.box.alloc o).row hg hne, h.hB, h.hb, by have := h.hu; omega, ?_⟩
 exact (h.blw.alloc h.blw.size o).grown hg (h.blw.alloc h.blw.size o).size (fun j hj => by have := (h.row.lt j hj).1; have := h.hB; have := h.hb; omega)
theorem RwS.start (w : World) : RwS w w.heap.size (w.heap.size + 1) 0 [] (.slice none 0 0) (w.alloc (.cells #[.slice none 0 0] 130)) :=
 ⟨World.ownsRow_nil _ _ _ _, Blk.new w _ _, by omega, by omega, by simp, (Below.refl w.heap.size w).alloc (Nat.le_refl _) _⟩
def kindN : List Int := [6, 9, 1]
def chgN : List Int := [1, 1, 2, 3, 5, 9, 16, 30, 60, 30, 16, 9, 5, 3, 2, 1]
end Go.Proofs.YtkdbhndegkldcaaGreatDoor.Fq
namespace Go.Proofs.YtkdbhndegkldcaaGreatDoor.Lp
open Go.RowKit Fx Fq Tb
open Cd (Pr Tb RdT tbs own_far row_neC)
theorem info_freqL : (Tryz.prog.info? 130).map (fun i => (i.zero, i.size, i.bytes)) = some (some (.agg #[.slice none 0 0]), 1, 24) := by kernel_rfl
def tbV (t : Tb) : Value := .slice t.C t.m t.d
theorem rdI_rowF {u u' : World} {A : Option Addr} {n : Nat} {zs : List Int} {row : Option Nat} (h : RdI u A n zs) (hg : u.grownBy u' row) (hA : ∀ ad, A = some ad → 0 < n → row ≠ some ad.block) : RdI u' A n zs :=
 ⟨h.1, fun hn => by
  obtain ⟨ad, e, hc⟩ := h.2 hn
  refine ⟨ad, e, fun j x hx => hg.cell (hc j x hx) ?_⟩
  rw [block_of_add]
  exact fun e2 => hA ad e hn e2.symm⟩
def TbsF (u : World) (r6 r7 : Option Nat) (ts : List Tb) : Prop := ∀ t ∈ ts, ∃ ad, t.C = some ad ∧ ad.block < u.heap.size ∧ r6 ≠ some ad.block ∧ r7 ≠ some ad.block ∧ RdI u (some ad) t.m t.xs ∧ t.m ≤ maxLen
structure SyS (w : World) (g2 g3 B : Nat) (F p : List Int) (v6 v7 : Value) (n6 n7 : Nat) (ps6 ps7 : List Pr) (u : World) : Prop where
 fr : Blk u g2 57 (icells F)
 pr : Blk u g3 29 (icells p)
 syms : u.ownsRow B 3 1 v6 n6 (ps6.map fun q => iV q.1)
 tabs : ∃ ts, tbs ts = ps7.map (·.2) ∧ u.ownsRow B 130 1 v7 n7 (ts.map tbV) ∧ TbsF u v6.ownBlock v7.ownBlock ts
 l2 : g2 < B
 l3 : g3 < B
 h2 : w.heap.size ≤ g2
 h3 : w.heap.size ≤ g3
 hBu : B ≤ u.heap.size
 blw : Below w.heap.size w u
section
variable {w : World} {g2 g3 B n6 n7 : Nat} {F p : List Int} {v6 v7 v' : Value} {ps6 ps7 : List Pr} {u u' : World}
theorem row_belowN {e : TypeId} {b n : Nat} {v : Value} {xs : List Value} (h : u.ownsRow b e 1 v n xs) (hb : Below u.heap.size u u') : u'.ownsRow b e 1 v n xs :=
 World.ownsRow.kept h (only_of_below hb none) (by cases hv : v.ownBlock with | none => exact .inl rfl | some k => exact .inr (by simp))
theorem TbsF.next {r6 r7 : Option Nat} {ts : List Tb} (h : TbsF u r6 r7 ts) (hb : Below u.heap.size u u') : TbsF u' r6 r7 ts := fun t ht => by
 obtain ⟨ad, h1, h2, h3, h6, h4, h5⟩ := h t ht
 exact ⟨ad, h1, Nat.lt_of_lt_of_le h2 hb.size, h3, h6, h4.below hb, h5⟩
theorem SyS.next (h : SyS w g2 g3 B F p v6 v7 n6 n7 ps6 ps7 u) (hb : Below u.heap.size u u') : SyS w g2 g3 B F p v6 v7 n6 n7 ps6 ps7 u' := by
 obtain ⟨ts, t1, t2, t3⟩ := h.tabs
 exact ⟨h.fr.below hb h.fr.lt, h.pr.below hb h.pr.lt, row_belowN h.syms hb, ⟨ts, t1, row_belowN t2 hb, t3.next hb⟩, h.l2, h.l3, h.h2, h.h3, Nat.le_trans h.hBu hb.size, h.blw.trans (hb.mono h.blw.size)⟩
theorem SyS.alloc (h : SyS w g2 g3 B F p v6 v7 n6 n7 ps6 ps7 u) (o : Obj) : SyS w g2 g3 B F p v6 v7 n6 n7 ps6 ps7 (u.alloc o) := h.next ((Below.refl u.heap.size u).alloc (Nat.le_refl _) o)
theorem SyS.drew (h : SyS w g2 g3 B F p v6 v7 n6 n7 ps6 ps7 u) : SyS w g2 g3 B F p v6 v7 n6 n7 ps6 ps7 u.drew := h.next (Below.drew (Below.refl _ _))
theorem SyS.push6 (h : SyS w g2 g3 B F p v6 v7 n6 n7 ps6 ps7 u) (q : Pr) (ho : u'.ownsRow B 3 1 v' (n6 + 1) ((ps6.map fun q => iV q.1) ++ [.int .i64 q.1])) (hg : u.grownBy u' v6.ownBlock) (hv : v'.ownBlock = v6.ownBlock ∨ v'.ownBlock = some u.heap.size) :
  SyS w g2 g3 B F p v' v7 (n6 + 1) n7 (ps6 ++ [q]) ps7 u' := by
 obtain ⟨ts, t1, t2, t3⟩ := h.tabs
 have hB := fun j hj => (h.syms.lt j hj).1
 refine ⟨h.fr.row hg (own_far h.syms h.l2), h.pr.row hg (own_far h.syms h.l3), by rw [List.map_append]; exact ho, ⟨ts, t1, World.ownsRow.kept t2 hg (row_neC t2 h.syms (by decide)), fun t ht => ?_⟩, h.l2, h.l3, h.h2, h.h3, Nat.le_trans h.hBu hg.size, h.blw.grown hg h.blw.size (fun j hj => by have := hB j hj; have := h.l2; have := h.h2; omega)⟩
 obtain ⟨ad, r1, r2, r3, r6, r4, r5⟩ := t3 t ht
 refine ⟨ad, r1, Nat.lt_of_lt_of_le r2 hg.size, ?_, r6, rdI_rowF r4 hg fun a e _ => (by injection e with e; subst e; exact r3), r5⟩
 rcases hv with hv | hv
 ·rw [hv]; exact r3
 ·rw [hv]
  intro e2
  injection e2 with e2
  omega
theorem fresh7 {r r' : Option Nat} {n k : Nat} (hv : r' = r ∨ r' = some n) (h : r ≠ some k) (hl : k < n) : r' ≠ some k := by
 rcases hv with hv | hv
 ·rw [hv]; exact h
 ·rw [hv]
  intro e2
  injection e2 with e2
  omega
theorem SyS.push7 (h : SyS w g2 g3 B F p v6 v7 n6 n7 ps6 ps7 u) (q : Pr) {ad : Addr} {m d : Nat} {ts : List Tb} (t1 : tbs ts = ps7.map (·.2)) (t2 : u.ownsRow B 130 1 v7 n7 (ts.map tbV)) (t3 : TbsF u v6.ownBlock v7.ownBlock ts) (ho : u'.ownsRow B 130 1 v' (n7 + 1) (ts.map tbV ++ [.slice (some ad) m d])) (hg : u.grownBy u' v7.ownBlock)
  (hr : RdI u (some ad) m q.2) (hl : ad.block < u.heap.size) (h6 : v6.ownBlock ≠ some ad.block) (h7 : v7.ownBlock ≠ some ad.block) (hm : m ≤ maxLen) (hv : v'.ownBlock = v7.ownBlock ∨ v'.ownBlock = some u.heap.size) :
  SyS w g2 g3 B F p v6 v' n6 (n7 + 1) ps6 (ps7 ++ [q]) u' := by
 have hB := fun j hj => (t2.lt j hj).1
 refine ⟨h.fr.row hg (own_far t2 h.l2), h.pr.row hg (own_far t2 h.l3), World.ownsRow.kept h.syms hg (row_neC h.syms t2 (by decide)), ⟨ts ++ [⟨some ad, m, d, q.2⟩], ?_, ?_, fun t ht => ?_⟩, h.l2, h.l3, h.h2, h.h3, Nat.le_trans h.hBu hg.size, h.blw.grown hg h.blw.size (fun j hj => by have := hB j hj; have := h.l2; have := h.h2; omega)⟩
 ·unfold tbs at t1 ⊢
  rw [List.map_append, List.map_append, t1]
  rfl
 ·rw [List.map_append]; exact ho
 ·rcases List.mem_append.1 ht with ht | ht
  ·obtain ⟨a, r1, r2, r3, r6, r4, r5⟩ := t3 t ht
   refine ⟨a, r1, Nat.lt_of_lt_of_le r2 hg.size, r3, fresh7 hv r6 r2, rdI_rowF r4 hg fun a' e _ => (by injection e with e; subst e; exact r6), r5⟩
  ·rw [List.mem_singleton] at ht
   subst ht
   exact ⟨ad, rfl, Nat.lt_of_lt_of_le hl hg.size, h6, fresh7 hv h7 hl, rdI_rowF hr hg fun a e _ => (by injection e with e; subst e; exact h7), hm⟩
theorem TbsF.alloc {r6 r7 : Option Nat} {ts : List Tb} (h : TbsF u r6 r7 ts) (o : Obj) : TbsF (u.alloc o) r6 r7 ts := h.next ((Below.refl u.heap.size u).alloc (Nat.le_refl _) o)
theorem SyS.tab {u5 : World} (h : SyS w g2 g3 B F p v6 v7 n6 n7 ps6 ps7 u) (q : Pr) {ad : Addr} {m d : Nat} {o : Obj} (hb : Below u.heap.size u u5) (hge : u.heap.size ≤ ad.block) (hr : RdI u5 (some ad) m q.2) (h0 : 0 < m) (hm : m ≤ maxLen)
  {ts : List Tb} (t1 : tbs ts = ps7.map (·.2)) (t2 : u5.ownsRow B 130 1 v7 n7 (ts.map tbV)) (t3 : TbsF u5 v6.ownBlock v7.ownBlock ts) (ho : u'.ownsRow B 130 1 v' (n7 + 1) (ts.map tbV ++ [.slice (some ad) m d])) (hg : (u5.alloc o).grownBy u' v7.ownBlock) (hv : v'.ownBlock = v7.ownBlock ∨ v'.ownBlock = some (u5.alloc o).heap.size) :
  SyS w g2 g3 B F p v6 v' n6 (n7 + 1) ps6 (ps7 ++ [q]) u' := by
 obtain ⟨ts', -, t2', -⟩ := h.tabs
 obtain ⟨a, e, hl, -⟩ := hr.at_ h0
 injection e with e
 subst e
 refine ((h.next hb).alloc o).push7 q t1 (t2.alloc o) (t3.alloc o) ho hg (hr.alloc o) (by simp; omega) (fun e => ?_) (fun e => ?_) hm hv
 ·have := (h.syms.lt _ e).2
  omega
 ·have := (t2'.lt _ e).2
  omega
theorem SyS.tabK {u5 : World} (h : SyS w g2 g3 B F p v6 v7 n6 n7 ps6 ps7 u) {ps8 : List Pr} {q : Pr} (hps : ps8 = ps7 ++ [q]) {ad : Addr} {m : Nat} (hb : Below u.heap.size u u5) (hge : u.heap.size ≤ ad.block) (hr : RdI u5 (some ad) m q.2) (h0 : 0 < m) (hm : m ≤ maxLen) :
  ∃ ts : List Tb, u5.ownsRow B 130 1 v7 n7 (ts.map tbV) ∧ B ≤ u5.heap.size ∧ ∀ (d : Nat) (v' : Value) (o : Obj) (u' : World), u'.ownsRow B 130 1 v' (n7 + 1) (ts.map tbV ++ [.slice (some ad) m d]) → (u5.alloc o).grownBy u' v7.ownBlock → (v'.ownBlock = v7.ownBlock ∨ v'.ownBlock = some (u5.alloc o).heap.size) → SyS w g2 g3 B F p v6 v' n6 (n7 + 1) ps6 ps8 u' := by
 obtain ⟨ts, t1, t2, t3⟩ := (h.next hb).tabs
 refine ⟨ts, t2, (h.next hb).hBu, fun d v' o u' ho hg hv => ?_⟩
 rw [hps]
 exact h.tab q hb hge hr h0 hm t1 t2 t3 ho hg hv
theorem SyS.rd6 (h : SyS w g2 g3 B F p v6 v7 n6 n7 ps6 ps7 u) : ∃ A c, v6 = .slice A n6 c ∧ RdI u A n6 (ps6.map (·.1)) :=
 own_rdI (zs := ps6.map (·.1)) (by rw [List.map_map]; exact h.syms)
theorem SyS.rd7 (h : SyS w g2 g3 B F p v6 v7 n6 n7 ps6 ps7 u) : ∃ A c ts, v7 = .slice A n7 c ∧ RdT u A n7 ts ∧ tbs ts = ps7.map (·.2) := by
 obtain ⟨ts, t1, t2, t3⟩ := h.tabs
 have hl : ts.length = n7 := by have := t2.1; rw [List.length_map, Nat.mul_one] at this; exact this
 rcases t2.2 with ⟨rfl, h0⟩ | ⟨g, cap, cur, rfl, hb, _⟩
 ·exact ⟨none, 0, ts, by rw [h0], ⟨hl, fun hn => absurd hn (by omega)⟩, t1⟩
 ·refine ⟨_, cap, ts, rfl, ⟨hl, fun _ => ⟨_, rfl, fun j x hx => ?_⟩⟩, t1⟩
  obtain ⟨ad, r1, r2, r3, r6, r4, r5⟩ := t3 x (List.mem_of_getElem? hx)
  refine ⟨World.ownsRow.cells t2 (g := g) rfl j (tbV x) (by rw [List.getElem?_map, hx]; rfl), by rw [r1]; exact r4, r5⟩
theorem SyS.len (h : SyS w g2 g3 B F p v6 v7 n6 n7 ps6 ps7 u) : ps6.length = n6 ∧ ps7.length = n7 := by
 refine ⟨by have := h.syms.1; rw [List.length_map, Nat.mul_one] at this; exact this, ?_⟩
 obtain ⟨ts, t1, t2, -⟩ := h.tabs
 have := t2.1
 rw [List.length_map, Nat.mul_one] at this
 have e := congrArg List.length t1
 unfold tbs at e
 rw [List.length_map, List.length_map] at e
 omega
end
end Go.Proofs.YtkdbhndegkldcaaGreatDoor.Lp
namespace Go.Proofs.YtkdbhndegkldcaaGreatDoor.Yr
open Go.RowKit Cd
open Lp (tab tab_getD tab_get tab_length tab_congr tab_self zr_getD zr_length chkL shareL msL mayB mayN mayN_at bnd bnd_all mostN msL_length inR_bd)
abbrev Stp (S : Type) := S → List Int → Nat → Int → Option S
def lvO (F : List Int) : List Int := (F.drop 1).take 6
section
variable {S : Type} (st : Stp S)
def lvT (K : Int) (p : List Int) : Nat → S → Option S
 | 0, s => some s
 | j + 1, s => (st s (tabK K) (1 + (5 - j)) (if K = 1 then p.getD (5 - j) 0 - 8 else 0)).bind (lvT K p j)
def nmT (ms : List Int) : Nat → S → Option S
 | 0, s => some s
 | j + 1, s => if 0 < ms.getD (15 - j) 0 then (st s (smT (ms.getD (15 - j) 0).toNat) (7 + (15 - j)) (-(ms.getD (15 - j) 0))).bind (nmT ms j) else nmT ms j s
def nmA (fr : S → List Int) (s : S) : Option S := if chkL (lvO (fr s)) = true then nmT st (msL (lvO (fr s))) 16 s else none
def lvA (fr : S → List Int) (p : List Int) (s : S) : Option S := lvT st ((fr s).getD 0 0) p 6 s
def numA (fr : S → List Int) (s : S) : Option S := if (fr s).getD 0 0 = 2 then some s else nmA st fr s
def thru (fr : S → List Int) (p : List Int) (s : S) : Option S := (st s kT 0 0).bind fun s1 => (lvA st fr p s1).bind fun s2 => numA st fr s2
theorem lvT_step {K : Int} {p : List Int} {k : Nat} {s s' : S} (hk : k < 6) (h : st s (tabK K) (1 + k) (if K = 1 then p.getD k 0 - 8 else 0) = some s') : lvT st K p (6 - k) s = lvT st K p (6 - (k + 1)) s' := by
 obtain ⟨j, hj⟩ : ∃ j, j = 6 - (k + 1) := ⟨_, rfl⟩
 have e1 : 6 - k = j + 1 := by omega
 have e2 : 5 - j = k := by omega
 rw [e1, ← hj, lvT, e2, h]
 rfl
theorem lvT_no {K : Int} {p : List Int} {k : Nat} {s : S} (hk : k < 6) (h : st s (tabK K) (1 + k) (if K = 1 then p.getD k 0 - 8 else 0) = none) : lvT st K p (6 - k) s = none := by
 obtain ⟨j, hj⟩ : ∃ j, j = 6 - (k + 1) := ⟨_, rfl⟩
 have e1 : 6 - k = j + 1 := by omega
 have e2 : 5 - j = k := by omega
 rw [e1, lvT, e2, h]
 rfl
theorem nmT_step {ms : List Int} {k : Nat} {s s' : S} (hk : k < 16) (h0 : 0 < ms.getD k 0) (h : st s (smT (ms.getD k 0).toNat) (7 + k) (-(ms.getD k 0)) = some s') : nmT st ms (16 - k) s = nmT st ms (16 - (k + 1)) s' := by
 obtain ⟨j, hj⟩ : ∃ j, j = 16 - (k + 1) := ⟨_, rfl⟩
 have e1 : 16 - k = j + 1 := by omega
 have e2 : 15 - j = k := by omega
 rw [e1, ← hj, nmT, e2, if_pos h0, h]
 rfl
theorem nmT_no {ms : List Int} {k : Nat} {s : S} (hk : k < 16) (h0 : 0 < ms.getD k 0) (h : st s (smT (ms.getD k 0).toNat) (7 + k) (-(ms.getD k 0)) = none) : nmT st ms (16 - k) s = none := by
 obtain ⟨j, hj⟩ : ∃ j, j = 16 - (k + 1) := ⟨_, rfl⟩
 have e1 : 16 - k = j + 1 := by omega
 have e2 : 15 - j = k := by omega
 rw [e1, nmT, e2, if_pos h0, h]
 rfl
theorem nmT_skip {ms : List Int} {k : Nat} {s : S} (hk : k < 16) (h0 : ¬ 0 < ms.getD k 0) : nmT st ms (16 - k) s = nmT st ms (16 - (k + 1)) s := by
 obtain ⟨j, hj⟩ : ∃ j, j = 16 - (k + 1) := ⟨_, rfl⟩
 have e1 : 16 - k = j + 1 := by omega
 have e2 : 15 - j = k := by omega
 rw [e1, ← hj, nmT, e2, if_neg h0]
theorem lvT_pos {pos : S → Nat} (hf : ∀ s xs i fst s', pos s ≤ i → st s xs i fst = some s' → pos s' ≤ i + 1) {K : Int} {p : List Int} : ∀ (j : Nat) (s s2 : S), j ≤ 6 → pos s ≤ 7 - j → lvT st K p j s = some s2 → pos s2 ≤ 7
 | 0, s, s2, _, h, e => by
  rw [lvT] at e
  injection e with e
  subst e
  exact h
 | j + 1, s, s2, hj, h, e => by
  rw [lvT] at e
  cases hs : st s (tabK K) (1 + (5 - j)) (if K = 1 then p.getD (5 - j) 0 - 8 else 0) with
  | none => rw [hs] at e; cases e
  | some s1 =>
   rw [hs] at e
   have := hf _ _ _ _ _ (by omega) hs
   exact lvT_pos hf j s1 s2 (by omega) (by omega) e
end
def hdQ (K : Int) (l p : List Int) (k : Nat) : List Pr := (K, kT) :: (List.range k).map (lvP K l p)
theorem hdQ_succ (K : Int) (l p : List Int) (k : Nat) : hdQ K l p (k + 1) = hdQ K l p k ++ [lvP K l p k] := by
 unfold hdQ
 rw [List.range_succ, List.map_append]
 rfl
theorem hdQ_pre (K : Int) (l p : List Int) : ∀ j k, k + j = 6 → ∃ suf, hdQ K l p 6 = hdQ K l p k ++ suf
  | 0, k, h => by obtain rfl : k = 6 := by omega
                  exact ⟨[], by rw [List.append_nil]⟩
  | j + 1, k, h => by
    obtain ⟨suf, e⟩ := hdQ_pre K l p j (k + 1) (by omega)
    exact ⟨lvP K l p k :: suf, by rw [e, hdQ_succ, List.append_assoc]; rfl⟩
theorem nums_pre (q ms : List Int) : ∀ j k, k + j = 16 → ∃ suf, numsP q ms 16 = numsP q ms k ++ suf
  | 0, k, h => by obtain rfl : k = 16 := by omega
                  exact ⟨[], by rw [List.append_nil]⟩
  | j + 1, k, h => by
    obtain ⟨suf, e⟩ := nums_pre q ms j (k + 1) (by omega)
    exact ⟨_, by rw [e, numsP_succ, List.append_assoc]⟩
theorem symsP_is (K : Int) (l q p : List Int) : symsP K l q p = hdQ K l p 6 ++ if K = 2 then [] else numsP q (msL l) 16 := rfl
structure FrR (F : List Int) (K : Int) (l q : List Int) : Prop where
 len : F.length = 23
 kd : F.getD 0 0 = K
 lv : ∀ b, b < 6 → F.getD (1 + b) 0 = l.getD b 0
 nm : ∀ n, n < 16 → F.getD (7 + n) 0 = q.getD n 0
 lo : lvO F = l
def stW (F : List Int) : Stp (List Pr) := fun ps xs i fst => some (ps ++ [(F.getD i 0 - fst, xs)])
theorem lvP_sub {F : List Int} {K : Int} {l q p : List Int} (h : FrR F K l q) {b : Nat} (hb : b < 6) : (F.getD (1 + b) 0 - (if K = 1 then p.getD b 0 - 8 else 0), tabK K) = lvP K l p b := by
 rw [h.lv b hb]
 unfold lvP tabK
 by_cases e : K = 1
 ·rw [if_pos e, if_pos e, if_pos e]; congr 1; omega
 ·rw [if_neg e, if_neg e, if_neg e]; congr 1; omega
theorem lvT_list {F : List Int} {K : Int} {l q p : List Int} (h : FrR F K l q) : ∀ j k, k + j = 6 → lvT (stW F) K p j (hdQ K l p k) = some (hdQ K l p 6)
  | 0, k, hk => by obtain rfl : k = 6 := by omega
                   rfl
  | j + 1, k, hk => by
    have e := lvT_step (stW F) (K := K) (p := p) (k := k) (s := hdQ K l p k) (s' := hdQ K l p (k + 1)) (by omega) (by
      unfold stW
      rw [lvP_sub h (by omega), hdQ_succ])
    rw [show 6 - k = j + 1 by omega, show 6 - (k + 1) = j by omega] at e
    rw [e]
    exact lvT_list h j (k + 1) (by omega)
theorem nmT_list {F : List Int} {K : Int} {l q : List Int} (h : FrR F K l q) (ms : List Int) (hd : List Pr) : ∀ j k, k + j = 16 → nmT (stW F) ms j (hd ++ numsP q ms k) = some (hd ++ numsP q ms 16)
  | 0, k, hk => by obtain rfl : k = 16 := by omega
                   rfl
  | j + 1, k, hk => by
    by_cases h0 : 0 < ms.getD k 0
    · have e := nmT_step (stW F) (ms := ms) (k := k) (s := hd ++ numsP q ms k) (s' := hd ++ numsP q ms (k + 1)) (by omega) h0 (by
        unfold stW
        rw [h.nm k (by omega), numsP_succ, if_pos h0, List.append_assoc, show q.getD k 0 - -(ms.getD k 0) = q.getD k 0 + ms.getD k 0 by omega])
      rw [show 16 - k = j + 1 by omega, show 16 - (k + 1) = j by omega] at e
      rw [e]
      exact nmT_list h ms hd j (k + 1) (by omega)
    · have e := nmT_skip (stW F) (ms := ms) (k := k) (s := hd ++ numsP q ms k) (by omega) h0
      rw [show 16 - k = j + 1 by omega, show 16 - (k + 1) = j by omega] at e
      rw [e]
      have e2 : numsP q ms (k + 1) = numsP q ms k := by rw [numsP_succ, if_neg h0, List.append_nil]
      rw [← e2]
      exact nmT_list h ms hd j (k + 1) (by omega)
theorem thru_list {F : List Int} {K : Int} {l q p : List Int} (h : FrR F K l q) (hc : chkL l = true) : thru (stW F) (fun _ => F) p [] = some (symsP K l q p) := by
 have e1 : stW F [] kT 0 0 = some (hdQ K l p 0) := by
  unfold stW hdQ
  rw [h.kd, Int.sub_zero]
  rfl
 have e2 := lvT_list (p := p) h 6 0 rfl
 unfold thru lvA numA nmA
 rw [e1]
 simp only [Option.bind_some, h.kd, e2, h.lo, hc, if_true]
 rw [symsP_is]
 by_cases e : K = 2
 ·rw [if_pos e, if_pos e, List.append_nil]
 ·rw [if_neg e, if_neg e]
  have e3 := nmT_list h (msL l) (hdQ K l p 6) 16 0 rfl
  rw [show numsP q (msL l) 0 = [] from rfl, List.append_nil] at e3
  exact e3
def stR (inp : List Bool) : Stp (De × List Int) := fun s xs i fst => if s.1.at_ ≤ inp.length + 32 then some (nxE inp s.1 xs, s.2.set i (fst + (nxK s.1 xs : Int))) else none
theorem backErr_at {inp : List Bool} {xs : List Int} {suf : List (List Int)} : ∀ (pre : List (List Int)) (d : De), backErr inp d (pre ++ xs :: suf) = 0 → (stD inp d pre).at_ ≤ inp.length + 32
 | [], d, h => by
  rw [List.nil_append, backErr] at h
  split at h
  ·split at h
   ·exact absurd h (by decide)
   ·show d.at_ ≤ _; omega
  ·exact absurd h (by decide)
 | y :: pre, d, h => by
  rw [List.cons_append, backErr] at h
  split at h
  ·split at h
   ·exact absurd h (by decide)
   ·exact backErr_at pre _ h
  ·exact absurd h (by decide)
theorem symL_at {inp : List Bool} {xs : List Int} {suf : List (List Int)} : ∀ (pre : List (List Int)) (d : De), (symL inp d (pre ++ xs :: suf)).getD pre.length 0 = (nxK (stD inp d pre) xs : Int)
 | [], d => by rw [List.nil_append, symL_cons]; rfl
 | y :: pre, d => by
  rw [List.cons_append, symL_cons]
  exact symL_at pre (nxE inp d y)
theorem rd_next {inp : List Bool} {full pre suf : List Pr} {x : Int} {xs : List Int} (h1 : backErr inp (d0 inp) (full.map (·.2)) = 0) (h2 : symL inp (d0 inp) (full.map (·.2)) = full.map (·.1)) (e : full = pre ++ (x, xs) :: suf) (F : List Int) (i : Nat) (fst : Int) :
  stR inp (stD inp (d0 inp) (pre.map (·.2)), F) xs i fst = some (stD inp (d0 inp) ((pre ++ [(x, xs)]).map (·.2)), F.set i (fst + x)) := by
 subst e
 rw [List.map_append, List.map_cons] at h1 h2
 have a1 := backErr_at _ _ h1
 have a2 := symL_at (inp := inp) (xs := xs) (suf := suf.map (·.2)) (pre.map (·.2)) (d0 inp)
 rw [show xs = ((x, xs) : Pr).2 from rfl, h2] at a2
 have a3 : ((pre ++ (x, xs) :: suf).map (·.1)).getD (pre.map (·.2)).length 0 = x := by
  rw [List.length_map, List.map_append, List.map_cons, List.getD_eq_getElem?_getD, List.getElem?_append_right (by rw [List.length_map]; exact Nat.le_refl _), List.length_map, Nat.sub_self]
  rfl
 rw [a3] at a2
 unfold stR
 rw [if_pos a1, ← a2, List.map_append, List.map_cons, List.map_nil, stD_snoc]
def fil (F : List Int) (m : Nat) : List Int := F.take m ++ Go.Proofs.YtkdbhndegkldcaaGreatDoor.Lp.zr (23 - m)
theorem fil_length {F : List Int} (h : F.length = 23) {m : Nat} (hm : m ≤ 23) : (fil F m).length = 23 := by
 unfold fil
 rw [List.length_append, List.length_take, h, zr_length]
 omega
theorem fil_get {F : List Int} (h : F.length = 23) {m j : Nat} (hm : m ≤ 23) : (fil F m).getD j 0 = if j < m then F.getD j 0 else 0 := by
 unfold fil
 simp only [List.getD_eq_getElem?_getD]
 by_cases hj : j < m
 ·rw [if_pos hj, List.getElem?_append_left (by rw [List.length_take]; omega), List.getElem?_take, if_pos hj]
 ·rw [if_neg hj, List.getElem?_append_right (by rw [List.length_take]; omega)]
  have := zr_getD (23 - m) (j - (F.take m).length)
  rw [List.getD_eq_getElem?_getD] at this
  exact this
theorem row_ext {a b : List Int} (ha : a.length = 23) (hb : b.length = 23) (h : ∀ j, j < 23 → a.getD j 0 = b.getD j 0) : a = b := by
 refine List.ext_getElem? fun j => ?_
 by_cases hj : j < 23
 ·have := h j hj
  rw [List.getD_eq_getElem?_getD, List.getD_eq_getElem?_getD, List.getElem?_eq_getElem (by omega), List.getElem?_eq_getElem (by omega)] at this
  rw [List.getElem?_eq_getElem (by omega), List.getElem?_eq_getElem (by omega)]
  exact congrArg some this
 ·rw [List.getElem?_eq_none (by omega), List.getElem?_eq_none (by omega)]
theorem getD_setF {a : List Int} {i j : Nat} {x : Int} (hi : i < a.length) : (a.set i x).getD j 0 = if i = j then x else a.getD j 0 := by
 simp only [List.getD_eq_getElem?_getD, List.getElem?_set]
 by_cases e : i = j
 ·subst e
  rw [if_pos rfl, if_pos hi, if_pos rfl]
  rfl
 ·rw [if_neg e, if_neg e]
theorem fil_set {F : List Int} (h : F.length = 23) {m : Nat} (hm : m < 23) {x : Int} (hx : F.getD m 0 = x) : (fil F m).set m x = fil F (m + 1) := by
 refine row_ext (by rw [List.length_set, fil_length h (by omega)]) (fil_length h (by omega)) fun j hj => ?_
 rw [getD_setF (by rw [fil_length h (by omega)]; exact hm), fil_get h (by omega), fil_get h (by omega)]
 by_cases e : m = j
 ·subst e
  rw [if_pos rfl, if_pos (by omega), hx]
 ·rw [if_neg e]
  by_cases e2 : j < m
  ·rw [if_pos e2, if_pos (by omega)]
  ·rw [if_neg e2, if_neg (by omega)]
theorem fil_skip {F : List Int} (h : F.length = 23) {m : Nat} (hm : m < 23) (hx : F.getD m 0 = 0) : fil F m = fil F (m + 1) := by
 rw [← fil_set h hm hx]
 refine row_ext (fil_length h (by omega)) (by rw [List.length_set, fil_length h (by omega)]) fun j hj => ?_
 rw [getD_setF (by rw [fil_length h (by omega)]; exact hm), fil_get h (by omega)]
 by_cases e : m = j
 ·subst e
  rw [if_neg (by omega), if_pos rfl]
 ·rw [if_neg e]
theorem fil_all {F : List Int} (h : F.length = 23) : fil F 23 = F := by
 unfold fil
 rw [← h, List.take_length, h]
 exact List.append_nil F
theorem lvO_length {F : List Int} (h : F.length = 23) : (lvO F).length = 6 := by
 unfold lvO
 rw [List.length_take, List.length_drop, h]
 rfl
theorem lvO_get {F : List Int} {b : Nat} (hb : b < 6) : (lvO F).getD b 0 = F.getD (1 + b) 0 := by
 unfold lvO
 simp only [List.getD_eq_getElem?_getD, List.getElem?_take, hb, if_true, List.getElem?_drop]
theorem six_ext {a b : List Int} (ha : a.length = 6) (hb : b.length = 6) (h : ∀ j, j < 6 → a.getD j 0 = b.getD j 0) : a = b := by
 rw [← tab_self ha, ← tab_self hb]
 exact tab_congr h
section
variable {inp : List Bool} {F : List Int} {K : Int} {l q p : List Int} {full : List Pr}
theorem lvT_read (h : FrR F K l q) (h1 : backErr inp (d0 inp) (full.map (·.2)) = 0) (h2 : symL inp (d0 inp) (full.map (·.2)) = full.map (·.1)) (hp : ∃ suf, full = hdQ K l p 6 ++ suf) : ∀ j k, k + j = 6 →
    lvT (stR inp) K p j (stD inp (d0 inp) ((hdQ K l p k).map (·.2)), fil F (1 + k)) = some (stD inp (d0 inp) ((hdQ K l p 6).map (·.2)), fil F 7)
  | 0, k, hk => by obtain rfl : k = 6 := by omega
                   rfl
  | j + 1, k, hk => by
    obtain ⟨suf, e⟩ := hp
    obtain ⟨suf2, e2⟩ := hdQ_pre K l p j (k + 1) (by omega)
    have e3 : full = hdQ K l p k ++ ((F.getD (1 + k) 0 - (if K = 1 then p.getD k 0 - 8 else 0), tabK K) :: (suf2 ++ suf)) := by
      rw [e, e2, hdQ_succ, lvP_sub h (by omega), List.append_assoc, List.append_assoc]
      rfl
    have e4 := lvT_step (stR inp) (K := K) (p := p) (k := k) (by omega) (rd_next h1 h2 e3 (fil F (1 + k)) (1 + k) (if K = 1 then p.getD k 0 - 8 else 0))
    rw [show 6 - k = j + 1 by omega, show 6 - (k + 1) = j by omega] at e4
    rw [e4, lvP_sub h (by omega), ← hdQ_succ, fil_set h.len (by omega) (by omega)]
    exact lvT_read h h1 h2 ⟨suf, e⟩ j (k + 1) (by omega)
theorem nmT_read (h : FrR F K l q) {ms : List Int} (h0 : ∀ n, n < 16 → ms.getD n 0 ≤ 0 → q.getD n 0 = 0) (h1 : backErr inp (d0 inp) (full.map (·.2)) = 0) (h2 : symL inp (d0 inp) (full.map (·.2)) = full.map (·.1)) {hd : List Pr} (hp : full = hd ++ numsP q ms 16) : ∀ j k, k + j = 16 →
    nmT (stR inp) ms j (stD inp (d0 inp) ((hd ++ numsP q ms k).map (·.2)), fil F (7 + k)) = some (stD inp (d0 inp) (full.map (·.2)), F)
  | 0, k, hk => by obtain rfl : k = 16 := by omega
                   rw [hp, show 7 + 16 = 23 from rfl, fil_all h.len]
                   rfl
  | j + 1, k, hk => by
    have hf := h.nm k (by omega)
    by_cases hm : 0 < ms.getD k 0
    · obtain ⟨suf2, e2⟩ := nums_pre q ms j (k + 1) (by omega)
      have e3 : full = (hd ++ numsP q ms k) ++ ((q.getD k 0 + ms.getD k 0, smT (ms.getD k 0).toNat) :: suf2) := by
        rw [hp, e2, numsP_succ, if_pos hm]
        simp only [List.append_assoc]
        rfl
      have e4 := nmT_step (stR inp) (ms := ms) (k := k) (by omega) hm (rd_next h1 h2 e3 (fil F (7 + k)) (7 + k) (-(ms.getD k 0)))
      rw [show 16 - k = j + 1 by omega, show 16 - (k + 1) = j by omega] at e4
      rw [e4, fil_set h.len (by omega) (by omega)]
      have e5 : (hd ++ numsP q ms k) ++ [(q.getD k 0 + ms.getD k 0, smT (ms.getD k 0).toNat)] = hd ++ numsP q ms (k + 1) := by rw [numsP_succ, if_pos hm, List.append_assoc]
      rw [e5]
      exact nmT_read h h0 h1 h2 hp j (k + 1) (by omega)
    · have e4 := nmT_skip (stR inp) (ms := ms) (k := k) (s := (stD inp (d0 inp) ((hd ++ numsP q ms k).map (·.2)), fil F (7 + k))) (by omega) hm
      rw [show 16 - k = j + 1 by omega, show 16 - (k + 1) = j by omega] at e4
      have e5 : numsP q ms (k + 1) = numsP q ms k := by rw [numsP_succ, if_neg hm, List.append_nil]
      rw [e4, fil_skip h.len (by omega) (by rw [hf]; exact h0 k (by omega) (by omega)), ← e5]
      exact nmT_read h h0 h1 h2 hp j (k + 1) (by omega)
theorem thru_back (hr : FrR F K l q) (h : Fr K l q p) (tail : List Bool) (hi : inp = endBits (stE e0 (symsP K l q p)) ++ tail) (lq : q.length = 16) :
  ∃ d, thru (stR inp) (·.2) p (d0 inp, Go.Proofs.YtkdbhndegkldcaaGreatDoor.Lp.zr 23) = some (d, F) := by
 obtain ⟨f1, -, -⟩ := fr_bits h
 obtain ⟨b1, b2⟩ := all_back f1 tail
 rw [← hi] at b1 b2
 have z0 : Go.Proofs.YtkdbhndegkldcaaGreatDoor.Lp.zr 23 = fil F 0 := rfl
 have hs : symsP K l q p = hdQ K l p 6 ++ if K = 2 then [] else numsP q (msL l) 16 := rfl
 obtain ⟨R, hR⟩ : ∃ R, R = symsP K l q p := ⟨_, rfl⟩
 rw [← hR] at b1 b2 hs
 have a1 : stR inp (d0 inp, Go.Proofs.YtkdbhndegkldcaaGreatDoor.Lp.zr 23) kT 0 0 = some (stD inp (d0 inp) ((hdQ K l p 0).map (·.2)), fil F 1) := by
  obtain ⟨suf2, e2⟩ := hdQ_pre K l p 6 0 rfl
  have e3 : R = [] ++ ((K, kT) :: (suf2 ++ if K = 2 then [] else numsP q (msL l) 16)) := by
   rw [hs, e2, List.append_assoc]
   rfl
  have e4 := rd_next b1 b2 e3 (fil F 0) 0 0
  rw [z0, Int.zero_add, fil_set hr.len (by omega) hr.kd] at *
  exact e4
 have a2 := lvT_read (p := p) hr b1 b2 ⟨_, hs⟩ 6 0 rfl
 have k1 : (fil F (1 + 0)).getD 0 0 = K := by rw [fil_get hr.len (by omega), if_pos (by omega), hr.kd]
 have k7 : (fil F 7).getD 0 0 = K := by rw [fil_get hr.len (by omega), if_pos (by omega), hr.kd]
 have l7 : lvO (fil F 7) = l := by
  rw [← hr.lo]
  refine six_ext (lvO_length (fil_length hr.len (by omega))) (lvO_length hr.len) fun b hb => ?_
  rw [lvO_get hb, lvO_get hb, fil_get hr.len (by omega), if_pos (by omega)]
 unfold thru lvA numA nmA
 rw [a1]
 rw [show 1 = 1 + 0 from rfl]
 simp only [Option.bind_some, k1, a2, k7, l7, h.lev, if_true]
 by_cases e : K = 2
 ·rw [if_pos e]
  have : fil F 7 = F := by
   refine row_ext (fil_length hr.len (by omega)) hr.len fun j hj => ?_
   rw [fil_get hr.len (by omega)]
   by_cases hj7 : j < 7
   ·rw [if_pos hj7]
   ·rw [if_neg hj7]
    obtain ⟨n, rfl⟩ : ∃ n, j = 7 + n := ⟨j - 7, by omega⟩
    rw [hr.nm n (by omega), h.sid e, zr_getD]
  rw [this]
  exact ⟨_, rfl⟩
 ·rw [if_neg e]
  rw [if_neg e] at hs
  have a3 := nmT_read (ms := msL l) hr (fun n hn h0 => may_zero h.may hn h0) b1 b2 hs 16 0 rfl
  rw [show numsP q (msL l) 0 = [] from rfl, List.append_nil] at a3
  exact ⟨_, a3⟩
end
def nmO (F : List Int) : List Int := (F.drop 7).take 16
theorem frR_of {F : List Int} (h : F.length = 23) : FrR F (F.getD 0 0) (lvO F) (nmO F) :=
 ⟨h, rfl, fun b hb => (lvO_get hb).symm, fun n hn => by
  unfold nmO
  simp only [List.getD_eq_getElem?_getD, List.getElem?_take, hn, if_true, List.getElem?_drop], rfl⟩
theorem rd_thru {bs : List Nat} {p : List Int} :
  match thru (stR (inB bs)) (·.2) p (d0 (inB bs), Go.Proofs.YtkdbhndegkldcaaGreatDoor.Lp.zr 23) with
  | some (_, F) => F.length = 23 → if chkB (F.getD 0 0) (lvO F) (nmO F) p = true ∧ wrB (F.getD 0 0) (lvO F) (nmO F) p = bs then rdR bs p = some (F.getD 0 0, lvO F, nmO F) else rdR bs p = none
  | none => rdR bs p = none := by
 have key : ∀ K l q, rdR bs p = some (K, l, q) → ∃ d F, FrR F K l q ∧ thru (stR (inB bs)) (·.2) p (d0 (inB bs), Go.Proofs.YtkdbhndegkldcaaGreatDoor.Lp.zr 23) = some (d, F) := fun K l q h => by
  obtain ⟨c1, c2, -⟩ := rd_one h
  obtain ⟨l6, q16⟩ := gsR_len (rdR_gs h)
  have hF : ((K :: (l ++ q)) : List Int).length = 23 := by rw [List.length_cons, List.length_append, l6, q16]
  have hr : FrR (K :: (l ++ q)) K l q := by
   have h0 := frR_of hF
   have e1 : lvO (K :: (l ++ q)) = l := by unfold lvO; rw [List.drop_succ_cons, List.drop_zero, ← l6, List.take_left]
   have e2 : nmO (K :: (l ++ q)) = q := by unfold nmO; rw [show 7 = 6 + 1 by rfl, List.drop_succ_cons, ← l6, List.drop_left, ← q16, List.take_length]
   rw [e1, e2] at h0
   exact h0
  obtain ⟨tail, ht⟩ := bits_tail (endBits (stE e0 (symsP K l q p)))
  obtain ⟨d, hd⟩ := thru_back hr ((chkB_iff K l q p).1 c1) tail (inp := inB bs) (by unfold inB; rw [← c2]; unfold wrB; exact ht) q16
  exact ⟨d, _, hr, hd⟩
 split
 ·rename_i d F e
  intro hF
  split
  ·rename_i hc
   have h := rd_back ((chkB_iff _ _ _ p).1 hc.1) (lvO_length hF) (by unfold nmO; rw [List.length_take, List.length_drop, hF]; rfl)
   rw [hc.2] at h
   exact h
  ·rename_i hc
   cases h : rdR bs p with
   | none => rfl
   | some x =>
    obtain ⟨K, l, q⟩ := x
    obtain ⟨d', F', h1, h2⟩ := key K l q h
    rw [e] at h2
    injection h2 with h2
    injection h2 with h2 h3
    subst h3
    have hG := frR_of hF
    have k1 : F.getD 0 0 = K := h1.kd
    have k2 : lvO F = l := h1.lo
    have k3 : nmO F = q := by
     obtain ⟨l6, q16⟩ := gsR_len (rdR_gs h)
     rw [← tab_self (show (nmO F).length = 16 by unfold nmO; rw [List.length_take, List.length_drop, hF]; rfl), ← tab_self q16]
     exact tab_congr fun n hn => by rw [← hG.nm n hn, h1.nm n hn]
    rw [k1, k2, k3] at hc
    obtain ⟨c1, c2, -⟩ := rd_one h
    exact absurd ⟨c1, c2⟩ hc
 ·rename_i e
  cases h : rdR bs p with
  | none => rfl
  | some x =>
   obtain ⟨K, l, q⟩ := x
   obtain ⟨d', F', h1, h2⟩ := key K l q h
   rw [e] at h2
   cases h2
end Go.Proofs.YtkdbhndegkldcaaGreatDoor.Yr
namespace Go.Proofs.YtkdbhndegkldcaaGreatDoor.Lp
open Go.RowKit Fx Fq Tb
open Yr (smN smN_length getD_setF)
theorem own_new0 (w : World) (B : Nat) (hB : B ≤ w.heap.size) : (w.alloc (.cells #[] 3)).ownsRow B 3 1 (.slice (some ⟨w.heap.size, 0, none⟩) 0 0) 0 [] :=
 ⟨rfl, .inr ⟨w.heap.size, 0, #[], rfl, hB, Blk.new w _ _, Nat.le_refl _, by decide, rfl, rfl⟩⟩
theorem own_blkI {w : World} {g n B : Nat} {zs : List Int} (h : Blk w g 3 (icells zs)) (hl : zs.length = n) (hB : B ≤ g) (hn : n ≤ maxLen) : w.ownsRow B 3 1 (.slice (some ⟨g, 0, none⟩) n n) n (zs.map iV) :=
 ⟨by rw [List.length_map, hl, Nat.mul_one], .inr ⟨g, n, icells zs, rfl, hB, h, Nat.le_refl _, hn, by rw [icells_size, hl, Nat.mul_one], by
  unfold icells
  rw [List.toList_toArray, Nat.mul_one, ← hl, ← List.length_map (f := fun x => Value.int .i64 x), List.take_length]
  rfl⟩⟩
section
variable {w : World} {base g n cap : Nat} {zs : List Int}
theorem own_set (h : w.ownsRow base 3 1 (.slice (some ⟨g, 0, none⟩) n cap) n (zs.map iV)) (k : Nat) (x : Int) :
  (w.setCell ⟨g, k, none⟩ (.int .i64 x)).ownsRow base 3 1 (.slice (some ⟨g, 0, none⟩) n cap) n ((zs.set k x).map iV) := by
 obtain ⟨h1, h2⟩ := h
 rcases h2 with ⟨e, _⟩ | ⟨g', cap', cur, e, hb, hh, hnc, hcm, hcs, ht⟩
 ·cases e
 ·simp only [Value.slice.injEq, Option.some.injEq, Addr.mk.injEq, and_true] at e
  obtain ⟨rfl, _, rfl⟩ := e
  refine ⟨by rw [List.length_map, List.length_set]; rw [List.length_map] at h1; exact h1, .inr ⟨g, cap, cur.setIfInBounds k (.int .i64 x), rfl, hb, Blk.set_ hh k _, hnc, hcm, by simpa using hcs, ?_⟩⟩
  rw [Array.toList_setIfInBounds, List.take_set, ht, List.map_set]
  rfl
theorem own_cell (h : w.ownsRow base 3 1 (.slice (some ⟨g, 0, none⟩) n cap) n (zs.map iV)) {k : Nat} (hk : k < n) : w.cell? ⟨g, k, none⟩ = some (.int .i64 (zs.getD k 0)) ∧ w.frozen? ⟨g, k, none⟩ = false := by
 have hl : zs.length = n := by have := h.1; rw [List.length_map, Nat.mul_one] at this; exact this
 have h1 := World.ownsRow.cells h (g := g) rfl k (iV (zs.getD k 0)) (by
  rw [List.getElem?_map, List.getD_eq_getElem?_getD, List.getElem?_eq_getElem (by omega)]
  rfl)
 obtain ⟨-, h2⟩ := h
 rcases h2 with ⟨e, _⟩ | ⟨g', cap', cur, e, hb, hh, hnc, hcm, hcs, ht⟩
 ·cases e
 ·simp only [Value.slice.injEq, Option.some.injEq, Addr.mk.injEq, and_true] at e
  obtain ⟨rfl, _, rfl⟩ := e
  refine ⟨?_, Blk.frozen (t := 3) (cs := cur) hh k⟩
  rw [add_own] at h1
  exact h1
end
def CloP (w : World) (n : Nat) (zs : List Int) (e : Ending) (w' : World) : Prop :=
 ∃ g c, e = .returned (.slice (some ⟨g, 0, none⟩) n c) ∧ w.heap.size ≤ g ∧ w'.ownsRow w.heap.size 3 1 (.slice (some ⟨g, 0, none⟩) n c) n (zs.map iV) ∧ Below w.heap.size w w'
theorem iV_one (zs : List Int) : ∀ u ∈ zs.map iV, u.oneCell' = true := by
 intro u hu
 obtain ⟨x, _, rfl⟩ := List.mem_map.1 hu
 rfl
theorem own_shape {w : World} {base n : Nat} {v : Value} {xs : List Value} (h : w.ownsRow base 3 1 v n xs) (h0 : 0 < n) : ∃ g c, v = .slice (some ⟨g, 0, none⟩) n c ∧ base ≤ g := by
 rcases h.2 with ⟨_, h1⟩ | ⟨g, cap, cur, rfl, hb, -⟩
 ·omega
 ·exact ⟨g, cap, rfl, hb⟩
theorem clone_any (ad : Addr) (n c : Nat) (zs : List Int) (w : World) (hr : Hid (RdI w (some ad) n zs)) (h0 : 0 < n) (hn : n ≤ 1000) :
  Calls Tryz.prog 164 #[.slice (some ad) n c] w (CloP w n zs) := by
 obtain ⟨i0, hi0, hz0, hz1, hz2⟩ := info_partsT info_intT
 have HLN := Lib.hid (show (zs.map iV).length = n * 1 by rw [List.length_map, hr.out.1, Nat.mul_one])
 have HR := Lib.hid (hr.out.alloc (.cells #[] 3))
 have HB := Lib.hid ((Below.refl w.heap.size w).alloc (Nat.le_refl _) (.cells #[] 3))
 have HO := Lib.hid (own_new0 w w.heap.size (Nat.le_refl _))
 have HN := Lib.hid (show ∀ j u, (zs.map iV)[j]? = some u → (w.alloc (.cells #[] 3)).cell? (ad.add j) = some u from by
  intro j u hu
  obtain ⟨ad', e, hc⟩ := HR.out.2 h0
  injection e with e
  subst e
  rw [List.getElem?_map] at hu
  obtain ⟨x, hx, rfl⟩ := Option.map_eq_some_iff.1 hu
  exact hc j x hx)
 have hnil : ∀ u : World, (binOp .eql 23 (.slice (some ad) n c) (.slice none 0 0)).run Tryz.prog u = .ok (.bool false) u := fun _ => rfl
 go_enter Tryz.func164, Tryz.ntmps164
 go_wp2_with (at_builtin; refine wpList_append_own_at _ rfl (.tmp 5) (.tmp 6) 23 rfl w.heap.size 3 i0 _ 1 8 Tryz.underlying23 hi0 hz0 hz1 hz2 rfl (by omega) _ 0 [] rfl HO.out ad n c (zs.map iV) rfl HLN.out HN.out (iV_one zs) (by unfold maxLen; omega) (by omega) HB.out.size ?_; intro va w2 ho2 hg2 _ _; rw [List.nil_append, Nat.zero_add] at ho2; obtain ⟨g2, c2, hva, hg⟩ := own_shape ho2 h0; subst hva; have HO2 := Lib.hid ho2; have HG2 := Lib.hid hg; have HB2 := Lib.hid (HB.out.grown (show World.grownBy _ w2 (some w.heap.size) from hg2) HB.out.size (fun k hk => by injection hk with hk; omega)); clear ho2 hg2 hg)
 go_ret
 exact ⟨g2, c2, rfl, HG2.out, HO2.out, HB2.out⟩
def rvK (zs : List Int) (k : Nat) : List Int := tab zs.length fun x => if x < k ∨ zs.length ≤ x + k then zs.getD (zs.length - 1 - x) 0 else zs.getD x 0
theorem rvK_length (zs : List Int) (k : Nat) : (rvK zs k).length = zs.length := tab_length _ _
theorem rvK_zero (zs : List Int) : rvK zs 0 = zs := by
 refine (tab_congr (g := fun x => zs.getD x 0) fun x hx => ?_).trans (tab_self rfl)
 rw [if_neg (by omega)]
theorem rvK_lo {zs : List Int} {k : Nat} (h : k < zs.length - 1 - k) : (rvK zs k).getD k 0 = zs.getD k 0 ∧ (rvK zs k).getD (zs.length - 1 - k) 0 = zs.getD (zs.length - 1 - k) 0 := by
 unfold rvK
 rw [tab_getD _ (by omega), tab_getD _ (by omega), if_neg (by omega), if_neg (by omega)]
 exact ⟨rfl, rfl⟩
theorem rvK_step {zs : List Int} {k m : Nat} (hm : m = zs.length - 1 - k) (h : k < m) : ((rvK zs k).set k (zs.getD m 0)).set m (zs.getD k 0) = rvK zs (k + 1) := by
 subst hm
 unfold rvK
 rw [tab_set (g := fun x => if x < k + 1 ∨ zs.length ≤ x + k then zs.getD (zs.length - 1 - x) 0 else zs.getD x 0) (by rw [if_pos (by omega)]) (fun i hi hne => ?_)]
 ·refine tab_set ?_ fun i hi hne => ?_
  ·rw [if_pos (by omega)]
   congr 1
   omega
  ·by_cases h1 : i < k + 1 ∨ zs.length ≤ i + k
   ·rw [if_pos h1, if_pos (by omega)]
   ·rw [if_neg h1, if_neg (by omega)]
 ·by_cases h1 : i < k ∨ zs.length ≤ i + k
  ·rw [if_pos h1, if_pos (by omega)]
  ·rw [if_neg h1, if_neg (by omega)]
theorem rvK_all {zs : List Int} {k : Nat} (h : zs.length ≤ 2 * k + 1) : rvK zs k = zs.reverse := by
 refine List.ext_getElem? fun x => ?_
 by_cases hx : x < zs.length
 ·unfold rvK
  rw [tab_get _ hx, List.getElem?_reverse hx, List.getElem?_eq_getElem (by omega)]
  congr 1
  rw [show zs[zs.length - 1 - x]'(by omega) = zs.getD (zs.length - 1 - x) 0 by rw [List.getD_eq_getElem?_getD, List.getElem?_eq_getElem (by omega)]; rfl]
  by_cases h1 : x < k ∨ zs.length ≤ x + k
  ·rw [if_pos h1]
  ·rw [if_neg h1]
   congr 1
   omega
 ·rw [List.getElem?_eq_none (by rw [rvK_length]; omega), List.getElem?_eq_none (by rw [List.length_reverse]; omega)]
def RevP (w : World) (base g n c : Nat) (zs : List Int) (e : Ending) (w' : World) : Prop :=
 e = .returned (.tuple #[]) ∧ w'.ownsRow base 3 1 (.slice (some ⟨g, 0, none⟩) n c) n (zs.reverse.map iV) ∧ w.grownBy w' (some g)
theorem reverse_any (base g n c : Nat) (zs : List Int) (w : World) (hr : Hid (w.ownsRow base 3 1 (.slice (some ⟨g, 0, none⟩) n c) n (zs.map iV))) (hn : n ≤ 1000) :
  Calls Tryz.prog 165 #[.slice (some ⟨g, 0, none⟩) n c] w (RevP w base g n c zs) := by
 have HL := Lib.hid (show zs.length = n by have := hr.out.1; rw [List.length_map, Nat.mul_one] at this; exact this)
 go_enter Tryz.func165, Tryz.ntmps165
 go_wp2
 go_loopw [2, 3] (fun vi vj wr => ∃ (k : Nat) (j : Int), vi = .int .i64 (k : Int) ∧ vj = .int .i64 j ∧ j = (n : Int) - 1 - (k : Int) ∧ k ≤ n ∧ Hid (wr.ownsRow base 3 1 (.slice (some ⟨g, 0, none⟩) n c) n ((rvK zs k).map iV) ∧ w.grownBy wr (some g))) (fun vi _ _ => n - (intOf vi).toNat)
 case atStart => exact ⟨0, (n : Int) - 1, rfl, by go_num, by omega, by omega, Lib.hid ⟨by rw [rvK_zero]; exact hr.out, World.grownBy.refl _ _⟩⟩
 case round =>
  obtain ⟨k, j, rfl, rfl, hj, hk, HZ⟩ := hrel
  by_cases hlt : (k : Int) < j
  ·obtain ⟨m, hm⟩ : ∃ m : Nat, m = n - 1 - k := ⟨_, rfl⟩
   obtain rfl : j = (m : Int) := by omega
   have hkm : k < m := by omega
   have hmn : m < n := by omega
   have hm2 : m = zs.length - 1 - k := by rw [HL.out]; exact hm
   obtain ⟨v1, v2⟩ := rvK_lo (zs := zs) (k := k) (by omega)
   rw [← hm2] at v2
   have c1 := own_cell HZ.out.1 (k := k) (by omega)
   have c2 := own_cell HZ.out.1 (k := m) (by omega)
   rw [v1] at c1
   rw [v2] at c2
   have HST := Lib.hid (rvK_step hm2 hkm)
   obtain ⟨x, hx⟩ : ∃ x, zs.getD k 0 = x := ⟨_, rfl⟩
   obtain ⟨y, hy⟩ : ∃ y, zs.getD m 0 = y := ⟨_, rfl⟩
   rw [hx] at c1 HST
   rw [hy] at c2 HST
   obtain ⟨d1, f1⟩ := c1
   obtain ⟨d2, f2⟩ := c2
   have hne : ¬ k = m := by omega
   have hne' : ¬ m = k := by omega
   have lk : (k : Int) < (n : Int) := by omega
   have lm : (m : Int) < (n : Int) := by omega
   have lk' : k < n := by omega
   have w1 : IntKind.i64.wrap ((m : Int) - 1) = (m : Int) - 1 := IntWalk.i64_in _ (by omega)
   have HM := Lib.hid hm
   clear hx hy v1 v2 hm2 hj hm
   go_wp2_with fail
   go_region
   all_goals
    clear d1 d2 f1 f2
    go_wp2
    go_roundw
    case rel =>
     refine ⟨k + 1, (m : Int) - 1, by go_num, rfl, by have := HM.out; omega, by omega, Lib.hid ⟨?_, ?_⟩⟩
     ·rw [← HST.out]
      first
      | exact own_set (own_set HZ.out.1 k y) m x
      | exact row_belowN (own_set (own_set HZ.out.1 k y) m x) (Below.drew (Below.refl _ _))
      | (rw [List.set_comm _ _ hne]; exact own_set (own_set HZ.out.1 m x) k y)
      | (rw [List.set_comm _ _ hne]; exact row_belowN (own_set (own_set HZ.out.1 m x) k y) (Below.drew (Below.refl _ _)))
     ·first
      | exact grown_trans HZ.out.2 (grown_trans (grown_set _ g _ _) (grown_set _ g _ _))
      | exact grown_trans HZ.out.2 (grown_trans (grown_trans (grown_set _ g _ _) (grown_set _ g _ _)) (only_of_below (Below.drew (Below.refl _ _)) _))
    case measure => simp [intOf]; omega
  ·go_wp2
   exact bodyPost_end (results_none rfl _ _ _) rfl ⟨rfl, by rw [← rvK_all (k := k) (by rw [HL.out]; omega)]; exact HZ.out.1, HZ.out.2⟩
open Yr (smN smN_length)
def upK (M k : Nat) : List Int := tab M fun j => if j < k then (j : Int) + 1 else 0
def upN (m : Nat) : List Int := (List.range m).map fun (j : Nat) => (j : Int) + 1
theorem upK_length (M k : Nat) : (upK M k).length = M := tab_length _ _
theorem upK_zero (M : Nat) : upK M 0 = List.replicate M 0 := by
 refine (tab_congr (g := fun _ => 0) fun x hx => ?_).trans (tab_zero M)
 rw [if_neg (by omega)]
theorem upK_set {M k : Nat} : (upK M k).set k ((k : Int) + 1) = upK M (k + 1) := by
 unfold upK
 refine tab_set (by rw [if_pos (by omega)]) fun i hi hne => ?_
 by_cases h1 : i < k
 ·rw [if_pos h1, if_pos (by omega)]
 ·rw [if_neg h1, if_neg (by omega)]
theorem upK_all (M : Nat) : upK M M = upN M := by
 unfold upK upN tab
 refine List.map_congr_left fun j hj => ?_
 rw [if_pos (List.mem_range.1 hj)]
theorem upN_length (m : Nat) : (upN m).length = m := by simp [upN]
theorem upN_get {m j : Nat} (h : j < m) : (upN m)[j]? = some ((j : Int) + 1) := by
 unfold upN; rw [List.getElem?_map, List.getElem?_range h]; rfl
theorem upN_pre {m j : Nat} {x : Int} (h : (upN m)[j]? = some x) : (upN (m + 1))[j]? = some x := by
 have hj : j < m := by have := (List.getElem?_eq_some_iff.1 h).1; rwa [upN_length] at this
 rw [upN_get hj] at h
 rw [upN_get (by omega)]
 exact h
theorem hill_is (m : Nat) : upN (m + 1) ++ (upN m).reverse = smN m := by
 refine List.ext_getElem? fun j => ?_
 by_cases h1 : j < m + 1
 ·rw [List.getElem?_append_left (by rw [upN_length]; exact h1), upN_get h1]
  unfold smN
  rw [List.getElem?_map, List.getElem?_range (by omega)]
  show some ((j : Int) + 1) = some ((m : Int) + 1 - max ((j : Int) - (m : Int)) ((m : Int) - (j : Int)))
  congr 1
  omega
 ·rw [List.getElem?_append_right (by rw [upN_length]; omega), upN_length]
  by_cases h2 : j < 2 * m + 1
  ·rw [List.getElem?_reverse (by rw [upN_length]; omega), upN_length, upN_get (by omega)]
   unfold smN
   rw [List.getElem?_map, List.getElem?_range h2]
   show _ = some ((m : Int) + 1 - max ((j : Int) - (m : Int)) ((m : Int) - (j : Int)))
   congr 1
   omega
  ·rw [List.getElem?_eq_none (by rw [List.length_reverse, upN_length]; omega), List.getElem?_eq_none (by rw [smN_length]; omega)]
theorem rdI_up {w : World} {g m : Nat} (h : Blk w g 3 (icells (upN (m + 1)))) : RdI w (some ⟨g, 0, none⟩) m (upN m) :=
 ⟨upN_length m, fun _ => ⟨_, rfl, fun j x hx => by
  have h1 := upN_pre hx
  have h2 := (List.getElem?_eq_some_iff.1 h1).1
  rw [add_own, blk_at h h2, List.getD_eq_getElem?_getD, h1]
  rfl⟩⟩
def RowP (w : World) (n : Nat) (zs : List Int) (e : Ending) (w' : World) : Prop :=
 ∃ A c, e = .returned (.slice A n c) ∧ RdI w' A n zs ∧ Below w.heap.size w w'
theorem hill_any (m : Nat) (w : World) (h1 : 1 ≤ m) (hm : m ≤ 127) :
  Calls Tryz.prog 135 #[.int .i64 (m : Int)] w (RowP w (2 * m + 1) (smN m)) := by
 obtain ⟨i0, hi0, hz0, hz1, hz2⟩ := info_partsT info_intT
 obtain ⟨M, hM⟩ : ∃ M : Nat, M = m + 1 := ⟨_, rfl⟩
 have hmk : ∀ u : World, (Instr.makeSlice 23 (.int .i64 (M : Int)) (.int .i64 (M : Int))).run Tryz.prog u = .ok (.slice (some ⟨u.heap.size, 0, none⟩) M M) (u.alloc (.cells (madeCells #[.int .i64 0] M) 3)) := fun u =>
  run_make_row' (P := Tryz.prog) 23 3 (.int .i64 0) 8 Tryz.underlying23 info_int rfl .i64 .i64 M (by omega) (by omega) u
 have HB := Lib.hid (show Blk (w.alloc (.cells (madeCells #[.int .i64 0] M) 3)) w.heap.size 3 (icells (upK M 0)) by rw [upK_zero, icells_zero]; exact Blk.new w _ _)
 have HW := Lib.hid ((Below.refl w.heap.size w).alloc (Nat.le_refl _) (.cells (madeCells #[.int .i64 0] M) 3))
 have e1 : (m : Int) + 1 = (M : Int) := by omega
 have w1 : IntKind.i64.wrap (M : Int) = (M : Int) := IntWalk.i64_in _ (by omega)
 have HMM := Lib.hid hM
 have hM2 : M ≤ 128 := by omega
 have hM3 : m < M := by omega
 clear hM
 go_enter Tryz.func135, Tryz.ntmps135
 go_wp2
 clear hmk
 generalize w.alloc (.cells (madeCells #[.int .i64 0] M) 3) = w0 at HB HW ⊢
 obtain ⟨g, hg⟩ : ∃ g, g = w.heap.size := ⟨_, rfl⟩
 rw [← hg] at HB ⊢
 have HG := Lib.hid hg
 clear hg
 go_loopw [4, 11] (fun _ vk wr => ∃ k : Nat, vk = .int .i64 (k : Int) ∧ k ≤ M ∧ Hid (Blk wr g 3 (icells (upK M k)) ∧ Below w.heap.size w wr)) (fun _ vk _ => M - (intOf vk).toNat)
 case atStart => exact ⟨0, rfl, by omega, Lib.hid ⟨HB.out, HW.out⟩⟩
 case round =>
  obtain ⟨k, rfl, hk, HZ⟩ := hrel
  clear HB HW
  by_cases hlt : k < M
  ·have kM : (k : Int) < (M : Int) := by omega
   have c1 := blk_at HZ.out.1 (i := k) (by rw [upK_length]; exact hlt)
   have f1 := Blk.frozen HZ.out.1 k
   have w3 : IntKind.i64.wrap ((k : Int) + 1) = (k : Int) + 1 := IntWalk.i64_in _ (by omega)
   go_wp2
   clear c1 f1
   go_roundw
   case rel =>
    refine ⟨k + 1, by go_num, by omega, Lib.hid ⟨?_, HZ.out.2.setCell (by rw [HG.out]; exact Nat.le_refl _) _⟩⟩
    rw [← upK_set]
    exact blk_put HZ.out.1 k _
   case measure => simp [intOf]; omega
  ·have kM : ¬ (k : Int) < (M : Int) := by omega
   obtain rfl : k = M := by omega
   have HB2 := Lib.hid (show Blk wr g 3 (icells (upN (m + 1))) by have h := HZ.out.1; rw [upK_all, HMM.out] at h; exact h)
   have HR2 := Lib.hid (rdI_up HB2.out)
   have HW2 := Lib.hid HZ.out.2
   have b1 : (m : Int) ≤ (k : Int) := by omega
   have b0 : (0 : Int) ≤ (m : Int) := by omega
   clear HZ w1 e1
   go_wp2_with fail
   refine (clone_any ⟨g, 0, none⟩ m _ (upN m) wr HR2 h1 (by omega)).mono ?_
   rintro e w3 ⟨g3, c3, rfl, hg3, ho3, hb3⟩
   have HG3 := Lib.hid (show g < w3.heap.size ∧ g < g3 from ⟨Nat.lt_of_lt_of_le HB2.out.lt hb3.size, Nat.lt_of_lt_of_le HB2.out.lt hg3⟩)
   have HB3 := Lib.hid (HB2.out.below hb3 HB2.out.lt)
   have HO3 := Lib.hid ho3
   have HW3 := Lib.hid (HW2.out.trans (hb3.mono HW2.out.size))
   clear hg3 ho3 hb3 HB2 HR2
   go_wp2_with fail
   refine (reverse_any _ g3 m c3 (upN m) w3 HO3 (by omega)).mono ?_
   rintro e w4 ⟨rfl, ho4, hg4⟩
   have HB4 := Lib.hid (HB3.out.only hg4 (fun e => by have := HG3.out.2; omega))
   have HO4 := Lib.hid ho4
   have HW4 := Lib.hid (HW3.out.grown hg4 HW3.out.size (fun k hk => by injection hk with hk; have := HG3.out.2; have := HG.out; omega))
   obtain ⟨A5, c5, hA, hr5⟩ := own_rdI (zs := (upN m).reverse) HO4.out
   injection hA with hA1 hA2 hA3
   subst hA1 hA3
   have HR5 := Lib.hid hr5
   have HLN := Lib.hid (show ((upN m).reverse.map iV).length = m * 1 by rw [List.length_map, List.length_reverse, upN_length, Nat.mul_one])
   have HOB := Lib.hid (own_blkI (n := k) (B := w.heap.size) HB4.out (by rw [upN_length]; exact HMM.out.symm) (by rw [HG.out]; exact Nat.le_refl _) (by unfold maxLen; omega))
   clear hr5 ho4 hg4 HB3 HO3 HW3 HW2
   go_wp2_with (at_builtin; refine wpList_append_own_at _ rfl (.tmp 26) (.tmp 27) 23 rfl w.heap.size 3 i0 _ 1 8 Tryz.underlying23 hi0 hz0 hz1 hz2 rfl (by omega) _ k _ rfl HOB.out ⟨g3, 0, none⟩ m c3 ((upN m).reverse.map iV) rfl HLN.out (fun j u hu => by (rw [List.getElem?_map] at hu; obtain ⟨x, hx, rfl⟩ := Option.map_eq_some_iff.1 hu; obtain ⟨ad', e, hc⟩ := HR5.out.2 (by omega); injection e with e; subst e; exact hc j x hx)) (iV_one _) (by unfold maxLen; omega) (by omega) HW4.out.size ?_; intro va w6 ho6 hg6 _ _; rw [← List.map_append, hill_is] at ho6; have HO6 := Lib.hid ho6; have HW6 := Lib.hid (HW4.out.grown (show World.grownBy _ w6 (some g) from hg6) HW4.out.size (fun k hk => by injection hk with hk; have := HG.out; omega)); clear ho6 hg6)
   obtain ⟨A6, c6, hv6, hr6⟩ := own_rdI HO6.out
   subst hv6
   have e6 : k + m = 2 * m + 1 := by have := HMM.out; omega
   rw [e6] at hr6 ⊢
   go_ret
   exact ⟨A6, c6, rfl, hr6, HW6.out⟩
open Yr (Stp kT cT lT smT smN smN_ok smN_length kT_ok cT_ok lT_ok smT_ok tabK)
theorem MV.addF {w0 w1 w : World} {L : List Ent} {g : Nat} {T : TypeId} {cs : Array Value} (h : MV w0 w1 L w) (hb : Blk w g T cs) (hB : w0.heap.size ≤ g) (hn : ∀ e ∈ L, e.1 < g) : MV w0 w ((g, T, cs) :: L) w := by
 refine ⟨h.1, fun e he => ?_, fun e he => ?_, .cons (fun e he => Nat.ne_of_gt (hn e he)) h.2.2.2.1, MF.refl _ _⟩
 ·rcases List.mem_cons.1 he with rfl | he
  ·exact hb
  ·exact h.2.1 e he
 ·rcases List.mem_cons.1 he with rfl | he
  ·exact hB
  ·exact h.2.2.1 e he
def TelR {S : Type} (w0 : World) (Inv : S → List Ent → World → Prop) (K : List Ent) (o : Option S) (e : Ending) (u : World) : Prop :=
 match o with
 | some s => e = .returned (.int .i64 0) ∧ Inv s K u
 | none => ∃ E : Int, (E == 0) = false ∧ e = .returned (.int .i64 E) ∧ Below w0.heap.size w0 u
structure TelOk {S : Type} (w0 : World) (g : Nat) (fs lb : Array Value) (gF N : Nat) (TF : TypeId) (st : Stp S) (fr : S → List Int) (pos : S → Nat) (Inv : S → List Ent → World → Prop) : Prop where
 enters : ∀ (args : Array Value) (u : World), (callFunc g args).run Tryz.prog u = .ok (.enter g args) u
 add : ∀ {s K u u' L}, Inv s K u → Below u.heap.size u u' → (∀ e ∈ L, u.heap.size ≤ e.1 ∧ Blk u' e.1 e.2.1 e.2.2) → Inv s (L ++ K) u'
 sub : ∀ {s K K' u}, Inv s K u → K'.Sublist K → Inv s K' u
 get : ∀ {s K u e}, Inv s K u → e ∈ K → Blk u e.1 e.2.1 e.2.2
 row : ∀ {s K u}, Inv s K u → Blk u gF TF (icells (fr s)) ∧ (fr s).length = N ∧ Below w0.heap.size w0 u
 keeps : ∀ {s xs i fst s'}, st s xs i fst = some s' → ∀ j, j ≠ i → (fr s').getD j 0 = (fr s).getD j 0
 fwd : ∀ {s xs i fst s'}, pos s ≤ i → st s xs i fst = some s' → pos s' ≤ i + 1
 tells : ∀ (s : S) (K : List Ent) (u : World) (gt : Nat) (xs : List Int) (i : Nat) (fst : Int), Inv s K u → (gt, 3, icells xs) ∈ K → okF xs = true → xs.length ≤ 300 → i < N → -1000 ≤ fst → fst ≤ 1000 → pos s ≤ i →
  Calls Tryz.prog g (fs ++ (#[.agg #[.slice (some ⟨gt, 0, none⟩) xs.length xs.length], .pointer (some ⟨gF, i, none⟩), .int .i64 fst] ++ lb)) u (TelR w0 Inv K (st s xs i fst))
section
variable {S : Type} {w0 : World} {g : Nat} {fs lb : Array Value} {gF N : Nat} {TF : TypeId} {st : Stp S} {fr : S → List Int} {pos : S → Nat} {Inv : S → List Ent → World → Prop}
theorem TelOk.mv (h : TelOk w0 g fs lb gF N TF st fr pos Inv) {s : S} {K : List Ent} {u w1 u' : World} {L : List Ent} (hi : Inv s K u) (hm : MV u w1 L u') : Inv s (L ++ K) u' :=
 h.add hi hm.1 fun e he => ⟨hm.2.2.1 e he, hm.2.1 e he⟩
theorem TelOk.next (h : TelOk w0 g fs lb gF N TF st fr pos Inv) {s : S} {K : List Ent} {u u' : World} (hi : Inv s K u) (hb : Below u.heap.size u u') : Inv s K u' :=
 h.add (L := []) hi hb fun e he => absurd he (by simp)
theorem TelR.sub (h : TelOk w0 g fs lb gF N TF st fr pos Inv) {K K' : List Ent} {o : Option S} {e : Ending} {u : World} (hr : TelR w0 Inv K o e u) (hs : K'.Sublist K) : TelR w0 Inv K' o e u := by
 cases o with
 | none => exact hr
 | some s => exact ⟨hr.1, h.sub hr.2 hs⟩
theorem TelOk.go (h : TelOk w0 g fs lb gF N TF st fr pos Inv) {s : S} {K L : List Ent} {w w1 u : World} (hi : Inv s K w) (hm : MV w w1 L u) {gt n : Nat} {xs : List Int} (hin : (gt, 3, icells xs) ∈ L) (hn : xs.length = n) (ho : okF xs = true) (hl : n ≤ 300) (i : Nat) (fst : Int) (hN : i < N) (h1 : -1000 ≤ fst) (h2 : fst ≤ 1000) (h3 : pos s ≤ i) :
  Calls Tryz.prog g (fs ++ (#[.agg #[.slice (some ⟨gt, 0, none⟩) n n], .pointer (some ⟨gF, i, none⟩), .int .i64 fst] ++ lb)) u (TelR w0 Inv K (st s xs i fst)) := by
 subst hn
 exact (h.tells s (L ++ K) u gt xs i fst (h.mv hi hm) (List.mem_append_left K hin) ho hl hN h1 h2 h3).mono fun e u' hr => hr.sub h (List.sublist_append_right L K)
theorem new_tab {w w1 u u' : World} {L : List Ent} {gt : Nat} {xs : List Int} (hm : MV w w1 L u) (hg : u.heap.size ≤ gt) (hb : Below u.heap.size u u') (hx : Blk u' gt 3 (icells xs)) : MV w u' ((gt, 3, icells xs) :: L) u' :=
 (hm.below hb).addF hx (Nat.le_trans hm.1.size hg) fun e he => Nat.lt_of_lt_of_le (hm.2.1 e he).lt hg
theorem tkind_any (s : S) (K : List Ent) (w : World) (hT : Hid (TelOk w0 g fs lb gF N TF st fr pos Inv)) (hi : Hid (Inv s K w)) (hN : 0 < N) (hp : pos s ≤ 0) :
  Calls Tryz.prog 66 #[.pointer (some ⟨gF, 0, none⟩), .func (.func g) fs lb] w (TelR w0 Inv K (st s kT 0 0)) := by
 have eg := hT.out.enters
 have HM := Lib.hid (MV.start w)
 have hl : kT.length = 4 := by decide +kernel
 have HC := Lib.hid (fun (L : List Ent) (w1 u : World) (gt : Nat) (hm : MV w w1 L u) (hin : (gt, 3, icells kT) ∈ L) => hT.out.go hi.out hm hin hl kT_ok (by omega) 0 0 hN (by omega) (by omega) hp)
 generalize st s kT 0 0 = o at HC ⊢
 go_enter Tryz.func66, Tryz.ntmps66
 go_wp2_with (first | (refine aVn ?_; first | (have q:dV HM = 0:=rfl;clear q HM;intro g1 u1 HG1 HM) | (have q:dV HM = 1:=rfl;clear q HM;intro g2 u2 HG2 HM) | (have q:dV HM = 2:=rfl;clear q HM;intro g3 u3 HG3 HM) | (have q:dV HM = 3:=rfl;clear q HM;intro g4 u4 HG4 HM)) | (refine aVl ?_) | (refine aVs ?_; clear HM; intro us HM; dsimp only [List.set] at HM) | (refine aZe ?_))
 have HM1 := Lib.hid (HM.out.skip (.cells #[.int .i64 6, .int .i64 9, .int .i64 1] 3))
 have HR1 := Lib.hid (show RdI (w.alloc (.cells #[.int .i64 6, .int .i64 9, .int .i64 1] 3)) (some ⟨w.heap.size, 0, none⟩) 3 Yr.kindN from RdI.of_blk (t := 3) (zs := Yr.kindN) (Blk.new w _ _) rfl)
 clear HM
 generalize w.alloc (.cells #[.int .i64 6, .int .i64 9, .int .i64 1] 3) = w1 at HR1 HM1 ⊢
 refine (new_ok _ 3 3 Yr.kindN w1 HR1 (by decide +kernel)).mono ?_
 rintro e w2 ⟨gt, rfl, hg, hx, hb⟩
 have HM := Lib.hid (new_tab HM1.out hg hb hx)
 rw [show acc Yr.kindN = kT from rfl] at HM ⊢
 rw [hl]
 unfold freqV
 clear HM1 HR1 hg hb hx
 go_wp2_with (first | (refine aVn ?_; first | (have q:dV HM = 0:=rfl;clear q HM;intro g1 u1 HG1 HM) | (have q:dV HM = 1:=rfl;clear q HM;intro g2 u2 HG2 HM) | (have q:dV HM = 2:=rfl;clear q HM;intro g3 u3 HG3 HM) | (have q:dV HM = 3:=rfl;clear q HM;intro g4 u4 HG4 HM)) | (refine aVl ?_) | (refine aVs ?_; clear HM; intro us HM; dsimp only [List.set] at HM) | (refine aZe ?_))
 have HC2 := Lib.hid (HC.out _ _ us gt HM.out (.tail _ (.head _)))
 clear HM HC hl
 cases o with
 | some s' =>
  refine HC2.out.mono ?_
  intro e u hr
  have HR := Lib.hid hr
  obtain ⟨rfl, -⟩ := hr
  clear HC2
  go_wp2
  go_ret
  exact HR.out
 | none =>
  refine HC2.out.mono ?_
  intro e u hr
  have HR := Lib.hid hr
  obtain ⟨E, -, rfl, -⟩ := hr
  clear HC2
  go_wp2
  go_ret
  exact HR.out
end
open Yr (Stp kT cT lT smT smN smN_ok smN_length kT_ok cT_ok lT_ok smT_ok tabK lvT lvA lvT_step lvT_no)
def LtP (w : World) (xs : List Int) (fst : Int) (e : Ending) (w' : World) : Prop :=
 ∃ gt n, e = .returned (.tuple #[.agg #[.slice (some ⟨gt, 0, none⟩) n n], .int .i64 fst, .int .i64 0]) ∧ xs.length = n ∧ w.heap.size ≤ gt ∧ Blk w' gt 3 (icells xs) ∧ Below w.heap.size w w'
theorem ltab_one (a : Int) (w : World) (h0 : 0 ≤ a) (h1 : a ≤ 255) :
  Calls Tryz.prog 92 #[.int .i64 1, .int .i64 a] w (LtP w cT (a - 8)) := by
 have HM := Lib.hid (MV.start w)
 have w1 : IntKind.i64.wrap (a - 8) = a - 8 := i64_w (by omega) (by omega)
 have hl : cT.length = 17 := by decide +kernel
 go_enter Tryz.func92, Tryz.ntmps92
 go_wp2_with (first | (refine aVn ?_; first | (have q:dV HM = 0:=rfl;clear q HM;intro g1 u1 HG1 HM) | (have q:dV HM = 1:=rfl;clear q HM;intro g2 u2 HG2 HM) | (have q:dV HM = 2:=rfl;clear q HM;intro g3 u3 HG3 HM) | (have q:dV HM = 3:=rfl;clear q HM;intro g4 u4 HG4 HM)) | (refine aVl ?_) | (refine aVs ?_; clear HM; intro us HM; dsimp only [List.set] at HM) | (refine aZe ?_))
 have HM1 := Lib.hid (HM.out.skip (.cells #[.int .i64 1, .int .i64 1, .int .i64 2, .int .i64 3, .int .i64 5, .int .i64 9, .int .i64 16, .int .i64 30, .int .i64 60, .int .i64 30, .int .i64 16, .int .i64 9, .int .i64 5, .int .i64 3, .int .i64 2, .int .i64 1] 3))
 have HR1 := Lib.hid (show RdI (u1.alloc (.cells #[.int .i64 1, .int .i64 1, .int .i64 2, .int .i64 3, .int .i64 5, .int .i64 9, .int .i64 16, .int .i64 30, .int .i64 60, .int .i64 30, .int .i64 16, .int .i64 9, .int .i64 5, .int .i64 3, .int .i64 2, .int .i64 1] 3)) (some ⟨u1.heap.size, 0, none⟩) 16 Yr.chgN from RdI.of_blk (t := 3) (zs := Yr.chgN) (Blk.new u1 _ _) rfl)
 clear HM
 generalize u1.alloc (.cells #[.int .i64 1, .int .i64 1, .int .i64 2, .int .i64 3, .int .i64 5, .int .i64 9, .int .i64 16, .int .i64 30, .int .i64 60, .int .i64 30, .int .i64 16, .int .i64 9, .int .i64 5, .int .i64 3, .int .i64 2, .int .i64 1] 3) = w1 at HR1 HM1 ⊢
 refine (new_ok _ 16 16 Yr.chgN w1 HR1 (by decide +kernel)).mono ?_
 rintro e w2 ⟨gt, rfl, hg, hx, hb⟩
 have HM := Lib.hid (new_tab HM1.out hg hb hx)
 have HGT := Lib.hid (Nat.le_trans HM1.out.1.size hg)
 rw [show acc Yr.chgN = cT from rfl] at HM ⊢
 rw [hl]
 unfold freqV
 clear HM1 HR1 hg hb hx
 go_wp2_with (first | (refine aVn ?_; first | (have q:dV HM = 0:=rfl;clear q HM;intro g1 u1 HG1 HM) | (have q:dV HM = 1:=rfl;clear q HM;intro g2 u2 HG2 HM) | (have q:dV HM = 2:=rfl;clear q HM;intro g3 u3 HG3 HM) | (have q:dV HM = 3:=rfl;clear q HM;intro g4 u4 HG4 HM)) | (refine aVl ?_) | (refine aVs ?_; clear HM; intro us HM; dsimp only [List.set] at HM) | (refine aZe ?_))
 have c0 := HM.out.cell (k := 0) (v := .slice (some ⟨gt, 0, none⟩) 17 17) (by exact q7m (e := (g1, 130, #[.slice (some ⟨gt, 0, none⟩) 17 17]))) rfl
 refine bodyPost_ret (v := .tuple #[.agg #[.slice (some ⟨gt, 0, none⟩) 17 17], .int .i64 (a - 8), .int .i64 0]) (by simp [results, Tryz.results92, go_sem, c0]) rfl ⟨gt, 17, rfl, hl, HGT.out, HM.out.get (by exact q7m), HM.out.1⟩
theorem ltab_not (K a : Int) (w : World) (hK : ¬ K = 1) :
  Calls Tryz.prog 92 #[.int .i64 K, .int .i64 a] w (LtP w lT 0) := by
 have HM := Lib.hid (MV.start w)
 have a1 : (K == 1) = false := by simpa using hK
 have hl : lT.length = 257 := by decide +kernel
 clear hK
 go_enter Tryz.func92, Tryz.ntmps92
 go_wp2_with (first | (refine aVn ?_; first | (have q:dV HM = 0:=rfl;clear q HM;intro g1 u1 HG1 HM) | (have q:dV HM = 1:=rfl;clear q HM;intro g2 u2 HG2 HM) | (have q:dV HM = 2:=rfl;clear q HM;intro g3 u3 HG3 HM) | (have q:dV HM = 3:=rfl;clear q HM;intro g4 u4 HG4 HM)) | (refine aVl ?_) | (refine aVs ?_; clear HM; intro us HM; dsimp only [List.set] at HM) | (refine aZe ?_))
 refine (even_ok 256 _ (by omega) (by omega)).mono ?_
 rintro e w2 ⟨gt, rfl, hg, hx, hb⟩
 have HGT := Lib.hid (Nat.le_trans HM.out.1.size hg)
 have HM2 := Lib.hid (new_tab HM.out hg hb hx)
 clear HM hg hb hx
 have HM := HM2
 clear HM2
 rw [show acc (List.replicate 256 1) = lT from rfl] at HM ⊢
 rw [hl]
 unfold freqV
 go_wp2_with (first | (refine aVn ?_; first | (have q:dV HM = 0:=rfl;clear q HM;intro g1 u1 HG1 HM) | (have q:dV HM = 1:=rfl;clear q HM;intro g2 u2 HG2 HM) | (have q:dV HM = 2:=rfl;clear q HM;intro g3 u3 HG3 HM) | (have q:dV HM = 3:=rfl;clear q HM;intro g4 u4 HG4 HM)) | (refine aVl ?_) | (refine aVs ?_; clear HM; intro us HM; dsimp only [List.set] at HM) | (refine aZe ?_))
 have c0 := HM.out.cell (k := 0) (v := .slice (some ⟨gt, 0, none⟩) 257 257) (by exact q7m (e := (g1, 130, #[.slice (some ⟨gt, 0, none⟩) 257 257]))) rfl
 refine bodyPost_ret (v := .tuple #[.agg #[.slice (some ⟨gt, 0, none⟩) 257 257], .int .i64 0, .int .i64 0]) (by simp [results, Tryz.results92, go_sem, c0]) rfl ⟨gt, 257, rfl, hl, HGT.out, HM.out.get (by exact q7m), HM.out.1⟩
theorem ltab_any (K a : Int) (w : World) (h0 : 0 ≤ a) (h1 : a ≤ 255) :
  Calls Tryz.prog 92 #[.int .i64 K, .int .i64 a] w (LtP w (tabK K) (if K = 1 then a - 8 else 0)) := by
 unfold tabK
 by_cases h : K = 1
 ·subst h
  rw [if_pos rfl, if_pos rfl]
  exact ltab_one a w h0 h1
 ·rw [if_neg h, if_neg h]
  exact ltab_not K a w h
theorem tabK_ok (K : Int) : okF (tabK K) = true ∧ (tabK K).length ≤ 300 := by
 unfold tabK
 split
 ·exact ⟨cT_ok, by rw [show cT.length = 17 by decide +kernel]; omega⟩
 ·exact ⟨lT_ok, by rw [show lT.length = 257 by decide +kernel]; omega⟩
def FrQ (gF gP : Nat) (F p : List Int) (u : World) : Prop := Blk u gF 57 (icells F) ∧ Blk u gP 29 (icells p)
section
variable {S : Type} {w0 : World} {g : Nat} {fs lb : Array Value} {gF : Nat} {st : Stp S} {fr : S → List Int} {pos : S → Nat} {Inv : S → List Ent → World → Prop}
theorem TelOk.frq (h : TelOk w0 g fs lb gF 23 57 st fr pos Inv) {s : S} {gP : Nat} {p : List Int} {K L : List Ent} {w w1 u : World} (hi : Inv s ((gP, 29, icells p) :: K) w) (hm : MV w w1 L u) : FrQ gF gP (fr s) p u :=
 ⟨(h.row (h.next hi hm.1)).1, h.get (h.next hi hm.1) (.head _)⟩
theorem tlev_any (s : S) (KK : List Ent) (w : World) (p : List Int) (hT : Hid (TelOk w0 g fs lb gF 23 57 st fr pos Inv)) (hi : Hid (Inv s KK w)) (lp : p.length = 6) (hp : chkL p = true) (hpo : pos s ≤ 1) :
  Calls Tryz.prog 67 #[.pointer (some ⟨gF, 0, none⟩), .agg (icells p), .func (.func g) fs lb] w (TelR w0 Inv KK (lvA st fr p s)) := by
 have eg := hT.out.enters
 have LP := Lib.hid lp
 have HP := Lib.hid hp
 obtain ⟨Kd, hKd⟩ : ∃ Kd, Kd = (fr s).getD 0 0 := ⟨_, rfl⟩
 have HKD := Lib.hid hKd.symm
 have HRO := Lib.hid (show lvT st Kd p (6 - 0) s = lvA st fr p s by rw [hKd]; rfl)
 generalize lvA st fr p s = o at HRO ⊢
 have HM := Lib.hid (MV.start w)
 clear lp hp hKd
 go_enter Tryz.func67, Tryz.ntmps67
 go_wp2_with (first | (refine aVn ?_; first | (have q:dV HM = 0:=rfl;clear q HM;intro g1 u1 HG1 HM) | (have q:dV HM = 1:=rfl;clear q HM;intro g2 u2 HG2 HM) | (have q:dV HM = 2:=rfl;clear q HM;intro g3 u3 HG3 HM) | (have q:dV HM = 3:=rfl;clear q HM;intro g4 u4 HG4 HM) | (have q:dV HM = 4:=rfl;clear q HM;intro g5 u5 HG5 HM) | (have q:dV HM = 5:=rfl;clear q HM;intro g6 u6 HG6 HM) | (have q:dV HM = 6:=rfl;clear q HM;intro g7 u7 HG7 HM) | (have q:dV HM = 7:=rfl;clear q HM;intro g8 u8 HG8 HM) | (have q:dV HM = 8:=rfl;clear q HM;intro g9 u9 HG9 HM)) | (refine aVl ?_) | (refine aVs ?_; clear HM; intro us HM; dsimp only [List.set] at HM) | (refine aZe ?_))
 obtain ⟨gP, hgP⟩ : ∃ gP, gP = g1 := ⟨_, rfl⟩
 subst hgP
 have HI0 := Lib.hid (hT.out.mv hi.out HM.out)
 clear HM hi
 go_loopw [12] (fun vi wr => ∃ (k : Nat) (s' : S), vi = .int .i64 (k : Int) ∧ k ≤ 6 ∧ pos s' ≤ 1 + k ∧ Hid (Inv s' ((gP, 29, icells p) :: KK) wr) ∧ Hid ((fr s').getD 0 0 = Kd) ∧ Hid (lvT st Kd p (6 - k) s' = o)) (fun vi _ => 6 - (intOf vi).toNat)
 case atStart => exact ⟨0, s, rfl, by omega, hpo, HI0, HKD, HRO⟩
 case round =>
  clear HI0 HKD HRO
  obtain ⟨k, s', rfl, hk, hpk, HI, HKD, HRO⟩ := hrel
  by_cases hlt : k < 6
  ·have k6 : (k : Int) < 6 := by omega
   have HM := Lib.hid ((MV.start wr).drew)
   have HF := Lib.hid (fun (L : List Ent) (w1 u : World) (hm : MV wr w1 L u) => hT.out.frq HI.out hm)
   have HLF := Lib.hid (hT.out.row HI.out).2.1
   have HC1 := Lib.hid (fun u (hu : FrQ gF gP (fr s') p u) => (blk_at hu.1 (i := 0) (by rw [HLF.out]; decide)).trans (by rw [HKD.out] : _ = some (Value.int .i64 Kd)))
   have HC2 := Lib.hid (fun u (hu : FrQ gF gP (fr s') p u) => blk_at hu.2 (i := k) (by rw [LP.out]; exact hlt))
   obtain ⟨y1, y2⟩ := inR_bd HP.out (by omega) (by omega) k
   obtain ⟨a, ha⟩ : ∃ a, p.getD k 0 = a := ⟨_, rfl⟩
   rw [ha] at HC2 y1 y2
   obtain ⟨fst, hfst⟩ : ∃ fst, fst = (if Kd = 1 then a - 8 else 0) := ⟨_, rfl⟩
   have f1 : -1000 ≤ fst ∧ fst ≤ 1000 := by rw [hfst]; split <;> omega
   have HLT := Lib.hid (fun u => ltab_any Kd a u y1 y2)
   rw [← hfst] at HLT
   have HFST := Lib.hid (show (if Kd = 1 then p.getD k 0 - 8 else 0) = fst by rw [ha, hfst])
   have HTK := Lib.hid (tabK_ok Kd)
   generalize hxs : tabK Kd = xs at HLT HTK
   have HXS := Lib.hid hxs
   clear hxs ha hfst
   go_wp2_with fail
   refine wp_region_held_drew (S := FrQ gF gP (fr s') p) (by kernel_rfl) (HF.out _ _ _ HM.out) (fun hHeld => ?_)
   generalize World.drew _ = wd at HM hHeld ⊢
   (refine tk 0 rfl (yi_free rfl (fun u => rfl)) ?_)
   (refine tk 1 rfl (yi_free rfl (fun u => rfl)) ?_)
   (refine tkg 2 (.pointer (some ⟨gF, 0, none⟩)) rfl ?_)
   (refine tk 3 rfl (yi_cell rfl _ rfl rfl (HC1).out) ?_)
   (refine tk 4 rfl (yi_free rfl (fun u => rfl)) ?_)
   (refine tkg 5 (.pointer (some ⟨gP, k, none⟩)) rfl ?_)
   (refine tk 6 rfl (yi_cell rfl _ rfl rfl (HC2).out) ?_)
   refine wpAnyH_ready (rs := [7, 12]) (by kernel_rfl) (by simp) ?_; refine AllReadyH.cons rfl (fun K hK => ?_) (AllReadyH.cons rfl (fun K hK => ?_) (AllReadyH.nil))
   rotate_left
   focus
    rw [if_pos (by rfl)]
    refine ov_alloc _ rfl rfl (by exact q7r) HM ?_
    intro g8 w5 HM5 HW5 _
    clear HM hHeld
    have HM := HM5
    clear HM5 HW5
    refine hK.out _ _ (HF.out _ _ _ HM.out) (fun hHeld => ?_)
    clear hK K
    (try simp only [Act.put, qz1, qz2, qz3])
    refine wpAnyH_ready (rs := [7]) (by kernel_rfl) (by simp) ?_; refine AllReadyH.cons rfl (fun K hK => ?_) (AllReadyH.nil)
    rw [if_pos (by rfl)]; go_simp
    refine (HLT.out _).mono ?_
    rintro e w3 ⟨gt, n, rfl, hn, hg, hx, hb⟩
    have HM3 := Lib.hid (new_tab HM.out hg hb hx)
    have HN := Lib.hid hn
    clear HM hg hx hb hn hHeld
    have HM := HM3
    clear HM3
    go_wp2_with fail
    refine hK.out _ _ (HF.out _ _ _ HM.out) (fun hHeld => ?_)
    clear hK K
    (try simp only [Act.put, qz1, qz2, qz3])
    (refine tkv 8 (.tuple #[.agg #[.slice (some ⟨gt, 0, none⟩) n n], .int .i64 fst, .int .i64 0]) rfl ?_)
    (refine tkv 9 (.agg #[.slice (some ⟨gt, 0, none⟩) n n]) rfl ?_)
    (refine tkv 10 (.int .i64 fst) rfl ?_)
    (refine tkv 11 (.int .i64 0) rfl ?_)
    refine wpAnyH_ready (rs := [13]) (by kernel_rfl) (by simp) ?_; refine AllReadyH.cons rfl (fun K hK => ?_) (AllReadyH.nil)
    rw [if_pos (by rfl)]; refine ov_store _ _ _ rfl rfl rfl (by exact q7r) HM (by exact q7i) (by exact q7s) (by exact q7s) (by exact q7o) rfl ?_; clear HM; intro us HM; dsimp only [List.set] at HM
    refine hK.out _ _ (HF.out _ _ _ HM.out) (fun hHeld => ?_)
    clear hK K
    (try simp only [Act.put, qz1, qz2, qz3])
    (refine tkv 14 (.int .i64 fst) rfl ?_)
    (refine tkv 15 (.int .i64 0) rfl ?_)
    refine wpAnyH_done (by kernel_rfl) ?_ _
   rotate_left
   focus
    rw [if_pos (by rfl)]; go_simp
    refine (HLT.out _).mono ?_
    rintro e w3 ⟨gt, n, rfl, hn, hg, hx, hb⟩
    have HM3 := Lib.hid (new_tab HM.out hg hb hx)
    have HN := Lib.hid hn
    clear HM hg hx hb hn hHeld
    have HM := HM3
    clear HM3
    go_wp2_with fail
    refine hK.out _ _ (HF.out _ _ _ HM.out) (fun hHeld => ?_)
    clear hK K
    (try simp only [Act.put, qz1, qz2, qz3])
    (refine tkv 8 (.tuple #[.agg #[.slice (some ⟨gt, 0, none⟩) n n], .int .i64 fst, .int .i64 0]) rfl ?_)
    (refine tkv 9 (.agg #[.slice (some ⟨gt, 0, none⟩) n n]) rfl ?_)
    (refine tkv 10 (.int .i64 fst) rfl ?_)
    (refine tkv 11 (.int .i64 0) rfl ?_)
    refine wpAnyH_ready (rs := [12]) (by kernel_rfl) (by simp) ?_; refine AllReadyH.cons rfl (fun K hK => ?_) (AllReadyH.nil)
    rw [if_pos (by rfl)]
    refine ov_alloc _ rfl rfl (by exact q7r) HM ?_
    intro g8 w5 HM5 HW5 _
    clear HM hHeld
    have HM := HM5
    clear HM5 HW5
    refine hK.out _ _ (HF.out _ _ _ HM.out) (fun hHeld => ?_)
    clear hK K
    (try simp only [Act.put, qz1, qz2, qz3])
    refine wpAnyH_ready (rs := [13]) (by kernel_rfl) (by simp) ?_; refine AllReadyH.cons rfl (fun K hK => ?_) (AllReadyH.nil)
    rw [if_pos (by rfl)]; refine ov_store _ _ _ rfl rfl rfl (by exact q7r) HM (by exact q7i) (by exact q7s) (by exact q7s) (by exact q7o) rfl ?_; clear HM; intro us HM; dsimp only [List.set] at HM
    refine hK.out _ _ (HF.out _ _ _ HM.out) (fun hHeld => ?_)
    clear hK K
    (try simp only [Act.put, qz1, qz2, qz3])
    (refine tkv 14 (.int .i64 fst) rfl ?_)
    (refine tkv 15 (.int .i64 0) rfl ?_)
    refine wpAnyH_done (by kernel_rfl) ?_ _
   all_goals
    clear hHeld HC1 HC2 HF HLT
    go_wp2_with fail
    refine wp_region_held_drew (S := fun _ => True) (by kernel_rfl) trivial (fun hHeld => ?_)
    have HM2 := Lib.hid HM.out.drew
    clear HM
    have HM := HM2
    clear HM2
    generalize World.drew _ = wd2 at HM hHeld ⊢
    (refine tkv 0 (.func (.func g) fs lb) rfl ?_)
    (refine tk 2 rfl (yi_free rfl (fun u => rfl)) ?_)
    (refine tk 3 rfl (yi_free rfl (fun u => rfl)) ?_)
    (refine tk 4 rfl (yi_free rfl (fun u => rfl)) ?_)
    (refine tkg 5 (.pointer (some ⟨gF, 1, none⟩)) rfl ?_)
    (refine tkg 6 (.pointer (some ⟨gF, 1 + k, none⟩)) rfl ?_)
    (refine tkv 7 (.int .i64 fst) rfl ?_)
    have HLD := Lib.hid (run_load_blk rowFreq (HM.out.get (by exact q7m (e := (g8, 130, #[.slice (some ⟨gt, 0, none⟩) n n])))) rfl)
    refine wpAnyH_ready (rs := [1]) (by kernel_rfl) (by simp) ?_; refine AllReadyH.cons rfl (fun K hK => ?_) (AllReadyH.nil)
    rw [if_pos (by rfl)]; refine ov_load _ _ rfl rfl (HLD.out) ?_
    refine hK.out _ _ trivial (fun hHeld => ?_)
    clear hK K
    (try simp only [Act.put, qz1, qz2, qz3])
    refine wpAnyH_ready (rs := [8]) (by kernel_rfl) (by simp) ?_; refine AllReadyH.cons rfl (fun K hK => ?_) (AllReadyH.nil)
    rw [if_pos (by rfl)]; go_simp
    have HC := Lib.hid (hT.out.go HI.out HM.out (by exact q7m) HN.out HTK.out.1 (by have h1 := HTK.out.2; have h2 := HN.out; omega) (1 + k) fst (by omega) f1.1 f1.2 hpk)
    have HKP := Lib.hid (fun s2 (h : st s' xs (1 + k) fst = some s2) => (hT.out.keeps h 0 (by omega)).trans HKD.out)
    have HPS := Lib.hid (fun s2 (h : st s' xs (1 + k) fst = some s2) => hT.out.fwd hpk h)
    have HST := Lib.hid (fun s2 (h : st s' xs (1 + k) fst = some s2) => (lvT_step st (K := Kd) (p := p) (k := k) (s := s') (s' := s2) hlt (by rw [HXS.out, HFST.out]; exact h)).symm.trans HRO.out)
    have HNO := Lib.hid (fun (h : st s' xs (1 + k) fst = none) => (lvT_no st (K := Kd) (p := p) (k := k) (s := s') hlt (by rw [HXS.out, HFST.out]; exact h)).symm.trans HRO.out)
    generalize st s' xs (1 + k) fst = o2 at HC HKP HPS HST HNO
    clear HM HI HKD HRO HFST HTK HXS HN f1
    cases o2 with
    | some s2 =>
     have HKP2 := Lib.hid (HKP.out s2 rfl)
     have HST2 := Lib.hid (HST.out s2 rfl)
     have HPS2 := Lib.hid (HPS.out s2 rfl)
     clear HKP HPS HST HNO
     refine HC.out.mono ?_
     rintro e w5 ⟨rfl, hi5⟩
     have HI5 := Lib.hid hi5
     clear HC hi5 hHeld
     go_wp2_with fail
     refine hK.out _ _ trivial (fun hHeld => ?_)
     clear hK K
     (try simp only [Act.put, qz1, qz2, qz3])
     (refine tkv 9 (.int .i64 0) rfl ?_)
     refine wpAnyH_done (by kernel_rfl) ?_ _
     go_wp2
     go_roundw
     case rel => exact ⟨k + 1, s2, by go_num, by omega, HPS2.out, HI5, HKP2, HST2⟩
     case measure => simp [intOf]; omega
    | none =>
     have HNO2 := Lib.hid (HNO.out rfl)
     clear HKP HPS HST HNO
     refine HC.out.mono ?_
     rintro e w5 ⟨E, hE, rfl, hb5⟩
     have HB5 := Lib.hid hb5
     clear HC hb5 hHeld
     go_wp2_with fail
     refine hK.out _ _ trivial (fun hHeld => ?_)
     clear hK K
     (try simp only [Act.put, qz1, qz2, qz3])
     (refine tkv 9 (.int .i64 E) rfl ?_)
     refine wpAnyH_done (by kernel_rfl) ?_ _
     go_wp2
     go_ret
     rw [← HNO2.out]
     exact ⟨E, hE, rfl, HB5.out⟩
  ·obtain rfl : k = 6 := by omega
   have HRO2 := Lib.hid (show some s' = o from HRO.out)
   clear HRO
   go_wp2
   go_ret
   rw [← HRO2.out]
   exact ⟨rfl, hT.out.sub HI.out (List.sublist_cons_self _ _)⟩
end
end Go.Proofs.YtkdbhndegkldcaaGreatDoor.Lp
