/-
  Put and Pull of known states; whether the program is there.
-/
import Derived.Test.YtffapinabidkiaaUY
set_option linter.unusedSimpArgs false
set_option linter.unusedVariables false
/- UL -/
namespace Go.Proofs.Ytffapinabidkiaa.Lp
open Go.RowKit Go.Proofs.Ytffapinabidkiaa.Fq
theorem run_build_b1 (v : Int) (w : World) : (Instr.buildSlice 41 1 #[(0, .int .u8 v)]).run Try.prog w = .ok (.slice (some ⟨w.heap.size, 0, none⟩) 1 1) (w.alloc (.cells #[.int .u8 v] 5)) := by
  have hz : (zeroValue 5).run Try.prog w = .ok (.int .u8 0) w := by kernel_rfl
  have hs : (sizeOf 5).run Try.prog w = .ok 1 w := by kernel_rfl
  simp only [Instr.buildSlice, Sem.run_bind, run_underlying Try.underlying41 w, Result.andThen_ok, hs]
  rw [if_neg (by decide), if_neg (by decide)]
  simp only [Sem.run_bind, hz, Result.andThen_ok, Sem.run_pure, Value.cells]
  have hf : Instr.fill (fun i => some (i * 1, 1)) ((Array.range (1 * 1)).map (fun x => #[Value.int IntKind.u8 0][x % #[Value.int IntKind.u8 0].size]!)) [(0, Value.int IntKind.u8 v)] = some #[.int .u8 v] := by kernel_rfl
  rw [hf]
  rfl
section
variable {ops : Array Oper} {rest : List Oper} {o : Oper} {a : Act} {w w0 w1 : World} {Q : Exit → Act → World → Prop} {L : List Ent}
theorem wv_b1 (hgd : Region.wanted o (yielded ops a.tmps) = true) (x : Operand) (ho : o.op = .buildSlice 41 1 #[(0, x)]) {v : Int} (hx : a.eval x = .int .u8 v) (hm : Hid (MV w0 w1 L w))
    (h : ∀ g w', Hid (w1.heap.size ≤ g) → Hid (MV w0 w1 ((g, 5, #[.int .u8 v]) :: L) w') → wpList Try.prog ops Q rest (a.put o.dst (.slice (some ⟨g, 0, none⟩) 1 1)) w') : wpList Try.prog ops Q (o :: rest) a w :=
  wl_step hgd fun K hK => by
    have := hK _ _ (h w.heap.size _ (Lib.hid hm.out.2.2.2.2.1) (Lib.hid (hm.out.alloc 5 _)))
    unfold Oper.wp execOp
    simp only [ho, List.map_toArray, List.map_cons, List.map_nil, hx, Sem.run_bind, run_build_b1 v w, Result.andThen_ok, Sem.run_pure]
    exact this
theorem wv_k1 (hgd : Region.wanted o (yielded ops a.tmps) = true) (x : Operand) (ho : o.op = .buildSlice 22 1 #[(0, x)]) {s : Int} {A : Option Addr} {n c : Nat} (hx : a.eval x = .agg #[.int .i64 s, .slice A n c]) (hm : Hid (MV w0 w1 L w))
    (h : ∀ g w', Hid (w1.heap.size ≤ g) → Hid (MV w0 w1 ((g, 46, #[.int .i64 s, .slice A n c]) :: L) w') → wpList Try.prog ops Q rest (a.put o.dst (.slice (some ⟨g, 0, none⟩) 1 1)) w') : wpList Try.prog ops Q (o :: rest) a w :=
  wl_step hgd fun K hK => by
    have := hK _ _ (h w.heap.size _ (Lib.hid hm.out.2.2.2.2.1) (Lib.hid (hm.out.alloc 46 _)))
    have hb := run_build_pk s A n c w
    unfold Oper.wp execOp
    simp only [ho, List.map_toArray, List.map_cons, List.map_nil, hx, Sem.run_bind, hb, Result.andThen_ok, Sem.run_pure]
    exact this
theorem wv_str (hgd : Region.wanted o (yielded ops a.tmps) = true) (x : Operand) (ho : o.op = .convert 41 9 x) {A : Option Addr} {n c : Nat} (hx : a.eval x = .slice A n c) {bs : List Nat} (hr : Hid (Rd w A n bs)) {s : ByteArray} (hs : Hid (strOf bs = s))
    (h : wpList Try.prog ops Q rest (a.put o.dst (.string s)) w) : wpList Try.prog ops Q (o :: rest) a w :=
  wl_step hgd fun K hK => by
    have := hK _ _ h
    have hb := ex_str x ho hx hr.out
    rw [hs.out] at hb
    unfold Oper.wp
    rw [hb]
    exact this
end
/-- what stays so where only the blocks gs turn -/
def Kp (F : World → Prop) (gs : List Nat) (w : World) : Prop := ∀ u, Ch w u gs → F u
theorem Kp.now {F : World → Prop} {gs : List Nat} {w : World} (h : Kp F gs w) : F w := h w (Ch.of_below (Below.refl _ _) gs)
theorem Kp.step {F : World → Prop} {gs : List Nat} {w u : World} (h : Kp F gs w) (hc : Ch w u gs) : Kp F gs u := fun v hv => h v (hc.trans hv fun _ hx => .inl hx)
theorem Kp.call {F : World → Prop} {gs : List Nat} {w u : World} (h : Kp F gs w) (hb : Below w.heap.size w u) : Kp F gs u := h.step (Ch.of_below hb gs)
theorem Kp.walk {F : World → Prop} {gs : List Nat} {w0 w u : World} {L : List Ent} (h : Kp F gs w) (h0 : Below w0.heap.size w0 w) (hm : MV w0 w L u) (hg : ∀ e ∈ L, e.1 ∈ gs ∨ w.heap.size ≤ e.1) : Kp F gs u := h.step (Ch.mv h0 hm hg)
theorem Ch.rdI {w w' : World} {gs : List Nat} (h : Ch w w' gs) {gx n : Nat} {zs : List Int} (hr : RdI w (some ⟨gx, 0, none⟩) n zs) (hg : gx ∉ gs) : RdI w' (some ⟨gx, 0, none⟩) n zs :=
  ⟨hr.1, fun hn => by
    obtain ⟨ad, e, hc⟩ := hr.2 hn
    injection e with e
    subst e
    refine ⟨_, rfl, fun j x hx => ?_⟩
    have h1 := hc j x hx
    have hl := World.block_lt_of_cell? _ _ h1
    rw [block_of_add] at hl
    refine (World.cell?_of_block ?_).trans h1
    rw [block_of_add]
    exact h.2.2 _ hl hg⟩
/-- one packet, of one byte, built -/
theorem rdP_one {w w0 w1 : World} {L : List Ent} (hm : MV w0 w1 L w) {g gb : Nat} {s : Int} {v : Int} (hg : (g, 46, #[.int .i64 s, .slice (some ⟨gb, 0, none⟩) 1 1]) ∈ L) (hb : (gb, 5, #[.int .u8 v]) ∈ L) (h0 : 0 ≤ v) (h1 : v < 256) :
    RdP w (some ⟨g, 0, none⟩) 1 [⟨s, some ⟨gb, 0, none⟩, 1, 1, [v.toNat]⟩] := by
  have hB := hm.get hg
  have hC := hm.get hb
  refine ⟨rfl, fun _ => ⟨_, rfl, fun j x hx => ?_⟩⟩
  cases j with
  | succ j => simp at hx
  | zero =>
    have hx' : x = ⟨s, some ⟨gb, 0, none⟩, 1, 1, [v.toNat]⟩ := by simpa using hx.symm
    subst hx'
    refine ⟨by rw [add_own, hB.cell]; rfl, ?_, ⟨rfl, ?_, fun _ => ⟨_, rfl, fun j x hx => ?_⟩⟩, by show 1 ≤ maxLen; decide⟩
    · rw [add_own]
      show w.cell? ⟨g, 1, none⟩ = _
      rw [hB.cell]; rfl
    · intro y hy
      have : y = v.toNat := by simpa using hy
      omega
    · cases j with
      | succ j => simp at hx
      | zero =>
        have : x = v.toNat := by simpa using hx.symm
        subst this
        rw [add_own, hC.cell]
        show some (Value.int .u8 v) = some (byteV v.toNat)
        unfold byteV
        rw [Int.toNat_of_nonneg h0]
theorem Put_to (on : Bool) (nx dp dr : Int) (A : Option Addr) (n c : Nat) (ls : List Pk) (A2 : Option Addr) (n2 c2 : Nat) (lp : List Pk) (w : World) (q q' l : List Pq) (os : List Int) (m : Nat) (h : Hid (RdP w A n ls)) (hq : Hid (ls.map pl = q)) (h2 : Hid (RdP w A2 n2 lp)) (hl : Hid (lp.map pl = l)) (hn2 : n2 ≤ 1000) (hok : Hid (OkJ ⟨on, nx, dp, dr, q⟩ ∧ goodL l = true)) (hn : n ≤ 281474976710656)
    (hp : Hid ((putsJ ⟨on, nx, dp, dr, q⟩ l).q = q' ∧ outsJ ⟨on, nx, dp, dr, q⟩ l = os ∧ q'.length = m)) :
    Calls Try.prog 16 #[jtV on nx dp dr A n c, .slice A2 n2 c2] w fun e w' => ∃ A' c' ls' Ar, e = .returned (.tuple #[jtV on nx dp dr A' m c', .slice Ar n2 n2, .int .i64 0]) ∧ ls'.map pl = q' ∧ (∀ gs, (∀ b ∈ gs, b < w.heap.size) → Kp (fun u => RdP u A' m ls') gs w' ∧ Kp (fun u => RdI u Ar n2 os) gs w') ∧ Below w.heap.size w w' := by
  refine (Put_any on nx dp dr A n c ls A2 n2 c2 lp w h hn h2 hn2).mono ?_
  intro e w' hP
  unfold PutQ at hP
  rw [hq.out, hl.out, if_pos hok.out] at hP
  obtain ⟨g, cc, cs, os', r, he, h1, h3, h4, h5, h6, h7, h8, h9⟩ := hP
  obtain ⟨hp1, hp2, hp3⟩ := hp.out
  have hlen : l.length = n2 := by rw [← hl.out, List.length_map, h2.out.1]
  have hm : os'.length = m := by rw [← hp3, ← hp1, ← h1, List.length_map]
  rw [hlen] at he h7
  rw [hp2] at h7
  have hrd : ∀ gs : List Nat, (∀ b ∈ gs, b < w.heap.size) → Kp (fun u => RdP u (some ⟨g, 0, none⟩) m os') gs w' ∧ Kp (fun u => RdI u (some ⟨r, 0, none⟩) n2 os) gs w' := fun gs hgs => ⟨fun u hu => by
    rw [← hm]
    exact h5.apart h4 h3 h6 hu hgs, fun u hu => hu.rdI h7 fun hx => by have := hgs _ hx; omega⟩
  rw [hm] at he
  obtain ⟨s1, s2, s3, s4⟩ := putsJ_same ⟨on, nx, dp, dr, q⟩ l
  exact ⟨_, cc, os', _, he, by rw [h1, hp1], hrd, h9⟩
theorem Pull_to (on : Bool) (nx dp dr : Int) (A : Option Addr) (n c : Nat) (ls : List Pk) (w : World) (q q' : List Pq) (on' : Bool) (nx' dp' dr' r : Int) (bs : List Nat) (m nb : Nat) (h : Hid (RdP w A n ls)) (hq : Hid (ls.map pl = q)) (hok : Hid (OkJ ⟨on, nx, dp, dr, q⟩)) (hn : n ≤ 281474976710656)
    (hp : Hid (pullR ⟨on, nx, dp, dr, q⟩ = (r, bs, ⟨on', nx', dp', dr', q'⟩) ∧ q'.length = m ∧ bs.length = nb)) :
    Calls Try.prog 25 #[jtV on nx dp dr A n c] w fun e w' => ∃ A' c' ls' Ab cb, e = .returned (.tuple #[jtV on' nx' dp' dr' A' m c', .int .i64 r, .slice Ab nb cb, .int .i64 0]) ∧ ls'.map pl = q' ∧ (∀ gs, (∀ b ∈ gs, b < w.heap.size) → Kp (fun u => RdP u A' m ls') gs w' ∧ Kp (fun u => Rd u Ab nb bs) gs w') ∧ Below w.heap.size w w' := by
  refine (Pull_any on nx dp dr A n c ls w h hn).mono ?_
  intro e w' hP
  unfold PullP at hP
  rw [hq.out, if_pos hok.out] at hP
  obtain ⟨on2, nx2, dp2, dr2, A', c', os', Ab, nb', cb, bs', r', rfl, h1, h2, h3, h4, -, h5⟩ := hP
  obtain ⟨hp1, hp2, hp3⟩ := hp.out
  rw [hp1] at h1
  injection h1 with e1 h1
  injection h1 with e2 h1
  injection h1 with e3 e4 e5 e6 e7
  subst e1 e2 e3 e4 e5 e6 e7
  have hm : os'.length = m := by rw [← hp2, List.length_map]
  have hb : nb' = nb := by rw [← hp3, h3.1]
  subst hm hb
  exact ⟨A', c', os', Ab, cb, rfl, rfl, fun gs hgs => ⟨fun u hu => (h5 u gs hu hgs).1, fun u hu => (h5 u gs hu hgs).2⟩, h4⟩
end Go.Proofs.Ytffapinabidkiaa.Lp
