/-
  Own texts, laid together: CG, Gj, Fb, CH, Ha, YA, Da, Db, Na, Mv, My, Dm, Ye, Yt, Yq, Ds.
-/
import Derived.Test.YtkdbhndegkldcaaGreatDoorK2
set_option maxHeartbeats 8000000
set_option linter.unusedSimpArgs false
set_option linter.unusedVariables false
set_option maxRecDepth 100000
namespace Go.Proofs.YtkdbhndegkldcaaGreatDoor.Cd
open Go.RowKit
def ivV (low high : Nat) : Value := .agg #[.int .u32 (low : Int), .int .u32 (high : Int)]
theorem whole_any (w : World) : Calls Tryz.prog 108 #[] w fun e w' => e = .returned (ivV 0 4294967295) ∧ Below w.heap.size w w' := by
 go_enter Tryz.func108, Tryz.ntmps108
 go_wp2
 exact bodyPost_ret (v := ivV 0 4294967295) (by simp [results, Tryz.results108, go_sem, ivV]) rfl ⟨rfl, (Below.refl w.heap.size w).alloc (Nat.le_refl _) _⟩
def excT (k : Nat) : Value := .tuple #[.int .u32 (takeK k : Int), .bool (decide (k ≠ 3))]
theorem excT_3 : excT 3 = .tuple #[.int .u32 0, .bool false] := rfl
theorem excT_0 : excT 0 = .tuple #[.int .u32 0, .bool true] := rfl
theorem excT_1 : excT 1 = .tuple #[.int .u32 2147483648, .bool true] := rfl
theorem excT_2 : excT 2 = .tuple #[.int .u32 1073741824, .bool true] := rfl
theorem excess_any (low high k : Nat) (w : World) (hk : kind low high = k) :
  Calls Tryz.prog 106 #[.agg #[.int .u32 (low : Int), .int .u32 (high : Int)]] w fun e w' => e = .returned (excT k) ∧ Below w.heap.size w w' := by
 subst hk
 rcases kind_cases low high with ⟨hk, k1⟩ | ⟨hk, k1, k2⟩ | ⟨hk, k1, k2, k3, k4⟩ | ⟨hk, k1, k2, k3⟩
 ·rw [hk, excT_0]
  have d3 : decide ((high : Int) < 2147483648) = true := by simp; omega
  clear hk
  go_enter Tryz.func106, Tryz.ntmps106
  go_wp2
  go_ret2
  exact ⟨rfl, (Below.refl _ _).alloc (Nat.le_refl _) _⟩
 ·rw [hk, excT_1]
  have d3 : decide ((high : Int) < 2147483648) = false := by simp; omega
  have d4 : decide (2147483648 ≤ (low : Int)) = true := by simp; omega
  clear hk
  go_enter Tryz.func106, Tryz.ntmps106
  go_wp2
  go_ret2
  exact ⟨rfl, (Below.refl _ _).alloc (Nat.le_refl _) _⟩
 ·rw [hk, excT_2]
  have d3 : decide ((high : Int) < 2147483648) = false := by simp; omega
  have d4 : decide (2147483648 ≤ (low : Int)) = false := by simp; omega
  have d5 : decide (1073741824 ≤ (low : Int)) = true := by simp; omega
  have d6 : decide ((high : Int) < 3221225472) = true := by simp; omega
  clear hk
  go_enter Tryz.func106, Tryz.ntmps106
  go_wp2
  go_ret2
  exact ⟨rfl, (Below.refl _ _).alloc (Nat.le_refl _) _⟩
 ·rw [hk, excT_3]
  have d3 : decide ((high : Int) < 2147483648) = false := by simp; omega
  have d4 : decide (2147483648 ≤ (low : Int)) = false := by simp; omega
  clear hk
  by_cases k5 : 1073741824 ≤ low
  ·have d5 : decide (1073741824 ≤ (low : Int)) = true := by simp; omega
   have d6 : decide ((high : Int) < 3221225472) = false := by simp; omega
   go_enter Tryz.func106, Tryz.ntmps106
   go_wp2
   go_ret2
   exact ⟨rfl, (Below.refl _ _).alloc (Nat.le_refl _) _⟩
  ·have d5 : decide (1073741824 ≤ (low : Int)) = false := by simp; omega
   go_enter Tryz.func106, Tryz.ntmps106
   go_wp2
   go_ret2
   exact ⟨rfl, (Below.refl _ _).alloc (Nat.le_refl _) _⟩
theorem size_any (low high W : Nat) (w : World) (h1 : low ≤ high) (h2 : high < 4294967296) (hW : Hid (W = high - low + 1)) :
  Calls Tryz.prog 138 #[.agg #[.int .u32 (low : Int), .int .u32 (high : Int)]] w fun e w' => e = .returned (.int .u64 (W : Int)) ∧ Below w.heap.size w w' := by
 have e1 : ((high : Int) - (low : Int) + 1) = (W : Int) := by have := hW.out; omega
 have HE := Lib.hid e1
 clear e1
 go_enter Tryz.func138, Tryz.ntmps138
 go_wp2
 go_ret
 exact ⟨by rw [← HE.out]; rfl, (Below.refl _ _).alloc (Nat.le_refl _) _⟩
theorem double_any (p low high t lo hi : Nat) (w : World) (h1 : t ≤ low) (h2 : t ≤ high) (h3 : lo = 2 * (low - t)) (h4 : hi = 2 * (high - t) + 1) (h5 : lo < 4294967296) (h6 : hi < 4294967296) (hlow : low < 4294967296) (_hhigh : high < 4294967296)
  (c0 : w.cell? ⟨p, 0, none⟩ = some (.int .u32 (low : Int))) (c1 : w.cell? ⟨p, 1, none⟩ = some (.int .u32 (high : Int))) (f0 : w.frozen? ⟨p, 0, none⟩ = false) (f1 : w.frozen? ⟨p, 1, none⟩ = false) :
  Calls Tryz.prog 148 #[.pointer (some ⟨p, 0, none⟩), .int .u32 (t : Int)] w fun e w' => e = .returned (.tuple #[]) ∧ (w.setCell ⟨p, 0, none⟩ (.int .u32 (lo : Int))).setCell ⟨p, 1, none⟩ (.int .u32 (hi : Int)) = w' := by
 have e1 := Lib.hid (show ((low : Int) - (t : Int)) * 2 = (lo : Int) by omega)
 have e2 := Lib.hid (show ((high : Int) - (t : Int)) * 2 + 1 = (hi : Int) by omega)
 have b1 : ((low : Int) - (t : Int)) * 2 < 4294967296 := by omega
 have b2 : ((high : Int) - (t : Int)) * 2 < 4294967295 := by omega
 have b3 : (t : Int) ≤ (low : Int) := by omega
 have b4 : (t : Int) ≤ (high : Int) := by omega
 clear h3 h4
 go_enter Tryz.func148, Tryz.ntmps148
 go_wp2
 go_end0
 exact ⟨rfl, by rw [← e1.out, ← e2.out]⟩
theorem spanV_some (xs : List Int) (s : Int) : ∃ a b e : Int, Fq.spanV xs s = Fq.spanT a b e ∧ (Fq.symB xs s = true → e = 0 ∧ a = xs.getD s.toNat 0 ∧ b = xs.getD (s.toNat + 1) 0) ∧ (Fq.symB xs s = false → e = 1) := by
 unfold Fq.spanV
 cases h : Fq.symB xs s with
 | true => exact ⟨_, _, _, rfl, fun _ => ⟨rfl, rfl, rfl⟩, (fun h => by cases h)⟩
 | false => exact ⟨_, _, _, rfl, (fun h => by cases h), fun _ => rfl⟩
def NrP (w : World) (p lo hi : Nat) (e : Ending) (w' : World) : Prop :=
 e = .returned (.int .i64 0) ∧ ∃ w1, Below w.heap.size w w1 ∧ w' = (w1.setCell ⟨p, 1, none⟩ (.int .u32 (hi : Int))).setCell ⟨p, 0, none⟩ (.int .u32 (lo : Int))
def NrS (w : World) (bf : Nat) (C : Option Addr) (m d : Nat) (xs : List Int) (u : World) : Prop := Blk u bf 130 #[.slice C m d] ∧ Fq.RdI u C m xs ∧ Below w.heap.size w u
theorem NrS.next {w : World} {bf : Nat} {C : Option Addr} {m d : Nat} {xs : List Int} {u u' : World} (h : NrS w bf C m d xs u) (hb : Below u.heap.size u u') : NrS w bf C m d xs u' :=
 ⟨h.1.below hb h.1.lt, h.2.1.below hb, h.2.2.trans (hb.mono h.2.2.size)⟩
theorem NrS.drew {w : World} {bf : Nat} {C : Option Addr} {m d : Nat} {xs : List Int} {u : World} (h : NrS w bf C m d xs u) : NrS w bf C m d xs u.drew := ⟨h.1, h.2.1, Below.drew h.2.2⟩
theorem nrs_start {w : World} {C : Option Addr} {m d : Nat} {xs : List Int} (h : Fq.RdI w C m xs) : NrS w w.heap.size C m d xs (w.alloc (.cells #[.slice C m d] 130)) :=
 ⟨Blk.new w _ _, h.alloc _, (Below.refl w.heap.size w).alloc (Nat.le_refl _) _⟩
def symP (xs : List Int) (s : Int) (a b T : Nat) : Prop := Fq.spanV xs s = Fq.spanT (a : Int) (b : Int) 0 ∧ Fq.okF xs = true ∧ Fq.totF true xs = (T : Int) ∧ Sp a b T
def Two (w : World) (p low high : Nat) : Prop := w.cell? ⟨p, 0, none⟩ = some (.int .u32 (low : Int)) ∧ w.cell? ⟨p, 1, none⟩ = some (.int .u32 (high : Int)) ∧ w.frozen? ⟨p, 0, none⟩ = false ∧ w.frozen? ⟨p, 1, none⟩ = false
theorem Two.lt {w : World} {p low high : Nat} (h : Two w p low high) : p < w.heap.size := World.block_lt_of_cell? _ _ h.1
theorem Two.below {w u : World} {p low high : Nat} (h : Two w p low high) (hb : Below w.heap.size w u) : Two u p low high :=
 ⟨(hb.cell (p := ⟨p, 0, none⟩) h.lt).trans h.1, (hb.cell (p := ⟨p, 1, none⟩) h.lt).trans h.2.1, (hb.frozen (p := ⟨p, 0, none⟩) h.lt).trans h.2.2.1, (hb.frozen (p := ⟨p, 1, none⟩) h.lt).trans h.2.2.2⟩
theorem Two.drew {w : World} {p low high : Nat} (h : Two w p low high) : Two w.drew p low high := h
theorem narrow_ok (p low high a b T lo hi : Nat) (C : Option Addr) (m d : Nat) (xs : List Int) (s : Int) (w : World) (h1 : low ≤ high) (h2 : high < 4294967296) (hx : Hid (Fq.RdI w C m xs)) (hm : Hid (m ≤ maxLen)) (hsym : Hid (symP xs s a b T)) (h2c : Hid (Two w p low high))
  (hlo : Hid (lo = low + (high - low + 1) * a / T)) (hhi : Hid (hi = low + (high - low + 1) * b / T - 1)) (hb1 : Hid (1 ≤ (high - low + 1) * b / T)) (hlh : lo ≤ hi) (hhi2 : hi < 4294967296) :
  Calls Tryz.prog 109 #[.pointer (some ⟨p, 0, none⟩), .agg #[.slice C m d], .int .i64 s] w (NrP w p lo hi) := by
 obtain ⟨W, hW⟩ : ∃ W, W = high - low + 1 := ⟨_, rfl⟩
 have HWW := Lib.hid hW
 have W2 : W ≤ 4294967296 := by omega
 obtain ⟨S1, S2, S3⟩ := hsym.out.2.2.2
 have HLO := hlo.out
 have HHI := hhi.out
 have HB1 := hb1.out
 rw [← hW] at HLO HHI HB1
 obtain ⟨pa, hpa⟩ : ∃ pa, pa = W * a := ⟨_, rfl⟩
 obtain ⟨pb, hpb⟩ : ∃ pb, pb = W * b := ⟨_, rfl⟩
 have pa2 : pa ≤ 70368744177664 := by rw [hpa]; exact Nat.le_trans (Nat.mul_le_mul W2 (show a ≤ 16384 by omega)) (by omega)
 have pb2 : pb ≤ 70368744177664 := by rw [hpb]; exact Nat.le_trans (Nat.mul_le_mul W2 (show b ≤ 16384 by omega)) (by omega)
 have epa : (W : Int) * (a : Int) = (pa : Int) := by rw [hpa]; simp
 have epb : (W : Int) * (b : Int) = (pb : Int) := by rw [hpb]; simp
 obtain ⟨qa, hqa⟩ : ∃ qa, qa = pa / T := ⟨_, rfl⟩
 obtain ⟨qb, hqb⟩ : ∃ qb, qb = pb / T := ⟨_, rfl⟩
 have eqa : (pa : Int) / (T : Int) = (qa : Int) := by rw [hqa]; simp
 have eqb : (pb : Int) / (T : Int) = (qb : Int) := by rw [hqb]; simp
 rw [← hpa, ← hqa] at HLO
 rw [← hpb, ← hqb] at HHI HB1
 obtain ⟨qc, hqc⟩ : ∃ qc, qc + 1 = qb := ⟨qb - 1, by omega⟩
 have eqc : (qb : Int) - 1 = (qc : Int) := by omega
 have elo : (low : Int) + (qa : Int) = (lo : Int) := by omega
 have ehi : (low : Int) + (qc : Int) = (hi : Int) := by omega
 have qa3 : qa < 4294967296 := by omega
 have qc3 : qc < 4294967296 := by omega
 have qb3 : qb ≤ 4294967296 := by omega
 have T0 : ¬ (T : Int) = 0 := by omega
 have T0' : ((T : Int) == 0) = false := by simp; omega
 have T1 : T ≤ 16384 := S3
 have E1 := Lib.hid epa
 have E2 := Lib.hid epb
 have E3 := Lib.hid eqa
 have E4 := Lib.hid eqb
 have E5 := Lib.hid eqc
 have E6 := Lib.hid elo
 have E7 := Lib.hid ehi
 clear hW hpa hpb hqa hqb hqc HLO HHI HB1 epa epb eqa eqb eqc elo ehi
 have HS0 := Lib.hid (nrs_start (d := d) hx.out)
 go_enter Tryz.func109, Tryz.ntmps109
 go_wp2_with fail
 have H0 := Lib.hid (h2c.out.below (((Below.refl w.heap.size w).alloc (Nat.le_refl _) (.cells #[.slice C m d] 130))))
 obtain ⟨bf, hbf⟩ : ∃ bf, bf = w.heap.size := ⟨_, rfl⟩
 generalize w.alloc (.cells #[.slice C m d] 130) = w0 at HS0 H0 ⊢
 rw [← hbf] at HS0 ⊢
 have HBF := Lib.hid hbf
 clear hbf
 have hcon := Fq.span_any C m d xs s w0 (Lib.hid HS0.out.2.1) hm.out
 rw [hsym.out.1] at hcon
 refine hcon.mono ?_
 clear hcon
 rintro e w1 ⟨rfl, hb1⟩
 have HS1 := Lib.hid (HS0.out.next hb1)
 have H1 := Lib.hid (H0.out.below hb1)
 clear hb1 HS0 H0
 unfold Fq.spanT
 go_wp2_with fail
 obtain ⟨x1, x2, -, -⟩ := H1.out
 have x3 := Fq.blk0 HS1.out.1
 have v1 : IntKind.u64.wrap (T : Int) = (T : Int) := IntWalk.u64_in _ (by omega)
 have C1 := Lib.hid (show ∀ u, NrS w bf C m d xs u ∧ Two u p low high → Calls Tryz.prog 137 #[.agg #[.slice C m d]] u (fun e w' => e = .returned (.int .i64 (T : Int)) ∧ NrS w bf C m d xs w' ∧ Two w' p low high) from fun u h =>
  (Fq.total_any C m d xs true (T : Int) u (Lib.hid h.1.2.1) hm.out hsym.out.2.1 hsym.out.2.2.1).mono fun e w' ⟨h1, h2⟩ => ⟨h1, h.1.next h2, h.2.below h2⟩)
 have C2 := Lib.hid (show ∀ u, NrS w bf C m d xs u ∧ Two u p low high → Calls Tryz.prog 138 #[.agg #[.int .u32 (low : Int), .int .u32 (high : Int)]] u (fun e w' => e = .returned (.int .u64 (W : Int)) ∧ NrS w bf C m d xs w' ∧ Two w' p low high) from fun u h =>
  (size_any low high W u h1 h2 HWW).mono fun e w' ⟨h1, h2⟩ => ⟨h1, h.1.next h2, h.2.below h2⟩)
 go_region_held3 (fun w' => w'.cell? ⟨p, 0, none⟩ = some (.int .u32 (low : Int)) ∧ w'.cell? ⟨p, 1, none⟩ = some (.int .u32 (high : Int)) ∧ w'.cell? ⟨bf, 0, none⟩ = some (.slice C m d) ∧ NrS w bf C m d xs w' ∧ Two w' p low high) (first | exact ⟨hQ.2.1, hQ.2.2.1, Fq.blk0 hQ.1.1, hQ⟩ | exact ⟨x1, x2, x3, HS1.out, H1.out⟩ | exact ⟨x1, x2, x3, HS1.out.drew, H1.out.drew⟩) (first
  | (go_at_call 137; refine (C1.out _ (by first | exact hQ | exact ⟨HS1.out, H1.out⟩ | exact ⟨HS1.out.drew, H1.out.drew⟩)).mono ?_; rintro e w6 ⟨rfl, hQ⟩)
  | (go_at_call 138; refine (C2.out _ (by first | exact hQ | exact ⟨HS1.out, H1.out⟩ | exact ⟨HS1.out.drew, H1.out.drew⟩)).mono ?_; rintro e w6 ⟨rfl, hQ⟩))
 all_goals
  have HQ := Lib.hid hQ
  clear hQ x1 x2 x3 v1 C1 C2
  obtain ⟨y1, y2, y3, y4⟩ := HQ.out.2
  have e1 := E1.out
  have e2 := E2.out
  have e3 := E3.out
  have e4 := E4.out
  have e5 := E5.out
  have e6 := E6.out
  have e7 := E7.out
  go_wp2
  go_ret
  exact ⟨rfl, _, HQ.out.1.2.2, rfl⟩
theorem narrow_no (p : Nat) (C : Option Addr) (m d : Nat) (xs : List Int) (s : Int) (w : World) (hx : Hid (Fq.RdI w C m xs)) (hm : Hid (m ≤ maxLen)) (hsym : Hid (Fq.symB xs s = false)) :
  Calls Tryz.prog 109 #[.pointer (some ⟨p, 0, none⟩), .agg #[.slice C m d], .int .i64 s] w fun e w' => e = .returned (.int .i64 1) ∧ Below w.heap.size w w' := by
 have HS0 := Lib.hid (nrs_start (d := d) hx.out)
 go_enter Tryz.func109, Tryz.ntmps109
 go_wp2_with fail
 generalize w.alloc (.cells #[.slice C m d] 130) = w0 at HS0 ⊢
 have hcon := Fq.span_any C m d xs s w0 (Lib.hid HS0.out.2.1) hm.out
 obtain ⟨a, b, e, he, -, h1⟩ := spanV_some xs s
 obtain rfl := h1 hsym.out
 rw [he] at hcon
 refine hcon.mono ?_
 clear hcon he h1
 rintro e w1 ⟨rfl, hb1⟩
 have HS1 := Lib.hid (HS0.out.next hb1)
 clear hb1 HS0
 unfold Fq.spanT
 go_wp2
 go_ret
 exact ⟨rfl, HS1.out.2.2⟩
def itC (x : It) : List Value := [.slice x.A x.n x.c, .int .i64 x.N]
def itCells (xs : List It) : List Value := xs.flatMap itC
theorem itCells_snoc (xs : List It) (x : It) : itCells (xs ++ [x]) = itCells xs ++ itC x := by simp [itCells]
theorem itCells_get (xs : List It) : ∀ (j : Nat) (x : It), xs[j]? = some x → (itCells xs)[j * 2]? = some (.slice x.A x.n x.c) ∧ (itCells xs)[j * 2 + 1]? = some (.int .i64 x.N) := by
 induction xs with
 | nil => intro j x h; simp at h
 | cons y xs ih =>
  intro j x h
  cases j with
  | zero =>
   have : y = x := by simpa using h
   subst this
   exact ⟨rfl, rfl⟩
  | succ j =>
   have h' : xs[j]? = some x := by simpa using h
   obtain ⟨a, b⟩ := ih j x h'
   have e : itCells (y :: xs) = itC y ++ itCells xs := by simp [itCells]
   have el : (itC y).length = 2 := rfl
   rw [e]
   refine ⟨?_, ?_⟩
   ·rw [List.getElem?_append_right (by omega), el, show (j + 1) * 2 - 2 = j * 2 by omega]; exact a
   ·rw [List.getElem?_append_right (by omega), el, show (j + 1) * 2 + 1 - 2 = j * 2 + 1 by omega]; exact b
def Apart (x : It) (p : Nat) : Prop := ∀ ad, x.A = some ad → 0 < x.n → ad.block ≠ p
theorem only_refl (w : World) (row : Option Nat) : w.grownBy w row := ⟨rfl, rfl, rfl, Nat.le_refl _, fun _ _ _ => rfl⟩
def wrC (low high wait N g k cap : Nat) : Array Value := #[.int .u32 (low : Int), .int .u32 (high : Int), .int .i64 (wait : Int), .slice (some ⟨g, 0, none⟩) k cap, .int .i64 (N : Int)]
structure Bs where
 w : World
 r : Nat
 o : Option Obj
def Kp (z : Bs) (p g : Nat) (w : World) : Prop := z.r ≠ p ∧ z.r ≠ g ∧ z.r < w.heap.size ∧ w.heap[z.r]? = z.o
structure WSx (z : Bs) (p g k cap : Nat) (xs : List It) (low high wait N : Nat) (out : List Bool) (w : World) : Prop where
 blk : Blk w p 186 (wrC low high wait N g k cap)
 own : w.ownsRow z.w.heap.size 100 2 (.slice (some ⟨g, 0, none⟩) k cap) k (itCells xs)
 hp : z.w.heap.size ≤ p
 hg : z.w.heap.size ≤ g
 ne : g ≠ p
 len : xs.length = k
 rd : ∀ x ∈ xs, Rd w x.A x.n x.bs ∧ x.ok = true ∧ Apart x p ∧ Apart x g
 bits : allBits xs = out
 few : k ≤ out.length + 1
 kp : Kp z p g w
section
variable {z : Bs} {p g k cap : Nat} {xs : List It} {low high wait N : Nat} {out : List Bool} {w w' : World}
theorem WSx.next (h : WSx z p g k cap xs low high wait N out w) (hb : Below w.heap.size w w') : WSx z p g k cap xs low high wait N out w' where
 blk := h.blk.below hb h.blk.lt
 own := World.ownsRow.kept h.own (only_of_below hb none) (.inr (by simp [Value.ownBlock]))
 hp := h.hp
 hg := h.hg
 ne := h.ne
 len := h.len
 rd := fun x hx => ⟨(h.rd x hx).1.below hb, (h.rd x hx).2⟩
 bits := h.bits
 few := h.few
 kp := ⟨h.kp.1, h.kp.2.1, Nat.lt_of_lt_of_le h.kp.2.2.1 hb.size, (hb.block _ h.kp.2.2.1).trans h.kp.2.2.2⟩
theorem WSx.drew (h : WSx z p g k cap xs low high wait N out w) : WSx z p g k cap xs low high wait N out w.drew := ⟨h.blk, h.own, h.hp, h.hg, h.ne, h.len, h.rd, h.bits, h.few, h.kp⟩
theorem WSx.put (h : WSx z p g k cap xs low high wait N out w) (i : Nat) (u : Value) {low' high' wait' N' : Nat} (he : (wrC low high wait N g k cap).setIfInBounds i u = wrC low' high' wait' N' g k cap) : WSx z p g k cap xs low' high' wait' N' out (w.setCell ⟨p, i, none⟩ u) where
 blk := by have := h.blk.set_ i u; rwa [he] at this
 own := World.ownsRow.kept h.own (only_setCell (only_refl w (some p)) (.inl rfl) u) (.inr (by simp [Value.ownBlock]; exact h.ne))
 hp := h.hp
 hg := h.hg
 ne := h.ne
 len := h.len
 rd := fun x hx => ⟨(h.rd x hx).1.only (only_setCell (only_refl w (some p)) (.inl rfl) u) (h.rd x hx).2.2.1, (h.rd x hx).2⟩
 bits := h.bits
 few := h.few
 kp := ⟨h.kp.1, h.kp.2.1, by simpa [World.setCell] using h.kp.2.2.1, (Below.heap_setCell w ⟨p, i, none⟩ u _ h.kp.1).trans h.kp.2.2.2⟩
theorem WSx.rdL (h : WSx z p g k cap xs low high wait N out w) : RdL w (some ⟨g, 0, none⟩) k xs := by
 refine ⟨h.len, fun _ => ⟨_, rfl, fun j x hx => ?_⟩⟩
 obtain ⟨a, b⟩ := itCells_get xs j x hx
 have c0 := World.ownsRow.cells h.own (g := g) rfl _ _ a
 have c1 := World.ownsRow.cells h.own (g := g) rfl _ _ b
 rw [add_own] at c0 c1
 refine ⟨by rw [add_own]; exact c0, ?_, (h.rd x (List.mem_of_getElem? hx)).1⟩
 rw [add_own]
 exact c1
theorem WSx.push (h : WSx z p g k cap xs low high wait N out w) (y : It) (hy : Rd w y.A y.n y.bs) (hok : y.ok = true) (hyp : Apart y p) (hyg : Apart y g) (hy1 : 1 ≤ y.bits.length) {g' cap' : Nat}
  (ho : w'.ownsRow z.w.heap.size 100 2 (.slice (some ⟨g', 0, none⟩) (k + 1) cap') (k + 1) (itCells xs ++ itC y)) (hgr : w.grownBy w' (some g)) (hat : g = g' ∨ w.heap.size ≤ g') :
  WSx z p g' (k + 1) cap' (xs ++ [y]) low high wait N (out ++ y.bits) (w'.setCell ⟨p, 3, none⟩ (.slice (some ⟨g', 0, none⟩) (k + 1) cap')) := by
 have hpw : p < w.heap.size := h.blk.lt
 have hne : g' ≠ p := by
  rcases hat with e | e
  ·rw [← e]; exact h.ne
  ·omega
 have hsc := only_setCell (only_refl w' (some p)) (p := ⟨p, 3, none⟩) (.inl rfl) (.slice (some ⟨g', 0, none⟩) (k + 1) cap')
 have far : ∀ x : It, Rd w x.A x.n x.bs → Apart x g → Apart x g' := by
  intro x hr ha ad e hn
  rcases hat with e' | e'
  ·rw [← e']; exact ha ad e hn
  ·have := hr.lies hn ad e
   omega
 refine ⟨?_, ?_, h.hp, (World.ownsRow.lt ho g' rfl).1, hne, by rw [List.length_append, h.len]; rfl, ?_, by rw [allBits_snoc, h.bits], by rw [List.length_append]; have := h.few; omega, h.kp.1, ?_, ?_, ?_⟩
 ·have := (h.blk.only hgr (fun e => h.ne e.symm)).set_ 3 (.slice (some ⟨g', 0, none⟩) (k + 1) cap')
  exact this
 ·rw [itCells_snoc]
  exact World.ownsRow.kept ho hsc (.inr (by simp [Value.ownBlock]; exact hne))
 ·intro x hx
  rw [List.mem_append] at hx
  rcases hx with hx | hx
  ·obtain ⟨a, b, c, d⟩ := h.rd x hx
   exact ⟨(a.only hgr d).only hsc c, b, c, far x a d⟩
  ·have : x = y := by simpa using hx
   subst this
   exact ⟨(hy.only hgr hyg).only hsc hyp, hok, hyp, far x hy hyg⟩
 ·rcases hat with e | e
  ·rw [← e]; exact h.kp.2.1
  ·have := h.kp.2.2.1; omega
 ·have := hgr.size; have := h.kp.2.2.1; simp [World.setCell]; omega
 ·exact ((Below.heap_setCell w' ⟨p, 3, none⟩ _ _ h.kp.1).trans (hgr.block _ h.kp.2.2.1 (fun e => h.kp.2.1 (by injection e)))).trans h.kp.2.2.2
theorem WSx.five (h : WSx z p g k cap xs low high wait N out w) : w.cell? ⟨p, 0, none⟩ = some (.int .u32 (low : Int)) ∧ w.cell? ⟨p, 1, none⟩ = some (.int .u32 (high : Int)) ∧ w.cell? ⟨p, 2, none⟩ = some (.int .i64 (wait : Int)) ∧ w.cell? ⟨p, 3, none⟩ = some (.slice (some ⟨g, 0, none⟩) k cap) ∧ w.cell? ⟨p, 4, none⟩ = some (.int .i64 (N : Int)) :=
 ⟨h.blk.cell 0, h.blk.cell 1, h.blk.cell 2, h.blk.cell 3, h.blk.cell 4⟩
theorem WSx.frz (h : WSx z p g k cap xs low high wait N out w) (i : Nat) : w.frozen? ⟨p, i, none⟩ = false := h.blk.frozen i
theorem WSx.two (h : WSx z p g k cap xs low high wait N out w) : Two w p low high := ⟨h.blk.cell 0, h.blk.cell 1, h.blk.frozen 0, h.blk.frozen 1⟩
end
def WSm (w0 : Bs) (p low high wait N : Nat) (out : List Bool) (w : World) : Prop := Below w0.w.heap.size w0.w w ∧ ∃ g k cap xs, WSx w0 p g k cap xs low high wait N out w
def WS (w0 : Bs) (p : Nat) (e : En) (w : World) : Prop := WSm w0 p e.low e.high e.wait e.out.length e.out w
section
variable {w0 : Bs} {w w' : World} {p low high wait N : Nat} {out : List Bool}
theorem WSm.next (h : WSm w0 p low high wait N out w) (hb : Below w.heap.size w w') : WSm w0 p low high wait N out w' := by
 obtain ⟨h1, g, k, cap, xs, h2⟩ := h
 exact ⟨h1.trans (hb.mono h1.size), g, k, cap, xs, h2.next hb⟩
theorem WSm.setIv (h : WSm w0 p low high wait N out w) (lo hi : Nat) : WSm w0 p lo hi wait N out ((w.setCell ⟨p, 1, none⟩ (.int .u32 (hi : Int))).setCell ⟨p, 0, none⟩ (.int .u32 (lo : Int))) := by
 obtain ⟨h1, g, k, cap, xs, h2⟩ := h
 exact ⟨(h1.setCell h2.hp _).setCell h2.hp _, g, k, cap, xs, (h2.put 1 _ (low' := low) (high' := hi) (wait' := wait) (N' := N) rfl).put 0 _ rfl⟩
theorem WSm.setIv' (h : WSm w0 p low high wait N out w) (lo hi : Nat) : WSm w0 p lo hi wait N out ((w.setCell ⟨p, 0, none⟩ (.int .u32 (lo : Int))).setCell ⟨p, 1, none⟩ (.int .u32 (hi : Int))) := by
 obtain ⟨h1, g, k, cap, xs, h2⟩ := h
 exact ⟨(h1.setCell h2.hp _).setCell h2.hp _, g, k, cap, xs, (h2.put 0 _ (low' := lo) (high' := high) (wait' := wait) (N' := N) rfl).put 1 _ rfl⟩
theorem WSm.setWait (h : WSm w0 p low high wait N out w) (wt : Nat) : WSm w0 p low high wt N out (w.setCell ⟨p, 2, none⟩ (.int .i64 (wt : Int))) := by
 obtain ⟨h1, g, k, cap, xs, h2⟩ := h
 exact ⟨h1.setCell h2.hp _, g, k, cap, xs, h2.put 2 _ rfl⟩
theorem WSm.setN (h : WSm w0 p low high wait N out w) (n : Nat) : WSm w0 p low high wait n out (w.setCell ⟨p, 4, none⟩ (.int .i64 (n : Int))) := by
 obtain ⟨h1, g, k, cap, xs, h2⟩ := h
 exact ⟨h1.setCell h2.hp _, g, k, cap, xs, h2.put 4 _ rfl⟩
theorem WSm.two (h : WSm w0 p low high wait N out w) : Two w p low high := by
 obtain ⟨_, g, k, cap, xs, h2⟩ := h
 exact h2.two
theorem WSm.wait_ (h : WSm w0 p low high wait N out w) : w.cell? ⟨p, 2, none⟩ = some (.int .i64 (wait : Int)) ∧ w.frozen? ⟨p, 2, none⟩ = false := by
 obtain ⟨_, g, k, cap, xs, h2⟩ := h
 exact ⟨h2.blk.cell 2, h2.blk.frozen 2⟩
theorem WSm.n_ (h : WSm w0 p low high wait N out w) : w.cell? ⟨p, 4, none⟩ = some (.int .i64 (N : Int)) ∧ w.frozen? ⟨p, 4, none⟩ = false := by
 obtain ⟨_, g, k, cap, xs, h2⟩ := h
 exact ⟨h2.blk.cell 4, h2.blk.frozen 4⟩
theorem WSm.lt (h : WSm w0 p low high wait N out w) : p < w.heap.size := by
 obtain ⟨_, g, k, cap, xs, h2⟩ := h
 exact h2.blk.lt
end
theorem bitsOf_rep (x : Bool) (n : Nat) : bitsOf n (x.toNat * (2 ^ n - 1)) = List.replicate n x := by
 have h : num (List.replicate n x) = x.toNat * (2 ^ n - 1) := by
  cases x with
  | false => rw [num_rep_false]; simp
  | true => rw [num_rep_true]; simp
 have := bitsOf_num (List.replicate n x)
 rw [h, List.length_replicate] at this
 exact this
theorem pow64 : (2 : Nat) ^ 64 = 18446744073709551616 := by decide
theorem ones_nat (wd : Nat) (h : wd ≤ 64) : 18446744073709551615 / 2 ^ (64 - wd) = 2 ^ wd - 1 := by
 have e : 2 ^ (64 - wd) * 2 ^ wd = 18446744073709551616 := by rw [← Nat.pow_add, show 64 - wd + wd = 64 by omega, pow64]
 have ha : 0 < 2 ^ (64 - wd) := Nat.pow_pos (by omega)
 have hb : 0 < 2 ^ wd := Nat.pow_pos (by omega)
 generalize 2 ^ (64 - wd) = a at e ha
 generalize 2 ^ wd = b at e hb
 obtain ⟨c, rfl⟩ : ∃ c, b = c + 1 := ⟨b - 1, by omega⟩
 rw [Nat.mul_add, Nat.mul_one] at e
 rw [Nat.add_sub_cancel]
 refine Nat.div_eq_of_lt_le ?_ ?_
 ·rw [Nat.mul_comm]; omega
 ·rw [Nat.add_mul, Nat.mul_comm c, Nat.one_mul]; omega
theorem ones_int (wd t : Nat) (h : wd ≤ 64) (ht : t ≤ 1) : IntKind.u64.wrap ((t : Int) * (18446744073709551615 / 2 ^ (64 - wd))) = ((t * (2 ^ wd - 1) : Nat) : Int) := by
 have e2 : (18446744073709551615 : Int) / 2 ^ (64 - wd) = ((2 ^ wd - 1 : Nat) : Int) := by rw [← ones_nat wd h]; simp
 have hb : 2 ^ wd ≤ 2 ^ 64 := Nat.pow_le_pow_right (by omega) h
 rw [pow64] at hb
 rw [e2]
 rcases (show t = 0 ∨ t = 1 by omega) with rfl | rfl
 ·simp; rfl
 ·rw [Nat.one_mul, Int.natCast_one, Int.one_mul]
  exact IntWalk.u64_in _ (by omega)
def PcP (w : World) (l : List Bool) (n8 L : Nat) (e : Ending) (w' : World) : Prop :=
 ∃ g, e = .returned (.tuple #[.agg #[.slice (some ⟨g, 0, none⟩) n8 n8, .int .i64 (L : Int)], .int .i64 0]) ∧ w.heap.size ≤ g ∧ Blk w' g 5 (bcells (pack l)) ∧ Below w.heap.size w w'
theorem put_piece (x : Bool) (t wd n8 : Nat) (xi : Int) (w : World) (ht : t = x.toNat) (hw : wd ≤ 64) (hx : xi = ((t * (2 ^ wd - 1) : Nat) : Int)) (hn8 : n8 = (pack (List.replicate wd x)).length) :
  Calls Tryz.prog 171 #[.agg #[.slice none 0 0, .int .i64 0], .int .u64 xi, .int .i64 (wd : Int)] w (PcP w (List.replicate wd x) n8 wd) := by
 subst ht hx hn8
 refine (put_any _ [] (x.toNat * (2 ^ wd - 1)) wd w (IsB.nil_ w) hw ?_).mono ?_
 ·have : 0 < 2 ^ wd := Nat.pow_pos (by omega)
  cases x <;> simp <;> omega
 ·rintro e w' ⟨A, n, c, N, er, rfl, hb, h⟩
  rw [List.nil_append, bitsOf_rep] at h
  rcases h with ⟨_, rfl, g, hv, hg, hk, hl⟩ | ⟨h, _⟩
  ·refine ⟨g, ?_, hg, hk, hb⟩
   rw [hv, List.length_replicate]
  ·rw [List.length_replicate] at h; omega
theorem bits_rep (x : Bool) (wd n8 : Nat) (A : Option Addr) (c : Nat) : It.bits ⟨A, n8, c, (wd : Int), pack (List.replicate wd x)⟩ = List.replicate wd x := by
 unfold It.bits
 have := bitsIn_pack (List.replicate wd x)
 rw [List.length_replicate] at this
 exact this
theorem lay_push {w0 : Bs} {w3 w5 : World} {p g k cap low high wait M j : Nat} {xs : List It} {out : List Bool} {g' cap' : Nat} {o : Obj} (x : Bool) (wd n8 gp : Nat)
    (hx3 : WSx w0 p g k cap xs low high wait M (out ++ List.replicate j x) w3) (hxa : WSx w0 p g k cap xs low high wait M (out ++ List.replicate j x) (w3.alloc o).drew) (h13 : Below w0.w.heap.size w0.w w3) (hP : Blk w3 gp 5 (bcells (pack (List.replicate wd x)))) (hn8 : n8 = (pack (List.replicate wd x)).length) (hG : gp ≠ p ∧ gp ≠ g) (hw : wd ≤ 64) (hw1 : 1 ≤ wd)
    (ho : w5.ownsRow w0.w.heap.size 100 2 (.slice (some ⟨g', 0, none⟩) (k + 1) cap') (k + 1) (itCells xs ++ [.slice (some ⟨gp, 0, none⟩) n8 n8, .int .i64 (wd : Int)])) (hgr : (w3.alloc o).drew.grownBy w5 (Value.slice (some ⟨g, 0, none⟩) k cap).ownBlock) (hat : (Value.slice (some ⟨g, 0, none⟩) k cap).ownBlock = some g' ∨ g' = w3.heap.size + 1) :
    WSm w0 p low high wait M (out ++ List.replicate (j + wd) x) (w5.setCell ⟨p, 3, none⟩ (.slice (some ⟨g', 0, none⟩) (k + 1) cap')) := by
  have hb := bits_rep x wd n8 (some ⟨gp, 0, none⟩) n8
  have hr : Rd (w3.alloc o).drew (some ⟨gp, 0, none⟩) n8 (pack (List.replicate wd x)) := by
    rw [hn8]; exact Rd.of_blk (hP.alloc o).drew (pack_lt _)
  have hpush := hxa.push (w' := w5) (g' := g') (cap' := cap') ⟨some ⟨gp, 0, none⟩, n8, n8, (wd : Int), pack (List.replicate wd x)⟩ hr
    (by have := okB_pack (List.replicate wd x) (by rw [List.length_replicate]; omega); rw [List.length_replicate] at this; exact this)
    (by intro ad e _; injection e with e; rw [← e]; exact hG.1) (by intro ad e _; injection e with e; rw [← e]; exact hG.2) (by rw [hb, List.length_replicate]; exact hw1) ho hgr
    (by rcases hat with e | e
        · left; simpa [Value.ownBlock] using e
        · right; rw [e]; simp)
  rw [hb] at hpush
  have hbel : Below w0.w.heap.size w0.w w5 := (Below.drew (h13.alloc h13.size o)).grown hgr (by have := h13.size; simp; omega) (fun k hk => by
    have : g = k := by simpa [Value.ownBlock] using hk
    rw [← this]; exact hx3.hg)
  have hs : Below w0.w.heap.size w0.w (w5.setCell ⟨p, 3, none⟩ (.slice (some ⟨g', 0, none⟩) (k + 1) cap')) := hbel.setCell (p := ⟨p, 3, none⟩) hx3.hp _
  rw [← List.replicate_append_replicate, ← List.append_assoc]
  exact ⟨hs, g', k + 1, cap', _, hpush⟩
theorem info_bits : (Tryz.prog.info? 100).map (fun i => (i.zero, i.size, i.bytes)) = some (some (.agg #[.slice none 0 0, .int .i64 0]), 2, 32) := by kernel_rfl
theorem lay_w (w0 : Bs) (p low high wait N n M : Nat) (x : Bool) (t : Nat) (out out2 : List Bool) (w : World) (h : Hid (WSm w0 p low high wait N out w)) (ht : Hid (t = x.toNat)) (ht1 : t ≤ 1) (hn : n ≤ 100000) (ho : out.length ≤ 200000) (hN : N ≤ 300000) (hM : Hid (M = N + n)) (ho2 : Hid (out2 = out ++ List.replicate n x)) :
    Calls Tryz.prog 149 #[.pointer (some ⟨p, 0, none⟩), .int .u64 (t : Int), .int .i64 (n : Int)] w fun e w' => e = .returned (.tuple #[]) ∧ WSm w0 p low high wait M out2 w' := by
  obtain ⟨i0, hi0, hz0, hz1, hz2⟩ := info_parts info_bits
  obtain ⟨c4, f4⟩ := h.out.n_
  have eM : (N : Int) + (n : Int) = (M : Int) := by have := hM.out; omega
  go_enter Tryz.func149, Tryz.ntmps149
  go_wp2_with fail
  clear c4 f4 eM
  have HS := Lib.hid (h.out.setN M)
  generalize w.setCell ⟨p, 4, none⟩ (.int .i64 (M : Int)) = w1 at HS ⊢
  go_loopw [2] (fun vn wr => ∃ (r j : Nat), vn = .int .i64 (r : Int) ∧ r ≤ 100000 ∧ Hid (r + j = n ∧ WSm w0 p low high wait M (out ++ List.replicate j x) wr)) (fun vn _ => (intOf vn).toNat)
  case atStart => exact ⟨n, 0, rfl, hn, Lib.hid ⟨rfl, by simpa using HS.out⟩⟩
  case round =>
    obtain ⟨r, j, rfl, hr, HZ⟩ := hrel
    clear HS
    by_cases hgo : 0 < r
    · have d1 : decide ((0 : Int) < (r : Int)) = true := by simp; omega
      obtain ⟨wd, hwd⟩ : ∃ wd, wd = min r 64 := ⟨_, rfl⟩
      have em : min (r : Int) 64 = (wd : Int) := by omega
      have w1' : wd ≤ 64 := by omega
      have w2' : 1 ≤ wd := by omega
      have w3' : wd ≤ r := by omega
      obtain ⟨n8, hn8⟩ : ∃ n8, n8 = (pack (List.replicate wd x)).length := ⟨_, rfl⟩
      have HN8 := Lib.hid hn8
      clear hwd hn8
      go_wp2_with fail
      with_reducible refine (put_piece x t wd n8 _ wr ht.out w1' ?hx HN8.out).mono ?_
      case hx => exact ones_int wd t w1' ht1
      rintro e w2 ⟨gp, rfl, hgp, hkp, hb2⟩
      obtain ⟨h1, g, k, cap, xs, h2⟩ := HZ.out.2
      have HX := Lib.hid (h2.next hb2)
      have H1 := Lib.hid (h1.trans (hb2.mono h1.size))
      have HP := Lib.hid hkp
      have HG := Lib.hid (show gp ≠ p ∧ gp ≠ g from ⟨by have := h2.blk.lt; omega, by have := (World.ownsRow.lt h2.own g rfl).2; omega⟩)
      have HRJ := Lib.hid HZ.out.1
      clear hgp hkp hb2 h1 h2 HZ em
      go_wp2_with fail
      have HX3 := Lib.hid (HX.out.next ((Below.refl w2.heap.size w2).alloc (Nat.le_refl _) (.cells #[.slice (some ⟨gp, 0, none⟩) n8 n8, .int .i64 (wd : Int)] 100)))
      have H13 := Lib.hid (H1.out.alloc H1.out.size (.cells #[.slice (some ⟨gp, 0, none⟩) n8 n8, .int .i64 (wd : Int)] 100))
      have HP3 := Lib.hid (HP.out.alloc (.cells #[.slice (some ⟨gp, 0, none⟩) n8 n8, .int .i64 (wd : Int)] 100))
      have HB3 := Lib.hid (Blk.new w2 100 #[.slice (some ⟨gp, 0, none⟩) n8 n8, .int .i64 (wd : Int)])
      have bg : g < w2.heap.size := (World.ownsRow.lt HX.out.own g rfl).2
      obtain ⟨bx, hbx⟩ : ∃ bx, bx = w2.heap.size := ⟨_, rfl⟩
      rw [← hbx] at HB3 bg ⊢
      generalize w2.alloc (.cells #[.slice (some ⟨gp, 0, none⟩) n8 n8, .int .i64 (wd : Int)] 100) = w3 at HX3 H13 HP3 HB3 ⊢
      clear HX H1 HP hbx
      obtain ⟨-, -, -, c3, -⟩ := HX3.out.five
      have f3 := HX3.out.frz 3
      have b0 := HB3.out.cell 0
      have b1 := HB3.out.cell 1
      have lp : p < w3.heap.size := HX3.out.blk.lt
      have lx : bx < w3.heap.size := HB3.out.lt
      have ag : (Value.slice (some ⟨g, 0, none⟩) k cap).ownBlock ≠ some p := by simp [Value.ownBlock]; exact HX3.out.ne
      have ax : (Value.slice (some ⟨g, 0, none⟩) k cap).ownBlock ≠ some bx := by simp [Value.ownBlock]; omega
      have hk63 : k + 1 ≤ 400000 := by
        have h1 := HX3.out.few
        have h2 := HRJ.out
        rw [List.length_append, List.length_replicate] at h1
        omega
      have hnews := Lib.hid (World.news_of_block (cs := #[.slice (some ⟨gp, 0, none⟩) n8 n8, .int .i64 (wd : Int)]) (t := 100) (fr := (0, 0)) (heap_alloc_new w3 _))
      have HBA := Lib.hid (show w0.w.heap.size ≤ (w3.alloc (.cells #[.slice (some ⟨gp, 0, none⟩) n8 n8, .int .i64 (wd : Int)] 100)).drew.heap.size from by have := H13.out.size; simp; omega)
      have HXA := Lib.hid (HX3.out.next ((Below.refl w3.heap.size w3).alloc (Nat.le_refl _) (.cells #[.slice (some ⟨gp, 0, none⟩) n8 n8, .int .i64 (wd : Int)] 100))).drew
      have HBX := Lib.hid (HB3.out.alloc (.cells #[.slice (some ⟨gp, 0, none⟩) n8 n8, .int .i64 (wd : Int)] 100)).drew
      have SA := Lib.hid (show (w3.alloc (.cells #[.slice (some ⟨gp, 0, none⟩) n8 n8, .int .i64 (wd : Int)] 100)).drew.cell? ⟨p, 3, none⟩ = some (.slice (some ⟨g, 0, none⟩) k cap) ∧ (w3.alloc (.cells #[.slice (some ⟨gp, 0, none⟩) n8 n8, .int .i64 (wd : Int)] 100)).drew.cell? ⟨bx, 0, none⟩ = some (.slice (some ⟨gp, 0, none⟩) n8 n8) ∧ (w3.alloc (.cells #[.slice (some ⟨gp, 0, none⟩) n8 n8, .int .i64 (wd : Int)] 100)).drew.cell? ⟨bx, 1, none⟩ = some (.int .i64 (wd : Int)) ∧ (w3.alloc (.cells #[.slice (some ⟨gp, 0, none⟩) n8 n8, .int .i64 (wd : Int)] 100)).drew.frozen? ⟨p, 3, none⟩ = false from ⟨HXA.out.five.2.2.2.1, HBX.out.cell 0, HBX.out.cell 1, HXA.out.frz 3⟩)
      go_region_law
        ((refine step_append_lies _ (by rfl) _ _ _ (by rfl) w0.w.heap.size 100 i0 _ 2 32 Tryz.underlying184 hi0 hz0 hz1 hz2 rfl (by omega) (.slice (some ⟨g, 0, none⟩) k cap) k (itCells xs) (by rfl) ((HX3.out.own.alloc _).drew)
            ⟨w3.heap.size, 0, none⟩ 1 1 [.slice (some ⟨gp, 0, none⟩) n8 n8, .int .i64 (wd : Int)] (by rfl) (by rfl) hnews.out (by simp [Value.oneCell'])
            (by omega) (by unfold maxLen; omega) (by omega) HBA.out (w3.heap.size + 1) (by simp) ?_; intro g' cap' w5 hown1 hgrow hat hlt; have f5 : w5.frozen? ⟨p, 3, none⟩ = false := (hgrow.frozen_far _ (by simp; omega) (Ne.symm ag)).trans SA.out.2.2.2; have f6 : (w5.cell? ⟨p, 3, none⟩) = some (.slice (some ⟨g, 0, none⟩) k cap) := (hgrow.cell_far _ (by simp; omega) (Ne.symm ag)).trans SA.out.1))
      all_goals
        have HO1 := Lib.hid hown1
        have HG1 := Lib.hid hgrow
        have HA1 := Lib.hid hat
        clear hown1 hgrow hat
        go_wp2
        refine ⟨⟨r - wd, j + wd, by congr 1; omega, by omega, Lib.hid ⟨by have := HRJ.out; omega, ?_⟩⟩, by simp [intOf]; omega⟩
        exact lay_push x wd n8 gp HX3.out HXA.out H13.out HP3.out HN8.out HG.out w1' w2' HO1.out HG1.out HA1.out
    · have hr0 : r = 0 := by omega
      have HE := Lib.hid (show j = n by have := HZ.out.1; omega)
      have d1 : decide ((0 : Int) < (r : Int)) = false := by simp; omega
      go_wp2
      go_end0
      exact ⟨rfl, by rw [ho2.out, ← HE.out]; exact HZ.out.2⟩
theorem emit_eq (out : List Bool) (x : Bool) (n : Nat) : emit out x n = (out ++ List.replicate 1 x) ++ List.replicate n (!x) := by simp [emit]
theorem lay_n (w0 : Bs) (p low high wait N n M : Nat) (ni : Int) (x : Bool) (t : Nat) (out out2 : List Bool) (w : World) (h : Hid (WSm w0 p low high wait N out w)) (ht : Hid (t = x.toNat)) (ht1 : t ≤ 1) (hni : ni = (n : Int)) (hn : n ≤ 100000) (ho : out.length ≤ 200000) (hN : N ≤ 300000) (hM : Hid (M = N + n)) (ho2 : Hid (out2 = out ++ List.replicate n x)) :
  Calls Tryz.prog 149 #[.pointer (some ⟨p, 0, none⟩), .int .u64 (t : Int), .int .i64 ni] w fun e w' => e = .returned (.tuple #[]) ∧ WSm w0 p low high wait M out2 w' := by
 subst hni
 exact lay_w w0 p low high wait N n M x t out out2 w h ht ht1 hn ho hN hM ho2
theorem send_w (w0 : Bs) (p low high wait N M : Nat) (x : Bool) (t : Nat) (out out2 : List Bool) (w : World) (h : Hid (WSm w0 p low high wait N out w)) (ht : Hid (t = x.toNat)) (ht1 : t ≤ 1) (hw : wait ≤ 100000) (hN : Hid (N = out.length)) (ho : out.length ≤ 190000) (hM : Hid (M = out2.length)) (ho2 : Hid (out2 = emit out x wait)) :
  Calls Tryz.prog 111 #[.pointer (some ⟨p, 0, none⟩), .int .u64 (t : Int)] w fun e w' => e = .returned (.tuple #[]) ∧ WSm w0 p low high 0 M out2 w' := by
 obtain ⟨t', ht'⟩ : ∃ t' : Nat, t' = (!x).toNat := ⟨_, rfl⟩
 have et : (1 : Int) - (t : Int) = (t' : Int) := by rw [ht', ht.out]; cases x <;> rfl
 have ht2 : t' ≤ 1 := by omega
 have HT' := Lib.hid ht'
 clear ht'
 have hl1 : (out ++ List.replicate 1 x).length = out.length + 1 := by simp
 have HM2 := Lib.hid (show M = (N + 1) + wait by rw [hM.out, ho2.out, emit_length, hN.out]; omega)
 have HL1 := Lib.hid hl1
 clear hl1
 have HN2 : N ≤ 190000 := by have := hN.out; omega
 go_enter Tryz.func111, Tryz.ntmps111
 go_wp2_with fail
 with_reducible refine (lay_n w0 p low high wait N 1 (N + 1) 1 x t out (out ++ List.replicate 1 x) w h ht ht1 rfl (by omega) (by omega) (by omega) (Lib.hid rfl) (Lib.hid rfl)).mono ?_
 rintro e w1 ⟨rfl, h1⟩
 have H1 := Lib.hid h1
 clear h1
 obtain ⟨c2, f2⟩ := H1.out.wait_
 go_wp2_with fail
 clear c2 f2
 with_reducible refine (lay_w w0 p low high wait (N + 1) wait M (!x) t' (out ++ List.replicate 1 x) out2 w1 H1 HT' ht2 (by omega) (by have := HL1.out; omega) (by omega) HM2 (Lib.hid (by rw [ho2.out, emit_eq]))).mono ?_
 rintro e w2 ⟨rfl, h2⟩
 have H2 := Lib.hid h2
 clear h2
 obtain ⟨c2, f2⟩ := H2.out.wait_
 go_wp2
 go_end0
 exact ⟨rfl, H2.out.setWait 0⟩
theorem send_n (w0 : Bs) (p low high wait N M : Nat) (ti : Int) (x : Bool) (t : Nat) (out out2 : List Bool) (w : World) (h : Hid (WSm w0 p low high wait N out w)) (hti : ti = (t : Int)) (ht : Hid (t = x.toNat)) (ht1 : t ≤ 1) (hw : wait ≤ 100000) (hN : Hid (N = out.length)) (ho : out.length ≤ 190000) (hM : Hid (M = out2.length)) (ho2 : Hid (out2 = emit out x wait)) :
  Calls Tryz.prog 111 #[.pointer (some ⟨p, 0, none⟩), .int .u64 ti] w fun e w' => e = .returned (.tuple #[]) ∧ WSm w0 p low high 0 M out2 w' := by
 subst hti
 exact send_w w0 p low high wait N M x t out out2 w h ht ht1 hw hN ho hM ho2
theorem double_n (p low high t lo hi : Nat) (ti : Int) (w : World) (hti : ti = (t : Int)) (h1 : t ≤ low) (h2 : t ≤ high) (h3 : lo = 2 * (low - t)) (h4 : hi = 2 * (high - t) + 1) (h5 : lo < 4294967296) (h6 : hi < 4294967296) (hlow : low < 4294967296) (hhigh : high < 4294967296) (h2c : Two w p low high) :
  Calls Tryz.prog 148 #[.pointer (some ⟨p, 0, none⟩), .int .u32 ti] w fun e w' => e = .returned (.tuple #[]) ∧ (w.setCell ⟨p, 0, none⟩ (.int .u32 (lo : Int))).setCell ⟨p, 1, none⟩ (.int .u32 (hi : Int)) = w' := by
 subst hti
 exact double_any p low high t lo hi w h1 h2 h3 h4 h5 h6 hlow hhigh h2c.1 h2c.2.1 h2c.2.2.1 h2c.2.2.2
def WidR (w0 : Bs) (p : Nat) (fin : En) (m : Nat) (wr : World) : Prop := ∃ e : En, WS w0 p e wr ∧ widE m e = fin ∧ Ok e.low e.high ∧ 4294967296 < wid e * 2 ^ (m + 1) ∧ len e + m ≤ 140000 ∧ e.wait + m ≤ 70000
theorem widR_zero {e : En} (hok : Ok e.low e.high) (h : 4294967296 < wid e * 2 ^ (0 + 1)) : kind e.low e.high = 3 := by
 by_cases hk : kind e.low e.high = 3
 ·exact hk
 ·have := wid_small hok hk
  simp at h
  omega
theorem stepE_wait {e : En} (h : kind e.low e.high ≠ 3) : (stepE e).wait ≤ e.wait + 1 := by
 rcases kind_cases e.low e.high with ⟨hk, _⟩ | ⟨hk, _⟩ | ⟨hk, _⟩ | ⟨hk, _⟩
 ·rw [stepE_0 hk]; exact Nat.zero_le _
 ·rw [stepE_1 hk]; exact Nat.zero_le _
 ·rw [stepE_2 hk]; exact Nat.le_refl _
 ·exact absurd hk h
theorem WidR.step {w0 : Bs} {wr : World} {p m : Nat} {fin e : En} (hok : Ok e.low e.high) (hk : kind e.low e.high ≠ 3) (hf : widE (m + 1) e = fin) (hw : 4294967296 < wid e * 2 ^ (m + 1 + 1)) (h1 : len e + (m + 1) ≤ 140000) (h2 : e.wait + (m + 1) ≤ 70000) (hs : WS w0 p (stepE e) wr) : WidR w0 p fin m wr := by
 refine ⟨stepE e, hs, ?_, (stepE_low hok hk).2.2, ?_, ?_, ?_⟩
 ·unfold widE at hf; rwa [if_neg hk] at hf
 ·rw [stepE_wid hok hk]
  rw [Nat.pow_succ 2 (m + 1)] at hw
  rw [Nat.mul_comm 2 (wid e), Nat.mul_assoc, Nat.mul_comm 2]
  exact hw
 ·rw [(stepE_off hk).2]; omega
 ·have := stepE_wait hk; omega
theorem widen_w (w0 : Bs) (p m : Nat) (fin : En) (w : World) (h : Hid (WidR w0 p fin m w)) :
  Calls Tryz.prog 110 #[.pointer (some ⟨p, 0, none⟩)] w fun e w' => e = .returned (.tuple #[]) ∧ WS w0 p fin w' := by
 go_enter Tryz.func110, Tryz.ntmps110
 go_wp2_with fail
 go_loopg [2] m (fun k _ wr => Hid (WidR w0 p fin k wr))
 case atStart => exact h
 case round =>
  have HR := hrel
  clear hrel h
  obtain ⟨e, hs, hf, hok, hw, hb1, hb2⟩ := HR.out
  obtain ⟨c0, c1, -, -⟩ := WSm.two hs
  have HS := Lib.hid hs
  have HF := Lib.hid hf
  have HOK := Lib.hid hok
  have HW := Lib.hid hw
  have HB1 := Lib.hid hb1
  have HB2 := Lib.hid hb2
  clear hs hf hok hw hb1 hb2 HR
  go_wp2_with fail
  obtain ⟨kk, hkk⟩ : ∃ kk, kind e.low e.high = kk := ⟨_, rfl⟩
  refine (excess_any e.low e.high kk _ hkk).mono ?_
  rintro ee w1 ⟨rfl, hb⟩
  have H1 := Lib.hid (WSm.next HS.out hb)
  clear hb HS c0 c1
  rcases kind_cases e.low e.high with ⟨hk, k1⟩ | ⟨hk, k1, k2⟩ | ⟨hk, k1, k2, k3, k4⟩ | ⟨hk, k1, k2, k3⟩
  ·obtain rfl : kk = 0 := by omega
   rw [excT_0]
   cases gk with
   | zero => exact absurd (widR_zero HOK.out HW.out) (by omega)
   | succ q =>
    obtain ⟨lo, hlo⟩ : ∃ lo, lo = 2 * (e.low - 0) := ⟨_, rfl⟩
    obtain ⟨hi, hhi⟩ : ∃ hi, hi = 2 * (e.high - 0) + 1 := ⟨_, rfl⟩
    have ok1 := HOK.out.1
    have ok2 := HOK.out.2
    have bw : e.wait ≤ 70000 := by have := HB2.out; omega
    have bo : e.out.length ≤ 140000 := by have := HB1.out; unfold len at this; omega
    have HK := Lib.hid hk
    have HLO := Lib.hid hlo
    have HHI := Lib.hid hhi
    have l1 : lo < 4294967296 := by omega
    have l2 : hi < 4294967296 := by omega
    clear hk hkk hlo hhi
    go_wp2_with fail
    with_reducible refine (send_n w0 p e.low e.high e.wait e.out.length (emit e.out false e.wait).length 0 false 0 e.out (emit e.out false e.wait) w1 H1 rfl (Lib.hid rfl) (by omega) (by omega) (Lib.hid rfl) (by omega) (Lib.hid rfl) (Lib.hid rfl)).mono ?_
    rintro ee w2 ⟨rfl, h2⟩
    have H2 := Lib.hid h2
    clear h2
    go_wp2_with fail
    with_reducible refine (double_n p e.low e.high 0 lo hi 0 w2 rfl (by omega) (by omega) HLO.out HHI.out l1 l2 (by omega) ok2 (WSm.two H2.out)).mono ?_
    rintro ee w3 ⟨rfl, rfl⟩
    have H3 := Lib.hid (WSm.setIv' H2.out lo hi)
    generalize ((w2.setCell ⟨p, 0, none⟩ (.int .u32 (lo : Int))).setCell ⟨p, 1, none⟩ (.int .u32 (hi : Int))) = w3 at H3 ⊢
    go_wp2
    go_roundg q
    case rel =>
     refine Lib.hid (WidR.step HOK.out (by rw [HK.out]; decide) HF.out HW.out HB1.out HB2.out ?_)
     rw [stepE_0 HK.out]
     have h3 := H3.out
     rw [HLO.out, HHI.out] at h3
     exact h3
    case measure => omega
  ·obtain rfl : kk = 1 := by omega
   rw [excT_1]
   cases gk with
   | zero => exact absurd (widR_zero HOK.out HW.out) (by omega)
   | succ q =>
    obtain ⟨lo, hlo⟩ : ∃ lo, lo = 2 * (e.low - 2147483648) := ⟨_, rfl⟩
    obtain ⟨hi, hhi⟩ : ∃ hi, hi = 2 * (e.high - 2147483648) + 1 := ⟨_, rfl⟩
    have ok1 := HOK.out.1
    have ok2 := HOK.out.2
    have bw : e.wait ≤ 70000 := by have := HB2.out; omega
    have bo : e.out.length ≤ 140000 := by have := HB1.out; unfold len at this; omega
    have HK := Lib.hid hk
    have HLO := Lib.hid hlo
    have HHI := Lib.hid hhi
    have l1 : lo < 4294967296 := by omega
    have l2 : hi < 4294967296 := by omega
    clear hk hkk hlo hhi
    go_wp2_with fail
    with_reducible refine (send_n w0 p e.low e.high e.wait e.out.length (emit e.out true e.wait).length 1 true 1 e.out (emit e.out true e.wait) w1 H1 rfl (Lib.hid rfl) (by omega) (by omega) (Lib.hid rfl) (by omega) (Lib.hid rfl) (Lib.hid rfl)).mono ?_
    rintro ee w2 ⟨rfl, h2⟩
    have H2 := Lib.hid h2
    clear h2
    go_wp2_with fail
    with_reducible refine (double_n p e.low e.high 2147483648 lo hi 2147483648 w2 rfl (by omega) (by omega) HLO.out HHI.out l1 l2 (by omega) ok2 (WSm.two H2.out)).mono ?_
    rintro ee w3 ⟨rfl, rfl⟩
    have H3 := Lib.hid (WSm.setIv' H2.out lo hi)
    generalize ((w2.setCell ⟨p, 0, none⟩ (.int .u32 (lo : Int))).setCell ⟨p, 1, none⟩ (.int .u32 (hi : Int))) = w3 at H3 ⊢
    go_wp2
    go_roundg q
    case rel =>
     refine Lib.hid (WidR.step HOK.out (by rw [HK.out]; decide) HF.out HW.out HB1.out HB2.out ?_)
     rw [stepE_1 HK.out]
     have h3 := H3.out
     rw [HLO.out, HHI.out] at h3
     exact h3
    case measure => omega
  ·obtain rfl : kk = 2 := by omega
   rw [excT_2]
   cases gk with
   | zero => exact absurd (widR_zero HOK.out HW.out) (by omega)
   | succ q =>
    obtain ⟨lo, hlo⟩ : ∃ lo, lo = 2 * (e.low - 1073741824) := ⟨_, rfl⟩
    obtain ⟨hi, hhi⟩ : ∃ hi, hi = 2 * (e.high - 1073741824) + 1 := ⟨_, rfl⟩
    have ok1 := HOK.out.1
    have ok2 := HOK.out.2
    have bw : e.wait ≤ 70000 := by have := HB2.out; omega
    have bo : e.out.length ≤ 140000 := by have := HB1.out; unfold len at this; omega
    have HK := Lib.hid hk
    have HLO := Lib.hid hlo
    have HHI := Lib.hid hhi
    have l1 : lo < 4294967296 := by omega
    have l2 : hi < 4294967296 := by omega
    clear hk hkk hlo hhi
    obtain ⟨c2, f2⟩ := WSm.wait_ H1.out
    go_wp2_with fail
    clear c2 f2
    have H2 := Lib.hid (WSm.setWait H1.out (e.wait + 1))
    have ew : (e.wait : Int) + 1 = ((e.wait + 1 : Nat) : Int) := by omega
    rw [ew]
    clear ew
    generalize w1.setCell ⟨p, 2, none⟩ (.int .i64 ((e.wait + 1 : Nat) : Int)) = w2 at H2 ⊢
    with_reducible refine (double_n p e.low e.high 1073741824 lo hi 1073741824 w2 rfl (by omega) (by omega) HLO.out HHI.out l1 l2 (by omega) ok2 (WSm.two H2.out)).mono ?_
    rintro ee w3 ⟨rfl, rfl⟩
    have H3 := Lib.hid (WSm.setIv' H2.out lo hi)
    generalize ((w2.setCell ⟨p, 0, none⟩ (.int .u32 (lo : Int))).setCell ⟨p, 1, none⟩ (.int .u32 (hi : Int))) = w3 at H3 ⊢
    go_wp2
    go_roundg q
    case rel =>
     refine Lib.hid (WidR.step HOK.out (by rw [HK.out]; decide) HF.out HW.out HB1.out HB2.out ?_)
     rw [stepE_2 HK.out]
     have h3 := H3.out
     rw [HLO.out, HHI.out] at h3
     exact h3
    case measure => omega
  ·obtain rfl : kk = 3 := by omega
   rw [excT_3]
   have HE := Lib.hid (show e = fin from by
    have := HF.out
    cases gk with
    | zero => exact this
    | succ q => unfold widE at this; rwa [if_pos hk] at this)
   clear hk hkk
   go_wp2
   exact bodyPost_ret (v := .tuple #[]) (by simp [results, Tryz.results110, go_sem]) rfl ⟨rfl, by rw [← HE.out]; exact H1.out⟩
def putC (e : En) : Int := if e.out.length ≤ 65536 ∧ e.wait ≤ 65536 then 0 else 2
theorem widR_start {w0 : Bs} {w1 : World} {p : Nat} {e : En} {a b T : Nat} (h : WSm w0 p e.low e.high e.wait e.out.length e.out w1) (hok : Ok e.low e.high) (hk : kind e.low e.high = 3) (hS : Sp a b T) (ho : e.out.length ≤ 65536) (hw : e.wait ≤ 65536) {lo hi : Nat} (hlo : lo = e.low + (e.high - e.low + 1) * a / T) (hhi : hi = e.low + (e.high - e.low + 1) * b / T - 1) :
  WidR w0 p (putE e a b T) 40 ((w1.setCell ⟨p, 1, none⟩ (.int .u32 (hi : Int))).setCell ⟨p, 0, none⟩ (.int .u32 (lo : Int))) := by
 obtain ⟨n1, _, _, _, n5⟩ := nar_ok hok hk hS
 have hs := WSm.setIv h lo hi
 subst hlo hhi
 refine ⟨nar e a b T, hs, rfl, n1, ?_, ?_, ?_⟩
 ·rw [pow41]; omega
 ·show e.out.length + e.wait + 40 ≤ 140000; omega
 ·show e.wait + 40 ≤ 70000; omega
theorem put_w (w0 : Bs) (p : Nat) (e fin : En) (cd : Int) (C : Option Addr) (m d : Nat) (xs : List Int) (s : Int) (a b T : Nat) (w : World) (h : Hid (WS w0 p e w)) (hok : Hid (Ok e.low e.high)) (hk : Hid (kind e.low e.high = 3)) (ho : e.out.length ≤ 65536) (hw : e.wait ≤ 65536) (hx : Hid (Fq.RdI w C m xs)) (hm : Hid (m ≤ maxLen)) (hsym : Hid (symP xs s a b T)) (hfin : Hid (putE e a b T = fin)) (hcd : Hid (putC fin = cd)) :
  Calls Tryz.prog 80 #[.pointer (some ⟨p, 0, none⟩), .agg #[.slice C m d], .int .i64 s] w fun r w' => r = .returned (.int .i64 cd) ∧ WS w0 p fin w' := by
 obtain ⟨n1, -, n3, -, n5⟩ := nar_ok hok.out hk.out hsym.out.2.2.2
 obtain ⟨lo, hlo⟩ : ∃ lo, lo = e.low + (e.high - e.low + 1) * a / T := ⟨_, rfl⟩
 obtain ⟨hi, hhi⟩ : ∃ hi, hi = e.low + (e.high - e.low + 1) * b / T - 1 := ⟨_, rfl⟩
 have hb1 : 1 ≤ (e.high - e.low + 1) * b / T := by
  have hw := wide_wid hok.out hk.out
  have hw1 : 1073741824 ≤ e.high - e.low + 1 := hw.1
  exact Nat.lt_of_le_of_lt (Nat.zero_le _) (nar_parts hsym.out.2.2.2 (W := e.high - e.low + 1) (by omega)).1
 have l1 : lo ≤ hi := by rw [hlo, hhi]; exact n1.1
 have l2 : hi < 4294967296 := by rw [hhi]; exact n1.2
 have o1 := hok.out.1
 have o2 := hok.out.2
 have HLO := Lib.hid hlo
 have HHI := Lib.hid hhi
 have HB1 := Lib.hid hb1
 clear hlo hhi hb1 n1 n3 n5
 have HS0 := Lib.hid (nrs_start (d := d) hx.out)
 have HW0 := Lib.hid (WSm.next h.out ((Below.refl w.heap.size w).alloc (Nat.le_refl _) (.cells #[.slice C m d] 130)))
 go_enter Tryz.func80, Tryz.ntmps80
 go_wp2_with fail
 generalize w.alloc (.cells #[.slice C m d] 130) = w1 at HS0 HW0 ⊢
 obtain ⟨bf, hbf⟩ : ∃ bf, bf = w.heap.size := ⟨_, rfl⟩
 rw [← hbf] at HS0 ⊢
 clear hbf
 have c0 := Fq.blk0 HS0.out.1
 go_region_with (go_at_call 109; refine (narrow_ok p e.low e.high a b T lo hi C m d xs s _ o1 o2 (Lib.hid HS0.out.2.1.drew) hm hsym (Lib.hid (WSm.two HW0.out).drew) HLO HHI HB1 l1 l2).mono ?_; rintro r w2 ⟨rfl, w3, hb3, rfl⟩)
 have H3 := Lib.hid (WSm.next HW0.out (show Below w1.heap.size w1 w3 from ⟨hb3.os, hb3.tape, hb3.output, hb3.size, hb3.block⟩))
 have H4 := Lib.hid (widR_start H3.out hok.out hk.out hsym.out.2.2.2 ho hw HLO.out HHI.out)
 generalize (w3.setCell ⟨p, 1, none⟩ (.int .u32 (hi : Int))).setCell ⟨p, 0, none⟩ (.int .u32 (lo : Int)) = w4 at H4 ⊢
 clear hb3 c0 H3 HW0 HS0
 go_wp2_with fail
 rw [hfin.out] at H4
 with_reducible refine (widen_w w0 p 40 fin w4 H4).mono ?_
 rintro r w5 ⟨rfl, h5⟩
 have H5 := Lib.hid h5
 clear h5
 obtain ⟨c4, -⟩ := WSm.n_ H5.out
 obtain ⟨c2, -⟩ := WSm.wait_ H5.out
 by_cases q1 : fin.out.length ≤ 65536
 ·have d1 : decide ((65536 : Int) < (fin.out.length : Int)) = false := by simp; omega
  by_cases q2 : fin.wait ≤ 65536
  ·have d2 : decide ((65536 : Int) < (fin.wait : Int)) = false := by simp; omega
   have HC := Lib.hid (show cd = 0 by rw [← hcd.out, putC, if_pos ⟨q1, q2⟩])
   go_wp2
   go_ret
   exact ⟨by rw [HC.out]; rfl, H5.out⟩
  ·have d2 : decide ((65536 : Int) < (fin.wait : Int)) = true := by simp; omega
   have HC := Lib.hid (show cd = 2 by rw [← hcd.out, putC, if_neg (fun h => q2 h.2)])
   go_wp2
   go_ret
   exact ⟨by rw [HC.out]; rfl, H5.out⟩
 ·have d1 : decide ((65536 : Int) < (fin.out.length : Int)) = true := by simp; omega
  have HC := Lib.hid (show cd = 2 by rw [← hcd.out, putC, if_neg (fun h => q1 h.1)])
  go_wp2
  go_ret
  exact ⟨by rw [HC.out]; rfl, H5.out⟩
theorem put_no (w0 : Bs) (p low high wait N : Nat) (out : List Bool) (C : Option Addr) (m d : Nat) (xs : List Int) (s : Int) (w : World) (h : Hid (WSm w0 p low high wait N out w)) (hx : Hid (Fq.RdI w C m xs)) (hm : Hid (m ≤ maxLen)) (hsym : Hid (Fq.symB xs s = false)) :
  Calls Tryz.prog 80 #[.pointer (some ⟨p, 0, none⟩), .agg #[.slice C m d], .int .i64 s] w fun r w' => r = .returned (.int .i64 1) ∧ WSm w0 p low high wait N out w' := by
 have HS0 := Lib.hid (nrs_start (d := d) hx.out)
 have HW0 := Lib.hid (WSm.next h.out ((Below.refl w.heap.size w).alloc (Nat.le_refl _) (.cells #[.slice C m d] 130)))
 go_enter Tryz.func80, Tryz.ntmps80
 go_wp2_with fail
 generalize w.alloc (.cells #[.slice C m d] 130) = w1 at HS0 HW0 ⊢
 obtain ⟨bf, hbf⟩ : ∃ bf, bf = w.heap.size := ⟨_, rfl⟩
 rw [← hbf] at HS0 ⊢
 clear hbf
 have c0 := Fq.blk0 HS0.out.1
 go_region_with (go_at_call 109; refine (narrow_no p C m d xs s _ (Lib.hid HS0.out.2.1.drew) hm hsym).mono ?_; rintro r w3 ⟨rfl, hb3⟩)
 have H3 := Lib.hid (WSm.next HW0.out (show Below w1.heap.size w1 w3 from ⟨hb3.os, hb3.tape, hb3.output, hb3.size, hb3.block⟩))
 clear hb3 c0
 go_wp2
 go_ret
 exact ⟨rfl, H3.out⟩
theorem end_join {w0 : Bs} {w : World} {p low high wait N : Nat} {out : List Bool} (h : WSm w0 p low high wait N out w) (ho : out.length ≤ 250000) :
  ∃ g k cap, w.cell? ⟨p, 3, none⟩ = some (.slice (some ⟨g, 0, none⟩) k cap) ∧ Calls Tryz.prog 112 #[.slice (some ⟨g, 0, none⟩) k cap] w (BOut w (JQ w.heap.size out)) := by
 obtain ⟨hb, g, k, cap, xs, h2⟩ := h
 refine ⟨g, k, cap, h2.blk.cell 3, ?_⟩
 have := join_out (some ⟨g, 0, none⟩) k cap xs w (by have := h2.few; omega) h2.rdL (fun x hx => (h2.rd x hx).2.1)
 rw [h2.bits] at this
 exact this
theorem JQ.far {B r : Nat} {l : List Bool} {v : Value} {er : Int} {w : World} (h : JQ B l v er w) (hr : r < B) (i : Nat) (a : Value) : JQ B l v er (w.setCell ⟨r, i, none⟩ a) := by
 rcases h with ⟨h2, h3, g, e, hg, hb, hl⟩ | h
 ·exact .inl ⟨h2, h3, g, e, hg, hb.far (by simp; omega) _, hl⟩
 ·exact .inr h
theorem JQ.mono {B B' : Nat} {l : List Bool} {v : Value} {er : Int} {w : World} (h : JQ B l v er w) (hb : B' ≤ B) : JQ B' l v er w := by
 rcases h with ⟨h2, h3, g, e, hg, hb2, hl⟩ | h
 ·exact .inl ⟨h2, h3, g, e, by omega, hb2, hl⟩
 ·exact .inr h
theorem WSm.rebase {w0 : Bs} {w : World} {p low high wait N : Nat} {out : List Bool} (h : WSm w0 p low high wait N out w) {r : Nat} (hr : r = w.heap.size) (o : Obj) : WSm ⟨w0.w, r, some o⟩ p low high wait N out (w.alloc o) := by
 subst hr
 have hn := h.next ((Below.refl w.heap.size w).alloc (Nat.le_refl _) o)
 obtain ⟨hb, g, k, cap, xs, h2⟩ := hn
 obtain ⟨_, g', k', cap', xs', h3⟩ := h
 have e : g' = g := by
  have a1 := h2.blk.cell 3
  have a2 := (World.cell?_alloc_lt w o ⟨p, 3, none⟩ h3.blk.lt).trans (h3.blk.cell 3)
  rw [a1] at a2
  have a3 : (some (Value.slice (some ⟨g, 0, none⟩) k cap)) = some (Value.slice (some ⟨g', 0, none⟩) k' cap') := a2
  injection a3 with a3; injection a3 with a3; injection a3 with a3; injection a3 with a3; exact a3.symm
 subst e
 refine ⟨hb, g', k, cap, xs, h2.blk, h2.own, h2.hp, h2.hg, h2.ne, h2.len, h2.rd, h2.bits, h2.few, ?_, ?_, ?_, ?_⟩
 ·have := h3.blk.lt; show w.heap.size ≠ p; omega
 ·have := (World.ownsRow.lt h3.own g' rfl).2; show w.heap.size ≠ g'; omega
 ·show w.heap.size < _; simp
 ·exact heap_alloc_new w o
theorem WSm.stay {w0 : Bs} {w : World} {p low high wait N : Nat} {out : List Bool} (h : WSm w0 p low high wait N out w) : w.heap[w0.r]? = w0.o := by
 obtain ⟨_, g, k, cap, xs, h2⟩ := h
 exact h2.kp.2.2.2
theorem WSm.base {w0 : Bs} {w : World} {p low high wait N : Nat} {out : List Bool} (h : WSm w0 p low high wait N out w) : Below w0.w.heap.size w0.w w := h.1
theorem end_w (w0 : Bs) (p : Nat) (e : En) (out2 : List Bool) (w : World) (h : Hid (WS w0 p e w)) (ho : e.out.length ≤ 65536) (hw : e.wait ≤ 65536) (ho2 : Hid (out2 = endBits e)) :
  Calls Tryz.prog 81 #[.pointer (some ⟨p, 0, none⟩)] w (BOut w0.w (JQ w0.w.heap.size out2)) := by
 have HW1 := Lib.hid (WSm.rebase (WSm.setWait h.out (e.wait + 1)) (r := w.heap.size) (by simp) (.cells #[.slice none 0 0, .int .i64 0] 100))
 have HB0 := Lib.hid (show w0.w.heap.size ≤ w.heap.size from h.out.1.size)
 have HL2 := Lib.hid (show out2.length = e.out.length + e.wait + 2 by rw [ho2.out, endBits_length]; rfl)
 obtain ⟨c2, f2⟩ := WSm.wait_ h.out
 obtain ⟨c0, -, -, -⟩ := WSm.two h.out
 have lp := WSm.lt h.out
 have ew : (e.wait : Int) + 1 = ((e.wait + 1 : Nat) : Int) := by omega
 have HEW := Lib.hid ew
 clear ew
 by_cases hl : 1073741824 ≤ e.low
 ·have d1 : decide ((e.low : Int) < 1073741824) = false := by simp; omega
  have HO := Lib.hid (show out2 = emit e.out true (e.wait + 1) by rw [ho2.out]; unfold endBits; rw [decide_eq_true hl])
  clear hl
  go_enter Tryz.func81, Tryz.ntmps81
  go_wp2_with fail
  clear c0 c2 f2
  rw [HEW.out]
  obtain ⟨br, hbr⟩ : ∃ br, br = w.heap.size := ⟨_, rfl⟩
  generalize ((w.setCell ⟨p, 2, none⟩ (.int .i64 ((e.wait + 1 : Nat) : Int))).alloc (.cells #[.slice none 0 0, .int .i64 0] 100)) = w1 at HW1 ⊢
  rw [← hbr] at HW1 ⊢
  have HBR := Lib.hid (show w0.w.heap.size ≤ br by have := HB0.out; omega)
  clear hbr lp HB0
  with_reducible refine (send_n ⟨w0.w, br, some (.cells #[.slice none 0 0, .int .i64 0] 100)⟩ p e.low e.high (e.wait + 1) e.out.length out2.length 1 true 1 e.out out2 w1 HW1 rfl (Lib.hid rfl) (by omega) (by omega) (Lib.hid rfl) (by omega) (Lib.hid rfl) HO).mono ?_
  rintro ee w2 ⟨rfl, h2⟩
  have H2 := Lib.hid h2
  have HR2 := Lib.hid (show Blk w2 br 100 #[.slice none 0 0, .int .i64 0] from h2.stay)
  obtain ⟨g, k, cap, c3, hj⟩ := end_join h2 (by have := HL2.out; omega)
  have HJ := Lib.hid hj
  clear h2 hj
  go_wp2_with fail
  with_reducible refine HJ.out.mono ?_
  rintro ee w3 ⟨A, n, c, N, er, rfl, hb3, hq⟩
  have HK3 := Lib.hid (HR2.out.below hb3 HR2.out.lt)
  have HQ3 := Lib.hid hq
  have HB3 := Lib.hid (H2.out.base.trans (hb3.mono H2.out.base.size))
  have HS3 := Lib.hid (show br < w2.heap.size ∧ w0.w.heap.size ≤ w2.heap.size from ⟨HR2.out.lt, H2.out.base.size⟩)
  clear hb3 hq HJ c3
  obtain ⟨y1, y2, y3, y4⟩ := blk2 HK3.out
  go_wp2
  exact bodyPost_ret (v := .tuple #[.agg #[.slice A n c, .int .i64 N], .int .i64 er]) (by simp [results, Tryz.results81, go_sem, y1, y2]) rfl ⟨A, n, c, N, er, rfl, (HB3.out.setCell HBR.out _).setCell HBR.out _, JQ.mono (JQ.far (JQ.far HQ3.out HS3.out.1 _ _) HS3.out.1 _ _) HS3.out.2⟩
 ·have d1 : decide ((e.low : Int) < 1073741824) = true := by simp; omega
  have HO := Lib.hid (show out2 = emit e.out false (e.wait + 1) by rw [ho2.out]; unfold endBits; rw [decide_eq_false hl])
  clear hl
  go_enter Tryz.func81, Tryz.ntmps81
  go_wp2_with fail
  clear c0 c2 f2
  rw [HEW.out]
  obtain ⟨br, hbr⟩ : ∃ br, br = w.heap.size := ⟨_, rfl⟩
  generalize ((w.setCell ⟨p, 2, none⟩ (.int .i64 ((e.wait + 1 : Nat) : Int))).alloc (.cells #[.slice none 0 0, .int .i64 0] 100)) = w1 at HW1 ⊢
  rw [← hbr] at HW1 ⊢
  have HBR := Lib.hid (show w0.w.heap.size ≤ br by have := HB0.out; omega)
  clear hbr lp HB0
  with_reducible refine (send_n ⟨w0.w, br, some (.cells #[.slice none 0 0, .int .i64 0] 100)⟩ p e.low e.high (e.wait + 1) e.out.length out2.length 0 false 0 e.out out2 w1 HW1 rfl (Lib.hid rfl) (by omega) (by omega) (Lib.hid rfl) (by omega) (Lib.hid rfl) HO).mono ?_
  rintro ee w2 ⟨rfl, h2⟩
  have H2 := Lib.hid h2
  have HR2 := Lib.hid (show Blk w2 br 100 #[.slice none 0 0, .int .i64 0] from h2.stay)
  obtain ⟨g, k, cap, c3, hj⟩ := end_join h2 (by have := HL2.out; omega)
  have HJ := Lib.hid hj
  clear h2 hj
  go_wp2_with fail
  with_reducible refine HJ.out.mono ?_
  rintro ee w3 ⟨A, n, c, N, er, rfl, hb3, hq⟩
  have HK3 := Lib.hid (HR2.out.below hb3 HR2.out.lt)
  have HQ3 := Lib.hid hq
  have HB3 := Lib.hid (H2.out.base.trans (hb3.mono H2.out.base.size))
  have HS3 := Lib.hid (show br < w2.heap.size ∧ w0.w.heap.size ≤ w2.heap.size from ⟨HR2.out.lt, H2.out.base.size⟩)
  clear hb3 hq HJ c3
  obtain ⟨y1, y2, y3, y4⟩ := blk2 HK3.out
  go_wp2
  exact bodyPost_ret (v := .tuple #[.agg #[.slice A n c, .int .i64 N], .int .i64 er]) (by simp [results, Tryz.results81, go_sem, y1, y2]) rfl ⟨A, n, c, N, er, rfl, (HB3.out.setCell HBR.out _).setCell HBR.out _, JQ.mono (JQ.far (JQ.far HQ3.out HS3.out.1 _ _) HS3.out.1 _ _) HS3.out.2⟩
def rsC (low high : Nat) (wt : Int) (A : Option Addr) (n c : Nat) (N : Int) : Array Value := #[.int .u32 (low : Int), .int .u32 (high : Int), .int .i64 wt, .slice A n c, .int .i64 N]
def rsW (w : World) (low high : Nat) (wt : Int) (A : Option Addr) (n c : Nat) (N : Int) : World :=
 ((w.alloc (.cells (rsC low high wt A n c N) 145)).alloc (.cells #[.slice A n c, .int .i64 N] 100)).alloc (.cells #[.int .u32 (low : Int), .int .u32 (high : Int), .int .i64 wt, .slice (some ⟨w.heap.size + 1, 0, none⟩) 1 1, .int .i64 N] 186)
theorem rs_start {w : World} {low high k : Nat} {A : Option Addr} {n c : Nat} {N : Int} {l : List Bool} (h : IsB w (.agg #[.slice A n c, .int .i64 N]) l) :
  WSm ⟨w, w.heap.size, some (.cells (rsC low high (k : Int) A n c N) 145)⟩ (w.heap.size + 1 + 1) low high k l.length l (rsW w low high (k : Int) A n c N) := by
 obtain ⟨hn, hN, hr, hl⟩ := isB_parts h
 have hb : Below w.heap.size w (rsW w low high (k : Int) A n c N) := (((Below.refl w.heap.size w).alloc (Nat.le_refl _) _).alloc (by simp) _).alloc (by simp; omega) _
 have hr2 : Rd (rsW w low high (k : Int) A n c N) A n (pack l) := hr.below hb
 refine ⟨hb, w.heap.size + 1, 1, 1, [⟨A, n, c, N, pack l⟩], ?_, ?_, ?_, ?_, ?_, rfl, ?_, ?_, ?_, ?_, ?_, ?_, ?_⟩
 ·rw [hN]
  exact Blk.newAt (by simp)
 ·refine ⟨rfl, .inr ⟨w.heap.size + 1, 1, #[.slice A n c, .int .i64 N], rfl, by show w.heap.size ≤ _; omega, ?_, by omega, by unfold maxLen; omega, rfl, rfl⟩⟩
  have : Blk ((w.alloc (.cells (rsC low high (k : Int) A n c N) 145)).alloc (.cells #[.slice A n c, .int .i64 N] 100)) (w.heap.size + 1) 100 #[.slice A n c, .int .i64 N] := Blk.newAt (by simp)
  exact this.alloc _
 ·show w.heap.size ≤ _; omega
 ·show w.heap.size ≤ _; omega
 ·omega
 ·intro x hx
  have : x = ⟨A, n, c, N, pack l⟩ := by simpa using hx
  subst this
  refine ⟨hr2, by show okB (pack l) N = true; rw [hN]; exact okB_pack l hl, ?_, ?_⟩
  ·intro ad e hn
   have := hr.lies hn ad e
   omega
  ·intro ad e hn
   have := hr.lies hn ad e
   omega
 ·show bitsIn (pack l) N.toNat ++ [] = l
  rw [hN, List.append_nil]
  exact bitsIn_pack l
 ·omega
 ·show w.heap.size ≠ _; omega
 ·show w.heap.size ≠ _; omega
 ·show w.heap.size < _; unfold rsW; simp; omega
 ·have : Blk (w.alloc (.cells (rsC low high (k : Int) A n c N) 145)) w.heap.size 145 (rsC low high (k : Int) A n c N) := Blk.new w _ _
  exact (this.alloc _).alloc _
def RsOk (w : World) (low high k : Nat) (l : List Bool) (e : Ending) (w' : World) : Prop :=
 ∃ z p, z.w = w ∧ e = .returned (.tuple #[.pointer (some ⟨p, 0, none⟩), .int .i64 0]) ∧ WSm z p low high k l.length l w'
theorem resume_ok (low high k : Nat) (A : Option Addr) (n c : Nat) (N : Int) (l : List Bool) (w : World) (_hl : low < 4294967296) (_hh : high < 4294967296) (hk : k ≤ 65536) (hw : Hid (kind low high = 3)) (hib : Hid (IsB w (.agg #[.slice A n c, .int .i64 N]) l)) :
  Calls Tryz.prog 78 #[encV low high (k : Int) A n c N] w (RsOk w low high k l) := by
 unfold encV
 have HS := Lib.hid (rs_start (low := low) (high := high) (k := k) hib.out)
 unfold rsW rsC at HS
 have d1 : decide ((k : Int) < 0) = false := by simp
 have d2 : decide ((65536 : Int) < (k : Int)) = false := by simp; omega
 go_enter Tryz.func78, Tryz.ntmps78
 go_wp2_with fail
 generalize ((w.alloc (.cells #[.int .u32 (low : Int), .int .u32 (high : Int), .int .i64 (k : Int), .slice A n c, .int .i64 N] 145)).alloc (.cells #[.slice A n c, .int .i64 N] 100)).alloc (.cells #[.int .u32 (low : Int), .int .u32 (high : Int), .int .i64 (k : Int), .slice (some ⟨w.heap.size + 1, 0, none⟩) 1 1, .int .i64 N] 186) = w1 at HS ⊢
 refine (excess_any low high 3 w1 hw.out).mono ?_
 rintro e w2 ⟨rfl, hb2⟩
 have H2 := Lib.hid (WSm.next HS.out hb2)
 have HE2 := Lib.hid (show Blk w2 w.heap.size 145 #[.int .u32 (low : Int), .int .u32 (high : Int), .int .i64 (k : Int), .slice A n c, .int .i64 N] from H2.out.stay)
 clear hb2 HS
 rw [excT_3]
 obtain ⟨x1, x2, x3, x4, x5⟩ := blk5 HE2.out
 go_wp2_with fail
 have hcon := check_any A n c N (pack l) w2 ((isB_parts hib.out).2.2.1.below H2.out.base)
 rw [show okB (pack l) N = true by rw [(isB_parts hib.out).2.1]; exact okB_pack l (isB_parts hib.out).2.2.2] at hcon
 refine hcon.mono ?_
 clear hcon
 rintro e w3 ⟨rfl, hb3⟩
 have H3 := Lib.hid (WSm.next H2.out hb3)
 clear hb3
 go_wp2
 go_ret2
 exact ⟨_, _, rfl, rfl, H3.out⟩
theorem below5 {B g : Nat} {w u : World} (h : Below B w u) (hg : B ≤ g) (a b c d e : Value) : Below B w (((((u.setCell ⟨g, 0, none⟩ a).setCell ⟨g, 1, none⟩ b).setCell ⟨g, 2, none⟩ c).setCell ⟨g, 3, none⟩ d).setCell ⟨g, 4, none⟩ e) :=
 ((((h.setCell hg a).setCell hg b).setCell hg c).setCell hg d).setCell hg e
theorem below5a {g : Nat} {w u : World} (h : Below w.heap.size w u) (hg : w.heap.size ≤ g) (a b c d e : Value) (o : Obj) : Below w.heap.size w ((((((u.setCell ⟨g, 0, none⟩ a).setCell ⟨g, 1, none⟩ b).setCell ⟨g, 2, none⟩ c).setCell ⟨g, 3, none⟩ d).setCell ⟨g, 4, none⟩ e).alloc o) :=
 (below5 h hg a b c d e).alloc (below5 h hg a b c d e).size o
theorem begin_any (w : World) : Calls Tryz.prog 79 #[] w fun e w' => e = .returned (encV 0 4294967295 0 none 0 0 0) ∧ Below w.heap.size w w' := by
 have HK := Lib.hid (Blk.new w 145 #[.int .u32 0, .int .u32 0, .int .i64 0, .slice none 0 0, .int .i64 0])
 have HB := Lib.hid ((Below.refl w.heap.size w).alloc (Nat.le_refl _) (.cells #[.int .u32 0, .int .u32 0, .int .i64 0, .slice none 0 0, .int .i64 0] 145))
 go_enter Tryz.func79, Tryz.ntmps79
 go_wp2_with fail
 generalize w.alloc (.cells #[.int .u32 0, .int .u32 0, .int .i64 0, .slice none 0 0, .int .i64 0] 145) = w1 at HK HB ⊢
 refine (whole_any w1).mono ?_
 rintro e w2 ⟨rfl, hb2⟩
 have HK2 := Lib.hid (HK.out.below hb2 HK.out.lt)
 have HB2 := Lib.hid (HB.out.trans (hb2.mono HB.out.size))
 clear hb2 HB HK
 unfold ivV
 have b2 := HK2.out.lt
 obtain ⟨x1, x2, x3, x4, x5⟩ := blk5 HK2.out
 obtain ⟨f1, f2, f3, f4, f5, -⟩ := frz6 HK2.out
 go_wp2
 exact bodyPost_ret (v := encV 0 4294967295 0 none 0 0 0) (by simp [results, Tryz.results79, go_sem, encV, x1, x2, x3, x4, x5, b2]) rfl ⟨rfl, below5a HB2.out (Nat.le_refl _) _ _ _ _ _ _⟩
structure Tb where
 C : Option Addr
 m : Nat
 d : Nat
 xs : List Int
def RdT (w : World) (L : Option Addr) (n : Nat) (ts : List Tb) : Prop :=
 ts.length = n ∧ (0 < n → ∃ ad, L = some ad ∧ ∀ j t, ts[j]? = some t → w.cell? (ad.add j) = some (.slice t.C t.m t.d) ∧ Fq.RdI w t.C t.m t.xs ∧ t.m ≤ maxLen)
section
variable {w w' : World} {L : Option Addr} {n : Nat} {ts : List Tb}
theorem RdT.none_ : RdT w L 0 [] := ⟨rfl, fun h => absurd h (by omega)⟩
theorem RdT.below (h : RdT w L n ts) (hb : Below w.heap.size w w') : RdT w' L n ts := by
 refine ⟨h.1, fun hn => ?_⟩
 obtain ⟨ad, e, hc⟩ := h.2 hn
 refine ⟨ad, e, fun j t ht => ?_⟩
 obtain ⟨h1, h2, h3⟩ := hc j t ht
 exact ⟨(hb.cell (World.block_lt_of_cell? _ _ h1)).trans h1, h2.below hb, h3⟩
theorem RdT.at_ (h : RdT w L n ts) {k : Nat} (hk : k < n) : ∃ ad t, L = some ad ∧ ts[k]? = some t ∧ ad.block < w.heap.size ∧ w.cell? (ad.add k) = some (.slice t.C t.m t.d) ∧ Fq.RdI w t.C t.m t.xs ∧ t.m ≤ maxLen := by
 obtain ⟨ad, e, hc⟩ := h.2 (by omega)
 have hl : k < ts.length := by have := h.1; omega
 obtain ⟨t, ht⟩ : ∃ t, ts[k]? = some t := ⟨ts[k], by simp [hl]⟩
 obtain ⟨h1, h2, h3⟩ := hc k t ht
 have hb := World.block_lt_of_cell? _ _ h1
 rw [block_of_add] at hb
 exact ⟨ad, t, e, ht, hb, h1, h2, h3⟩
end
abbrev Pr := Int × List Int
def spA (q : Pr) : Nat := (q.2.getD q.1.toNat 0).toNat
def spB (q : Pr) : Nat := (q.2.getD (q.1.toNat + 1) 0).toNat
def spT (xs : List Int) : Nat := (Fq.totF true xs).toNat
def okP (q : Pr) : Bool := Fq.symB q.2 q.1
theorem symP_of {q : Pr} (h : okP q = true) : symP q.2 q.1 (spA q) (spB q) (spT q.2) := by
 have h' := h
 unfold okP Fq.symB at h'
 simp only [Bool.and_eq_true, decide_eq_true_eq] at h'
 obtain ⟨hok, h0, h1⟩ := h'
 have hp := Fq.okF_parts hok
 have i1 : q.1.toNat + 1 < q.2.length := by omega
 have b1 := Fq.okF_bd hok (i := q.1.toNat) (by omega)
 have b2 := Fq.okF_bd hok (i := q.1.toNat + 1) i1
 have b3 := Fq.okF_bd hok (i := q.2.length - 1) (by omega)
 have m1 := Fq.okF_mono hok (i := q.1.toNat) (j := q.1.toNat + 1) (by omega) i1
 have m2 := Fq.mono_le hok (i := q.1.toNat + 1) (j := q.2.length - 1) (by omega) (by omega)
 have e1 : ((spA q : Nat) : Int) = q.2.getD q.1.toNat 0 := by unfold spA; omega
 have e2 : ((spB q : Nat) : Int) = q.2.getD (q.1.toNat + 1) 0 := by unfold spB; omega
 have e3 : ((spT q.2 : Nat) : Int) = q.2.getD (q.2.length - 1) 0 := by unfold spT Fq.totF; simp only [if_true]; omega
 refine ⟨?_, hok, ?_, ?_, ?_, ?_⟩
 ·unfold Fq.spanV
  unfold okP at h
  rw [h, e1, e2]
  rfl
 ·rw [e3]; rfl
 ·omega
 ·omega
 ·omega
def put1 (e : En) (q : Pr) : En := putE e (spA q) (spB q) (spT q.2)
def stE (e : En) (ps : List Pr) : En := ps.foldl put1 e
theorem stE_cons (e : En) (q : Pr) (ps : List Pr) : stE e (q :: ps) = stE (put1 e q) ps := rfl
theorem stE_snoc (e : En) (ps : List Pr) (q : Pr) : stE e (ps ++ [q]) = put1 (stE e ps) q := by simp [stE]
theorem putC_cases (e : En) : (putC e = 0 ∧ e.out.length ≤ 65536 ∧ e.wait ≤ 65536) ∨ putC e = 2 := by
 unfold putC
 split
 ·rename_i h; exact .inl ⟨rfl, h⟩
 ·exact .inr rfl
def allErr (e : En) : List Pr → Int
 | [] => 0
 | q :: r => if okP q = true then (if putC (put1 e q) = 0 then allErr (put1 e q) r else 2) else 1
theorem allErr_no {e : En} {q : Pr} {r : List Pr} (h : okP q = false) : allErr e (q :: r) = 1 := by unfold allErr; rw [h]; rfl
theorem allErr_long {e : En} {q : Pr} {r : List Pr} (h : okP q = true) (h2 : putC (put1 e q) = 2) : allErr e (q :: r) = 2 := by unfold allErr; rw [if_pos h, if_neg (by rw [h2]; decide)]
theorem allErr_ok {e : En} {q : Pr} {r : List Pr} (h : okP q = true) (h2 : putC (put1 e q) = 0) : allErr e (q :: r) = allErr (put1 e q) r := by rw [allErr, if_pos h, if_pos h2]
def Fine (e : En) : Prop := Ok e.low e.high ∧ kind e.low e.high = 3 ∧ e.out.length ≤ 65536 ∧ e.wait ≤ 65536
theorem Fine.put {e : En} {q : Pr} (h : Fine e) (hq : okP q = true) (hc : putC (put1 e q) = 0) : Fine (put1 e q) := by
 obtain ⟨a, b, _⟩ := put_facts h.1 h.2.1 (symP_of hq).2.2.2
 rcases putC_cases (put1 e q) with ⟨_, c, d⟩ | c
 ·exact ⟨a, b, c, d⟩
 ·rw [c] at hc; cases hc
theorem fine0 : Fine e0 := ⟨e0_ok.1, e0_ok.2, by decide, by decide⟩
theorem allErr_zero {ps : List Pr} : ∀ {e : En}, Fine e → allErr e ps = 0 → Fine (stE e ps) ∧ ∀ q ∈ ps, okP q = true := by
 induction ps with
 | nil => intro e h _; exact ⟨h, by simp⟩
 | cons q r ih =>
  intro e h h0
  cases hq : okP q with
  | false => rw [allErr_no hq] at h0; cases h0
  | true =>
   rcases putC_cases (put1 e q) with ⟨c, _, _⟩ | c
   ·rw [allErr_ok hq c] at h0
    obtain ⟨a, b⟩ := ih (h.put hq c) h0
    rw [stE_cons]
    refine ⟨a, fun q' hq' => ?_⟩
    rcases List.mem_cons.1 hq' with e | e
    ·rw [e]; exact hq
    ·exact b q' e
   ·rw [allErr_long hq c] at h0; cases h0
def AllOut (w : World) (ps : List Pr) (e : Ending) (w' : World) : Prop :=
 (allErr e0 ps = 0 ∧ BOut w (JQ w.heap.size (endBits (stE e0 ps))) e w') ∨ (allErr e0 ps ≠ 0 ∧ BBad w (allErr e0 ps) e w')
def prs (ss : List Int) (ts : List Tb) : List Pr := ss.zip (ts.map (·.xs))
theorem prs_get {ss : List Int} {ts : List Tb} {k : Nat} {t : Tb} (h1 : k < ss.length) (h2 : ts[k]? = some t) : (prs ss ts).drop k = (ss.getD k 0, t.xs) :: (prs ss ts).drop (k + 1) ∧ (prs ss ts).take (k + 1) = (prs ss ts).take k ++ [(ss.getD k 0, t.xs)] := by
 obtain ⟨hk, e⟩ := List.getElem?_eq_some_iff.1 h2
 have hl : k < (prs ss ts).length := by unfold prs; rw [List.length_zip, List.length_map]; omega
 have hg : (prs ss ts)[k] = (ss.getD k 0, t.xs) := by
  have : (prs ss ts)[k]? = some (ss.getD k 0, t.xs) := by
   unfold prs
   rw [List.getElem?_zip_eq_some]
   exact ⟨Fq.get_of_lt h1, by rw [List.getElem?_map, h2]; rfl⟩
  rw [List.getElem?_eq_getElem hl] at this
  injection this
 exact ⟨by rw [List.drop_eq_getElem_cons hl, hg], by rw [List.take_succ_eq_append_getElem hl, hg]⟩
def AllR (w : World) (z : Bs) (p br : Nat) (ps : List Pr) (k : Nat) (wr : World) : Prop :=
 WS z p (stE e0 (ps.take k)) wr ∧ Fine (stE e0 (ps.take k)) ∧ allErr e0 ps = allErr (stE e0 (ps.take k)) (ps.drop k) ∧ Blk z.w br 100 #[.slice none 0 0, .int .i64 0] ∧ Below w.heap.size w z.w ∧ w.heap.size ≤ br
theorem AllR.below {w : World} {z : Bs} {p br : Nat} {ps : List Pr} {k : Nat} {wr : World} (h : AllR w z p br ps k wr) : Below w.heap.size w wr := h.2.2.2.2.1.trans (h.1.1.mono h.2.2.2.2.1.size)
theorem BOut.store {w w1 w2 : World} {br : Nat} {l : List Bool} {A : Option Addr} {n c : Nat} {N er : Int} (hb : Below w.heap.size w w1) (hbr : w.heap.size ≤ br) (hlt : br < w1.heap.size) (h2 : Below w1.heap.size w1 w2) (hq : JQ w1.heap.size l (.agg #[.slice A n c, .int .i64 N]) er w2) (a b : Value) :
  BOut w (JQ w.heap.size l) (.returned (.tuple #[.agg #[.slice A n c, .int .i64 N], .int .i64 er])) ((w2.setCell ⟨br, 0, none⟩ a).setCell ⟨br, 1, none⟩ b) :=
 ⟨A, n, c, N, er, rfl, ((hb.trans (h2.mono hb.size)).setCell hbr _).setCell hbr _, JQ.mono (JQ.far (JQ.far hq hlt _ _) hlt _ _) hb.size⟩
theorem all_walk (A : Option Addr) (n c : Nat) (L : Option Addr) (d : Nat) (ss : List Int) (ts : List Tb) (w : World) (hn : Hid (n ≤ maxLen)) (hs : Hid (Fq.RdI w A n ss)) (ht : Hid (RdT w L n ts)) :
  Calls Tryz.prog 53 #[.slice A n c, .slice L n d] w (AllOut w (prs ss ts)) := by
 obtain ⟨ps, hps⟩ : ∃ ps, ps = prs ss ts := ⟨_, rfl⟩
 rw [← hps]
 have HPS := Lib.hid hps
 clear hps
 have d1 : ((n : Int) != (n : Int)) = false := by simp
 have b1 : n ≤ 9223372036854775807 := by have := hn.out; unfold maxLen at this; omega
 have HK := Lib.hid (Blk.new w 100 #[.slice none 0 0, .int .i64 0])
 have HB := Lib.hid ((Below.refl w.heap.size w).alloc (Nat.le_refl _) (.cells #[.slice none 0 0, .int .i64 0] 100))
 go_enter Tryz.func53, Tryz.ntmps53
 go_wp2_with fail
 generalize w.alloc (.cells #[.slice none 0 0, .int .i64 0] 100) = w1 at HK HB ⊢
 obtain ⟨br, hbr⟩ : ∃ br, br = w.heap.size := ⟨_, rfl⟩
 have HBR := Lib.hid (show w.heap.size ≤ br by omega)
 rw [← hbr] at HK ⊢
 clear hbr
 refine (begin_any w1).mono ?_
 rintro e w2 ⟨rfl, hb2⟩
 have HK2 := Lib.hid (HK.out.below hb2 HK.out.lt)
 have HB2 := Lib.hid (HB.out.trans (hb2.mono HB.out.size))
 clear hb2 HB HK
 have hcon := resume_ok 0 4294967295 0 none 0 0 0 [] w2 (by omega) (by omega) (by omega) (Lib.hid e0_ok.2) (Lib.hid (IsB.nil_ w2))
 unfold encV at hcon ⊢
 go_wp2_with fail
 refine hcon.mono ?_
 clear hcon
 rintro e w3 ⟨z, p, hz, rfl, h3⟩
 have HR0 := Lib.hid (show AllR w z p br ps 0 w3 from ⟨h3, fine0, rfl, by rw [hz]; exact HK2.out, by rw [hz]; exact HB2.out, HBR.out⟩)
 clear hz h3 HK2 HB2
 go_wp2
 go_loopw [28] (fun v wr => ∃ k : Nat, v = .int .i64 (k : Int) ∧ k ≤ n ∧ Hid (AllR w z p br ps k wr)) (fun v _ => n - (intOf v).toNat)
 case atStart => exact ⟨0, rfl, by omega, HR0⟩
 case round =>
  obtain ⟨k, rfl, hk, HZ⟩ := hrel
  clear HR0
  by_cases hlt : k < n
  ·obtain ⟨ad, rfl, had, x1⟩ := (hs.out.below HZ.out.below).at_ hlt
   obtain ⟨ad2, t, rfl, hget, had2, x2, hx, hm⟩ := (ht.out.below HZ.out.below).at_ hlt
   obtain ⟨g1, g2⟩ := prs_get (ss := ss) (by have := hs.out.1; omega) hget
   rw [← HPS.out] at g1 g2
   obtain ⟨s, hs'⟩ : ∃ s, s = ss.getD k 0 := ⟨_, rfl⟩
   rw [← hs'] at x1 g1 g2
   have HG1 := Lib.hid g1
   have HG2 := Lib.hid g2
   have HX := Lib.hid hx
   have HM := Lib.hid hm
   obtain ⟨C, m, dd, xs⟩ := t
   dsimp only at x2 HX HM HG1 HG2
   clear hs' g1 g2 hget hx hm
   cases hq : okP (s, xs) with
   | false =>
    have HQ := Lib.hid hq
    clear hq
    go_wp2_with fail
    refine (put_no z p _ _ _ _ _ C m dd xs s _ (Lib.hid HZ.out.1) HX HM HQ).mono ?_
    rintro e w5 ⟨rfl, h5⟩
    have HE := Lib.hid (show allErr e0 ps = 1 by rw [HZ.out.2.2.1, HG1.out, allErr_no HQ.out])
    have HK5 := Lib.hid (HZ.out.2.2.2.1.below h5.base HZ.out.2.2.2.1.lt)
    have HB5 := Lib.hid (HZ.out.2.2.2.2.1.trans (h5.base.mono HZ.out.2.2.2.2.1.size))
    clear h5 x1 x2
    obtain ⟨y1, y2, y3, y4⟩ := blk2 HK5.out
    go_wp2
    exact bodyPost_ret (v := .tuple #[zeroB, .int .i64 1]) (by simp [results, Tryz.results53, go_sem, zeroB, y1, y2]) rfl (.inr ⟨by rw [HE.out]; decide, by rw [HE.out], (HB5.out.setCell HBR.out _).setCell HBR.out _⟩)
   | true =>
    have HQ := Lib.hid hq
    clear hq
    have HF := Lib.hid HZ.out.2.1
    obtain ⟨E, hE⟩ : ∃ E, E = stE e0 (ps.take k) := ⟨_, rfl⟩
    have HWS := Lib.hid (show WS z p E wr by rw [hE]; exact HZ.out.1)
    rw [← hE] at HF
    have HEE := Lib.hid hE
    clear hE
    have f3 : E.out.length ≤ 65536 := HF.out.2.2.1
    have f4 : E.wait ≤ 65536 := HF.out.2.2.2
    rcases putC_cases (put1 E (s, xs)) with ⟨hc, -, -⟩ | hc
    ·have HC := Lib.hid hc
     clear hc
     go_wp2_with fail
     refine (put_w z p E (put1 E (s, xs)) 0 C m dd xs s _ _ _ _ HWS (Lib.hid HF.out.1) (Lib.hid HF.out.2.1) f3 f4 HX HM (Lib.hid (symP_of HQ.out)) (Lib.hid rfl) HC).mono ?_
     rintro e w5 ⟨rfl, h5⟩
     have HR5 := Lib.hid (show AllR w z p br ps (k + 1) w5 from by
      refine ⟨?_, ?_, ?_, HZ.out.2.2.2⟩
      ·rw [HG2.out, stE_snoc, ← HEE.out]; exact h5
      ·rw [HG2.out, stE_snoc, ← HEE.out]; exact HF.out.put HQ.out HC.out
      ·rw [HG2.out, stE_snoc, ← HEE.out, HZ.out.2.2.1, HG1.out, ← HEE.out, allErr_ok HQ.out HC.out])
     clear h5 x1 x2
     go_wp2
     go_roundw
     case rel => exact ⟨k + 1, by go_num, by omega, HR5⟩
     case measure => simp [intOf]; omega
    ·have HC := Lib.hid hc
     clear hc
     go_wp2_with fail
     refine (put_w z p E (put1 E (s, xs)) 2 C m dd xs s _ _ _ _ HWS (Lib.hid HF.out.1) (Lib.hid HF.out.2.1) f3 f4 HX HM (Lib.hid (symP_of HQ.out)) (Lib.hid rfl) HC).mono ?_
     rintro e w5 ⟨rfl, h5⟩
     have HE := Lib.hid (show allErr e0 ps = 2 by rw [HZ.out.2.2.1, HG1.out, ← HEE.out, allErr_long HQ.out HC.out])
     have HK5 := Lib.hid (HZ.out.2.2.2.1.below (WSm.base h5) HZ.out.2.2.2.1.lt)
     have HB5 := Lib.hid (HZ.out.2.2.2.2.1.trans ((WSm.base h5).mono HZ.out.2.2.2.2.1.size))
     clear h5 x1 x2
     obtain ⟨y1, y2, y3, y4⟩ := blk2 HK5.out
     go_wp2
     exact bodyPost_ret (v := .tuple #[zeroB, .int .i64 2]) (by simp [results, Tryz.results53, go_sem, zeroB, y1, y2]) rfl (.inr ⟨by rw [HE.out]; decide, by rw [HE.out], (HB5.out.setCell HBR.out _).setCell HBR.out _⟩)
  ·obtain rfl : k = n := by omega
   have hpl : ps.length = k := by rw [HPS.out]; unfold prs; rw [List.length_zip, List.length_map, hs.out.1, ht.out.1]; omega
   obtain ⟨E, hE⟩ : ∃ E, E = stE e0 ps := ⟨_, rfl⟩
   obtain ⟨q1, q2, q3, q4, q5, -⟩ := HZ.out
   rw [List.take_of_length_le (by omega), ← hE] at q1 q2 q3
   rw [List.drop_of_length_le (by omega)] at q3
   have Q1 := Lib.hid q1
   have Q2 := Lib.hid q2
   have Q3 := Lib.hid (show allErr e0 ps = 0 from q3)
   have Q4 := Lib.hid q4
   have Q5 := Lib.hid q5
   have HE := Lib.hid hE
   have f3 : E.out.length ≤ 65536 := q2.2.2.1
   have f4 : E.wait ≤ 65536 := q2.2.2.2
   clear q1 q2 q3 q4 q5 hE hpl HZ
   go_wp2_with fail
   refine (end_w z p E (endBits E) _ Q1 f3 f4 (Lib.hid rfl)).mono ?_
   rintro e w5 ⟨A5, n5, c5, N5, er5, rfl, hb5, hq5⟩
   have HK5 := Lib.hid (Q4.out.below hb5 Q4.out.lt)
   have HB5 := Lib.hid hb5
   have HQ5 := Lib.hid hq5
   clear hb5 hq5
   obtain ⟨y1, y2, y3, y4⟩ := blk2 HK5.out
   go_wp2
   refine bodyPost_ret (v := .tuple #[.agg #[.slice A5 n5 c5, .int .i64 N5], .int .i64 er5]) (by simp [results, Tryz.results53, go_sem, y1, y2]) rfl (.inl ⟨Q3.out, ?_⟩)
   rw [← HE.out]
   exact BOut.store Q5.out HBR.out Q4.out.lt HB5.out HQ5.out _ _
end Go.Proofs.YtkdbhndegkldcaaGreatDoor.Cd
namespace Go.Proofs.YtkdbhndegkldcaaGreatDoor.Fq
open Go.RowKit
def ncells (xs : List Nat) : Array Value := icells (xs.map fun x : Nat => (x : Int))
theorem ncells_put {w : World} {g : Nat} {t : TypeId} {xs : List Nat} (h : Blk w g t (ncells xs)) (i x : Nat) : Blk (w.setCell ⟨g, i, none⟩ (.int .i64 (x : Int))) g t (ncells (xs.set i x)) := by
 have := blk_put h i (x : Int)
 unfold ncells
 rwa [List.map_set]
def swapL (xs : List Nat) (i j : Nat) : List Nat := (xs.set i (xs.getD j 0)).set j (xs.getD i 0)
def CmpOk (w : World) (B C : Nat) (ls : List Int) : Prop :=
 C ≠ B ∧ ∃ A m c, w.cell? ⟨C, 0, none⟩ = some (.slice A m c) ∧ RdI w A m ls ∧ ∀ ad, A = some ad → 0 < m → ad.block ≠ B
theorem CmpOk.only {w w' : World} {B C : Nat} {ls : List Int} (h : CmpOk w B C ls) (hg : w.grownBy w' (some B)) : CmpOk w' B C ls := by
 obtain ⟨h1, A, m, c, h2, h3, h4⟩ := h
 refine ⟨h1, A, m, c, ?_, h3.only hg h4, h4⟩
 exact (World.cell?_of_block (hg.block C (World.block_lt_of_cell? _ _ h2) (fun e => h1 (by injection e)))).trans h2
theorem CmpOk.drewN {w : World} {B C : Nat} {ls : List Int} (h : CmpOk w B C ls) (n : Nat) : CmpOk (w.drewN n) B C ls := h
def St (w wr : World) (B : Nat) (xs : List Nat) : Prop := w.grownBy wr (some B) ∧ Blk wr B 3 (ncells xs)
theorem St.drewN {w wr : World} {B : Nat} {xs : List Nat} (h : St w wr B xs) (n : Nat) : St w (wr.drewN n) B xs := ⟨only_drewN h.1 n, h.2⟩
theorem St.drew {w wr : World} {B : Nat} {xs : List Nat} (h : St w wr B xs) : St w wr.drew B xs := ⟨only_drew h.1, h.2⟩
theorem St.swap {w wr : World} {B : Nat} {xs : List Nat} (h : St w wr B xs) (i j x y : Nat) (hx : xs.getD i 0 = x) (hy : xs.getD j 0 = y) :
  St w ((wr.setCell ⟨B, i, none⟩ (.int .i64 (y : Int))).setCell ⟨B, j, none⟩ (.int .i64 (x : Int))) B (swapL xs i j) := by
 refine ⟨only_setCell (only_setCell h.1 (.inl rfl) _) (.inl rfl) _, ?_⟩
 unfold swapL
 rw [hx, hy]
 exact ncells_put (ncells_put h.2 i y) j x
theorem St.trans {w wr wr' : World} {B : Nat} {xs ys : List Nat} (h : St w wr B xs) (h' : St wr wr' B ys) : St w wr' B ys :=
 ⟨World.grownBy.trans h.1 h'.1, h'.2⟩
def Ins (xs : List Nat) (n : Nat) : Prop := ∀ x ∈ xs, x < n
theorem Ins.at_ {xs : List Nat} {n i : Nat} (h : Ins xs n) (hi : i < xs.length) : xs.getD i 0 < n := by
 have e : xs.getD i 0 = xs[i] := by simp [List.getD_eq_getElem?_getD, hi]
 rw [e]; exact h _ (List.getElem_mem hi)
def PmP (w : World) (B : Nat) (xs : List Nat) (e : Ending) (w' : World) : Prop := e = .returned (.tuple #[]) ∧ ∃ ys : List Nat, ys.Perm xs ∧ St w w' B ys
theorem PmP.next {w w1 w2 : World} {B : Nat} {xs ys zs : List Nat} (hp : ys.Perm xs) (h : St w w1 B ys) (hp2 : zs.Perm ys) (h2 : St w1 w2 B zs) : ∃ zs : List Nat, zs.Perm xs ∧ St w w2 B zs :=
 ⟨zs, hp2.trans hp, h.trans h2⟩
theorem St.self {w wr : World} {B : Nat} {xs : List Nat} (h : St w wr B xs) : St wr wr B xs := ⟨World.grownBy.refl _ _, h.2⟩
def CSt (w wr : World) (B : Nat) (xs : List Nat) : Prop := ∃ ys : List Nat, ys.Perm xs ∧ St w wr B ys
theorem CSt.drewN {w wr : World} {B : Nat} {xs : List Nat} (h : CSt w wr B xs) (n : Nat) : CSt w (wr.drewN n) B xs := by
 obtain ⟨ys, h1, h2⟩ := h
 exact ⟨ys, h1, h2.drewN n⟩
theorem and_low (n : Nat) (h : n ≤ 1000000) : bits BinOp.and IntKind.u64 (n : Int) 4294967295 = (n : Int) := by
 rw [show (4294967295 : Int) = ((4294967295 : Nat) : Int) from rfl, u64_and_nat _ _ (by omega) (by omega)]
 have h : n &&& 4294967295 = n := by
  have := Nat.and_two_pow_sub_one_of_lt_two_pow (x := n) (n := 32) (by omega)
  simpa using this
 rw [h]
theorem mul64_one (n : Nat) (w : World) (hn : n ≤ 1000000) :
  Calls Tryz.prog 185 #[.int .u64 1, .int .u64 (n : Int)] w fun e w' => e = .returned (.tuple #[.int .u64 0, .int .u64 (n : Int)]) ∧ w = w' := by
 have a1 : bits BinOp.and IntKind.u64 1 4294967295 = 1 := by decide +kernel
 have a2 := and_low n hn
 have a3 : (n : Int) / 4294967296 = 0 := by omega
 have a4 : bits BinOp.and IntKind.u64 0 4294967295 = 0 := by decide +kernel
 go_enter Tryz.func185, Tryz.ntmps185
 go_wp2
 exact bodyPost_ret (v := .tuple #[.int .u64 0, .int .u64 (n : Int)]) (by simp [results, Tryz.results185, go_sem]) rfl ⟨rfl, rfl⟩
theorem mul_one (n : Nat) (w : World) (hn : n ≤ 1000000) :
  Calls Tryz.prog 174 #[.int .u64 1, .int .u64 (n : Int)] w fun e w' => e = .returned (.tuple #[.int .u64 0, .int .u64 (n : Int)]) ∧ w = w' := by
 go_enter Tryz.func174, Tryz.ntmps174
 go_wp2_with fail
 refine (mul64_one n _ hn).mono ?_
 rintro e w' ⟨rfl, rfl⟩
 go_wp2
 exact bodyPost_ret (v := .tuple #[.int .u64 0, .int .u64 (n : Int)]) (by simp [results, Tryz.results174, go_sem]) rfl ⟨rfl, rfl⟩
theorem size_int : (Tryz.prog.info? 3).map (·.size) = some 1 := by kernel_rfl
def ones (k n : Nat) : List Int := List.replicate k 1 ++ List.replicate (n - k) 0
theorem ones_length (k n : Nat) (h : k ≤ n) : (ones k n).length = n := by simp [ones]; omega
theorem ones_all (n : Nat) : ones n n = List.replicate n 1 := by simp [ones]
theorem ones_copy (k t n : Nat) (k1 : Nat) (hk1 : k1 = k + t) : ((icells (ones k n)).toList.take k ++ List.replicate t (Value.int .i64 1) ++ (icells (ones k n)).toList.drop (k + (List.replicate t (Value.int .i64 1)).length)).toArray = icells (ones k1 n) := by
 subst hk1
 rw [List.length_replicate]
 have e : (icells (ones k n)).toList = List.replicate k (Value.int .i64 1) ++ List.replicate (n - k) (Value.int .i64 0) := by simp [icells, ones]
 rw [e]
 have e1 : (List.replicate k (Value.int .i64 1) ++ List.replicate (n - k) (Value.int .i64 0)).take k = List.replicate k (Value.int .i64 1) := List.take_left' (by simp)
 have e2 : (List.replicate k (Value.int .i64 1) ++ List.replicate (n - k) (Value.int .i64 0)).drop (k + t) = List.replicate (n - (k + t)) (Value.int .i64 0) := by
  rw [List.drop_append, List.drop_of_length_le (by simp), List.drop_replicate]
  simp; omega
 rw [e1, e2]
 simp only [icells, ones, List.map_append, List.map_replicate]
 rw [List.replicate_append_replicate]
theorem one_rep (t : Nat) : ∀ v ∈ List.replicate t (Value.int .i64 1), v.oneCell' = true := by
 intro v hv
 rw [(List.mem_replicate.1 hv).2]
 rfl
theorem ones_src {w : World} {g : Nat} {t : TypeId} {k n m : Nat} (h : Blk w g t (icells (ones k n))) (hm : m ≤ k) (hk : k ≤ n) : ∀ j v, (List.replicate m (Value.int .i64 1))[j]? = some v → w.cell? ((⟨g, 0, none⟩ : Addr).add j) = some v := by
 intro j v hv
 obtain ⟨hj, rfl⟩ := List.getElem?_eq_some_iff.1 hv
 rw [List.length_replicate] at hj
 rw [add_own, blk_at h (by rw [ones_length _ _ hk]; omega)]
 simp [ones, List.getD_eq_getElem?_getD, List.getElem?_append, show j < k by omega]
def RepP (w : World) (n : Nat) (e : Ending) (w' : World) : Prop :=
 ∃ g, e = .returned (.slice (some ⟨g, 0, none⟩) n n) ∧ w.heap.size ≤ g ∧ Blk w' g 3 (icells (List.replicate n 1)) ∧ Below w.heap.size w w'
theorem repeat_one (G n c : Nat) (w : World) (hg : Hid (Blk w G 3 (icells [1]))) (h1 : 1 ≤ n) (hn : n ≤ 1000) :
    Calls Tryz.prog 160 #[.slice (some ⟨G, 0, none⟩) 1 c, .int .i64 (n : Int)] w (RepP w n) := by
  have hmk : ∀ u : World, (Instr.makeSlice 23 (.int .i64 (n : Int)) (.int .i64 (n : Int))).run Tryz.prog u = .ok (.slice (some ⟨u.heap.size, 0, none⟩) n n) (u.alloc (.cells (madeCells #[.int .i64 0] n) 3)) := fun u => 
    run_make_row' (P := Tryz.prog) 23 3 (.int .i64 0) 8 Tryz.underlying23 info_int rfl .i64 .i64 n (by omega) (by omega) u
  have HB0 := Lib.hid (show Blk (w.alloc (.cells (madeCells #[.int .i64 0] n) 3)) w.heap.size 3 (icells (ones 0 n)) by
    rw [icells_zero]
    have : ones 0 n = List.replicate n 0 := by simp [ones]
    rw [this]
    exact Blk.new w _ _)
  have hcp := run_copy_row (P := Tryz.prog) (w.alloc (.cells (madeCells #[.int .i64 0] n) 3)) 23 23 3 3 w.heap.size 0 n n ⟨G, 0, none⟩ 1 c (icells (ones 0 n)) 3 (List.replicate 1 (Value.int .i64 1)) Tryz.underlying23 size_int HB0.out
    (by rw [List.length_replicate]; exact (Nat.min_eq_left h1).symm) (by
      intro j v hv
      obtain ⟨hj, rfl⟩ := List.getElem?_eq_some_iff.1 hv
      rw [List.length_replicate] at hj
      have : j = 0 := by omega
      subst this
      rw [add_own]
      exact (hg.out.alloc _).cell 0) (by rw [icells_size, ones_length _ _ (by omega)]; simp; omega) (one_rep 1)
  rw [ones_copy 0 1 n 1 rfl, List.length_replicate] at hcp
  go_enter Tryz.func160, Tryz.ntmps160
  go_wp2_with fail
  refine (mul_one n _ (by omega)).mono ?_
  rintro e w' ⟨rfl, rfl⟩
  go_wp2
  clear hcp hmk
  have HW := Lib.hid (show Below w.heap.size w ((w.alloc (.cells (madeCells #[.int .i64 0] n) 3)).setRow w.heap.size (icells (ones 1 n))) from below_setRow ((Below.refl _ w).alloc (Nat.le_refl _) _) (Nat.le_refl _) _)
  have HB := Lib.hid (show Blk ((w.alloc (.cells (madeCells #[.int .i64 0] n) 3)).setRow w.heap.size (icells (ones 1 n))) w.heap.size 3 (icells (ones 1 n)) from setRow_heap _ _ _ _ _ _ HB0.out)
  generalize (w.alloc (.cells (madeCells #[.int .i64 0] n) 3)).setRow w.heap.size (icells (ones 1 n)) = w1 at HW HB ⊢
  clear HB0
  go_loopw [8] (fun vk wr => ∃ k : Nat, vk = .int .i64 (k : Int) ∧ 1 ≤ k ∧ k ≤ n ∧ Hid (Blk wr w.heap.size 3 (icells (ones k n)) ∧ Below w.heap.size w wr)) (fun vk _ => n - (intOf vk).toNat)
  case atStart => exact ⟨1, rfl, by omega, by omega, Lib.hid ⟨HB.out, HW.out⟩⟩
  case round =>
    obtain ⟨k, rfl, hk1, hkn, HZ⟩ := hrel
    clear HB HW
    by_cases hlt : k < n
    · have hlt' : (k : Int) < (n : Int) := by omega
      obtain ⟨t, ht⟩ : ∃ t, t = Nat.min k (n - k) := ⟨_, rfl⟩
      have ht1 : 1 ≤ t := by rw [ht]; exact Nat.le_min.2 ⟨hk1, by omega⟩
      have ht2 : k + t ≤ n := by have : t ≤ n - k := by rw [ht]; exact Nat.min_le_right _ _
                                 omega
      have ht3 : t ≤ k := by rw [ht]; exact Nat.min_le_left _ _
      have hcp := run_copy_row (P := Tryz.prog) wr.drew 23 23 3 3 w.heap.size k (n - k) (n - k) ⟨w.heap.size, 0, none⟩ k n (icells (ones k n)) 3 (List.replicate t (Value.int .i64 1)) Tryz.underlying23 size_int HZ.out.1
        (by rw [List.length_replicate]; exact ht) (ones_src (w := wr.drew) HZ.out.1 ht3 hkn) (by rw [icells_size, ones_length _ _ hkn, List.length_replicate]; exact ht2) (one_rep t)
      clear ht
      obtain ⟨k2, hk2⟩ : ∃ k2, k2 = k + t := ⟨_, rfl⟩
      rw [ones_copy k t n k2 hk2, List.length_replicate] at hcp
      have e1 : (k : Int) + (t : Int) = (k2 : Int) := by omega
      have b0 : (0 : Int) ≤ (k : Int) := by omega
      have b1 : (k : Int) ≤ (n : Int) := by omega
      have b2 : ¬ n = k := by omega
      have HK2 := Lib.hid hk2
      clear hk2
      go_wp2_with fail
      go_region
      all_goals
        clear hcp
        go_wp2
        go_roundw
        case rel =>
          refine ⟨k2, rfl, by have := HK2.out; omega, by have := HK2.out; omega, Lib.hid ⟨?_, ?_⟩⟩
          · exact setRow_heap _ _ _ _ _ _ HZ.out.1
          · exact below_setRow (Below.drew HZ.out.2) (Nat.le_refl _) _
        case measure => have := HK2.out; simp [intOf]; omega
    · have hlt' : ¬ (k : Int) < (n : Int) := by omega
      obtain rfl : k = n := by omega
      go_wp2
      go_ret
      exact ⟨w.heap.size, rfl, Nat.le_refl _, by rw [← ones_all]; exact HZ.out.1, HZ.out.2⟩
theorem tot_rep (n : Nat) : tot (List.replicate n 1) = (n : Int) := by
 induction n with
 | zero => rfl
 | succ n ih => rw [List.replicate_succ, tot_cons, ih]; omega
theorem okN_rep (n : Nat) (h1 : 1 ≤ n) (h2 : n ≤ 256) : okN (List.replicate n 1) = true := by
 unfold okN
 refine decide_eq_true ⟨by simpa using h1, by simpa using h2, fun x hx => ?_, by rw [tot_rep]; omega⟩
 rw [(List.mem_replicate.1 hx).2]; omega
theorem even_ok (n : Nat) (w : World) (h1 : 1 ≤ n) (h2 : n ≤ 256) :
  Calls Tryz.prog 131 #[.int .i64 (n : Int)] w (NewP w (acc (List.replicate n 1))) := by
 go_enter Tryz.func131, Tryz.ntmps131
 go_wp2_with fail
 refine (isSize_yes _ _ (by omega) (by omega)).mono ?_
 rintro e w' ⟨rfl, rfl⟩
 go_wp2_with fail
 have HK0 := Lib.hid (show Blk ((w.alloc (.cells #[.slice none 0 0] 130)).alloc (.cells #[.int .i64 1] 3)) w.heap.size 130 #[.slice none 0 0] from (Blk.new w _ _).alloc _)
 have HG0 := Lib.hid (show Blk ((w.alloc (.cells #[.slice none 0 0] 130)).alloc (.cells #[.int .i64 1] 3)) (w.heap.size + 1) 3 (icells [1]) from Blk.newAt (by simp))
 have HW0 := Lib.hid (show Below w.heap.size w ((w.alloc (.cells #[.slice none 0 0] 130)).alloc (.cells #[.int .i64 1] 3)) from ((Below.refl w.heap.size w).alloc (Nat.le_refl _) _).alloc (by simp) _)
 generalize (w.alloc (.cells #[.slice none 0 0] 130)).alloc (.cells #[.int .i64 1] 3) = w0 at HK0 HG0 HW0 ⊢
 refine (repeat_one _ n _ w0 HG0 h1 (by omega)).mono ?_
 rintro e w1 ⟨g, rfl, hg, hB, hb⟩
 have HK1 := Lib.hid (HK0.out.below hb HK0.out.lt)
 have HW1 := Lib.hid (HW0.out.trans (hb.mono HW0.out.size))
 have HR1 := Lib.hid (RdI.of_blk hB (n := n) (by simp))
 clear hg hB hb
 go_wp2_with fail
 refine (new_ok _ n n _ w1 HR1 (okN_rep n h1 h2)).mono ?_
 rintro e w2 ⟨g2, rfl, hg, hB, hb⟩
 have HK2 := Lib.hid (HK1.out.below hb HK1.out.lt)
 have HW2 := Lib.hid (HW1.out.trans (hb.mono HW1.out.size))
 have HB2 := Lib.hid hB
 have HG2 := Lib.hid (Nat.le_trans HW1.out.size hg)
 have HNE := Lib.hid (show g2 ≠ w.heap.size by have := HK1.out.lt; omega)
 clear hg hB hb
 have c0 := HK2.out.cell 0
 have f0 := HK2.out.frozen 0
 simp at c0
 obtain ⟨m, hm⟩ : ∃ m, (acc (List.replicate n 1)).length = m := ⟨_, rfl⟩
 rw [hm]
 have HM := Lib.hid hm
 clear hm
 unfold freqV
 go_wp2
 exact bodyPost_ret (v := .tuple #[freqV g2 m, .int .i64 0]) (by simp [results, Tryz.results131, go_sem, c0, freqV]) rfl ⟨g2, by rw [HM.out], HG2.out, Blk.far HB2.out HNE.out _, HW2.out.setCell (Nat.le_refl _) _⟩
end Go.Proofs.YtkdbhndegkldcaaGreatDoor.Fq
namespace Go.Proofs.YtkdbhndegkldcaaGreatDoor.Cd
open Go.RowKit
theorem get_bad (A : Option Addr) (n c : Nat) (N a wd : Int) (bs : List Nat) (w : World) (hr : Hid (Rd w A n bs)) (hok : Hid (okB bs N = false)) :
  Calls Tryz.prog 125 #[.agg #[.slice A n c, .int .i64 N], .int .i64 a, .int .i64 wd] w fun e w' => e = .returned (.tuple #[.int .u64 0, .int .i64 1]) ∧ Below w.heap.size w w' := by
 have HW := Lib.hid ((Below.refl w.heap.size w).alloc (Nat.le_refl _) (.cells #[.slice A n c, .int .i64 N] 100))
 go_enter Tryz.func125, Tryz.ntmps125
 go_wp2_with fail
 generalize w.alloc (.cells #[.slice A n c, .int .i64 N] 100) = w0 at HW ⊢
 have hcon := check_any A n c N bs w0 (hr.out.below HW.out)
 rw [hok.out] at hcon
 refine hcon.mono ?_
 clear hcon
 rintro e w1 ⟨rfl, hb1⟩
 have HW1 := Lib.hid (HW.out.trans (hb1.mono HW.out.size))
 clear hb1
 go_wp2
 go_ret2
 exact ⟨rfl, HW1.out⟩
def rdC (d : De) (A : Option Addr) (n c : Nat) (N : Int) : Array Value := #[.int .u32 (d.low : Int), .int .u32 (d.high : Int), .int .u32 (d.code : Int), .slice A n c, .int .i64 N, .int .i64 (d.at_ : Int)]
def RdS (w : World) (p : Nat) (d : De) (A : Option Addr) (n c : Nat) (N : Int) : Prop := Blk w p 206 (rdC d A n c N)
theorem RdS.six {w : World} {p : Nat} {d : De} {A : Option Addr} {n c : Nat} {N : Int} (h : RdS w p d A n c N) : w.cell? ⟨p, 0, none⟩ = some (.int .u32 (d.low : Int)) ∧ w.cell? ⟨p, 1, none⟩ = some (.int .u32 (d.high : Int)) ∧ w.cell? ⟨p, 2, none⟩ = some (.int .u32 (d.code : Int)) ∧ w.cell? ⟨p, 3, none⟩ = some (.slice A n c) ∧ w.cell? ⟨p, 4, none⟩ = some (.int .i64 N) ∧ w.cell? ⟨p, 5, none⟩ = some (.int .i64 (d.at_ : Int)) := blk6 h
theorem val_first (l : List Bool) (th : Nat) (h : th = min l.length 32) : val l 32 = num (l.take th) * 2 ^ (32 - th) := by
 have key : ∀ k, val l (th + k) = num (l.take th) * 2 ^ k ∨ th < l.length := by
  intro k
  by_cases hlt : th < l.length
  ·exact .inr hlt
  ·left
   have e : th = l.length := by omega
   induction k with
   | zero =>
    have := val_pre l [] th (by omega)
    rw [List.append_nil] at this
    rw [Nat.add_zero, this]; simp
   | succ k ih =>
    rw [← Nat.add_assoc, val_succ, ih, bitF_of_ge (by omega), Nat.pow_succ]
    simp
    rw [Nat.mul_comm 2, Nat.mul_assoc]
 rcases Nat.lt_or_ge l.length 32 with h32 | h32
 ·rcases key (32 - th) with h1 | h1
  ·rwa [show th + (32 - th) = 32 by omega] at h1
  ·omega
 ·have e : th = 32 := by omega
  subst e
  have := val_pre l [] 32 h32
  rw [List.append_nil] at this
  rw [this]; simp
def d0 (l : List Bool) : De := ⟨0, 4294967295, val l 32, 32⟩
def OpOk (w : World) (l : List Bool) (A : Option Addr) (n c : Nat) (N : Int) (e : Ending) (w' : World) : Prop :=
 ∃ p, e = .returned (.tuple #[.pointer (some ⟨p, 0, none⟩), .int .i64 0]) ∧ w.heap.size ≤ p ∧ RdS w' p (d0 l) A n c N ∧ Below w.heap.size w w'
def OpNo (w : World) (e : Ending) (w' : World) : Prop := e = .returned (.tuple #[.pointer none, .int .i64 1]) ∧ Below w.heap.size w w'
theorem open_no (A : Option Addr) (n c : Nat) (N : Int) (bs : List Nat) (w : World) (hr : Hid (Rd w A n bs)) (hok : Hid (okB bs N = false)) :
  Calls Tryz.prog 89 #[.agg #[.slice A n c, .int .i64 N]] w (OpNo w) := by
 have HW := Lib.hid ((Below.refl w.heap.size w).alloc (Nat.le_refl _) (.cells #[.slice A n c, .int .i64 N] 100))
 go_enter Tryz.func89, Tryz.ntmps89
 go_wp2_with fail
 generalize w.alloc (.cells #[.slice A n c, .int .i64 N] 100) = w0 at HW ⊢
 refine (get_bad A n c N _ _ bs w0 (Lib.hid (hr.out.below HW.out)) hok).mono ?_
 rintro e w1 ⟨rfl, hb1⟩
 have HW1 := Lib.hid (HW.out.trans (hb1.mono HW.out.size))
 clear hb1
 go_wp2
 go_ret2
 exact ⟨rfl, HW1.out⟩
theorem whole_lit (w : World) : Calls Tryz.prog 108 #[] w fun e w' => e = .returned (.agg #[.int .u32 0, .int .u32 4294967295]) ∧ Below w.heap.size w w' := whole_any w
theorem open_ok (A : Option Addr) (n c : Nat) (N : Int) (l : List Bool) (w : World) (h : Hid (IsB w (.agg #[.slice A n c, .int .i64 N]) l)) :
  Calls Tryz.prog 89 #[.agg #[.slice A n c, .int .i64 N]] w (OpOk w l A n c N) := by
 obtain ⟨-, hN, -, hl⟩ := isB_parts h.out
 obtain ⟨th, hth⟩ : ∃ th, th = min l.length 32 := ⟨_, rfl⟩
 obtain ⟨sh, hsh⟩ : ∃ sh, sh = 32 - th := ⟨_, rfl⟩
 obtain ⟨F, hF⟩ : ∃ F, F = num (l.take th) := ⟨_, rfl⟩
 obtain ⟨V, hV⟩ : ∃ V, V = val l 32 := ⟨_, rfl⟩
 have hVF : V = F * 2 ^ sh := by rw [hV, hF, hsh]; exact val_first l th hth
 have hV2 : V < 4294967296 := by rw [hV, ← pow32]; exact val_lt l 32
 have em : min N 32 = (th : Int) := by omega
 have es : (32 : Int) - (th : Int) = (sh : Int) := by omega
 have hF2 : F < 4294967296 := by
  refine Nat.lt_of_le_of_lt ?_ hV2
  rw [hVF]; exact Nat.le_mul_of_pos_right _ (Nat.pow_pos (by omega))
 have t1 : th ≤ 32 := by omega
 have HTH := Lib.hid hth
 have HV := Lib.hid hV
 have HF := Lib.hid (show F = num ((l.drop 0).take th) by rw [List.drop_zero]; exact hF)
 have eV : (F : Int) * 2 ^ sh = (V : Int) := by rw [hVF]; simp
 have s1 : sh ≤ 32 := by omega
 have s2 : decide ((sh : Int) < 0) = false := by simp
 have s3 : ¬ (sh : Int) < 0 := by omega
 have s4 : ((sh : Int)).toNat = sh := by omega
 clear hth hsh hF hV hVF hN hl
 have HK := Lib.hid (Blk.new w 100 #[.slice A n c, .int .i64 N])
 have HW := Lib.hid ((Below.refl w.heap.size w).alloc (Nat.le_refl _) (.cells #[.slice A n c, .int .i64 N] 100))
 have HES := Lib.hid es
 have HEV := Lib.hid eV
 clear es eV
 go_enter Tryz.func89, Tryz.ntmps89
 go_wp2_with fail
 generalize w.alloc (.cells #[.slice A n c, .int .i64 N] 100) = w0 at HK HW ⊢
 clear em
 refine (get_n _ l 0 _ 0 th F w0 (h.out.below HW.out) rfl rfl (by omega) (by have := HTH.out; omega) HF.out).mono ?_
 rintro e w1 ⟨rfl, hb1⟩
 have HK1 := Lib.hid (HK.out.below hb1 HK.out.lt)
 have HW1 := Lib.hid (HW.out.trans (hb1.mono HW.out.size))
 clear hb1 HK HW
 obtain ⟨x1, x2, -, -⟩ := blk2 HK1.out
 go_wp2_with fail
 have es := HES.out
 have eV := HEV.out
 have q1 : IntKind.i64.wrap (sh : Int) = (sh : Int) := IntWalk.i64_in _ (by omega)
 have q2 : IntKind.u64.wrap (V : Int) = (V : Int) := IntWalk.u64_in _ (by omega)
 have q3 : IntKind.u32.wrap (V : Int) = (V : Int) := IntWalk.u32_in _ (by omega)
 go_region_with (go_at_call 108; refine (whole_lit _).mono ?_; rintro e w2 ⟨rfl, hb2⟩; obtain ⟨x3, x4, -, -⟩ := blk2 ((HK1.out.drew).below hb2 HK1.out.lt))
 all_goals
  have HB2 := Lib.hid hb2
  clear hb2 x1 x2 x3 x4 q1 q2 q3 es eV
  have HW2 := Lib.hid (HW1.out.trans ((show Below w1.heap.size w1 w2 from ⟨HB2.out.os, HB2.out.tape, HB2.out.output, HB2.out.size, HB2.out.block⟩).mono HW1.out.size))
  go_wp2
  go_ret2
  refine ⟨w2.heap.size, rfl, HW2.out.size, ?_, HW2.out.alloc HW2.out.size _⟩
  unfold d0
  rw [← HV.out]
  exact Blk.new w2 _ _
theorem grown_trans {a b c : World} {row : Option Nat} (h1 : a.grownBy b row) (h2 : b.grownBy c row) : a.grownBy c row :=
 ⟨h2.os.trans h1.os, h2.tape.trans h1.tape, h2.output.trans h1.output, Nat.le_trans h1.size h2.size, fun i hi hne => (h2.block i (Nat.lt_of_lt_of_le hi h1.size) hne).trans (h1.block i hi hne)⟩
theorem isB_only {w w' : World} {row : Nat} {A : Option Addr} {n c : Nat} {N : Int} {l : List Bool} (h : IsB w (.agg #[.slice A n c, .int .i64 N]) l) (hb : w.grownBy w' (some row)) (hA : ∀ ad, A = some ad → 0 < n → ad.block ≠ row) : IsB w' (.agg #[.slice A n c, .int .i64 N]) l := by
 obtain ⟨e1, e2, e3, e4⟩ := isB_parts h
 subst e1 e2
 exact ⟨A, c, rfl, e3.only hb hA, e4⟩
theorem bit_num (l : List Bool) (i : Nat) (h : i < l.length) : num ((l.drop i).take 1) = (bitF l i).toNat := by
 have := num_take_succ l i 0 (by omega)
 rw [this]
 simp [num_nil]
theorem get1_any (v : Value) (l : List Bool) (i t : Nat) (w : World) (h : IsB w v l) (ht : t = (bitF l i).toNat) :
  Calls Tryz.prog 125 #[v, .int .i64 (i : Int), .int .i64 1] w fun e w' => (∃ er, e = .returned (.tuple #[.int .u64 (t : Int), .int .i64 er])) ∧ Below w.heap.size w w' := by
 by_cases hi : i < l.length
 ·exact (get_n v l (i : Int) 1 i 1 t w h rfl rfl (by omega) (by omega) (by rw [ht, bit_num l i hi])).mono fun e w' ⟨h1, h2⟩ => ⟨⟨0, h1⟩, h2⟩
 ·have ht0 : t = 0 := by rw [ht, bitF_of_ge (by omega)]; rfl
  exact (get_short v l (i : Int) 1 w h (by omega) (by omega) (by omega) (by omega)).mono fun e w' ⟨h1, h2⟩ => ⟨⟨20, by rw [ht0]; exact h1⟩, h2⟩
theorem bit_any (p : Nat) (d : De) (A : Option Addr) (n c : Nat) (N : Int) (l : List Bool) (t : Nat) (w : World) (hs : Hid (RdS w p d A n c N)) (h : Hid (IsB w (.agg #[.slice A n c, .int .i64 N]) l)) (ht : Hid (t = (bitF l d.at_).toNat)) (ht2 : t < 2) :
  Calls Tryz.prog 167 #[.pointer (some ⟨p, 0, none⟩)] w fun e w' => e = .returned (.int .u32 (t : Int)) ∧ Below w.heap.size w w' := by
 obtain ⟨-, -, -, c3, c4, c5⟩ := hs.out.six
 have q1 : IntKind.u32.wrap (t : Int) = (t : Int) := IntWalk.u32_in _ (by omega)
 have HQ1 := Lib.hid q1
 clear q1
 have HD := Lib.hid (show IsB w.drew (.agg #[.slice A n c, .int .i64 N]) l from h.out)
 go_enter Tryz.func167, Tryz.ntmps167
 go_wp2_with fail
 go_region_with (go_at_call 125; refine (get1_any _ l d.at_ t w.drew HD.out ht.out).mono ?_; rintro e w2 ⟨⟨er, rfl⟩, hb2⟩)
 all_goals
  have HB2 := Lib.hid (show Below w.heap.size w w2 from ⟨hb2.os, hb2.tape, hb2.output, hb2.size, hb2.block⟩)
  clear hb2 c3 c4 c5
  have q1 := HQ1.out
  go_wp2
  go_ret
  exact ⟨rfl, HB2.out⟩
def WidS (w0 : World) (p : Nat) (A : Option Addr) (n c : Nat) (N : Int) (l : List Bool) (fin : De) (m : Nat) (wr : World) : Prop :=
 ∃ d : De, RdS wr p d A n c N ∧ widD m l d = fin ∧ Ok d.low d.high ∧ d.low ≤ d.code ∧ d.code ≤ d.high ∧ 4294967296 < (d.high - d.low + 1) * 2 ^ (m + 1) ∧ d.at_ + m ≤ 1000000 ∧ w0.grownBy wr (some p)
theorem stepD_facts {l : List Bool} {d : De} (hok : Ok d.low d.high) (hk : kind d.low d.high ≠ 3) (h1 : d.low ≤ d.code) (h2 : d.code ≤ d.high) : takeK (kind d.low d.high) ≤ d.low ∧ (stepD l d).low ≤ (stepD l d).code ∧ (stepD l d).code ≤ (stepD l d).high ∧ (stepD l d).high < 4294967296 ∧ (stepD l d).high - (stepD l d).low + 1 = 2 * (d.high - d.low + 1) ∧ (stepD l d).low ≤ (stepD l d).high := by
 have hb := toNat_le (bitF l d.at_)
 have hlow := stepE_low (e := ⟨d.low, d.high, 0, []⟩) hok hk
 obtain ⟨a1, a2, a3, a4⟩ := hlow
 dsimp only at a1 a2 a3 a4
 have ht : takeK (kind d.low d.high) ≤ d.low := by omega
 have e1 : (stepD l d).low = 2 * (d.low - takeK (kind d.low d.high)) := rfl
 have e2 : (stepD l d).high = 2 * (d.high - takeK (kind d.low d.high)) + 1 := rfl
 have e3 : (stepD l d).code = 2 * (d.code - takeK (kind d.low d.high)) + (bitF l d.at_).toNat := rfl
 have := hok.1
 refine ⟨ht, ?_, ?_, ?_, ?_, ?_⟩ <;> omega
theorem widS_zero {d : De} (hok : Ok d.low d.high) (h : 4294967296 < (d.high - d.low + 1) * 2 ^ (0 + 1)) : kind d.low d.high = 3 := widR_zero (e := ⟨d.low, d.high, 0, []⟩) hok h
theorem WidS.step {w0 wr : World} {p m : Nat} {A : Option Addr} {n c : Nat} {N : Int} {l : List Bool} {fin d : De} (hok : Ok d.low d.high) (hk : kind d.low d.high ≠ 3) (hf : widD (m + 1) l d = fin) (h1 : d.low ≤ d.code) (h2 : d.code ≤ d.high) (hw : 4294967296 < (d.high - d.low + 1) * 2 ^ (m + 1 + 1)) (ha : d.at_ + (m + 1) ≤ 1000000) (hs : RdS wr p (stepD l d) A n c N) (hg : w0.grownBy wr (some p)) : WidS w0 p A n c N l fin m wr := by
 obtain ⟨_, b1, b2, b3, b4, b5⟩ := stepD_facts (l := l) hok hk h1 h2
 refine ⟨stepD l d, hs, ?_, ⟨b5, b3⟩, b1, b2, ?_, ?_, hg⟩
 ·unfold widD at hf; rwa [if_neg hk] at hf
 ·rw [b4]
  rw [Nat.pow_succ 2 (m + 1)] at hw
  rw [Nat.mul_comm 2 (d.high - d.low + 1), Nat.mul_assoc, Nat.mul_comm 2]
  exact hw
 ·show d.at_ + 1 + m ≤ 1000000; omega
theorem excess_t (low high k t : Nat) (w : World) (hk : kind low high = k) (ht : takeK k = t) (h3 : k ≠ 3) :
  Calls Tryz.prog 106 #[.agg #[.int .u32 (low : Int), .int .u32 (high : Int)]] w fun e w' => e = .returned (.tuple #[.int .u32 (t : Int), .bool true]) ∧ Below w.heap.size w w' := by
 have := excess_any low high k w hk
 unfold excT at this
 rw [ht, decide_eq_true h3] at this
 exact this
theorem RdS.two {w : World} {p : Nat} {d : De} {A : Option Addr} {n c : Nat} {N : Int} (h : RdS w p d A n c N) : Two w p d.low d.high := ⟨h.cell 0, h.cell 1, h.frozen 0, h.frozen 1⟩
theorem RdS.next {w w' : World} {p : Nat} {d : De} {A : Option Addr} {n c : Nat} {N : Int} (h : RdS w p d A n c N) (hb : Below w.heap.size w w') : RdS w' p d A n c N := Blk.below h hb (Blk.lt h)
theorem RdS.iv {w : World} {p : Nat} {d : De} {A : Option Addr} {n c : Nat} {N : Int} (h : RdS w p d A n c N) (lo hi : Nat) : RdS ((w.setCell ⟨p, 0, none⟩ (.int .u32 (lo : Int))).setCell ⟨p, 1, none⟩ (.int .u32 (hi : Int))) p ⟨lo, hi, d.code, d.at_⟩ A n c N := (Blk.set_ (Blk.set_ h 0 _) 1 _)
theorem RdS.iv' {w : World} {p : Nat} {d : De} {A : Option Addr} {n c : Nat} {N : Int} (h : RdS w p d A n c N) (lo hi : Nat) : RdS ((w.setCell ⟨p, 1, none⟩ (.int .u32 (hi : Int))).setCell ⟨p, 0, none⟩ (.int .u32 (lo : Int))) p ⟨lo, hi, d.code, d.at_⟩ A n c N := (Blk.set_ (Blk.set_ h 1 _) 0 _)
theorem RdS.co {w : World} {p : Nat} {d : De} {A : Option Addr} {n c : Nat} {N : Int} (h : RdS w p d A n c N) (co : Nat) : RdS (w.setCell ⟨p, 2, none⟩ (.int .u32 (co : Int))) p ⟨d.low, d.high, co, d.at_⟩ A n c N := (Blk.set_ h 2 _)
theorem RdS.pl {w : World} {p : Nat} {d : De} {A : Option Addr} {n c : Nat} {N : Int} (h : RdS w p d A n c N) (a : Nat) : RdS (w.setCell ⟨p, 5, none⟩ (.int .i64 (a : Int))) p ⟨d.low, d.high, d.code, a⟩ A n c N := (Blk.set_ h 5 _)
theorem widen_r (w0 : World) (p m : Nat) (A : Option Addr) (n c : Nat) (N : Int) (l : List Bool) (fin : De) (w : World) (h : Hid (WidS w0 p A n c N l fin m w)) (hI : Hid (IsB w0 (.agg #[.slice A n c, .int .i64 N]) l)) (hA : Hid (∀ ad, A = some ad → 0 < n → ad.block ≠ p)) :
  Calls Tryz.prog 140 #[.pointer (some ⟨p, 0, none⟩)] w fun e w' => e = .returned (.tuple #[]) ∧ RdS w' p fin A n c N ∧ w0.grownBy w' (some p) := by
 go_enter Tryz.func140, Tryz.ntmps140
 go_wp2_with fail
 go_loopg [2] m (fun k _ wr => Hid (WidS w0 p A n c N l fin k wr))
 case atStart => exact h
 case round =>
  have HR := hrel
  clear hrel h
  obtain ⟨d, hs, hf, hok, hc1, hc2, hw, ha, hg⟩ := HR.out
  obtain ⟨c0, c1, -, -, -, -⟩ := hs.six
  have HS := Lib.hid hs
  have HF := Lib.hid hf
  have HOK := Lib.hid hok
  have HC1 := Lib.hid hc1
  have HC2 := Lib.hid hc2
  have HW := Lib.hid hw
  have HA := Lib.hid ha
  have HG := Lib.hid hg
  clear hs hf hok hc1 hc2 hw ha hg HR
  obtain ⟨kk, hkk⟩ : ∃ kk, kind d.low d.high = kk := ⟨_, rfl⟩
  by_cases h3 : kk = 3
  ·subst h3
   have HE := Lib.hid (show d = fin from by
    have := HF.out
    cases gk with
    | zero => exact this
    | succ q => unfold widD at this; rwa [if_pos hkk] at this)
   go_wp2_with fail
   have hcon := excess_any d.low d.high 3 wr hkk
   rw [excT_3] at hcon
   refine hcon.mono ?_
   clear hcon hkk
   rintro ee w1 ⟨rfl, hb⟩
   have HS1 := Lib.hid (HS.out.next hb)
   have HG1 := Lib.hid (grown_trans HG.out (only_of_below hb (some p)))
   clear hb c0 c1
   go_wp2
   exact bodyPost_ret (v := .tuple #[]) (by simp [results, Tryz.results140, go_sem]) rfl ⟨rfl, by rw [← HE.out]; exact HS1.out, HG1.out⟩
  ·cases gk with
   | zero => exact absurd (widS_zero HOK.out HW.out) (by omega)
   | succ q =>
    obtain ⟨tk, htk⟩ : ∃ tk, takeK kk = tk := ⟨_, rfl⟩
    have HKK := Lib.hid hkk
    have HTK := Lib.hid htk
    obtain ⟨g1, g2, g3, g4, g5, g6⟩ := stepD_facts (l := l) HOK.out (by omega) HC1.out HC2.out
    rw [hkk, htk] at g1
    go_wp2_with fail
    refine (excess_t d.low d.high kk tk wr hkk htk h3).mono ?_
    clear hkk htk
    rintro ee w1 ⟨rfl, hb⟩
    have HS1 := Lib.hid (HS.out.next hb)
    have HG1 := Lib.hid (grown_trans HG.out (only_of_below hb (some p)))
    clear hb HS HG c0 c1
    obtain ⟨lo, hlo⟩ : ∃ lo, lo = 2 * (d.low - tk) := ⟨_, rfl⟩
    obtain ⟨hi, hhi⟩ : ∃ hi, hi = 2 * (d.high - tk) + 1 := ⟨_, rfl⟩
    obtain ⟨b, hb⟩ : ∃ b, b = (bitF l d.at_).toNat := ⟨_, rfl⟩
    have b2 : b < 2 := by have := toNat_le (bitF l d.at_); omega
    obtain ⟨co, hco⟩ : ∃ co, co = 2 * (d.code - tk) + b := ⟨_, rfl⟩
    have HSD := Lib.hid (show stepD l d = ⟨lo, hi, co, d.at_ + 1⟩ by unfold stepD; rw [HKK.out, HTK.out, hlo, hhi, hco, hb])
    have l0 : lo ≤ co ∧ co ≤ hi ∧ hi < 4294967296 := by have e := HSD.out; rw [e] at g2 g3 g4; exact ⟨g2, g3, g4⟩
    obtain ⟨l1, l2, l3⟩ := l0
    have ok1 := HOK.out.1
    have ok2 := HOK.out.2
    have k1 := HC1.out
    have k2 := HC2.out
    have HLO := Lib.hid hlo
    have HHI := Lib.hid hhi
    have HCO := Lib.hid hco
    have HBT := Lib.hid hb
    clear g2 g3 g4 g5 g6 hlo hhi hco hb
    go_wp2_with fail
    with_reducible refine (double_n p d.low d.high tk lo hi (tk : Int) w1 rfl g1 (by omega) HLO.out HHI.out (by omega) l3 (by omega) ok2 (RdS.two HS1.out)).mono ?_
    rintro ee w2 ⟨rfl, rfl⟩
    have HS2 := Lib.hid (HS1.out.iv lo hi)
    have HG2 := Lib.hid (only_setCell (only_setCell HG1.out (p := ⟨p, 0, none⟩) (.inl rfl) (.int .u32 (lo : Int))) (p := ⟨p, 1, none⟩) (.inl rfl) (.int .u32 (hi : Int)))
    generalize ((w1.setCell ⟨p, 0, none⟩ (.int .u32 (lo : Int))).setCell ⟨p, 1, none⟩ (.int .u32 (hi : Int))) = w2 at HS2 HG2 ⊢
    clear HS1 HG1
    obtain ⟨co1, hco1⟩ : ∃ co1, co1 = d.code - tk := ⟨_, rfl⟩
    obtain ⟨co2, hco2⟩ : ∃ co2, co2 = co1 * 2 := ⟨_, rfl⟩
    have c1' : co2 < 4294967296 := by have := HCO.out; omega
    have c2' : co1 < 4294967296 := by omega
    have e1 : (d.code : Int) - (tk : Int) = (co1 : Int) := by omega
    have e2 : (co1 : Int) * 2 = (co2 : Int) := by omega
    have e3 : (co2 : Int) + (b : Int) = (co : Int) := by have := HCO.out; omega
    have v1 : IntKind.u32.wrap (co1 : Int) = (co1 : Int) := IntWalk.u32_in _ (by omega)
    have v2 : IntKind.u32.wrap (co2 : Int) = (co2 : Int) := IntWalk.u32_in _ (by omega)
    have v3 : IntKind.u32.wrap (co : Int) = (co : Int) := IntWalk.u32_in _ (by omega)
    clear hco1 hco2
    obtain ⟨-, -, x2, -, -, -⟩ := HS2.out.six
    have x3 := HS2.out.frozen 2
    have lp := HS2.out.lt
    have HI2 := Lib.hid (show IsB w2.drew (.agg #[.slice A n c, .int .i64 N]) l from isB_only hI.out (only_drew HG2.out) hA.out)
    have HS2d := Lib.hid (show RdS w2.drew p ⟨lo, hi, d.code, d.at_⟩ A n c N from HS2.out)
    dsimp only at x2
    go_wp2_with fail
    go_region_with (go_at_call 167; refine (bit_any p ⟨lo, hi, d.code, d.at_⟩ A n c N l b w2.drew HS2d HI2 HBT b2).mono ?_; rintro e w6 ⟨rfl, hb6⟩; have y2 : w6.cell? ⟨p, 2, none⟩ = some (.int .u32 (d.code : Int)) := (RdS.next HS2d.out hb6).cell 2; have y3 : w6.frozen? ⟨p, 2, none⟩ = false := (RdS.next HS2d.out hb6).frozen 2)
    all_goals
     have HS6 := Lib.hid (RdS.co (RdS.next HS2d.out hb6) co)
     have HG6 := Lib.hid (only_setCell (grown_trans (only_drew HG2.out) (only_of_below hb6 (some p))) (p := ⟨p, 2, none⟩) (.inl rfl) (.int .u32 (co : Int)))
     clear hb6 x2 x3 y2 y3 v1 v2 v3 e1 e2 e3
     generalize w6.setCell ⟨p, 2, none⟩ (.int .u32 (co : Int)) = w7 at HS6 HG6 ⊢
     obtain ⟨-, -, -, -, -, z5⟩ := HS6.out.six
     have z6 := HS6.out.frozen 5
     dsimp only at z5
     have a1 : d.at_ ≤ 1000000 := by have := HA.out; omega
     go_wp2
     have ea : (d.at_ : Int) + 1 = ((d.at_ + 1 : Nat) : Int) := by omega
     rw [ea]
     clear ea
     have HS8 := Lib.hid (RdS.pl HS6.out (d.at_ + 1))
     have HG8 := Lib.hid (only_setCell HG6.out (p := ⟨p, 5, none⟩) (.inl rfl) (.int .i64 ((d.at_ + 1 : Nat) : Int)))
     dsimp only at HS8
     generalize w7.setCell ⟨p, 5, none⟩ (.int .i64 ((d.at_ + 1 : Nat) : Int)) = w8 at HS8 HG8 ⊢
     go_roundg q
     case rel =>
      refine Lib.hid (WidS.step HOK.out (by rw [HKK.out]; exact h3) HF.out HC1.out HC2.out HW.out HA.out ?_ HG8.out)
      rw [HSD.out]
      exact HS8.out
     case measure => omega
def symK (xs : List Int) (X : Nat) : Nat := (xs.drop 1).findIdx (fun y => decide ((X : Int) < y))
theorem symK_is {xs : List Int} (h : Fq.okF xs = true) {X k : Nat} (hk : Fq.IsSym xs (X : Int) k) : symK xs X = k := by
 obtain ⟨h1, h2, h3⟩ := hk
 unfold symK
 have hl : k < (xs.drop 1).length := by rw [List.length_drop]; omega
 have gd : ∀ j, (hj : j < (xs.drop 1).length) → (xs.drop 1)[j] = xs.getD (j + 1) 0 := by
  intro j hj
  rw [List.length_drop] at hj
  rw [List.getElem_drop]
  have : xs.getD (j + 1) 0 = xs[j + 1] := by simp [List.getD_eq_getElem?_getD, show j + 1 < xs.length by omega]
  rw [this]
  congr 1
  omega
 rw [List.findIdx_eq hl]
 refine ⟨by rw [gd k hl]; simpa using h3, fun j hj => ?_⟩
 rw [gd j (by omega)]
 have := Fq.mono_le h (i := j + 1) (j := k) (by omega) (by omega)
 exact decide_eq_false (by omega)
def FineD (d : De) : Prop := Ok d.low d.high ∧ kind d.low d.high = 3 ∧ d.low ≤ d.code ∧ d.code ≤ d.high
def narD (d : De) (a b T : Nat) : De := ⟨d.low + (d.high - d.low + 1) * a / T, d.low + (d.high - d.low + 1) * b / T - 1, d.code, d.at_⟩
def nxD (l : List Bool) (d : De) (a b T : Nat) : De := widD 40 l (narD d a b T)
theorem fineD_wid {d : De} (h : FineD d) : 1073741824 ≤ d.high - d.low + 1 ∧ d.high - d.low + 1 ≤ 4294967296 := wide_wid (e := ⟨d.low, d.high, 0, []⟩) h.1 h.2.1
theorem symX_lt {d : De} {T : Nat} (h : FineD d) (hT : 0 < T) : symX d T < T := by
 obtain ⟨w1, w2⟩ := fineD_wid h
 unfold symX
 rw [Nat.div_lt_iff_lt_mul (by omega)]
 have k1 : d.code - d.low + 1 ≤ d.high - d.low + 1 := by have := h.2.2.2; omega
 have k2 := Nat.mul_le_mul_right T k1
 have k3 : 0 < (d.code - d.low + 1) * T := Nat.mul_pos (by omega) hT
 rw [Nat.mul_comm T]
 omega
theorem narD_in {d : De} {a b T : Nat} (h : FineD d) (hS : Sp a b T) (h1 : a ≤ symX d T) (h2 : symX d T < b) :
  (narD d a b T).low ≤ d.code ∧ d.code ≤ (narD d a b T).high ∧ Ok (narD d a b T).low (narD d a b T).high ∧ 1 ≤ (d.high - d.low + 1) * b / T := by
 obtain ⟨w1, w2⟩ := fineD_wid h
 have hT : 0 < T := by have := hS.1; have := hS.2.1; omega
 obtain ⟨_, _, c1, c2⟩ := h
 have hn := nar_ok (e := ⟨d.low, d.high, 0, []⟩) (by assumption) (by assumption) hS
 have hb1 := (nar_parts hS (W := d.high - d.low + 1) (by omega)).1
 unfold symX at h1 h2
 rw [Nat.le_div_iff_mul_le (by omega)] at h1
 rw [Nat.div_lt_iff_lt_mul (by omega)] at h2
 have k3 : 0 < (d.code - d.low + 1) * T := Nat.mul_pos (by omega) hT
 have k1 : (d.high - d.low + 1) * a / T < d.code - d.low + 1 := by
  rw [Nat.div_lt_iff_lt_mul hT, Nat.mul_comm (d.high - d.low + 1) a]
  omega
 have k2 : d.code - d.low + 1 ≤ (d.high - d.low + 1) * b / T := by
  rw [Nat.le_div_iff_mul_le hT, Nat.mul_comm (d.high - d.low + 1) b]
  omega
 refine ⟨?_, ?_, hn.1, by omega⟩
 ·show d.low + (d.high - d.low + 1) * a / T ≤ d.code; omega
 ·show d.code ≤ d.low + (d.high - d.low + 1) * b / T - 1; omega
theorem widD_fine (m : Nat) {l : List Bool} : ∀ {d : De}, Ok d.low d.high → d.low ≤ d.code → d.code ≤ d.high → 4294967296 < (d.high - d.low + 1) * 2 ^ (m + 1) → FineD (widD m l d) ∧ (widD m l d).at_ ≤ d.at_ + m := by
 induction m with
 | zero =>
  intro d hok h1 h2 hw
  exact ⟨⟨hok, widS_zero hok hw, h1, h2⟩, by simp [widD]⟩
 | succ m ih =>
  intro d hok h1 h2 hw
  unfold widD
  by_cases hk : kind d.low d.high = 3
  ·rw [if_pos hk]; exact ⟨⟨hok, hk, h1, h2⟩, by omega⟩
  ·rw [if_neg hk]
   obtain ⟨_, b1, b2, b3, b4, b5⟩ := stepD_facts (l := l) hok hk h1 h2
   have := ih (d := stepD l d) ⟨b5, b3⟩ b1 b2 (by
    rw [b4]
    rw [Nat.pow_succ 2 (m + 1)] at hw
    rw [Nat.mul_comm 2 (d.high - d.low + 1), Nat.mul_assoc, Nat.mul_comm 2]
    exact hw)
   refine ⟨this.1, ?_⟩
   have e : (stepD l d).at_ = d.at_ + 1 := rfl
   have h3 := this.2
   omega
theorem nxD_fine {l : List Bool} {d : De} {a b T : Nat} (h : FineD d) (hS : Sp a b T) (h1 : a ≤ symX d T) (h2 : symX d T < b) : FineD (nxD l d a b T) ∧ (nxD l d a b T).at_ ≤ d.at_ + 40 := by
 obtain ⟨n1, n2, n3, _⟩ := narD_in h hS h1 h2
 refine widD_fine 40 n3 n1 n2 ?_
 rw [pow41]
 omega
theorem fineD0 (l : List Bool) : FineD (d0 l) := ⟨⟨by show (0 : Nat) ≤ 4294967295; omega, by show (4294967295 : Nat) < 4294967296; omega⟩, by show kind 0 4294967295 = 3; decide, Nat.zero_le _, by have := val_lt l 32; rw [pow32] at this; show val l 32 ≤ 4294967295; omega⟩
theorem okF_tot {xs : List Int} (h : Fq.okF xs = true) : 1 ≤ spT xs ∧ spT xs ≤ 16384 ∧ Fq.totF true xs = (spT xs : Int) := by
 have hp := Fq.okF_parts h
 have b3 := Fq.okF_bd h (i := xs.length - 1) (by omega)
 have m2 := Fq.okF_mono h (i := 0) (j := xs.length - 1) (by omega) (by omega)
 unfold spT Fq.totF
 simp only [if_true]
 omega
def nxK (d : De) (xs : List Int) : Nat := symK xs (symX d (spT xs))
def nxQ (d : De) (xs : List Int) : Pr := ((nxK d xs : Int), xs)
def nxE (l : List Bool) (d : De) (xs : List Int) : De := nxD l d (spA (nxQ d xs)) (spB (nxQ d xs)) (spT xs)
theorem next_sym {d : De} {xs : List Int} (h : FineD d) (ho : Fq.okF xs = true) : Fq.IsSym xs (symX d (spT xs) : Int) (nxK d xs) ∧ okP (nxQ d xs) = true ∧ spA (nxQ d xs) ≤ symX d (spT xs) ∧ symX d (spT xs) < spB (nxQ d xs) ∧ nxK d xs + 1 < xs.length := by
 obtain ⟨t1, t2, t3⟩ := okF_tot ho
 have hx := symX_lt h (T := spT xs) (by omega)
 have ht : xs.getD (xs.length - 1) 0 = (spT xs : Int) := t3
 obtain ⟨k, hk⟩ := Fq.isSym_some (x := (symX d (spT xs) : Int)) ho (by omega) (by rw [ht]; omega)
 have e : nxK d xs = k := symK_is ho hk
 rw [← e] at hk
 obtain ⟨h1, h2, h3⟩ := hk
 have e1 : (nxQ d xs).1 = (nxK d xs : Int) := rfl
 have e2 : (nxQ d xs).2 = xs := rfl
 have b1 := Fq.okF_bd ho (i := nxK d xs) (by omega)
 have b2 := Fq.okF_bd ho (i := nxK d xs + 1) h1
 refine ⟨⟨h1, h2, h3⟩, ?_, ?_, ?_, h1⟩
 ·unfold okP Fq.symB
  rw [e1, e2, ho]
  simp only [Bool.true_and, decide_eq_true_eq]
  omega
 ·unfold spA
  rw [e1, e2, Int.toNat_natCast]
  omega
 ·unfold spB
  rw [e1, e2, Int.toNat_natCast]
  omega
theorem nxE_fine {l : List Bool} {d : De} {xs : List Int} (h : FineD d) (ho : Fq.okF xs = true) : FineD (nxE l d xs) ∧ (nxE l d xs).at_ ≤ d.at_ + 40 := by
 obtain ⟨_, h1, h2, h3, _⟩ := next_sym h ho
 exact nxD_fine h (symP_of h1).2.2.2 h2 h3
def NxS (w : World) (p bf : Nat) (d : De) (A : Option Addr) (n c : Nat) (N : Int) (C : Option Addr) (m dd : Nat) (xs : List Int) (u : World) : Prop :=
 RdS u p d A n c N ∧ Blk u bf 130 #[.slice C m dd] ∧ Fq.RdI u C m xs ∧ Below w.heap.size w u
section
variable {w : World} {p bf : Nat} {d : De} {A : Option Addr} {n c : Nat} {N : Int} {C : Option Addr} {m dd : Nat} {xs : List Int} {u u' : World}
theorem NxS.next (h : NxS w p bf d A n c N C m dd xs u) (hb : Below u.heap.size u u') : NxS w p bf d A n c N C m dd xs u' :=
 ⟨h.1.next hb, h.2.1.below hb h.2.1.lt, h.2.2.1.below hb, h.2.2.2.trans (hb.mono h.2.2.2.size)⟩
theorem NxS.drew (h : NxS w p bf d A n c N C m dd xs u) : NxS w p bf d A n c N C m dd xs u.drew := ⟨h.1, h.2.1, h.2.2.1, Below.drew h.2.2.2⟩
theorem NxS.drewN (h : NxS w p bf d A n c N C m dd xs u) (k : Nat) : NxS w p bf d A n c N C m dd xs (u.drewN k) := ⟨h.1, h.2.1, h.2.2.1, below_drewN h.2.2.2 k⟩
theorem nxs_start (h : RdS w p d A n c N) (hx : Fq.RdI w C m xs) : NxS w p w.heap.size d A n c N C m dd xs (w.alloc (.cells #[.slice C m dd] 130)) :=
 ⟨Blk.alloc h _, Blk.new w _ _, hx.alloc _, (Below.refl w.heap.size w).alloc (Nat.le_refl _) _⟩
end
theorem next_bad (p : Nat) (d : De) (A : Option Addr) (n c : Nat) (N : Int) (C : Option Addr) (m dd : Nat) (xs : List Int) (w : World) (hs : Hid (RdS w p d A n c N)) (hx : Hid (Fq.RdI w C m xs)) (hm : Hid (m ≤ maxLen)) (hok : Hid (Fq.okF xs = false)) :
  Calls Tryz.prog 98 #[.pointer (some ⟨p, 0, none⟩), .agg #[.slice C m dd]] w fun e w' => e = .returned (.tuple #[.int .i64 0, .int .i64 1]) ∧ Below w.heap.size w w' := by
 have H0 := Lib.hid (nxs_start (dd := dd) hs.out hx.out)
 go_enter Tryz.func98, Tryz.ntmps98
 go_wp2_with fail
 generalize w.alloc (.cells #[.slice C m dd] 130) = w0 at H0 ⊢
 refine (Fq.check_any C m dd xs false w0 (Lib.hid H0.out.2.2.1) hm.out hok.out).mono ?_
 rintro e w1 ⟨rfl, hb1⟩
 have H1 := Lib.hid (H0.out.next hb1)
 clear hb1 H0
 rw [show Fq.errN false = 1 from rfl]
 go_wp2
 go_ret2
 exact ⟨rfl, H1.out.2.2.2⟩
theorem next_short (p : Nat) (d : De) (A : Option Addr) (n c L : Nat) (C : Option Addr) (m dd : Nat) (xs : List Int) (w : World) (hs : Hid (RdS w p d A n c (L : Int))) (hL : L ≤ 65536) (ha : L + 32 < d.at_) (_ha2 : d.at_ ≤ 1000000) (hx : Hid (Fq.RdI w C m xs)) (hm : Hid (m ≤ maxLen)) (hok : Hid (Fq.okF xs = true)) :
  Calls Tryz.prog 98 #[.pointer (some ⟨p, 0, none⟩), .agg #[.slice C m dd]] w fun e w' => e = .returned (.tuple #[.int .i64 0, .int .i64 20]) ∧ Below w.heap.size w w' := by
 have H0 := Lib.hid (nxs_start (dd := dd) hs.out hx.out)
 obtain ⟨L3, hL3⟩ : ∃ L3, L3 = L + 32 := ⟨_, rfl⟩
 have eL : (L : Int) + 32 = (L3 : Int) := by omega
 have v1 : IntKind.i64.wrap (L3 : Int) = (L3 : Int) := IntWalk.i64_in _ (by omega)
 have dd1 : decide (L3 < d.at_) = true := by simp; omega
 have dd2 : decide ((L3 : Int) < (d.at_ : Int)) = true := by simp; omega
 clear hL3
 have EL := Lib.hid eL
 have V1 := Lib.hid v1
 clear eL v1
 go_enter Tryz.func98, Tryz.ntmps98
 go_wp2_with fail
 generalize w.alloc (.cells #[.slice C m dd] 130) = w0 at H0 ⊢
 refine (Fq.check_any C m dd xs true w0 (Lib.hid H0.out.2.2.1) hm.out hok.out).mono ?_
 rintro e w1 ⟨rfl, hb1⟩
 have H1 := Lib.hid (H0.out.next hb1)
 clear hb1 H0
 rw [show Fq.errN true = 0 from rfl]
 obtain ⟨-, -, -, -, x4, x5⟩ := H1.out.1.six
 have eL := EL.out
 have v1 := V1.out
 go_wp2_with fail
 go_quiet (fail)
 go_wp2
 go_ret2
 exact ⟨rfl, below_drewN H1.out.2.2.2 _⟩
def NxP (w : World) (p : Nat) (k : Nat) (fin : De) (A : Option Addr) (n c : Nat) (N : Int) (e : Ending) (w' : World) : Prop :=
 e = .returned (.tuple #[.int .i64 (k : Int), .int .i64 0]) ∧ RdS w' p fin A n c N ∧ w.grownBy w' (some p)
theorem next_ok (p : Nat) (d : De) (A : Option Addr) (n c L : Nat) (l : List Bool) (C : Option Addr) (m dd : Nat) (xs : List Int) (w : World) (hs : Hid (RdS w p d A n c (L : Int))) (hI : Hid (IsB w (.agg #[.slice A n c, .int .i64 (L : Int)]) l)) (hA : Hid (∀ ad, A = some ad → 0 < n → ad.block ≠ p)) (hL : L ≤ 65536) (hd : Hid (FineD d)) (ha : d.at_ ≤ L + 32) (hx : Hid (Fq.RdI w C m xs)) (hm : Hid (m ≤ maxLen)) (hok : Hid (Fq.okF xs = true)) :
  Calls Tryz.prog 98 #[.pointer (some ⟨p, 0, none⟩), .agg #[.slice C m dd]] w (NxP w p (nxK d xs) (nxE l d xs) A n c (L : Int)) := by
 obtain ⟨T, hT⟩ : ∃ T, T = spT xs := ⟨_, rfl⟩
 obtain ⟨X, hX⟩ : ∃ X, X = symX d T := ⟨_, rfl⟩
 obtain ⟨K, hK⟩ : ∃ K, K = nxK d xs := ⟨_, rfl⟩
 obtain ⟨t1, t2, t3⟩ := okF_tot hok.out
 obtain ⟨y1, y2, y3, y4, y5⟩ := next_sym hd.out hok.out
 have hxl := symX_lt hd.out (T := T) (by omega)
 rw [← hT] at t1 t2 t3 y1 y3 y4
 rw [← hX] at hxl y1 y3 y4
 obtain ⟨a, hav⟩ : ∃ a, a = spA (nxQ d xs) := ⟨_, rfl⟩
 obtain ⟨b, hbv⟩ : ∃ b, b = spB (nxQ d xs) := ⟨_, rfl⟩
 have HSY := Lib.hid (show symP xs (K : Int) a b T from by have := symP_of y2; rw [hav, hbv, hT, hK]; exact this)
 have HY1 := Lib.hid (show Fq.IsSym xs (X : Int) K by rw [hK]; exact y1)
 rw [← hav] at y3
 rw [← hbv] at y4
 obtain ⟨n1, n2, n3, n4⟩ := narD_in hd.out HSY.out.2.2.2 (show a ≤ symX d T by rw [← hX]; exact y3) (show symX d T < b by rw [← hX]; exact y4)
 have HFIN := Lib.hid (show nxE l d xs = nxD l d a b T by unfold nxE; rw [hav, hbv, hT])
 have HKK := Lib.hid hK
 obtain ⟨lo, hlo⟩ : ∃ lo, lo = d.low + (d.high - d.low + 1) * a / T := ⟨_, rfl⟩
 obtain ⟨hi, hhi⟩ : ∃ hi, hi = d.low + (d.high - d.low + 1) * b / T - 1 := ⟨_, rfl⟩
 have HN1 := Lib.hid (show lo ≤ d.code ∧ d.code ≤ hi ∧ lo ≤ hi ∧ hi < 4294967296 by rw [hlo, hhi]; exact ⟨n1, n2, n3.1, n3.2⟩)
 have HND := Lib.hid (show narD d a b T = ⟨lo, hi, d.code, d.at_⟩ by unfold narD; rw [hlo, hhi])
 have HLO := Lib.hid hlo
 have HHI := Lib.hid hhi
 have HB1 := Lib.hid n4
 obtain ⟨o1, o2⟩ := hd.out.1
 have k1 := hd.out.2.2.1
 have k2 := hd.out.2.2.2
 obtain ⟨w1', w2'⟩ := fineD_wid hd.out
 -- letters
 obtain ⟨W, hW⟩ : ∃ W, W = d.high - d.low + 1 := ⟨_, rfl⟩
 rw [← hW] at w1' w2'
 have HWW := Lib.hid hW
 obtain ⟨c1, hc1⟩ : ∃ c1, c1 = d.code - d.low := ⟨_, rfl⟩
 obtain ⟨c2, hc2⟩ : ∃ c2, c2 = c1 + 1 := ⟨_, rfl⟩
 obtain ⟨pr, hpr⟩ : ∃ pr, pr = c2 * T := ⟨_, rfl⟩
 obtain ⟨pq, hpq⟩ : ∃ pq, pq = pr - 1 := ⟨_, rfl⟩
 have c2b : c2 ≤ 4294967296 := by omega
 have prb : pr ≤ 70368744177664 := by rw [hpr]; exact Nat.le_trans (Nat.mul_le_mul c2b t2) (by omega)
 have pr1 : 1 ≤ pr := by rw [hpr]; exact Nat.mul_pos (by omega) (by omega)
 have hXq : X = pq / W := by rw [hX, hpq, hpr, hc2, hc1, hW]; rfl
 have E1 := Lib.hid (show (d.code : Int) - (d.low : Int) = (c1 : Int) by omega)
 have E2 := Lib.hid (show (c1 : Int) + 1 = (c2 : Int) by omega)
 have E3 := Lib.hid (show (c2 : Int) * (T : Int) = (pr : Int) by rw [hpr]; simp)
 have E4 := Lib.hid (show (pr : Int) - 1 = (pq : Int) by omega)
 have E5 := Lib.hid (show (pq : Int) / (W : Int) = (X : Int) by rw [hXq]; simp)
 have c1b : c1 < 4294967296 := by omega
 have X2 : X < 16384 := by omega
 have K2 : K ≤ 300 := by have := HY1.out.1; have := (Fq.okF_parts hok.out).2.1; omega
 have W0 : ¬ (W : Int) = 0 := by omega
 have W0' : ((W : Int) == 0) = false := by simp; omega
 have W1' : ¬ W = 0 := by omega
 have W2' : (W == 0) = false := by simp; omega
 obtain ⟨L3, hL3⟩ : ∃ L3, L3 = L + 32 := ⟨_, rfl⟩
 have EL := Lib.hid (show (L : Int) + 32 = (L3 : Int) by omega)
 have VL := Lib.hid (show IntKind.i64.wrap (L3 : Int) = (L3 : Int) from IntWalk.i64_in _ (by omega))
 have dd1 : decide (L3 < d.at_) = false := by simp; omega
 have dd2 : decide ((L3 : Int) < (d.at_ : Int)) = false := by simp; omega
 have pqb : pq ≤ 70368744177664 := by omega
 have HT := Lib.hid t3
 have XT : X < T := hxl
 clear hT hX hK y1 y2 y3 y4 y5 hav hbv hlo hhi n1 n2 n3 n4 hW hc1 hc2 hpr hpq hXq hL3 t3 hxl
 have H0 := Lib.hid (nxs_start (dd := dd) hs.out hx.out)
 go_enter Tryz.func98, Tryz.ntmps98
 go_wp2_with fail
 generalize w.alloc (.cells #[.slice C m dd] 130) = w0 at H0 ⊢
 obtain ⟨bf, hbf⟩ : ∃ bf, bf = w.heap.size := ⟨_, rfl⟩
 rw [← hbf] at H0 ⊢
 clear hbf
 refine (Fq.check_any C m dd xs true w0 (Lib.hid H0.out.2.2.1) hm.out hok.out).mono ?_
 rintro e w1 ⟨rfl, hb1⟩
 have H1 := Lib.hid (H0.out.next hb1)
 clear hb1 H0
 rw [show Fq.errN true = 0 from rfl]
 obtain ⟨-, -, -, -, x4, x5⟩ := H1.out.1.six
 have eL := EL.out
 have v1 := VL.out
 go_wp2_with fail
 go_quiet (fail)
 clear x4 x5 eL v1
 have H2 := Lib.hid (H1.out.drewN nq)
 generalize w1.drewN nq = w2 at H2 ⊢
 clear H1
 obtain ⟨x0, -, x2, -, -, -⟩ := H2.out.1.six
 have e1 := E1.out
 have e2 := E2.out
 have v1 : IntKind.u32.wrap (c1 : Int) = (c1 : Int) := IntWalk.u32_in _ (by omega)
 have v2 : IntKind.u64.wrap (c1 : Int) = (c1 : Int) := IntWalk.u64_in _ (by omega)
 have v3 : IntKind.u64.wrap (c2 : Int) = (c2 : Int) := IntWalk.u64_in _ (by omega)
 go_wp2_with fail
 go_quiet (fail)
 clear x0 x2 e1 e2 v1 v2 v3
 have H3 := Lib.hid (H2.out.drewN nq)
 generalize w2.drewN nq = w3 at H3 ⊢
 clear H2
 go_wp2_with fail
 obtain ⟨x0, x1, -, -, -, -⟩ := H3.out.1.six
 have x3 := Fq.blk0 H3.out.2.1
 have v1 : IntKind.u64.wrap (T : Int) = (T : Int) := IntWalk.u64_in _ (by omega)
 have v2 : IntKind.u64.wrap (pr : Int) = (pr : Int) := IntWalk.u64_in _ (by omega)
 have v3 : IntKind.u64.wrap (pq : Int) = (pq : Int) := IntWalk.u64_in _ (by omega)
 have v4 : IntKind.u64.wrap (X : Int) = (X : Int) := IntWalk.u64_in _ (by omega)
 have e3 := E3.out
 have e4 := E4.out
 have e5 := E5.out
 have e6 : Int.tdiv (pq : Int) (W : Int) = (X : Int) := by rw [Int.tdiv_eq_ediv_of_nonneg (by omega)]; exact e5
 have C1 := Lib.hid (show ∀ u, NxS w p bf d A n c (L : Int) C m dd xs u → Calls Tryz.prog 137 #[.agg #[.slice C m dd]] u (fun e w' => e = .returned (.int .i64 (T : Int)) ∧ NxS w p bf d A n c (L : Int) C m dd xs w') from fun u h =>
  (Fq.total_any C m dd xs true (T : Int) u (Lib.hid h.2.2.1) hm.out hok.out HT.out).mono fun e w' ⟨h1, h2⟩ => ⟨h1, h.next h2⟩)
 have C2 := Lib.hid (show ∀ u, NxS w p bf d A n c (L : Int) C m dd xs u → Calls Tryz.prog 138 #[.agg #[.int .u32 (d.low : Int), .int .u32 (d.high : Int)]] u (fun e w' => e = .returned (.int .u64 (W : Int)) ∧ NxS w p bf d A n c (L : Int) C m dd xs w') from fun u h =>
  (size_any d.low d.high W u o1 o2 HWW).mono fun e w' ⟨h1, h2⟩ => ⟨h1, h.next h2⟩)
 go_region_held3 (fun w' => w'.cell? ⟨p, 0, none⟩ = some (.int .u32 (d.low : Int)) ∧ w'.cell? ⟨p, 1, none⟩ = some (.int .u32 (d.high : Int)) ∧ w'.cell? ⟨bf, 0, none⟩ = some (.slice C m dd) ∧ NxS w p bf d A n c (L : Int) C m dd xs w') (first | exact ⟨hQ.1.six.1, hQ.1.six.2.1, Fq.blk0 hQ.2.1, hQ⟩ | exact ⟨x0, x1, x3, H3.out⟩ | exact ⟨x0, x1, x3, H3.out.drew⟩) (first
  | (go_at_call 137; refine (C1.out _ (by first | exact hQ | exact H3.out | exact H3.out.drew)).mono ?_; rintro e w6 ⟨rfl, hQ⟩)
  | (go_at_call 138; refine (C2.out _ (by first | exact hQ | exact H3.out | exact H3.out.drew)).mono ?_; rintro e w6 ⟨rfl, hQ⟩))
 all_goals
  have HQ := Lib.hid hQ
  clear hQ x0 x1 x3 v1 v2 v3 v4 e3 e4 e5 e6 C1 C2
  go_wp2_with fail
  refine (Fq.find_yes C m dd K xs (X : Int) (T : Int) w6 (Lib.hid HQ.out.2.2.1) hok HY1 (by omega) HT (by omega) (by omega)).mono ?_
  rintro e w7 ⟨rfl, hb7⟩
  have H7 := Lib.hid (HQ.out.next hb7)
  clear hb7 HQ H3
  unfold Fq.findT
  have x3 := Fq.blk0 H7.out.2.1
  go_wp2_with fail
  go_region_with (go_at_call 109; refine (narrow_ok p d.low d.high a b T lo hi C m dd xs (K : Int) w7.drew o1 o2 (Lib.hid H7.out.drew.2.2.1) hm HSY (Lib.hid (RdS.two H7.out.drew.1)) HLO HHI HB1 HN1.out.2.2.1 HN1.out.2.2.2).mono ?_; rintro e w8 ⟨rfl, w9, hb9, rfl⟩)
  have HS9 := Lib.hid (RdS.iv' (H7.out.drew.1.next hb9) lo hi)
  have HG9 := Lib.hid (only_setCell (only_setCell (only_of_below (H7.out.drew.2.2.2.trans (hb9.mono H7.out.drew.2.2.2.size)) (some p)) (p := ⟨p, 1, none⟩) (.inl rfl) (.int .u32 (hi : Int))) (p := ⟨p, 0, none⟩) (.inl rfl) (.int .u32 (lo : Int)))
  clear hb9 x3 H7
  generalize (w9.setCell ⟨p, 1, none⟩ (.int .u32 (hi : Int))).setCell ⟨p, 0, none⟩ (.int .u32 (lo : Int)) = w10 at HS9 HG9 ⊢
  have HWD := Lib.hid (show WidS w p A n c (L : Int) l (nxD l d a b T) 40 w10 from by
   refine ⟨⟨lo, hi, d.code, d.at_⟩, HS9.out, by unfold nxD; rw [HND.out], ⟨HN1.out.2.2.1, HN1.out.2.2.2⟩, HN1.out.1, HN1.out.2.1, ?_, ?_, HG9.out⟩
   ·rw [pow41]; omega
   ·show d.at_ + 40 ≤ 1000000; omega)
  clear HS9 HG9
  go_wp2_with fail
  with_reducible refine (widen_r w p 40 A n c (L : Int) l (nxD l d a b T) w10 HWD hI hA).mono ?_
  rintro e w11 ⟨rfl, hs11, hg11⟩
  have HS11 := Lib.hid hs11
  have HG11 := Lib.hid hg11
  clear hs11 hg11 HWD
  go_wp2
  go_ret2
  exact ⟨by rw [← HKK.out]; rfl, by rw [HFIN.out]; exact HS11.out, HG11.out⟩
def stD (l : List Bool) (d : De) (fs : List (List Int)) : De := fs.foldl (nxE l) d
theorem stD_snoc (l : List Bool) (d : De) (fs : List (List Int)) (xs : List Int) : stD l d (fs ++ [xs]) = nxE l (stD l d fs) xs := by simp [stD]
def backErr (l : List Bool) (d : De) : List (List Int) → Int
 | [] => 0
 | xs :: r => if Fq.okF xs = true then (if l.length + 32 < d.at_ then 20 else backErr l (nxE l d xs) r) else 1
theorem backErr_no {l : List Bool} {d : De} {xs : List Int} {r : List (List Int)} (h : Fq.okF xs = false) : backErr l d (xs :: r) = 1 := by unfold backErr; rw [h]; rfl
theorem backErr_short {l : List Bool} {d : De} {xs : List Int} {r : List (List Int)} (h : Fq.okF xs = true) (h2 : l.length + 32 < d.at_) : backErr l d (xs :: r) = 20 := by unfold backErr; rw [if_pos h, if_pos h2]
theorem backErr_ok {l : List Bool} {d : De} {xs : List Int} {r : List (List Int)} (h : Fq.okF xs = true) (h2 : d.at_ ≤ l.length + 32) : backErr l d (xs :: r) = backErr l (nxE l d xs) r := by rw [backErr, if_pos h, if_neg (by omega)]
def symL (l : List Bool) (d : De) (fs : List (List Int)) : List Int := (List.range fs.length).map fun k => (nxK (stD l d (fs.take k)) (fs.getD k []) : Int)
theorem symL_length (l : List Bool) (d : De) (fs : List (List Int)) : (symL l d fs).length = fs.length := by simp [symL]
theorem symL_take (l : List Bool) (d : De) (fs : List (List Int)) (k : Nat) (xs : List Int) (h : fs[k]? = some xs) : (symL l d fs).take (k + 1) = (symL l d fs).take k ++ [(nxK (stD l d (fs.take k)) xs : Int)] := by
 obtain ⟨hk, e⟩ := List.getElem?_eq_some_iff.1 h
 have hl : k < (symL l d fs).length := by rw [symL_length]; exact hk
 rw [List.take_succ_eq_append_getElem hl]
 congr 2
 simp [symL, List.getD_eq_getElem?_getD, hk, e]
def tbs (ts : List Tb) : List (List Int) := ts.map (·.xs)
structure BkR (w : World) (l : List Bool) (p g n8 c N m k : Nat) (A : Option Addr) (fs : List (List Int)) (wr : World) : Prop where
 rd : RdS wr p (stD l (d0 l) (fs.take k)) A n8 c (N : Int)
 fine : FineD (stD l (d0 l) (fs.take k))
 far : (stD l (d0 l) (fs.take k)).at_ ≤ N + 72
 err : backErr l (d0 l) fs = backErr l (stD l (d0 l) (fs.take k)) (fs.drop k)
 zs : ∃ zs, zs.length = m ∧ zs.take k = (symL l (d0 l) fs).take k ∧ Blk wr g 3 (Fq.icells zs)
 hp : w.heap.size ≤ p
 hg : w.heap.size ≤ g
 ne : g ≠ p
 blw : Below w.heap.size w wr
section
variable {w : World} {l : List Bool} {p g n8 c N m k : Nat} {A : Option Addr} {fs : List (List Int)} {wr w' : World}
theorem BkR.next (h : BkR w l p g n8 c N m k A fs wr) (hb : Below wr.heap.size wr w') : BkR w l p g n8 c N m k A fs w' := by
 obtain ⟨zs, z1, z2, z3⟩ := h.zs
 exact ⟨h.rd.next hb, h.fine, h.far, h.err, ⟨zs, z1, z2, z3.below hb z3.lt⟩, h.hp, h.hg, h.ne, h.blw.trans (hb.mono h.blw.size)⟩
theorem BkR.step {xs : List Int} {w2 : World} (h : BkR w l p g n8 c N m k A fs wr) (hN : N = l.length) (hx : fs[k]? = some xs) (hd : fs.drop k = xs :: fs.drop (k + 1)) (ht : fs.take (k + 1) = fs.take k ++ [xs]) (ho : Fq.okF xs = true) (ha : (stD l (d0 l) (fs.take k)).at_ ≤ N + 32) (hk : k < m)
  (hs : RdS w2 p (nxE l (stD l (d0 l) (fs.take k)) xs) A n8 c (N : Int)) (hg : wr.grownBy w2 (some p)) :
  BkR w l p g n8 c N m (k + 1) A fs (w2.setCell ⟨g, k, none⟩ (.int .i64 ((nxK (stD l (d0 l) (fs.take k)) xs : Nat) : Int))) := by
 obtain ⟨zs, z1, z2, z3⟩ := h.zs
 obtain ⟨f1, f2⟩ := nxE_fine (l := l) h.fine ho
 refine ⟨?_, ?_, ?_, ?_, ⟨zs.set k ((nxK (stD l (d0 l) (fs.take k)) xs : Nat) : Int), by simp [z1], ?_, Fq.blk_put (z3.only hg h.ne) _ _⟩, h.hp, h.hg, h.ne, ?_⟩
 ·rw [ht, stD_snoc]
  exact Blk.far hs (fun e => h.ne e.symm) _
 ·rw [ht, stD_snoc]; exact f1
 ·rw [ht, stD_snoc]; omega
 ·rw [h.err, hd, backErr_ok ho (by omega), ht, stD_snoc]
 ·rw [symL_take l (d0 l) fs k xs hx, List.take_succ_eq_append_getElem (by simp [z1]; omega), List.take_set_of_le (Nat.le_refl _), z2]
  simp
 ·exact (h.blw.grown hg h.blw.size (fun j hj => by injection hj with hj; rw [← hj]; exact h.hp)).setCell h.hg _
end
theorem symL_cons (l : List Bool) (d : De) (xs : List Int) (r : List (List Int)) : symL l d (xs :: r) = (nxK d xs : Int) :: symL l (nxE l d xs) r := by
 unfold symL
 rw [List.length_cons, List.range_succ_eq_map, List.map_cons, List.map_map]
 rfl
theorem in_back {inp : List Bool} {ps : List Pr} : ∀ {e : En}, Fine e → allErr e ps = 0 → In inp (stE e ps) → In inp e := by
 induction ps with
 | nil => intro e _ _ h; exact h
 | cons q r ih =>
  intro e h h0 hi
  cases hq : okP q with
  | false => rw [allErr_no hq] at h0; cases h0
  | true =>
   rcases putC_cases (put1 e q) with ⟨c, _, _⟩ | c
   ·rw [allErr_ok hq c] at h0
    rw [stE_cons] at hi
    exact (In.put h.1 h.2.1 (symP_of hq).2.2.2 (ih (h.put hq c) h0 hi)).2
   ·rw [allErr_long hq c] at h0; cases h0
theorem len_mono {ps : List Pr} : ∀ {e : En}, Fine e → allErr e ps = 0 → len e ≤ len (stE e ps) := by
 induction ps with
 | nil => intro e _ _; exact Nat.le_refl _
 | cons q r ih =>
  intro e h h0
  cases hq : okP q with
  | false => rw [allErr_no hq] at h0; cases h0
  | true =>
   rcases putC_cases (put1 e q) with ⟨c, _, _⟩ | c
   ·rw [allErr_ok hq c] at h0
    have h1 := ih (h.put hq c) h0
    obtain ⟨_, _, k, hk, _⟩ := put_facts h.1 h.2.1 (symP_of hq).2.2.2
    rw [stE_cons]
    have : len (put1 e q) = len e + k := hk
    omega
   ·rw [allErr_long hq c] at h0; cases h0
theorem next_back {inp : List Bool} {e : En} {d : De} {q : Pr} (h : Fine e) (hq : okP q = true) (hs : Sync inp e d) (hi : In inp (put1 e q)) : (nxK d q.2 : Int) = q.1 ∧ Sync inp (put1 e q) (nxE inp d q.2) := by
 have hsp := symP_of hq
 obtain ⟨y1, y2, y3, y4, y5⟩ := next_sync h.1 h.2.1 hsp.2.2.2 hi hs
 have hq' := hq
 unfold okP Fq.symB at hq'
 simp only [Bool.and_eq_true, decide_eq_true_eq] at hq'
 obtain ⟨hok, h0, h1⟩ := hq'
 have b1 := Fq.okF_bd hok (i := q.1.toNat) (by omega)
 have b2 := Fq.okF_bd hok (i := q.1.toNat + 1) (by omega)
 have hk : nxK d q.2 = q.1.toNat := symK_is hok ⟨by omega, by unfold spA at y1; omega, by unfold spB at y2; omega⟩
 have hk2 : (nxK d q.2 : Int) = q.1 := by rw [hk]; omega
 refine ⟨hk2, ?_⟩
 have eq : nxQ d q.2 = q := by unfold nxQ; rw [hk2]
 have e1 : nxE inp d q.2 = widD 40 inp ⟨(nar e (spA q) (spB q) (spT q.2)).low, (nar e (spA q) (spB q) (spT q.2)).high, d.code, d.at_⟩ := by
  unfold nxE nxD narD
  rw [eq, hs.1, hs.2.1]
  rfl
 rw [e1]
 exact y5
theorem back_all {inp : List Bool} {ps : List Pr} : ∀ {e : En} {d : De}, Fine e → allErr e ps = 0 → Sync inp e d → In inp (stE e ps) → len (stE e ps) ≤ inp.length → backErr inp d (ps.map (·.2)) = 0 ∧ symL inp d (ps.map (·.2)) = ps.map (·.1) := by
 induction ps with
 | nil => intro e d _ _ _ _ _; exact ⟨rfl, rfl⟩
 | cons q r ih =>
  intro e d h h0 hs hi hl
  have hlm := len_mono h h0
  cases hq : okP q with
  | false => rw [allErr_no hq] at h0; cases h0
  | true =>
   rcases putC_cases (put1 e q) with ⟨c, _, _⟩ | c
   ·rw [allErr_ok hq c] at h0
    rw [stE_cons] at hi hl hlm
    have hi1 := in_back (h.put hq c) h0 hi
    obtain ⟨n1, n2⟩ := next_back h hq hs hi1
    obtain ⟨r1, r2⟩ := ih (h.put hq c) h0 n2 hi hl
    have hok : Fq.okF q.2 = true := (symP_of hq).2.1
    have hat : d.at_ ≤ inp.length + 32 := by rw [hs.2.2.1]; omega
    rw [List.map_cons, List.map_cons, backErr_ok hok hat, symL_cons, n1, r2]
    exact ⟨r1, rfl⟩
   ·rw [allErr_long hq c] at h0; cases h0
theorem all_back {ps : List Pr} (h0 : allErr e0 ps = 0) (tail : List Bool) :
  backErr (endBits (stE e0 ps) ++ tail) (d0 (endBits (stE e0 ps) ++ tail)) (ps.map (·.2)) = 0 ∧ symL (endBits (stE e0 ps) ++ tail) (d0 (endBits (stE e0 ps) ++ tail)) (ps.map (·.2)) = ps.map (·.1) := by
 have hf := (allErr_zero fine0 h0).1
 refine back_all fine0 h0 (e0_sync _) (end_in hf.1 hf.2.1 tail) ?_
 rw [List.length_append, endBits_length]
 omega
structure LvS (w : World) (b1 g1 b3 gf : Nat) (u : World) : Prop where
 x1 : Blk u b1 100 #[.slice (some ⟨g1, 0, none⟩) 1 1, .int .i64 2]
 x2 : Blk u g1 5 #[.int .u8 64]
 x3 : Blk u b3 130 #[.slice (some ⟨gf, 0, none⟩) 3 3]
 x4 : Blk u gf 3 (Fq.icells [0, 1, 4])
 x5 : Below w.heap.size w u
theorem LvS.next {w : World} {b1 g1 b3 gf : Nat} {u u' : World} (h : LvS w b1 g1 b3 gf u) (hb : Below u.heap.size u u') : LvS w b1 g1 b3 gf u' :=
 ⟨h.x1.below hb h.x1.lt, h.x2.below hb h.x2.lt, h.x3.below hb h.x3.lt, h.x4.below hb h.x4.lt, h.x5.trans (hb.mono h.x5.size)⟩
theorem LvS.alloc {w : World} {b1 g1 b3 gf : Nat} {u : World} (h : LvS w b1 g1 b3 gf u) (o : Obj) : LvS w b1 g1 b3 gf (u.alloc o) := h.next ((Below.refl u.heap.size u).alloc (Nat.le_refl _) o)
def t3 (gf : Nat) : Tb := ⟨some ⟨gf, 0, none⟩, 3, 3, [0, 1, 4]⟩
def LB (w : World) (b : Nat) (a v : Value) (u : World) : Prop := Blk u b 100 #[a, v] ∧ Below w.heap.size w u
theorem LB.next {w : World} {b : Nat} {a v : Value} {u u' : World} (h : LB w b a v u) (hb : Below u.heap.size u u') : LB w b a v u' := ⟨h.1.below hb h.1.lt, h.2.trans (hb.mono h.2.size)⟩
theorem LB.alloc {w : World} {b : Nat} {a v : Value} {u : World} (h : LB w b a v u) (o : Obj) : LB w b a v (u.alloc o) := h.next ((Below.refl u.heap.size u).alloc (Nat.le_refl _) o)
theorem isB_it {w : World} {A : Option Addr} {n c : Nat} {N : Int} {l : List Bool} (h : IsB w (.agg #[.slice A n c, .int .i64 N]) l) : It.ok ⟨A, n, c, N, pack l⟩ = true ∧ It.bits ⟨A, n, c, N, pack l⟩ = l := by
 obtain ⟨_, hN, _, hl⟩ := isB_parts h
 refine ⟨?_, ?_⟩
 ·show okB (pack l) N = true
  rw [hN]; exact okB_pack l hl
 ·show bitsIn (pack l) N.toNat = l
  rw [hN]; exact bitsIn_pack l
theorem join_two {w : World} {b : Nat} {A1 A2 : Option Addr} {n1 c1 n2 c2 : Nat} {N1 N2 : Int} {l1 l2 : List Bool} (h1 : IsB w (.agg #[.slice A1 n1 c1, .int .i64 N1]) l1) (h2 : IsB w (.agg #[.slice A2 n2 c2, .int .i64 N2]) l2) (hb : Blk w b 100 #[.slice A1 n1 c1, .int .i64 N1, .slice A2 n2 c2, .int .i64 N2]) :
  Calls Tryz.prog 112 #[.slice (some ⟨b, 0, none⟩) 2 2] w (BOut w (JQ w.heap.size (l1 ++ l2))) := by
 have hall : allBits [⟨A1, n1, c1, N1, pack l1⟩, ⟨A2, n2, c2, N2, pack l2⟩] = l1 ++ l2 := by
  show It.bits _ ++ (It.bits _ ++ []) = _
  rw [(isB_it h1).2, (isB_it h2).2, List.append_nil]
 rw [← hall]
 refine join_out (some ⟨b, 0, none⟩) 2 2 _ w (by omega) ?_ ?_
 ·refine ⟨rfl, fun _ => ⟨_, rfl, fun j x hx => ?_⟩⟩
  rcases (show j = 0 ∨ j = 1 by
   obtain ⟨hk, _⟩ := List.getElem?_eq_some_iff.1 hx
   have hk' : j < 2 := hk
   omega) with rfl | rfl
  ·injection hx with hx
   subst hx
   exact ⟨hb.cell 0, hb.cell 1, (isB_parts h1).2.2.1⟩
  ·injection hx with hx
   subst hx
   exact ⟨hb.cell 2, hb.cell 3, (isB_parts h2).2.2.1⟩
 ·intro x hx
  simp only [List.mem_cons, List.mem_nil_iff, or_false] at hx
  rcases hx with rfl | rfl
  ·exact (isB_it h1).1
  ·exact (isB_it h2).1
def evT : List Int := Fq.acc (List.replicate 256 1)
theorem evT_ok : Fq.okF evT = true := Fq.okF_acc (Fq.okN_rep 256 (by omega) (by omega))
theorem evT_length : evT.length = 257 := by unfold evT; rw [Fq.acc_length, List.length_replicate]
theorem row_neC {w : World} {b1 b2 : Nat} {e1 e2 : TypeId} {s1 s2 n1 n2 : Nat} {v1 v2 : Value} {x1 x2 : List Value} (h1 : w.ownsRow b1 e1 s1 v1 n1 x1) (h2 : w.ownsRow b2 e2 s2 v2 n2 x2) (he : e1 ≠ e2) : v1.ownBlock = none ∨ v1.ownBlock ≠ v2.ownBlock := by
 rcases h1.2 with ⟨rfl, _⟩ | ⟨g, cap, cur, rfl, _, hh, _⟩
 ·exact .inl rfl
 ·refine .inr fun e => ?_
  rcases h2.2 with ⟨rfl, _⟩ | ⟨g', cap', cur', rfl, _, hh', _⟩
  ·simp [Value.ownBlock] at e
  ·simp only [Value.ownBlock, Option.some.injEq] at e
   subst e
   exact Blk.ne_ (t := e1) (t' := e2) hh hh' he rfl
structure EvS (w : World) (B b4 ge k k2 : Nat) (bs : List Nat) (v6 v7 : Value) (u : World) : Prop where
 syms : u.ownsRow B 3 1 v6 k ((bs.take k).map fun b : Nat => Value.int .i64 (b : Int))
 tabs : u.ownsRow B 130 1 v7 k2 (List.replicate k2 (.slice (some ⟨ge, 0, none⟩) 257 257))
 box : Blk u b4 130 #[.slice (some ⟨ge, 0, none⟩) 257 257]
 tab : Blk u ge 3 (Fq.icells evT)
 lt4 : b4 < B
 ltg : ge < B
 hB : w.heap.size ≤ B
 hBu : B ≤ u.heap.size
 blw : Below w.heap.size w u
theorem own_far {u : World} {B k g : Nat} {t : TypeId} {v : Value} {xs : List Value} (h : u.ownsRow B t 1 v k xs) (hg : g < B) : v.ownBlock ≠ some g := fun e => by
 have := (h.lt g e).1
 omega
section
variable {w : World} {B b4 ge k k2 : Nat} {bs : List Nat} {v6 v7 v' : Value} {u u' : World}
theorem EvS.alloc (h : EvS w B b4 ge k k2 bs v6 v7 u) (o : Obj) : EvS w B b4 ge k k2 bs v6 v7 (u.alloc o) :=
 ⟨h.syms.alloc o, h.tabs.alloc o, h.box.alloc o, h.tab.alloc o, h.lt4, h.ltg, h.hB, by have := h.hBu; simp; omega, h.blw.alloc h.blw.size o⟩
theorem EvS.push6 (h : EvS w B b4 ge k k2 bs v6 v7 u) (hk : k < bs.length) (ho : u'.ownsRow B 3 1 v' (k + 1) ((bs.take k).map (fun b : Nat => Value.int .i64 (b : Int)) ++ [.int .i64 ((bs.getD k 0 : Nat) : Int)])) (hg : u.grownBy u' v6.ownBlock) : EvS w B b4 ge (k + 1) k2 bs v' v7 u' := by
 have hB := fun j hj => (h.syms.lt j hj).1
 refine ⟨?_, World.ownsRow.kept h.tabs hg (row_neC h.tabs h.syms (by decide)), h.box.row hg (own_far h.syms h.lt4), h.tab.row hg (own_far h.syms h.ltg), h.lt4, h.ltg, h.hB, Nat.le_trans h.hBu hg.size, h.blw.grown hg h.blw.size (fun j hj => Nat.le_trans h.hB (hB j hj))⟩
 have e : (bs.take (k + 1)).map (fun b : Nat => Value.int .i64 (b : Int)) = (bs.take k).map (fun b : Nat => Value.int .i64 (b : Int)) ++ [.int .i64 ((bs.getD k 0 : Nat) : Int)] := by
  rw [List.take_succ_eq_append_getElem hk, List.map_append]
  simp [List.getD_eq_getElem?_getD, hk]
 rw [e]
 exact ho
theorem EvS.push7 (h : EvS w B b4 ge k k2 bs v6 v7 u) (ho : u'.ownsRow B 130 1 v' (k2 + 1) (List.replicate k2 (.slice (some ⟨ge, 0, none⟩) 257 257) ++ [.slice (some ⟨ge, 0, none⟩) 257 257])) (hg : u.grownBy u' v7.ownBlock) : EvS w B b4 ge k (k2 + 1) bs v6 v' u' := by
 have hB := fun j hj => (h.tabs.lt j hj).1
 refine ⟨World.ownsRow.kept h.syms hg (row_neC h.syms h.tabs (by decide)), ?_, h.box.row hg (own_far h.tabs h.lt4), h.tab.row hg (own_far h.tabs h.ltg), h.lt4, h.ltg, h.hB, Nat.le_trans h.hBu hg.size, h.blw.grown hg h.blw.size (fun j hj => Nat.le_trans h.hB (hB j hj))⟩
 rw [List.replicate_succ']
 exact ho
theorem EvS.rd6 (h : EvS w B b4 ge k k2 bs v6 v7 u) (hk : k = bs.length) : ∃ A c, v6 = .slice A k c ∧ Fq.RdI u A k (bs.map fun b : Nat => (b : Int)) := by
 have hl : (bs.map fun b : Nat => (b : Int)).length = k := by rw [List.length_map, hk]
 rcases h.syms.2 with ⟨rfl, h0⟩ | ⟨g, cap, cur, rfl, hb, _⟩
 ·refine ⟨none, 0, by rw [h0], hl, fun hn => absurd hn (by omega)⟩
 ·refine ⟨_, cap, rfl, hl, fun _ => ⟨_, rfl, fun j x hx => ?_⟩⟩
  refine World.ownsRow.cells h.syms (g := g) rfl j _ ?_
  rw [List.take_of_length_le (by omega)]
  rw [List.getElem?_map] at hx ⊢
  cases hb : bs[j]? with
  | none => rw [hb] at hx; cases hx
  | some y => rw [hb] at hx; injection hx with hx; rw [← hx]; rfl
def evTb (ge : Nat) : Tb := ⟨some ⟨ge, 0, none⟩, 257, 257, evT⟩
theorem evTb_C (ge : Nat) : (evTb ge).C = some ⟨ge, 0, none⟩ := by unfold evTb; with_reducible rfl
theorem evTb_m (ge : Nat) : (evTb ge).m = 257 := by unfold evTb; with_reducible rfl
theorem evTb_d (ge : Nat) : (evTb ge).d = 257 := by unfold evTb; with_reducible rfl
theorem evTb_x (ge : Nat) : (evTb ge).xs = evT := by unfold evTb; with_reducible rfl
theorem EvS.rd7 (h : EvS w B b4 ge k k2 bs v6 v7 u) : ∃ A c, v7 = .slice A k2 c ∧ RdT u A k2 (List.replicate k2 (evTb ge)) := by
 have hl : (List.replicate k2 (evTb ge)).length = k2 := List.length_replicate
 rcases h.tabs.2 with ⟨rfl, h0⟩ | ⟨g, cap, cur, rfl, hb, _⟩
 ·refine ⟨none, 0, by rw [h0], hl, fun hn => absurd hn (by omega)⟩
 ·refine ⟨_, cap, rfl, hl, fun _ => ⟨_, rfl, fun j x hx => ?_⟩⟩
  obtain ⟨hj, e⟩ := List.getElem?_eq_some_iff.1 hx
  rw [List.getElem_replicate] at e
  subst e
  rw [List.length_replicate] at hj
  refine ⟨World.ownsRow.cells h.tabs (g := g) rfl j _ (by rw [List.getElem?_replicate, if_pos hj, evTb_C, evTb_m, evTb_d]), by rw [evTb_C, evTb_m, evTb_x]; exact Fq.RdI.of_blk h.tab evT_length, by rw [evTb_m]; unfold maxLen; omega⟩
end
theorem backErr_take {l : List Bool} {fs : List (List Int)} : ∀ {d : De} (k : Nat), backErr l d fs = 0 → backErr l d (fs.take k) = 0 := by
 induction fs with
 | nil => intro d k h; simpa using h
 | cons xs r ih =>
  intro d k h
  cases k with
  | zero => rfl
  | succ k =>
   rw [List.take_succ_cons]
   cases ho : Fq.okF xs with
   | false => rw [backErr_no ho] at h; cases h
   | true =>
    by_cases ha : l.length + 32 < d.at_
    ·rw [backErr_short ho ha] at h; cases h
    ·rw [backErr_ok ho (by omega)] at h ⊢
     exact ih k h
theorem symL_take_all (l : List Bool) (fs : List (List Int)) : ∀ (d : De) (k : Nat), symL l d (fs.take k) = (symL l d fs).take k := by
 induction fs with
 | nil => intro d k; simp [symL]
 | cons xs r ih =>
  intro d k
  cases k with
  | zero => simp [symL]
  | succ k => rw [List.take_succ_cons, symL_cons, symL_cons, List.take_succ_cons, ih]
theorem RdT.take {w : World} {L : Option Addr} {n : Nat} {ts : List Tb} (h : RdT w L n ts) (k : Nat) (hk : k ≤ n) : RdT w L k (ts.take k) := by
 refine ⟨by rw [List.length_take, h.1]; omega, fun h0 => ?_⟩
 obtain ⟨ad, e, hc⟩ := h.2 (by omega)
 refine ⟨ad, e, fun j t ht => hc j t ?_⟩
 rw [List.getElem?_take] at ht
 split at ht
 ·exact ht
 ·cases ht
def LongR (e : En) (M : Nat) : Prop := 4294967296 * 2 ^ len e ≤ wid e * 2 ^ M
theorem long0 : LongR e0 0 := by unfold LongR; decide
theorem LongR.put {e : En} {q : Pr} {M n : Nat} (h : LongR e M) (hf : Fine e) (hq : okP q = true) (hn : spT q.2 ≤ (spB q - spA q) * 2 ^ n) : LongR (put1 e q) (M + (n + 1)) := put_long hf.1 hf.2.1 (symP_of hq).2.2.2 hn M h
end Go.Proofs.YtkdbhndegkldcaaGreatDoor.Cd
namespace Go.Proofs.YtkdbhndegkldcaaGreatDoor.Yr
open Go.RowKit Cd
open Lp (tab tab_getD tab_length chkL shareL msL mayB mayN mayN_at bnd bnd_all mostN moF costL costL_eq OkA share_ok moF_is mostN_bd moL)
theorem totF_acc' (zs : List Int) : Fq.totF true (Fq.acc zs) = Fq.tot zs := by
 unfold Fq.totF
 rw [Fq.acc_length, Nat.add_sub_cancel, Fq.acc_getD _ _ (Nat.le_refl _)]
 simp
theorem ms_at {l : List Int} (hc : chkL l = true) {k : Nat} (hk : k < 16) : (msL l).getD k 0 = moF (shareL l 120) k := by
 unfold msL; rw [if_pos hc]; exact tab_getD _ hk
def kindN : List Int := [6, 9, 1]
def chgN : List Int := [1, 1, 2, 3, 5, 9, 16, 30, 60, 30, 16, 9, 5, 3, 2, 1]
def smN (m : Nat) : List Int := (List.range (2 * m + 1)).map fun (j : Nat) => (m : Int) + 1 - max ((j : Int) - (m : Int)) ((m : Int) - (j : Int))
def kT : List Int := Fq.acc kindN
def cT : List Int := Fq.acc chgN
def lT : List Int := evT
def smT (m : Nat) : List Int := Fq.acc (smN m)
theorem smN_length (m : Nat) : (smN m).length = 2 * m + 1 := by simp [smN]
theorem smT_length (m : Nat) : (smT m).length = 2 * m + 2 := by unfold smT; rw [Fq.acc_length, smN_length]
theorem kT_ok : Fq.okF kT = true := by decide +kernel
theorem cT_ok : Fq.okF cT = true := by decide +kernel
theorem lT_ok : Fq.okF lT = true := evT_ok
theorem lT_length : lT.length = 257 := evT_length
theorem kT_length : kT.length = 4 := by decide +kernel
theorem cT_length : cT.length = 17 := by decide +kernel
theorem kT_tot : spT kT = 16 := by decide +kernel
theorem cT_tot : spT cT = 193 := by decide +kernel
theorem tot_rep (n : Nat) : Fq.tot (List.replicate n 1) = (n : Int) := by
 induction n with
 | zero => rfl
 | succ n ih => rw [List.replicate_succ, Fq.tot_cons, ih]; omega
theorem lT_tot : spT lT = 256 := by unfold spT lT evT; rw [totF_acc', tot_rep]; rfl
theorem smN_sum : ∀ k, k < 8 → Fq.tot (smN (mostN k)) = ((2 ^ (2 * k) : Nat) : Int) := by decide +kernel
theorem smN_in (m : Nat) : ∀ x ∈ smN m, 1 ≤ x ∧ x ≤ (m : Int) + 1 := fun x hx => by
 unfold smN at hx
 rw [List.mem_map] at hx
 obtain ⟨j, hj, rfl⟩ := hx
 have := List.mem_range.1 hj
 omega
theorem pow_le14 {k : Nat} (h : k < 8) : 2 ^ (2 * k) ≤ 16384 := Nat.pow_le_pow_right (n := 2) (i := 2 * k) (j := 14) (by omega) (by omega)
theorem smN_ok {k : Nat} (hk : k < 8) : Fq.okN (smN (mostN k)) = true := by
 have hm := mostN_bd k (by omega)
 have h := smN_sum k hk
 have hp := pow_le14 hk
 unfold Fq.okN
 refine decide_eq_true ⟨by rw [smN_length]; omega, by rw [smN_length]; omega, fun x hx => ?_, by rw [h]; omega⟩
 have := smN_in _ x hx
 omega
theorem smT_ok {k : Nat} (hk : k < 8) : Fq.okF (smT (mostN k)) = true := Fq.okF_acc (smN_ok hk)
theorem smT_tot {k : Nat} (hk : k < 8) : spT (smT (mostN k)) = 2 ^ (2 * k) := by
 unfold spT smT
 rw [totF_acc', smN_sum k hk]
 exact Int.toNat_natCast _
def lvP (K : Int) (l p : List Int) (b : Nat) : Pr := if K = 1 then (l.getD b 0 - p.getD b 0 + 8, cT) else (l.getD b 0, lT)
def headP (K : Int) (l p : List Int) : List Pr := (K, kT) :: (List.range 6).map (lvP K l p)
def numsP (q ms : List Int) : Nat → List Pr
 | 0 => []
 | k + 1 => numsP q ms k ++ if 0 < ms.getD k 0 then [(q.getD k 0 + ms.getD k 0, smT (ms.getD k 0).toNat)] else []
theorem numsP_succ (q ms : List Int) (k : Nat) : numsP q ms (k + 1) = numsP q ms k ++ if 0 < ms.getD k 0 then [(q.getD k 0 + ms.getD k 0, smT (ms.getD k 0).toNat)] else [] := rfl
def symsP (K : Int) (l q p : List Int) : List Pr := headP K l p ++ if K = 2 then [] else numsP q (msL l) 16
def nearN (l p : List Int) : Nat → Bool
 | 0 => true
 | k + 1 => nearN l p k && (decide (p.getD k 0 - 8 ≤ l.getD k 0) && decide (l.getD k 0 ≤ p.getD k 0 + 7))
theorem nearN_succ (l p : List Int) (k : Nat) : nearN l p (k + 1) = (nearN l p k && (decide (p.getD k 0 - 8 ≤ l.getD k 0) && decide (l.getD k 0 ≤ p.getD k 0 + 7))) := rfl
theorem nearN_at {l p : List Int} : ∀ n k, k < n → nearN l p n = true → p.getD k 0 - 8 ≤ l.getD k 0 ∧ l.getD k 0 ≤ p.getD k 0 + 7
 | n + 1, k, hk, h => by
  rw [nearN_succ, Bool.and_eq_true, Bool.and_eq_true, decide_eq_true_eq, decide_eq_true_eq] at h
  by_cases e : k = n
  ·subst e; exact h.2
  ·exact nearN_at n k (by omega) h.1
def nearB (l p : List Int) : Bool := chkL l && (chkL p && nearN l p 6)
def chkB (K : Int) (l q p : List Int) : Bool :=
 (decide (0 ≤ K) && decide (K ≤ 2)) && (chkL l && (chkL p && ((decide (K ≠ 1) || nearN l p 6) && ((decide (K ≠ 2) || decide (q = Lp.zr 16)) && mayB q l))))
structure Fr (K : Int) (l q p : List Int) : Prop where
 kind : 0 ≤ K ∧ K ≤ 2
 lev : chkL l = true
 ahead : chkL p = true
 near : K = 1 → nearN l p 6 = true
 sid : K = 2 → q = Lp.zr 16
 may : mayB q l = true
theorem chkB_iff (K : Int) (l q p : List Int) : chkB K l q p = true ↔ Fr K l q p := by
 unfold chkB
 simp only [Bool.and_eq_true, Bool.or_eq_true, decide_eq_true_eq]
 constructor
 ·rintro ⟨h1, h2, h3, h4, h5, h6⟩
  exact ⟨h1, h2, h3, fun e => h4.resolve_left fun k => k e, fun e => h5.resolve_left fun k => k e, h6⟩
 ·rintro ⟨h1, h2, h3, h4, h5, h6⟩
  refine ⟨h1, h2, h3, ?_, ?_, h6⟩
  ·by_cases e : K = 1
   ·exact .inr (h4 e)
   ·exact .inl e
  ·by_cases e : K = 2
   ·exact .inr (h5 e)
   ·exact .inl e
open Lp (tab tab_getD tab_length zr_getD chkL shareL msL mayB mayN mayN_at bnd bnd_all mostN moF costL costL_eq OkA share_ok moF_is mostN_bd moL inR_bd)
theorem okP_of {xs : List Int} {s : Int} (ho : Fq.okF xs = true) (h0 : 0 ≤ s) (h1 : s < (xs.length : Int) - 1) : okP (s, xs) = true := by
 unfold okP Fq.symB
 rw [ho, Bool.true_and]
 exact decide_eq_true ⟨h0, h1⟩
def wtT (T : Nat) : Nat := if T = 193 then 8 else T.log2
def wSum : List Pr → Nat
 | [] => 0
 | q :: r => (wtT (spT q.2) + 1) + wSum r
theorem wSum_append (a b : List Pr) : wSum (a ++ b) = wSum a + wSum b := by
 induction a with
 | nil => simp [wSum]
 | cons q r ih => rw [List.cons_append]; simp only [wSum]; rw [ih]; omega
def Good (q : Pr) : Prop := okP q = true ∧ spT q.2 ≤ 2 ^ wtT (spT q.2)
theorem puts_long {ps : List Pr} : ∀ {e : En} {M : Nat}, Fine e → LongR e M → (∀ q ∈ ps, Good q) → M + wSum ps ≤ 60000 → allErr e ps = 0 ∧ Fine (stE e ps) ∧ LongR (stE e ps) (M + wSum ps) := by
 induction ps with
 | nil => intro e M hf hl _ _; exact ⟨rfl, hf, hl⟩
 | cons q r ih =>
  intro e M hf hl hg hM
  obtain ⟨g1, g2⟩ := hg q (by simp)
  have hs := (symP_of g1).2.2.2
  have hl2 := hl.put hf g1 (n := wtT (spT q.2)) (Nat.le_trans g2 (Nat.le_mul_of_pos_left _ (by have := hs.1; omega)))
  obtain ⟨a, b, _⟩ := put_facts hf.1 hf.2.1 hs
  have hlen := long_end a b hl2
  simp only [wSum] at hM ⊢
  unfold len at hlen
  have hc : putC (put1 e q) = 0 := by
   unfold putC
   rw [if_pos]
   unfold put1
   constructor <;> omega
  rw [allErr_ok g1 hc, stE_cons]
  obtain ⟨r1, r2, r3⟩ := ih (hf.put g1 hc) hl2 (fun x hx => hg x (by simp [hx])) (by omega)
  refine ⟨r1, r2, ?_⟩
  rw [show M + (wtT (spT q.2) + 1 + wSum r) = M + (wtT (spT q.2) + 1) + wSum r by omega]
  exact r3
theorem good_k {K : Int} (h : 0 ≤ K ∧ K ≤ 2) : Good (K, kT) := ⟨okP_of kT_ok h.1 (by rw [kT_length]; omega), by rw [kT_tot]; decide⟩
theorem good_lv {K : Int} {l q p : List Int} (h : Fr K l q p) {b : Nat} (hb : b < 6) : Good (lvP K l p b) ∧ wtT (spT (lvP K l p b).2) = 8 := by
 unfold lvP
 by_cases e : K = 1
 ·rw [if_pos e]
  have hn := nearN_at 6 b hb (h.near e)
  have w : wtT (spT cT) = 8 := by rw [cT_tot]; rfl
  exact ⟨⟨okP_of cT_ok (by omega) (by rw [cT_length]; omega), by rw [w, cT_tot]; decide⟩, w⟩
 ·rw [if_neg e]
  have hl := inR_bd h.lev (by omega) (by omega) b
  have w : wtT (spT lT) = 8 := by rw [lT_tot]; decide
  exact ⟨⟨okP_of lT_ok (by omega) (by rw [lT_length]; omega), by rw [w, lT_tot]; decide⟩, w⟩
theorem lv_all {K : Int} {l q p : List Int} (h : Fr K l q p) : ∀ k, k ≤ 6 → (∀ x ∈ (List.range k).map (lvP K l p), Good x) ∧ wSum ((List.range k).map (lvP K l p)) = 9 * k
 | 0, _ => ⟨by simp, rfl⟩
 | k + 1, hk => by
  obtain ⟨i1, i2⟩ := lv_all h k (by omega)
  obtain ⟨g1, g2⟩ := good_lv h (b := k) (by omega)
  rw [List.range_succ, List.map_append, List.map_cons, List.map_nil]
  refine ⟨fun x hx => ?_, ?_⟩
  ·rcases List.mem_append.1 hx with hx | hx
   ·exact i1 x hx
   ·rw [List.mem_singleton] at hx; subst hx; exact g1
  ·rw [wSum_append, i2]; simp only [wSum]; rw [g2]; omega
theorem head_all {K : Int} {l q p : List Int} (h : Fr K l q p) : (∀ x ∈ headP K l p, Good x) ∧ wSum (headP K l p) = 59 := by
 obtain ⟨i1, i2⟩ := lv_all h 6 (by omega)
 unfold headP
 refine ⟨fun x hx => ?_, ?_⟩
 ·rcases List.mem_cons.1 hx with hx | hx
  ·subst hx; exact good_k h.kind
  ·exact i1 x hx
 ·simp only [wSum]; rw [i2, kT_tot]; decide
theorem good_num {k : Nat} {x : Int} (h1 : 1 ≤ k) (hk : k ≤ 7) (hx : -(mostN k : Int) ≤ x ∧ x ≤ (mostN k : Int)) : Good (x + (mostN k : Int), smT (mostN k)) ∧ wtT (spT (smT (mostN k))) = 2 * k := by
 have w : wtT (spT (smT (mostN k))) = 2 * k := by
  rw [smT_tot (by omega)]
  exact (show ∀ k, k < 8 → wtT (2 ^ (2 * k)) = 2 * k by decide +kernel) k (by omega)
 refine ⟨⟨okP_of (smT_ok (by omega)) (by omega) (by rw [smT_length]; omega), ?_⟩, w⟩
 show spT (smT (mostN k)) ≤ 2 ^ wtT (spT (smT (mostN k)))
 rw [w, smT_tot (by omega)]
 exact Nat.le_refl _
theorem ms_cases {l : List Int} (hc : chkL l = true) {n : Nat} (hn : n < 16) : ∃ k : Nat, k ≤ 7 ∧ (shareL l 120).getD (bnd n) 0 = (k : Int) ∧ ((k = 0 ∧ (msL l).getD n 0 = 0) ∨ (1 ≤ k ∧ (msL l).getD n 0 = (mostN k : Int))) := by
 have ha := (share_ok l (B := 120) (by decide)).1.2 (bnd n) (bnd_all n hn).1
 refine ⟨((shareL l 120).getD (bnd n) 0).toNat, by omega, by omega, ?_⟩
 rw [ms_at hc hn, moF_is]
 by_cases h0 : 0 < (shareL l 120).getD (bnd n) 0
 ·rw [if_pos h0]; exact .inr ⟨by omega, rfl⟩
 ·rw [if_neg h0]; exact .inl ⟨by omega, rfl⟩
theorem mostN_pos' {k : Nat} (h : 1 ≤ k) : 0 < (mostN k : Int) := by
 have := Go.Proofs.YtkdbhndegkldcaaGreatDoor.Lp.mostN_pos h; omega
theorem nums_all {l q : List Int} (hc : chkL l = true) (hm : mayN q (msL l) 16 = true) : ∀ k, k ≤ 16 → (∀ x ∈ numsP q (msL l) k, Good x) ∧ ((wSum (numsP q (msL l) k) : Nat) : Int) ≤ Lp.sumN (fun n => 2 * (shareL l 120).getD (bnd n) 0 + 1) k
 | 0, _ => ⟨by simp [numsP], by simp [numsP, wSum, Lp.sumN]⟩
 | k + 1, hk => by
  obtain ⟨i1, i2⟩ := nums_all hc hm k (by omega)
  obtain ⟨z, z7, za, zm⟩ := ms_cases hc (n := k) (by omega)
  have hq := mayN_at 16 k (by omega) hm
  rw [numsP_succ, Lp.sumN_succ, za]
  rcases zm with ⟨z0, zm⟩ | ⟨z1, zm⟩
  ·rw [zm, if_neg (by omega), List.append_nil]
   exact ⟨i1, by omega⟩
  ·rw [zm] at hq ⊢
   have hp := mostN_pos' z1
   obtain ⟨g1, g2⟩ := good_num (x := q.getD k 0) z1 z7 hq
   rw [if_pos hp, Int.toNat_natCast]
   refine ⟨fun x hx => ?_, ?_⟩
   ·rcases List.mem_append.1 hx with hx | hx
    ·exact i1 x hx
    ·rw [List.mem_singleton] at hx; subst hx; exact g1
   ·rw [wSum_append]; simp only [wSum]; rw [g2]; omega
theorem sum_cost (a : List Int) : Lp.sumN (fun n => 2 * a.getD (bnd n) 0 + 1) 16 = 2 * costL a + 16 := by
 rw [costL_eq]
 simp only [Lp.sumN, show bnd 0 = 0 from rfl, show bnd 1 = 1 from rfl, show bnd 2 = 2 from rfl, show bnd 3 = 2 from rfl, show bnd 4 = 3 from rfl, show bnd 5 = 3 from rfl, show bnd 6 = 4 from rfl, show bnd 7 = 4 from rfl, show bnd 8 = 4 from rfl, show bnd 9 = 4 from rfl, show bnd 10 = 5 from rfl, show bnd 11 = 5 from rfl, show bnd 12 = 5 from rfl, show bnd 13 = 5 from rfl, show bnd 14 = 5 from rfl, show bnd 15 = 5 from rfl]
 omega
theorem fr_bits {K : Int} {l q p : List Int} (h : Fr K l q p) : allErr e0 (symsP K l q p) = 0 ∧ (endBits (stE e0 (symsP K l q p))).length ≤ 317 ∧ (∀ x ∈ symsP K l q p, Good x) := by
 obtain ⟨a1, a2⟩ := head_all h
 have hm := h.may
 unfold mayB at hm
 rw [Bool.and_eq_true] at hm
 obtain ⟨b1, b2⟩ := nums_all h.lev hm.2 16 (by omega)
 rw [sum_cost] at b2
 have hcost := (share_ok l (B := 120) (by decide)).2
 have key : (∀ x ∈ symsP K l q p, Good x) ∧ wSum (symsP K l q p) ≤ 315 := by
  unfold symsP
  by_cases e : K = 2
  ·rw [if_pos e, List.append_nil]; exact ⟨a1, by omega⟩
  ·rw [if_neg e]
   refine ⟨fun x hx => ?_, by rw [wSum_append]; omega⟩
   rcases List.mem_append.1 hx with hx | hx
   ·exact a1 x hx
   ·exact b1 x hx
 obtain ⟨r1, r2, r3⟩ := puts_long fine0 long0 key.1 (by omega)
 refine ⟨r1, ?_, key.1⟩
 have := long_end r2.1 r2.2.1 r3
 rw [endBits_length]
 omega
open Lp (tab tab_getD tab_get tab_length tab_congr tab_self zr_getD zr_length chkL shareL msL mayB mayN mayN_at bnd bnd_all mostN msL_length inR_bd)
def tabK (K : Int) : List Int := if K = 1 then cT else lT
def hdT (K : Int) : List (List Int) := kT :: List.replicate 6 (tabK K)
def numT (ms : List Int) : Nat → List (List Int)
 | 0 => []
 | k + 1 => numT ms k ++ if 0 < ms.getD k 0 then [smT (ms.getD k 0).toNat] else []
theorem numT_succ (ms : List Int) (k : Nat) : numT ms (k + 1) = numT ms k ++ if 0 < ms.getD k 0 then [smT (ms.getD k 0).toNat] else [] := rfl
theorem numsP_snd (q ms : List Int) : ∀ k, (numsP q ms k).map (·.2) = numT ms k
 | 0 => rfl
 | k + 1 => by
  rw [numsP_succ, numT_succ, List.map_append, numsP_snd q ms k]
  congr 1
  split <;> rfl
theorem lvP_snd (K : Int) (l p : List Int) (b : Nat) : (lvP K l p b).2 = tabK K := by
 unfold lvP tabK; split <;> rfl
theorem headP_snd (K : Int) (l p : List Int) : (headP K l p).map (·.2) = hdT K := by
 unfold headP hdT
 rw [List.map_cons, List.map_map]
 congr 1
 refine List.eq_replicate_iff.2 ⟨by simp, fun x hx => ?_⟩
 rw [List.mem_map] at hx
 obtain ⟨b, -, rfl⟩ := hx
 exact lvP_snd K l p b
def plc (ms : List Int) : Nat → Nat
 | 0 => 0
 | k + 1 => plc ms k + if 0 < ms.getD k 0 then 1 else 0
theorem plc_succ (ms : List Int) (k : Nat) : plc ms (k + 1) = plc ms k + if 0 < ms.getD k 0 then 1 else 0 := rfl
theorem numT_length (ms : List Int) : ∀ k, (numT ms k).length = plc ms k
 | 0 => rfl
 | k + 1 => by
  rw [numT_succ, List.length_append, numT_length ms k, plc_succ]
  congr 1
  by_cases h : 0 < ms.getD k 0
  ·rw [if_pos h, if_pos h]; rfl
  ·rw [if_neg h, if_neg h]; rfl
theorem plc_mono (ms : List Int) : ∀ {j k : Nat}, j ≤ k → plc ms j ≤ plc ms k
 | j, 0, h => by rw [Nat.le_zero.1 h]; exact Nat.le_refl _
 | j, k + 1, h => by
  by_cases e : j = k + 1
  ·rw [e]; exact Nat.le_refl _
  ·have := plc_mono ms (j := j) (k := k) (by omega)
   rw [plc_succ]
   exact Nat.le_trans this (Nat.le_add_right _ _)
def lvG (K : Int) (ss p : List Int) : List Int := tab 6 fun b => if K = 1 then p.getD b 0 + ss.getD (b + 1) 0 - 8 else ss.getD (b + 1) 0
def nmF (ss ms : List Int) (n : Nat) : Int := if 0 < ms.getD n 0 then ss.getD (7 + plc ms n) 0 - ms.getD n 0 else 0
def kindR (inp : List Bool) : Int := (nxK (d0 inp) kT : Int)
def lvR (inp : List Bool) (p : List Int) : List Int := lvG (kindR inp) (symL inp (d0 inp) (hdT (kindR inp))) p
def gsR (inp : List Bool) (p : List Int) : Option (Int × List Int × List Int) :=
 if backErr inp (d0 inp) (hdT (kindR inp)) = 0 then
  if kindR inp = 2 then some (kindR inp, lvR inp p, Lp.zr 16)
  else if backErr inp (d0 inp) (hdT (kindR inp) ++ numT (msL (lvR inp p)) 16) = 0 then
   some (kindR inp, lvR inp p, tab 16 (nmF (symL inp (d0 inp) (hdT (kindR inp) ++ numT (msL (lvR inp p)) 16)) (msL (lvR inp p))))
  else none
 else none
theorem backErr_pre {l : List Bool} {d : De} {a b : List (List Int)} (h : backErr l d (a ++ b) = 0) : backErr l d a = 0 := by
 have := backErr_take a.length h
 rwa [List.take_left] at this
theorem symL_pre (l : List Bool) (d : De) (a b : List (List Int)) : symL l d a = (symL l d (a ++ b)).take a.length := by
 have := symL_take_all l (a ++ b) d a.length
 rwa [List.take_left] at this
theorem symL_head (l : List Bool) (d : De) (xs : List Int) (r : List (List Int)) : (symL l d (xs :: r)).getD 0 0 = (nxK d xs : Int) := by rw [symL_cons]; rfl
theorem nums_at (q ms : List Int) : ∀ k n, n < k → 0 < ms.getD n 0 → ((numsP q ms k).map (·.1)).getD (plc ms n) 0 = q.getD n 0 + ms.getD n 0
 | k + 1, n, hn, h0 => by
  have hl : ((numsP q ms k).map (·.1)).length = plc ms k := by rw [List.length_map, ← numT_length ms k, ← numsP_snd q ms k, List.length_map]
  rw [numsP_succ, List.map_append]
  by_cases e : n = k
  ·subst e
   rw [if_pos h0]
   simp only [List.getD_eq_getElem?_getD]
   rw [List.getElem?_append_right (by omega), hl, Nat.sub_self]
   rfl
  ·have ih := nums_at q ms k n (by omega) h0
   have hlt : plc ms n < plc ms k := by
    have := plc_mono ms (j := n + 1) (k := k) (by omega)
    have h1 : plc ms (n + 1) = plc ms n + 1 := by rw [plc_succ, if_pos h0]
    omega
   simp only [List.getD_eq_getElem?_getD] at ih ⊢
   rw [List.getElem?_append_left (by omega)]
   exact ih
theorem gs_back {K : Int} {l q p : List Int} (h : Fr K l q p) (ll : l.length = 6) (lq : q.length = 16) (hms : ∀ n, n < 16 → (msL l).getD n 0 ≤ 0 → q.getD n 0 = 0) (tail : List Bool) :
  gsR (endBits (stE e0 (symsP K l q p)) ++ tail) p = some (K, l, q) := by
 obtain ⟨f1, -, -⟩ := fr_bits h
 obtain ⟨b1, b2⟩ := all_back f1 tail
 generalize endBits (stE e0 (symsP K l q p)) ++ tail = inp at b1 b2
 have e1 : ∃ R, symsP K l q p = headP K l p ++ R ∧ R = if K = 2 then [] else numsP q (msL l) 16 := ⟨_, rfl, rfl⟩
 obtain ⟨R, e1, eR⟩ := e1
 rw [e1, List.map_append, headP_snd] at b1 b2
 rw [List.map_append] at b2
 have hk : kindR inp = K := by
  have h1 : (symL inp (d0 inp) (hdT K ++ R.map (·.2))).getD 0 0 = ((headP K l p).map (·.1) ++ R.map (·.1)).getD 0 0 := by rw [b2]
  unfold hdT at h1
  rw [List.cons_append, symL_head] at h1
  unfold kindR
  rw [h1]
  rfl
 have hb := backErr_pre b1
 have hs : symL inp (d0 inp) (hdT K) = (headP K l p).map (·.1) := by
  have h1 := symL_pre inp (d0 inp) (hdT K) (R.map (·.2))
  rw [b2] at h1
  rw [h1]
  have h2 : (hdT K).length = ((headP K l p).map (·.1)).length := by rw [← headP_snd K l p, List.length_map, List.length_map]
  rw [h2, List.take_left]
 have hl : lvR inp p = l := by
  unfold lvR lvG
  rw [hk, hs]
  refine (tab_congr (g := fun b => l.getD b 0) fun b hb6 => ?_).trans (tab_self ll)
  have h1 : ((headP K l p).map (·.1)).getD (b + 1) 0 = (lvP K l p b).1 := by
   unfold headP
   rw [List.map_cons, List.map_map]
   simp only [List.getD_eq_getElem?_getD, List.getElem?_cons_succ, List.getElem?_map, List.getElem?_range hb6]
   rfl
  rw [h1]
  unfold lvP
  by_cases e : K = 1
  ·rw [if_pos e, if_pos e]; show p.getD b 0 + (l.getD b 0 - p.getD b 0 + 8) - 8 = l.getD b 0; omega
  ·rw [if_neg e, if_neg e]
 unfold gsR
 rw [hk, hl, if_pos hb]
 by_cases e : K = 2
 ·rw [if_pos e, ← h.sid e]
 ·rw [if_neg e]
  rw [if_neg e] at eR
  rw [eR, numsP_snd] at b1
  rw [eR, numsP_snd] at b2
  have hq : tab 16 (nmF ((headP K l p).map (·.1) ++ (numsP q (msL l) 16).map (·.1)) (msL l)) = q := by
   refine (tab_congr (g := fun n => q.getD n 0) fun n hn => ?_).trans (tab_self lq)
   unfold nmF
   by_cases h0 : 0 < (msL l).getD n 0
   ·rw [if_pos h0]
    have h7 : ((headP K l p).map (·.1)).length = 7 := by simp [headP]
    have h2 := nums_at q (msL l) 16 n hn h0
    simp only [List.getD_eq_getElem?_getD] at h2 ⊢
    rw [List.getElem?_append_right (by omega), h7, Nat.add_sub_cancel_left, h2]
    omega
   ·rw [if_neg h0]; exact (hms n hn (by omega)).symm
  rw [if_pos b1, b2, hq]
theorem bits_tail (l : List Bool) : ∃ tail, bitsIn (pack l) (8 * (pack l).length) = l ++ tail := by
 obtain ⟨m, hm⟩ : ∃ m, (l.length + 7) / 8 = m := ⟨_, rfl⟩
 have h1 : l.length ≤ 8 * m := by omega
 refine ⟨List.replicate (8 * m - l.length) false, ?_⟩
 have hlen : (l ++ List.replicate (8 * m - l.length) false).length = 8 * m := by rw [List.length_append, List.length_replicate]; omega
 have hp : pack l = pack (l ++ List.replicate (8 * m - l.length) false) := by
  unfold pack
  rw [hlen, hm, show (8 * m + 7) / 8 = m by omega]
  refine packF_congr fun i hi => ?_
  unfold bitF
  simp only [List.getD_eq_getElem?_getD]
  by_cases hl : i < l.length
  ·rw [List.getElem?_append_left hl]
  ·rw [List.getElem?_append_right (by omega), List.getElem?_eq_none (by omega)]
   rw [List.getElem?_replicate]
   split <;> rfl
 have h2 := bitsIn_pack (l ++ List.replicate (8 * m - l.length) false)
 rw [hlen, ← hp] at h2
 rw [pack_length, hm]
 exact h2
def wrB (K : Int) (l q p : List Int) : List Nat := pack (endBits (stE e0 (symsP K l q p)))
def inB (bs : List Nat) : List Bool := bitsIn bs (8 * bs.length)
def rdR (bs : List Nat) (p : List Int) : Option (Int × List Int × List Int) :=
 if bs.length ≤ 40 then
  match gsR (inB bs) p with
  | some (K, l, q) => if chkB K l q p = true ∧ wrB K l q p = bs then some (K, l, q) else none
  | none => none
 else none
theorem may_zero {q l : List Int} (h : mayB q l = true) {n : Nat} (hn : n < 16) (h0 : (msL l).getD n 0 ≤ 0) : q.getD n 0 = 0 := by
 unfold mayB at h
 rw [Bool.and_eq_true] at h
 have h1 := mayN_at 16 n hn h.2
 have h2 := Go.Proofs.YtkdbhndegkldcaaGreatDoor.Lp.msL_bd l hn
 omega
theorem wrB_len {K : Int} {l q p : List Int} (h : Fr K l q p) : (wrB K l q p).length ≤ 40 ∧ 0 < (wrB K l q p).length := by
 obtain ⟨-, f2, -⟩ := fr_bits h
 unfold wrB
 rw [pack_length]
 have := endBits_length (stE e0 (symsP K l q p))
 omega
theorem rd_back {K : Int} {l q p : List Int} (h : Fr K l q p) (ll : l.length = 6) (lq : q.length = 16) : rdR (wrB K l q p) p = some (K, l, q) := by
 obtain ⟨tail, ht⟩ := bits_tail (endBits (stE e0 (symsP K l q p)))
 have hg := gs_back h ll lq (fun n hn h0 => may_zero h.may hn h0) tail
 have hg2 : gsR (inB (wrB K l q p)) p = some (K, l, q) := by unfold inB wrB; rw [ht]; exact hg
 unfold rdR
 rw [if_pos (wrB_len h).1, hg2]
 exact if_pos ⟨(chkB_iff K l q p).2 h, rfl⟩
theorem rd_one {bs : List Nat} {p : List Int} {K : Int} {l q : List Int} (h : rdR bs p = some (K, l, q)) : chkB K l q p = true ∧ wrB K l q p = bs ∧ bs.length ≤ 40 := by
 unfold rdR at h
 split at h
 ·rename_i hl
  split at h
  ·rename_i K' l' q' e
   split at h
   ·rename_i hc
    injection h with h
    injection h with h1 h2
    injection h2 with h2 h3
    subst h1 h2 h3
    exact ⟨hc.1, hc.2, hl⟩
   ·cases h
  ·cases h
 ·cases h
theorem gsR_len {inp : List Bool} {p : List Int} {K : Int} {l q : List Int} (h : gsR inp p = some (K, l, q)) : l.length = 6 ∧ q.length = 16 := by
 unfold gsR at h
 split at h
 ·split at h
  ·injection h with h
   injection h with h1 h2
   injection h2 with h2 h3
   subst h2 h3
   exact ⟨tab_length _ _, zr_length _⟩
  ·split at h
   ·injection h with h
    injection h with h1 h2
    injection h2 with h2 h3
    subst h2 h3
    exact ⟨tab_length _ _, tab_length _ _⟩
   ·cases h
 ·cases h
open Lp (tab tab_getD chkL msL mayB)
theorem gsR_parts {inp : List Bool} {p : List Int} {K : Int} {l q : List Int} (h : gsR inp p = some (K, l, q)) : K = kindR inp ∧ l = lvR inp p := by
 unfold gsR at h
 split at h
 ·split at h
  ·injection h with h
   injection h with h1 h2
   injection h2 with h2 h3
   exact ⟨h1.symm, h2.symm⟩
  ·split at h
   ·injection h with h
    injection h with h1 h2
    injection h2 with h2 h3
    exact ⟨h1.symm, h2.symm⟩
   ·cases h
 ·cases h
theorem rdR_gs {bs : List Nat} {p : List Int} {K : Int} {l q : List Int} (h : rdR bs p = some (K, l, q)) : gsR (inB bs) p = some (K, l, q) := by
 unfold rdR at h
 split at h
 ·split at h
  ·rename_i K' l' q' e
   split at h
   ·rw [e]; exact h
   ·cases h
  ·cases h
 ·cases h
theorem kind_back {K : Int} {l q p : List Int} (h : Fr K l q p) (ll : l.length = 6) (lq : q.length = 16) : kindR (inB (wrB K l q p)) = K := (gsR_parts (rdR_gs (rd_back h ll lq))).1.symm
end Go.Proofs.YtkdbhndegkldcaaGreatDoor.Yr
namespace Go.Proofs.YtkdbhndegkldcaaGreatDoor.Lp
open Go.RowKit Fx Fq Tb
open Yr (rdR rd_one Fr chkB chkB_iff gsR_len rdR_gs)
structure Sy where
 t : List Int
 l : List Int
 live : Bool
 hush : Bool
 seed : Int
def Sy.z : Sy := ⟨zr 16, zr 6, false, false, 0⟩
def Sy.one : Sy := ⟨zr 16, zr 6, false, false, 1⟩
structure SyW (s : Sy) : Prop where
 lt : s.t.length = 16
 ll : s.l.length = 6
 sd : 0 ≤ s.seed ∧ s.seed < 4294967296
def okSy (s : Sy) : Bool := okW s.t && (chkL s.l && !(s.live && s.hush))
theorem okSy_iff {s : Sy} : okSy s = true ↔ okW s.t = true ∧ chkL s.l = true ∧ ¬ (s.live = true ∧ s.hush = true) := by
 unfold okSy
 rw [Bool.and_eq_true, Bool.and_eq_true]
 cases s.live <;> cases s.hush <;> simp
def sndS (s : Sy) (x : List Int) : Sy × List Int := ({ s with t := leftL (invL x) }, lapL s.t (invL x))
def hisS (s : Sy) : Sy × List Int := sndS { s with seed := seedN s.seed 16 } (noiseL s.seed s.l)
abbrev Ds := Except Int (Sy × List Int)
def stepS (s : Sy) (bs : List Nat) : Ds :=
 if okSy s = true then
  match rdR bs s.l with
  | none => .error 21
  | some (K, l, q) => if K = 1 ∧ s.live = false then .error 40 else if K = 2 then .ok (hisS { s with l := l, live := false, hush := true }) else .ok (sndS { s with l := l, live := true, hush := false } (greatL q l))
 else .error 1
def restS (s : Sy) : Ds := if okSy s = true then (if s.hush = true then .ok (hisS s) else .ok (sndS { s with live := false } (zr 16))) else .error 1
def nextD (s : Sy) (bs : List Nat) : Ds := if bs = [] then restS s else stepS s bs
theorem clamp_bd (v : Int) {M : Int} (h : 0 ≤ M) : -M ≤ clampI v M ∧ clampI v M ≤ M := by
 have e : clampI v M = min (max v (-M)) M := rfl
 omega
theorem okX_great (q l : List Int) : okX (greatL q l) = true := (inR_iff (tab_length 16 _)).2 fun k hk => by
 rw [tab_getD _ hk]
 exact clamp_bd _ (by omega)
theorem okX_noise (t : Int) (l : List Int) : okX (noiseL t l) = true := (inR_iff (tab_length 16 _)).2 fun k hk => by
 rw [tab_getD _ hk]
 unfold noiseF
 split
 ·exact clamp_bd _ (by omega)
 ·omega
theorem okX_zr : okX (zr 16) = true := (inR_iff (zr_length 16)).2 fun k _ => by rw [zr_getD]; omega
theorem okW_left {x : List Int} (hx : okX x = true) : okW (leftL (invL x)) = true := (inR_iff (tab_length 16 _)).2 fun k hk => by
 have := (inR_iff (tab_length 32 _)).1 (okW_inv hx) (16 + k) (by omega)
 rw [tab_getD _ hk]
 exact this
theorem sat16_bd (v : Int) : -32768 ≤ satI v 16 ∧ satI v 16 ≤ 32767 := by
 unfold satI
 rw [show bwN 16 = 15 by decide, show ((2 ^ 15 : Nat) : Int) = 32768 by decide]
 unfold holdI
 omega
theorem okP_lap (t v : List Int) : okP (lapL t v) = true := (inR_iff (tab_length 16 _)).2 fun k hk => by
 rw [tab_getD _ hk]
 unfold lapN
 exact sat16_bd _
structure SndOk (s : Sy) (r : Sy × List Int) : Prop where
 okt : okW r.1.t = true
 okp : okP r.2 = true
 lt : r.1.t.length = 16
 lp : r.2.length = 16
 l : r.1.l = s.l
 live : r.1.live = s.live
 hush : r.1.hush = s.hush
theorem snd_ok (s : Sy) {x : List Int} (hx : okX x = true) : SndOk s (sndS s x) :=
 ⟨okW_left hx, okP_lap _ _, tab_length _ _, tab_length _ _, rfl, rfl, rfl⟩
theorem his_ok (s : Sy) : SndOk s (hisS s) :=
 have h := snd_ok { s with seed := seedN s.seed 16 } (okX_noise s.seed s.l)
 ⟨h.okt, h.okp, h.lt, h.lp, rfl, rfl, rfl⟩
theorem SndOk.may {s : Sy} {r : Sy × List Int} (h : SndOk s r) (hc : chkL s.l = true) (hn : ¬ (s.live = true ∧ s.hush = true)) : okSy r.1 = true := by
 rw [okSy_iff, h.l, h.live, h.hush]
 exact ⟨h.okt, hc, hn⟩
theorem step_ok {s s' : Sy} {p : List Int} {bs : List Nat} (hs : SyW s) (h : stepS s bs = .ok (s', p)) : okSy s = true ∧ okSy s' = true ∧ okP p = true ∧ SyW s' ∧ p.length = 16 ∧ s'.live ≠ s'.hush := by
 unfold stepS at h
 by_cases hc : okSy s = true
 ·rw [if_pos hc] at h
  cases hr : rdR bs s.l with
  | none => rw [hr] at h; cases h
  | some x =>
   obtain ⟨K, l, q⟩ := x
   rw [hr] at h
   dsimp only at h
   obtain ⟨c1, -, -⟩ := rd_one hr
   have hl := ((chkB_iff _ _ _ _).1 c1).lev
   obtain ⟨l6, -⟩ := gsR_len (rdR_gs hr)
   split at h
   ·cases h
   ·split at h
    ·injection h with h
     have g := his_ok { s with l := l, live := false, hush := true }
     rw [h] at g
     have hsd : s'.seed = seedN s.seed 16 := (congrArg (fun r : Sy × List Int => r.1.seed) h).symm
     exact ⟨hc, g.may hl (by simp), g.okp, ⟨g.lt, by rw [g.l]; exact l6, by rw [hsd]; exact seedN_bd hs.sd 16⟩, g.lp, by rw [g.live, g.hush]; simp⟩
    ·injection h with h
     have g := snd_ok { s with l := l, live := true, hush := false } (okX_great q l)
     rw [h] at g
     have hsd : s'.seed = s.seed := (congrArg (fun r : Sy × List Int => r.1.seed) h).symm
     exact ⟨hc, g.may hl (by simp), g.okp, ⟨g.lt, by rw [g.l]; exact l6, by rw [hsd]; exact hs.sd⟩, g.lp, by rw [g.live, g.hush]; simp⟩
 ·rw [if_neg hc] at h
  cases h
theorem rest_ok {s s' : Sy} {p : List Int} (hs : SyW s) (h : restS s = .ok (s', p)) : okSy s = true ∧ okSy s' = true ∧ okP p = true ∧ SyW s' ∧ p.length = 16 ∧ s'.hush = s.hush ∧ s'.l = s.l ∧ s'.live = false := by
 unfold restS at h
 by_cases hc : okSy s = true
 ·have hc2 := okSy_iff.1 hc
  rw [if_pos hc] at h
  split at h
  ·rename_i hh
   injection h with h
   have g := his_ok s
   rw [h] at g
   have hsd : s'.seed = seedN s.seed 16 := (congrArg (fun r : Sy × List Int => r.1.seed) h).symm
   exact ⟨hc, g.may hc2.2.1 hc2.2.2, g.okp, ⟨g.lt, by rw [g.l]; exact hs.ll, by rw [hsd]; exact seedN_bd hs.sd 16⟩, g.lp, g.hush, g.l, by
    rw [g.live]
    cases hv : s.live with
    | false => rfl
    | true => exact absurd ⟨hv, hh⟩ hc2.2.2⟩
  ·injection h with h
   have g := snd_ok { s with live := false } okX_zr
   rw [h] at g
   have hsd : s'.seed = s.seed := (congrArg (fun r : Sy × List Int => r.1.seed) h).symm
   exact ⟨hc, g.may hc2.2.1 (by simp), g.okp, ⟨g.lt, by rw [g.l]; exact hs.ll, by rw [hsd]; exact hs.sd⟩, g.lp, g.hush, g.l, g.live⟩
 ·rw [if_neg hc] at h
  cases h
open Yr (rdR rd_one rd_back Fr chkB chkB_iff gsR_len rdR_gs gsR_parts wrB symsP headP lvP inB kindR)
structure EqS (a b : Sy) : Prop where
 t : a.t = b.t
 l : a.l = b.l
 live : a.live = b.live
 hush : a.hush = b.hush
theorem EqS.ok {a b : Sy} (h : EqS a b) : okSy a = okSy b := by unfold okSy; rw [h.t, h.l, h.live, h.hush]
theorem EqS.seed {a b : Sy} (h : EqS a b) : { a with seed := b.seed } = b := by
 obtain ⟨h1, h2, h3, h4⟩ := h
 cases a
 cases b
 simp only at h1 h2 h3 h4
 subst h1 h2 h3 h4
 rfl
theorem next_ok {s s' : Sy} {p : List Int} {bs : List Nat} (hs : SyW s) (h : nextD s bs = .ok (s', p)) : okSy s' = true ∧ SyW s' ∧ okP p = true ∧ p.length = 16 := by
 unfold nextD at h
 split at h
 ·obtain ⟨-, a, b, c, d, -⟩ := rest_ok hs h
  exact ⟨a, c, b, d⟩
 ·obtain ⟨-, a, b, c, d, -⟩ := step_ok hs h
  exact ⟨a, c, b, d⟩
open Yr (rdR rd_one rd_back Fr chkB chkB_iff nearB nearN wrB wrB_len)
theorem meas_chk (x : List Int) : chkL (measL x) = true := (inR_iff (measL_length x)).2 fun k hk => by
 rw [show (measL x).getD k 0 = levB x k from tab_getD _ hk]
 exact lvl_bd _
theorem okX_fwd {p q : List Int} (hp : okP p = true) (hq : okP q = true) : okX (fwdL p q) = true := (inR_iff (tab_length 16 _)).2 fun k hk => by
 rw [show (tab 16 (fwd p q)).getD k 0 = fwd p q k from tab_getD _ hk]
 have := fwd_sum hp hq k 32 (by omega)
 unfold fwd
 rw [round28]
 omega
theorem small_atE (x l : List Int) {k : Nat} (hk : k < 16) : (smallL x l).getD k 0 = smallF x (ssL l) (msL l) k := tab_getD _ hk
theorem small_mayE {x l : List Int} (hc : chkL l = true) : mayB (smallL x l) l = true := by
 unfold mayB
 rw [hc, Bool.true_and]
 have key : ∀ n, n ≤ 16 → mayN (smallL x l) (msL l) n = true := fun n => by
  induction n with
  | zero => intro _; rfl
  | succ n ih =>
   intro hn
   rw [mayN_succ, ih (by omega), small_atE x l (by omega), smallF_is]
   have hm := msL_bd l (k := n) (by omega)
   generalize (msL l).getD n 0 = m at hm ⊢
   generalize divI (x.getD n 0) ((ssL l).getD n 0) = d
   split
   ·rw [decide_eq_true (show -m ≤ min (max d (-m)) m by omega), decide_eq_true (show min (max d (-m)) m ≤ m by omega)]; rfl
   ·rw [decide_eq_true (show -m ≤ 0 by omega), decide_eq_true (show (0 : Int) ≤ m by omega)]; rfl
 exact key 16 (by omega)
theorem may_silent {l : List Int} (hc : chkL l = true) : mayB (zr 16) l = true := by
 unfold mayB
 rw [hc, Bool.true_and]
 have key : ∀ n, n ≤ 16 → mayN (zr 16) (msL l) n = true := fun n => by
  induction n with
  | zero => intro _; rfl
  | succ n ih =>
   intro hn
   rw [mayN_succ, ih (by omega), zr_getD]
   have hm := msL_bd l (k := n) (by omega)
   rw [decide_eq_true (show -((msL l).getD n 0) ≤ 0 by omega), decide_eq_true (show (0 : Int) ≤ (msL l).getD n 0 by omega)]
   rfl
 exact key 16 (by omega)
def ldN (l : List Int) : Nat → Int
 | 0 => 0
 | k + 1 => max (ldN l k) (l.getD k 0)
theorem ldN_succ (l : List Int) (k : Nat) : ldN l (k + 1) = max (ldN l k) (l.getD k 0) := rfl
structure Ty where
 p : List Int
 hang : Int
 sent : Int
 quiet : Int
 s : Sy
def Ty.z : Ty := ⟨zr 16, 0, 0, 0, Sy.z⟩
def Ty.one : Ty := ⟨zr 16, 0, 0, 0, Sy.one⟩
structure TyW (t : Ty) : Prop where
 lp : t.p.length = 16
 sy : SyW t.s
structure TyOk (t : Ty) : Prop where
 okp : okP t.p = true
 oks : okSy t.s = true
 hang : 0 ≤ t.hang ∧ t.hang ≤ 4
 sent : 0 ≤ t.sent ∧ t.sent ≤ 1099511627776
 quiet : 0 ≤ t.quiet ∧ t.quiet ≤ 1099511627776
def lvTy (t : Ty) (p : List Int) : List Int := measL (fwdL t.p p)
def loudT (t : Ty) (p : List Int) : Bool := decide (100 ≤ ldN (lvTy t p) 6)
def sndT (t : Ty) (p : List Int) : Bool := loudT t p || decide (0 < t.hang)
def kinT (t : Ty) (p : List Int) : Int := if t.s.live = true ∧ ¬ t.sent % 8 = 0 ∧ nearB (lvTy t p) t.s.l = true then 1 else 0
def talkB (t : Ty) (p : List Int) : List Nat := wrB (kinT t p) (lvTy t p) (smallL (fwdL t.p p) (lvTy t p)) t.s.l
def restB (t : Ty) (p : List Int) : List Nat := if t.quiet % 8 = 0 then wrB 2 (lvTy t p) (zr 16) t.s.l else []
def byT (t : Ty) (p : List Int) : List Nat := if sndT t p = true then talkB t p else restB t p
def heaS (s : Sy) (bs : List Nat) : Sy := match nextD s bs with
 | .ok r => r.1
 | .error _ => Sy.z
def nexT (t : Ty) (p : List Int) : Ty :=
 ⟨p, if loudT t p = true then 4 else max 0 (t.hang - 1), if sndT t p = true then t.sent + 1 else 0, if sndT t p = true then 0 else t.quiet + 1, heaS t.s (byT t p)⟩
theorem lv_len (t : Ty) (p : List Int) : (lvTy t p).length = 6 := measL_length _
theorem kin_cases (t : Ty) (p : List Int) : kinT t p = 0 ∨ kinT t p = 1 ∧ t.s.live = true ∧ nearB (lvTy t p) t.s.l = true := by
 unfold kinT
 split
 ·rename_i h; exact .inr ⟨rfl, h.1, h.2.2⟩
 ·exact .inl rfl
theorem fr_talk {t : Ty} (p : List Int) (h : okSy t.s = true) : Fr (kinT t p) (lvTy t p) (smallL (fwdL t.p p) (lvTy t p)) t.s.l := by
 have hk := kin_cases t p
 refine ⟨by omega, meas_chk _, (okSy_iff.1 h).2.1, fun e => ?_, fun e => by omega, small_mayE (meas_chk _)⟩
 rcases hk with h0 | ⟨-, -, h1⟩
 ·omega
 ·unfold nearB at h1
  rw [Bool.and_eq_true, Bool.and_eq_true] at h1
  exact h1.2.2
theorem fr_rest {t : Ty} (p : List Int) (h : okSy t.s = true) : Fr 2 (lvTy t p) (zr 16) t.s.l :=
 ⟨by omega, meas_chk _, (okSy_iff.1 h).2.1, fun e => absurd e (by decide), fun _ => rfl, may_silent (meas_chk _)⟩
theorem small_len (x l : List Int) : (smallL x l).length = 16 := tab_length _ _
theorem next_wr {s : Sy} {K : Int} {l q : List Int} (hk : okSy s = true) (h : Fr K l q s.l) (ll : l.length = 6) (lq : q.length = 16) (hv : K = 1 → s.live = true) :
  nextD s (wrB K l q s.l) = .ok (if K = 2 then hisS { s with l := l, live := false, hush := true } else sndS { s with l := l, live := true, hush := false } (greatL q l)) := by
 have hp := (wrB_len h).2
 unfold nextD
 rw [if_neg (by intro e; rw [e] at hp; exact absurd hp (by decide))]
 unfold stepS
 rw [if_pos hk, rd_back h ll lq]
 dsimp only
 rw [if_neg (by rintro ⟨e, f⟩; rw [hv e] at f; cases f)]
 split <;> rfl
structure StpOk (t : Ty) (p : List Int) : Prop where
 nx : ∃ o, nextD t.s (byT t p) = .ok (heaS t.s (byT t p), o)
 ok : okSy (heaS t.s (byT t p)) = true
 w : SyW (heaS t.s (byT t p))
 talk : sndT t p = true → (heaS t.s (byT t p)).live = true ∧ (heaS t.s (byT t p)).hush = false
 sid : sndT t p = false → t.quiet % 8 = 0 → (heaS t.s (byT t p)).live = false ∧ (heaS t.s (byT t p)).hush = true
 rest : sndT t p = false → ¬ t.quiet % 8 = 0 → (heaS t.s (byT t p)).live = false ∧ (heaS t.s (byT t p)).hush = t.s.hush
theorem stp_of {t : Ty} {p : List Int} (hw : SyW t.s) (r : Sy × List Int) (h : nextD t.s (byT t p) = .ok r)
  (h1 : sndT t p = true → r.1.live = true ∧ r.1.hush = false) (h2 : sndT t p = false → t.quiet % 8 = 0 → r.1.live = false ∧ r.1.hush = true) (h3 : sndT t p = false → ¬ t.quiet % 8 = 0 → r.1.live = false ∧ r.1.hush = t.s.hush) : StpOk t p := by
 obtain ⟨s, o⟩ := r
 have e : heaS t.s (byT t p) = s := by unfold heaS; rw [h]
 obtain ⟨a, b, -, -⟩ := next_ok hw h
 constructor
 ·rw [e]; exact ⟨o, h⟩
 ·rw [e]; exact a
 ·rw [e]; exact b
 ·rw [e]; exact h1
 ·rw [e]; exact h2
 ·rw [e]; exact h3
theorem tstp_ok {t : Ty} {p : List Int} (hw : SyW t.s) (hk : okSy t.s = true) : StpOk t p := by
 cases hs : sndT t p with
 | true =>
  have e : byT t p = talkB t p := by unfold byT; rw [if_pos hs]
  have hc := kin_cases t p
  have h := next_wr hk (fr_talk p hk) (lv_len t p) (small_len _ _) (fun e1 => by
   rcases hc with h0 | ⟨-, h1, -⟩
   ·omega
   ·exact h1)
  rw [if_neg (by omega)] at h
  exact stp_of hw _ (by rw [e]; exact h) (fun _ => ⟨rfl, rfl⟩) (fun h2 => by rw [hs] at h2; cases h2) (fun h2 => by rw [hs] at h2; cases h2)
 | false =>
  have e : byT t p = restB t p := by unfold byT; rw [if_neg (by rw [hs]; exact Bool.false_ne_true)]
  by_cases hq : t.quiet % 8 = 0
  ·have h := next_wr hk (fr_rest p hk) (lv_len t p) (zr_length 16) (fun e1 => absurd e1 (by decide))
   rw [if_pos rfl] at h
   exact stp_of hw _ (by rw [e]; unfold restB; rw [if_pos hq]; exact h) (fun h2 => by rw [hs] at h2; cases h2) (fun _ _ => ⟨rfl, rfl⟩) (fun _ h2 => absurd hq h2)
  ·have e2 : byT t p = [] := by rw [e]; unfold restB; rw [if_neg hq]
   obtain ⟨r, hr⟩ : ∃ r, restS t.s = .ok r := by
    unfold restS
    rw [if_pos hk]
    split
    ·exact ⟨_, rfl⟩
    ·exact ⟨_, rfl⟩
   have hr2 : restS t.s = .ok (r.1, r.2) := hr
   obtain ⟨-, -, -, -, -, a6, -, a8⟩ := rest_ok hw hr2
   exact stp_of hw r (by rw [e2]; unfold nextD; rw [if_pos rfl]; exact hr) (fun h2 => by rw [hs] at h2; cases h2) (fun _ h2 => absurd h2 hq) (fun _ _ => ⟨a8, a6⟩)
theorem nexT_w {t : Ty} {p : List Int} (hw : TyW t) (hk : TyOk t) (lp : p.length = 16) : TyW (nexT t p) := ⟨lp, (tstp_ok (p := p) hw.sy hk.oks).w⟩
theorem byT_len {t : Ty} {p : List Int} (hk : okSy t.s = true) : (byT t p).length ≤ 40 := by
 unfold byT
 split
 ·exact (wrB_len (fr_talk p hk)).1
 ·unfold restB
  split
  ·exact (wrB_len (fr_rest p hk)).1
  ·exact Nat.zero_le _
theorem byT_nil {t : Ty} {p : List Int} (hk : okSy t.s = true) : byT t p = [] ↔ sndT t p = false ∧ ¬ t.quiet % 8 = 0 := by
 unfold byT
 cases hs : sndT t p with
 | true =>
  rw [if_pos rfl]
  have := (wrB_len (fr_talk p hk)).2
  constructor
  ·intro e
   unfold talkB at e
   rw [e] at this
   exact absurd this (by decide)
  ·rintro ⟨h, -⟩; cases h
 | false =>
  rw [if_neg Bool.false_ne_true]
  unfold restB
  have := (wrB_len (fr_rest p hk)).2
  split
  ·rename_i hq
   constructor
   ·intro e
    rw [e] at this
    exact absurd this (by decide)
   ·rintro ⟨-, h⟩; exact absurd hq h
  ·rename_i hq
   exact ⟨fun _ => ⟨rfl, hq⟩, fun _ => rfl⟩
structure TyN (n : Nat) (t : Ty) : Prop where
 w : TyW t
 okp : okP t.p = true
 oks : okSy t.s = true
 hang : 0 ≤ t.hang ∧ t.hang ≤ 4
 sent : 0 ≤ t.sent ∧ t.sent ≤ n
 quiet : 0 ≤ t.quiet ∧ t.quiet ≤ n
 one : t.sent = 0 ∨ t.quiet = 0
 some : 0 < n → 0 < t.sent ∨ 0 < t.quiet
 live : t.s.live = decide (0 < t.sent)
 hush : t.s.hush = decide (0 < t.quiet)
theorem TyN.ok {n : Nat} {t : Ty} (h : TyN n t) (hn : n ≤ 1000) : TyOk t := ⟨h.okp, h.oks, h.hang, ⟨h.sent.1, by have := h.sent.2; omega⟩, ⟨h.quiet.1, by have := h.quiet.2; omega⟩⟩
theorem okSy_one : okSy Sy.one = true := by decide +kernel
theorem okP_zr : okP (zr 16) = true := by decide +kernel
theorem tyW_one : TyW Ty.one := ⟨zr_length 16, ⟨zr_length 16, zr_length 6, by decide⟩⟩
theorem tyN_one : TyN 0 Ty.one := ⟨tyW_one, okP_zr, okSy_one, by decide, by decide, by decide, .inl rfl, fun h => absurd h (by decide), rfl, rfl⟩
theorem TyN.next {n : Nat} {t : Ty} {p : List Int} (h : TyN n t) (hn : n ≤ 1000) (lp : p.length = 16) (hp : okP p = true) : TyN (n + 1) (nexT t p) := by
 have st := tstp_ok (p := p) h.w.sy h.oks
 obtain ⟨h1, h2⟩ := h.hang
 obtain ⟨h3, h4⟩ := h.sent
 obtain ⟨h5, h6⟩ := h.quiet
 have hang : 0 ≤ (nexT t p).hang ∧ (nexT t p).hang ≤ 4 := by
  show 0 ≤ (if loudT t p = true then 4 else max 0 (t.hang - 1)) ∧ (if loudT t p = true then 4 else max 0 (t.hang - 1)) ≤ 4
  split <;> omega
 cases hs : sndT t p with
 | true =>
  have e1 : (nexT t p).sent = t.sent + 1 := if_pos hs
  have e2 : (nexT t p).quiet = 0 := if_pos hs
  obtain ⟨a, b⟩ := st.talk hs
  exact ⟨nexT_w h.w (h.ok hn) lp, hp, st.ok, hang, by rw [e1]; omega, by rw [e2]; omega, .inr e2, fun _ => .inl (by rw [e1]; omega), by
   rw [e1, decide_eq_true (by omega)]; exact a, by
   rw [e2, decide_eq_false (by omega)]; exact b⟩
 | false =>
  have hs2 : ¬ sndT t p = true := by rw [hs]; exact Bool.false_ne_true
  have e1 : (nexT t p).sent = 0 := if_neg hs2
  have e2 : (nexT t p).quiet = t.quiet + 1 := if_neg hs2
  have lh : (nexT t p).s.live = false ∧ (nexT t p).s.hush = true := by
   by_cases hq : t.quiet % 8 = 0
   ·exact st.sid hs hq
   ·obtain ⟨a, b⟩ := st.rest hs hq
    refine ⟨a, b.trans ?_⟩
    rw [h.hush, decide_eq_true (by omega)]
  exact ⟨nexT_w h.w (h.ok hn) lp, hp, st.ok, hang, by rw [e1]; omega, by rw [e2]; omega, .inl e1, fun _ => .inr (by rw [e2]; omega), by
   rw [e1, decide_eq_false (by omega)]; exact lh.1, by
   rw [e2, decide_eq_true (by omega)]; exact lh.2⟩
abbrev Ent := Nat × TypeId × Array Value
def MF (w1 : World) (L : List Ent) (w : World) : Prop := w1.heap.size ≤ w.heap.size ∧ ∀ b, b < w1.heap.size → (∀ e ∈ L, e.1 ≠ b) → w.heap[b]? = w1.heap[b]?
def MV (w0 w1 : World) (L : List Ent) (w : World) : Prop :=
 Below w0.heap.size w0 w ∧ (∀ e ∈ L, Blk w e.1 e.2.1 e.2.2) ∧ (∀ e ∈ L, w0.heap.size ≤ e.1) ∧ L.Pairwise (fun a b => a.1 ≠ b.1) ∧ MF w1 L w
section
variable {w0 w1 w w' : World} {L : List Ent} {g : Nat} {T : TypeId} {cs : Array Value}
theorem MF.refl (w : World) (L : List Ent) : MF w L w := ⟨Nat.le_refl _, fun _ _ _ => rfl⟩
theorem MV.start (w : World) : MV w w [] w := ⟨Below.refl _ _, by simp, by simp, .nil, MF.refl w []⟩
theorem MV.base (h : MV w0 w1 L w) : MV w0 w L w := ⟨h.1, h.2.1, h.2.2.1, h.2.2.2.1, MF.refl w L⟩
theorem MV.get (h : MV w0 w1 L w) (hm : (g, T, cs) ∈ L) : Blk w g T cs := h.2.1 _ hm
theorem MV.alloc (h : MV w0 w1 L w) (T : TypeId) (cs : Array Value) : MV w0 w1 ((w.heap.size, T, cs) :: L) (w.alloc (.cells cs T)) := by
 obtain ⟨h1, h2, h3, h4, h5, h6⟩ := h
 refine ⟨h1.alloc h1.size _, fun e he => ?_, fun e he => ?_, .cons (fun e he => Nat.ne_of_gt (h2 e he).lt) h4, by simp; omega, fun b hb hn => ?_⟩
 ·rcases List.mem_cons.1 he with rfl | he
  ·exact Blk.new w _ _
  ·exact (h2 e he).alloc _
 ·rcases List.mem_cons.1 he with rfl | he
  ·exact h1.size
  ·exact h3 e he
 ·rw [((Below.refl w.heap.size w).alloc (Nat.le_refl _) (.cells cs T)).block b (by omega)]
  exact h6 b hb fun e he => hn e (.tail _ he)
theorem MV.below (h : MV w0 w1 L w) (hb : Below w.heap.size w w') : MV w0 w1 L w' :=
 ⟨h.1.trans (hb.mono h.1.size), fun e he => (h.2.1 e he).below hb (h.2.1 e he).lt, h.2.2.1, h.2.2.2.1, Nat.le_trans h.2.2.2.2.1 hb.size, fun b hb' hn => by
  have := h.2.2.2.2.1
  rw [hb.block b (by omega)]
  exact h.2.2.2.2.2 b hb' hn⟩
theorem MV.skip (h : MV w0 w1 L w) (o : Obj) : MV w0 w1 L (w.alloc o) := h.below ((Below.refl w.heap.size w).alloc (Nat.le_refl _) o)
theorem MV.drew (h : MV w0 w1 L w) : MV w0 w1 L w.drew := h.below (Below.drew (Below.refl _ _))
theorem MV.sub {L' : List Ent} (h : MV w0 w1 L w) (hs : L'.Sublist L) : MV w0 w L' w :=
 ⟨h.1, fun e he => h.2.1 e (hs.mem he), fun e he => h.2.2.1 e (hs.mem he), h.2.2.2.1.sublist hs, MF.refl w L'⟩
theorem pwv_ne {i j : Nat} {a b : Ent} (h : L.Pairwise (fun a b => a.1 ≠ b.1)) (hi : L[i]? = some a) (hj : L[j]? = some b) (hij : i ≠ j) : a.1 ≠ b.1 := by
 obtain ⟨hi1, hi2⟩ := List.getElem?_eq_some_iff.1 hi
 obtain ⟨hj1, hj2⟩ := List.getElem?_eq_some_iff.1 hj
 rw [List.pairwise_iff_getElem] at h
 rcases Nat.lt_or_gt_of_ne hij with k | k
 ·have := h i j hi1 hj1 k
  rwa [hi2, hj2] at this
 ·have := h j i hj1 hi1 k
  rw [hi2, hj2] at this; exact this.symm
theorem set_fst (L : List Ent) (i : Nat) (hi : L[i]? = some (g, T, cs)) (ds : Array Value) : (L.set i (g, T, ds)).map (·.1) = L.map (·.1) := by
 refine List.ext_getElem? fun j => ?_
 rw [List.getElem?_map, List.getElem?_map, List.getElem?_set]
 by_cases k : i = j
 ·subst k
  have hl := (List.getElem?_eq_some_iff.1 hi).1
  rw [if_pos rfl, if_pos hl, hi]
  rfl
 ·rw [if_neg k]
theorem MV.turn (h : MV w0 w1 L w) (i : Nat) (hi : L[i]? = some (g, T, cs)) (ds : Array Value) (hb : w.grownBy w' (some g)) (hg : Blk w' g T ds) : MV w0 w1 (L.set i (g, T, ds)) w' := by
 obtain ⟨h1, h2, h3, h4, h5, h6⟩ := h
 have hmem : (g, T, cs) ∈ L := List.mem_of_getElem? hi
 have hil := (List.getElem?_eq_some_iff.1 hi).1
 have hfst := set_fst L i hi ds
 refine ⟨below_grown h1 hb (h3 _ hmem) h1.size, fun e he => ?_, fun e he => ?_, ?_, Nat.le_trans h5 hb.size, fun b hb' hn => ?_⟩
 ·obtain ⟨j, hj⟩ := List.mem_iff_getElem?.1 he
  rw [List.getElem?_set] at hj
  by_cases hij : i = j
  ·rw [if_pos hij, if_pos (by omega)] at hj
   injection hj with hj
   subst hj
   exact hg
  ·rw [if_neg hij] at hj
   have hm := List.mem_of_getElem? hj
   exact (h2 e hm).only hb (fun k => pwv_ne h4 hi hj hij k.symm)
 ·rcases List.mem_or_eq_of_mem_set he with he | rfl
  ·exact h3 e he
  ·show w0.heap.size ≤ g; exact h3 _ hmem
 ·have h7 : (L.map (·.1)).Pairwise (· ≠ ·) := List.pairwise_map.2 h4
  rw [← hfst] at h7
  exact List.pairwise_map.1 h7
 ·have hm2 : ∀ e ∈ L, e.1 ≠ b := fun e he => by
   have : e.1 ∈ (L.set i (g, T, ds)).map (·.1) := by rw [hfst]; exact List.mem_map.2 ⟨e, he, rfl⟩
   obtain ⟨e', he', e2⟩ := List.mem_map.1 this
   rw [← e2]
   exact hn e' he'
  rw [hb.block b (by omega) (fun e => by injection e with e; exact hm2 _ hmem e.symm)]
  exact h6 b hb' hm2
theorem MV.put (h : MV w0 w1 L w) (i : Nat) (hi : L[i]? = some (g, T, cs)) (j : Nat) (v : Value) : MV w0 w1 (L.set i (g, T, cs.setIfInBounds j v)) (w.setCell ⟨g, j, none⟩ v) :=
 h.turn i hi _ (grown_set w g j _) ((h.get (List.mem_of_getElem? hi)).set_ j v)
theorem MV.row (h : MV w0 w1 L w) (i : Nat) (hi : L[i]? = some (g, T, cs)) (ds : Array Value) : MV w0 w1 (L.set i (g, T, ds)) (w.setRow g ds) :=
 h.turn i hi _ (grown_row w g _) (setRow_heap w g _ _ T _ (h.get (List.mem_of_getElem? hi)))
theorem MV.cell (h : MV w0 w1 L w) (hm : (g, T, cs) ∈ L) {k : Nat} {v : Value} (hk : cs[k]? = some v) : w.cell? ⟨g, k, none⟩ = some v := ((h.get hm).cell k).trans hk
theorem MV.free (h : MV w0 w1 L w) (hm : (g, T, cs) ∈ L) (k : Nat) : w.frozen? ⟨g, k, none⟩ = false := (h.get hm).frozen k
theorem MV.lt (h : MV w0 w1 L w) (hm : (g, T, cs) ∈ L) : g < w.heap.size := (h.get hm).lt
theorem MV.rd (h : MV w0 w1 L w) {A : Option Addr} {n : Nat} {bs : List Nat} (hr : Rd w1 A n bs) (hA : ∀ ad, A = some ad → 0 < n → ∀ e ∈ L, e.1 ≠ ad.block) : Rd w A n bs :=
 ⟨hr.1, hr.2.1, fun hn => by
  obtain ⟨ad, e, hc⟩ := hr.2.2 hn
  refine ⟨ad, e, fun j x hx => ?_⟩
  have h1 := hc j x hx
  have hl := World.block_lt_of_cell? _ _ h1
  rw [block_of_add] at hl
  refine (World.cell?_of_block ?_).trans h1
  rw [block_of_add]
  exact h.2.2.2.2.2 _ hl (hA ad e hn)⟩
end
def Apt (A : Option Addr) (n : Nat) (gs : List Nat) : Prop := ∀ ad, A = some ad → 0 < n → ∀ g ∈ gs, g ≠ ad.block
section
variable {w0 w1 w : World} {L : List Ent} {A : Option Addr} {n g : Nat} {gs : List Nat}
theorem MV.rdA (h : MV w0 w1 L w) {bs : List Nat} (hr : Rd w1 A n bs) (ha : Apt A n (L.map (·.1))) : Rd w A n bs :=
 h.rd hr fun ad e hn x hx => ha ad e hn _ (List.mem_map.2 ⟨x, hx, rfl⟩)
theorem Apt.old (h : MV w0 w1 L w) (hf : ∀ ad, A = some ad → 0 < n → w.heap.size ≤ ad.block) : Apt A n (L.map (·.1)) := fun ad e hn g hg => by
 obtain ⟨x, hx, rfl⟩ := List.mem_map.1 hg
 have := (h.2.1 x hx).lt
 have := hf ad e hn
 omega
theorem Apt.cons (ha : Apt A n gs) (hl : ∀ ad, A = some ad → 0 < n → ad.block < w.heap.size) (hg : w.heap.size ≤ g) : Apt A n (g :: gs) := fun ad e hn x hx => by
 rcases List.mem_cons.1 hx with rfl | hx
 ·have := hl ad e hn
  omega
 ·exact ha ad e hn x hx
theorem Apt.sub (ha : Apt A n gs) {hs : List Nat} (h : hs.Sublist gs) : Apt A n hs := fun ad e hn x hx => ha ad e hn x (h.mem hx)
theorem rd_lt {bs : List Nat} (hr : Rd w A n bs) : ∀ ad, A = some ad → 0 < n → ad.block < w.heap.size := fun ad e hn => by
 obtain ⟨ad', e', h, -⟩ := hr.at_ hn
 rw [e] at e'
 injection e' with e'
 subst e'
 exact h
theorem rdI_lt {zs : List Int} (hr : RdI w A n zs) : ∀ ad, A = some ad → 0 < n → ad.block < w.heap.size := fun ad e hn => by
 obtain ⟨ad', e', h, -⟩ := hr.at_ hn
 rw [e] at e'
 injection e' with e'
 subst e'
 exact h
end
def RowT (T : TypeId) (n : Nat) (z : Array Value) : Prop :=
 (∃ d, Tryz.prog.underlying T = some d ∧ d.isRow = true) ∧ (Tryz.prog.info? T).map (fun i => (i.zero, i.size)) = some (some (.agg z), n)
theorem Arr.row {T : TypeId} {n : Nat} (h : Arr T n) : RowT T n (icells (zr n)) := h
theorem rowT_of {T : TypeId} {n : Nat} {z : Array Value} (h1 : (Tryz.prog.underlying T).any TypeDesc.isRow = true) (h2 : (Tryz.prog.info? T).map (fun i => (i.zero, i.size)) = some (some (.agg z), n)) : RowT T n z := by
 refine ⟨?_, h2⟩
 cases hq : Tryz.prog.underlying T with
 | none => rw [hq] at h1; cases h1
 | some d => exact ⟨d, rfl, by rw [hq] at h1; exact h1⟩
theorem RowT.size {T : TypeId} {n : Nat} {z : Array Value} (h : RowT T n z) : (Tryz.prog.info? T).map (·.size) = some n := by
 obtain ⟨_, h⟩ := h
 cases hq : Tryz.prog.info? T with
 | none => simp [hq] at h
 | some i => simp [hq] at h; simp [h.2]
theorem RowT.zero {T : TypeId} {n : Nat} {z : Array Value} (h : RowT T n z) (w : World) : (zeroValue T).run Tryz.prog w = .ok (.agg z) w := by
 obtain ⟨_, h⟩ := h
 cases hq : Tryz.prog.info? T with
 | none => simp [hq] at h
 | some i => simp [hq] at h; simp [zeroValue, typeInfo, hq, h.1]
theorem rowDec : RowT 119 6 #[.int .u32 0, .int .u32 0, .int .u32 0, .slice none 0 0, .int .i64 0, .int .i64 0] := rowT_of (by kernel_rfl) (by kernel_rfl)
theorem rowBits : RowT 100 2 #[.slice none 0 0, .int .i64 0] := rowT_of (by kernel_rfl) (by kernel_rfl)
theorem rowFreq : RowT 130 1 #[.slice none 0 0] := rowT_of (by kernel_rfl) (by kernel_rfl)
theorem rowFr : RowT 57 23 (icells (zr 23)) := rowT_of (by kernel_rfl) (by kernel_rfl)
theorem run_load_blk {w : World} {g n : Nat} {T T0 : TypeId} {z cs : Array Value} (ha : RowT T n z) (h : Blk w g T0 cs) (hl : cs.size = n) : (loadVar T ⟨g, 0, none⟩).run Tryz.prog w = .ok (.agg cs) w := by
 obtain ⟨d, h1, h2⟩ := ha.1
 exact run_loadVar_row w g T0 T cs (0, 0) d h h1 (by cases d <;> first | rfl | cases h2) (by rw [ha.size, hl])
theorem run_store_blk {w : World} {g n : Nat} {T T0 : TypeId} {z cs ds : Array Value} (ha : RowT T n z) (h : Blk w g T0 cs) (hl : cs.size = n) (hl' : ds.size = n) (h1 : ds.all (·.oneCell') = true) : (storeVar T ⟨g, 0, none⟩ (.agg ds)).run Tryz.prog w = .ok () (w.setRow g ds) :=
 run_storeVar_row w g T0 T cs ds h (by rw [ha.size, hl']) (by rw [hl, hl']) h1
theorem run_load_part {w : World} {g o n : Nat} {T T0 : TypeId} {z cs : Array Value} {ys : List Int} (ha : RowT T n z) (h : Blk w g T0 cs) (hy : ∀ j, j < n → cs[o + j]? = some (.int .i64 (ys.getD j 0))) (hl : ys.length = n) : (loadVar T ⟨g, o, none⟩).run Tryz.prog w = .ok (.agg (icells ys)) w := by
 obtain ⟨d, h1, h2⟩ := ha.1
 refine run_loadVar_mid w g o T (ys.map fun x => Value.int .i64 x) d (fun j v hv => ?_) h1 h2 (by rw [ha.size, List.length_map, hl])
 rw [List.getElem?_map] at hv
 cases hx : ys[j]? with
 | none => rw [hx] at hv; cases hv
 | some x =>
  rw [hx] at hv
  injection hv with hv
  subst hv
  have hj := (List.getElem?_eq_some_iff.1 hx).1
  rw [h.cell, hy j (by omega), List.getD_eq_getElem?_getD, hx]
  rfl
/- short words: the premises find themselves -/
theorem q7m {e : Ent} {L : List Ent} (h : e ∈ L := by repeat' (first | exact .head _ | refine .tail _ ?_)) : e ∈ L := h
theorem q7s {cs : Array Value} {n : Nat} (h : Hid (cs.size = n) := by first | with_reducible assumption | exact Lib.hid rfl | exact Lib.hid ((icells_size _).trans (q7l).out)) : Hid (cs.size = n) := h
theorem q7o {cs : Array Value} (h : cs.all (·.oneCell') = true := by first | exact icells_one _ | rfl | (simp; done) | simp [Value.oneCell']) : cs.all (·.oneCell') = true := h
def VNth (L : List Ent) (i : Nat) (e : Ent) : Prop := L[i]? = some e
theorem VNth.hd {e : Ent} {L : List Ent} : VNth (e :: L) 0 e := rfl
theorem VNth.tl {e x : Ent} {L : List Ent} {i : Nat} (h : VNth L i e) : VNth (x :: L) (i + 1) e := by
 unfold VNth at h ⊢; rw [List.getElem?_cons_succ]; exact h
theorem q7i {L : List Ent} {i : Nat} {e : Ent} (h : VNth L i e := by first | exact VNth.hd | exact VNth.tl VNth.hd | exact VNth.tl (VNth.tl VNth.hd) | exact VNth.tl (VNth.tl (VNth.tl VNth.hd)) | exact VNth.tl (VNth.tl (VNth.tl (VNth.tl VNth.hd))) | exact VNth.tl (VNth.tl (VNth.tl (VNth.tl (VNth.tl VNth.hd)))) | exact VNth.tl (VNth.tl (VNth.tl (VNth.tl (VNth.tl (VNth.tl VNth.hd))))) | exact VNth.tl (VNth.tl (VNth.tl (VNth.tl (VNth.tl (VNth.tl (VNth.tl VNth.hd)))))) | exact VNth.tl (VNth.tl (VNth.tl (VNth.tl (VNth.tl (VNth.tl (VNth.tl (VNth.tl VNth.hd)))))))) : VNth L i e := h
def dV {w0 w1 w : World} {L : List Ent} (_ : Hid (MV w0 w1 L w)) : Nat := L.length
theorem q7r {T : TypeId} {n : Nat} {z : Array Value} (h : RowT T n z := by first | exact rowDec | exact rowBits | exact rowFreq | exact rowFr | exact Arr.row q7a) : RowT T n z := h
section
variable {ops : Array Oper} {rest : List Oper} {o : Oper} {a : Act} {w w0 w1 : World} {Q : Exit → Act → World → Prop} {L : List Ent}
theorem q8u (hgd : Region.wanted o (yielded ops a.tmps) = true) (T : TypeId) (ho : o.op = .alloc T) {n : Nat} {z : Array Value} (ha : RowT T n z) (hm : Hid (MV w0 w1 L w))
  (h : ∀ g w', Hid (w1.heap.size ≤ g) → Hid (MV w0 w1 ((g, T, z) :: L) w') → wpList Tryz.prog ops Q rest (a.put o.dst (.pointer (some ⟨g, 0, none⟩))) w') : wpList Tryz.prog ops Q (o :: rest) a w :=
 wl_step hgd fun K hK => by
  have hz := ha.zero w
  have := hK _ _ (h w.heap.size _ (Lib.hid hm.out.2.2.2.2.1) (Lib.hid (hm.out.alloc T z)))
  unfold Oper.wp execOp
  simp only [ho, Instr.alloc, newVar, newRow, Sem.run_bind, hz, Result.andThen, Value.cells, Sem.run_pure]
  exact this
theorem q8t (hgd : Region.wanted o (yielded ops a.tmps) = true) (T : TypeId) (x : Operand) (ho : o.op = .box T x) {cs : Array Value} (hx : a.eval x = .agg cs) (hm : Hid (MV w0 w1 L w))
  (h : ∀ g w', Hid (w1.heap.size ≤ g) → Hid (MV w0 w1 ((g, T, cs) :: L) w') → wpList Tryz.prog ops Q rest (a.put o.dst (.pointer (some ⟨g, 0, none⟩))) w') : wpList Tryz.prog ops Q (o :: rest) a w :=
 wl_step hgd fun K hK => by
  have := hK _ _ (h w.heap.size _ (Lib.hid hm.out.2.2.2.2.1) (Lib.hid (hm.out.alloc T cs)))
  unfold Oper.wp execOp
  simp only [ho, Instr.box, newVar, newRow, Sem.run_bind, hx, Result.andThen, Value.cells, Sem.run_pure]
  exact this
theorem q8q (hgd : Region.wanted o (yielded ops a.tmps) = true) (T : TypeId) (x : Operand) (ho : o.op = .load T x) {g n : Nat} (hx : a.eval x = .pointer (some ⟨g, 0, none⟩)) {z : Array Value} (ha : RowT T n z) {cs : Array Value} {T0 : TypeId}
  (hm : Hid (MV w0 w1 L w)) (hin : (g, T0, cs) ∈ L) (hl : Hid (cs.size = n)) (h : wpList Tryz.prog ops Q rest (a.put o.dst (.agg cs)) w) : wpList Tryz.prog ops Q (o :: rest) a w :=
 wl_step hgd fun K hK => by
  have := hK _ _ h
  unfold Oper.wp execOp
  simp only [ho, hx, Instr.loadAt, Instr.sureAddr, Sem.run_bind, Sem.run_pure, Result.andThen_ok, run_load_blk ha (hm.out.get hin) hl.out]
  exact this
theorem wv_loadE (hgd : Region.wanted o (yielded ops a.tmps) = true) (T : TypeId) (x : Operand) (ho : o.op = .load T x) {ad : Addr} (hx : a.eval x = .pointer (some ad)) {v : Value}
  (hv : Hid ((loadVar T ad).run Tryz.prog w = .ok v w)) (h : wpList Tryz.prog ops Q rest (a.put o.dst v) w) : wpList Tryz.prog ops Q (o :: rest) a w :=
 wl_step hgd fun K hK => by
  have := hK _ _ h
  unfold Oper.wp execOp
  simp only [ho, hx, Instr.loadAt, Instr.sureAddr, Sem.run_bind, Sem.run_pure, Result.andThen_ok, hv.out]
  exact this
theorem q8s (hgd : Region.wanted o (yielded ops a.tmps) = true) (T : TypeId) (x y : Operand) (ho : o.op = .store T x y) {g n : Nat} (hx : a.eval x = .pointer (some ⟨g, 0, none⟩)) {ds : Array Value} (hy : a.eval y = .agg ds) {z : Array Value} (ha : RowT T n z) {cs : Array Value} {T0 : TypeId}
  (hm : Hid (MV w0 w1 L w)) {i : Nat} (hi : VNth L i (g, T0, cs)) (hl : Hid (cs.size = n)) (hl' : Hid (ds.size = n)) (h1 : ds.all (·.oneCell') = true)
  (h : ∀ w', Hid (MV w0 w1 (L.set i (g, T0, ds)) w') → wpList Tryz.prog ops Q rest (a.put o.dst undef) w') : wpList Tryz.prog ops Q (o :: rest) a w :=
 wl_step hgd fun K hK => by
  have := hK _ _ (h _ (Lib.hid (hm.out.row i hi ds)))
  unfold Oper.wp execOp
  simp only [ho, hx, hy, Instr.storeAt, Instr.sureAddr, Sem.run_bind, Sem.run_pure, Result.andThen_ok, run_store_blk ha (hm.out.get (List.mem_of_getElem? hi)) hl.out hl'.out h1]
  exact this
end
section
variable {ops : Array Oper} {o : Oper} {a : Act} {w w0 w1 : World} {Q : Exit → Act → World → Prop} {K : Act → World → Prop} {L : List Ent} {S : World → Prop}
theorem yv_load (hw : Region.wanted o (yielded ops a.tmps) = true) (T : TypeId) (x : Operand) (ho : o.op = .load T x) {ad : Addr} (hx : a.eval x = .pointer (some ad)) {v : Value}
  (hS : ∀ u, S u → (loadVar T ad).run Tryz.prog u = .ok v u) : YieldsIf Tryz.prog ops S o v a :=
 .inl ⟨hw, fun u hu => by
  unfold execOp
  simp only [ho, hx, Instr.loadAt, Instr.sureAddr, Sem.run_bind, Sem.run_pure, Result.andThen_ok, hS u hu]⟩
theorem ov_load (T : TypeId) (x : Operand) (ho : o.op = .load T x) {ad : Addr} (hx : a.eval x = .pointer (some ad)) {v : Value} (hv : (loadVar T ad).run Tryz.prog w = .ok v w) (h : K (a.put o.dst v) w) : o.wp Tryz.prog a w K Q := by
 unfold Oper.wp execOp
 simp only [ho, hx, Instr.loadAt, Instr.sureAddr, Sem.run_bind, Sem.run_pure, Result.andThen_ok, hv]
 exact h
theorem ov_alloc (T : TypeId) (ho : o.op = .alloc T) {d : Nat} (hd : o.dst = some d) {n : Nat} {z : Array Value} (ha : RowT T n z) (hm : Hid (MV w0 w1 L w))
  (h : ∀ g w', Hid (MV w0 w1 ((g, T, z) :: L) w') → Hid (Below w.heap.size w w') → Hid (w.heap.size ≤ g) → K (a.put (some d) (.pointer (some ⟨g, 0, none⟩))) w') : o.wp Tryz.prog a w K Q := by
 rw [← hd] at h
 have hz := ha.zero w
 have := h w.heap.size _ (Lib.hid (hm.out.alloc T z)) (Lib.hid ((Below.refl w.heap.size w).alloc (Nat.le_refl _) _)) (Lib.hid (Nat.le_refl _))
 unfold Oper.wp execOp
 simp only [ho, Instr.alloc, newVar, newRow, Sem.run_bind, hz, Result.andThen, Value.cells, Sem.run_pure]
 exact this
theorem ov_store (T : TypeId) (x y : Operand) (ho : o.op = .store T x y) {g n : Nat} (hx : a.eval x = .pointer (some ⟨g, 0, none⟩)) {ds : Array Value} (hy : a.eval y = .agg ds) {z : Array Value} (ha : RowT T n z) {cs : Array Value} {T0 : TypeId}
  (hm : Hid (MV w0 w1 L w)) {i : Nat} (hi : VNth L i (g, T0, cs)) (hl : Hid (cs.size = n)) (hl' : Hid (ds.size = n)) (h1 : ds.all (·.oneCell') = true)
  (hd : o.dst = none) (h : ∀ w', Hid (MV w0 w1 (L.set i (g, T0, ds)) w') → K (a.put none undef) w') : o.wp Tryz.prog a w K Q := by
 rw [← hd] at h
 have := h _ (Lib.hid (hm.out.row i hi ds))
 unfold Oper.wp execOp
 simp only [ho, hx, hy, Instr.storeAt, Instr.sureAddr, Sem.run_bind, Sem.run_pure, Result.andThen_ok, run_store_blk ha (hm.out.get (List.mem_of_getElem? hi)) hl.out hl'.out h1]
 exact this
end
theorem run_store_int {w : World} {ad : Addr} {old : Value} {x : Int} (hc : w.cell? ad = some old) (hf : w.frozen? ad = false) : (storeVar 3 ad (.int .i64 x)).run Tryz.prog w = .ok () (w.setCell ad (.int .i64 x)) := by
 have h1 := arn_elem w
 simp [storeVar, storeCells, Value.cells, go_sem, h1, run_store, Value.oneCell', hc, hf]
theorem run_load_int {w : World} {ad : Addr} {v : Int} (hc : w.cell? ad = some (.int .i64 v)) : (loadVar 3 ad).run Tryz.prog w = .ok (.int .i64 v) w := by
 have hg : (isAgg 3).run Tryz.prog w = .ok false w := by kernel_rfl
 simp only [loadVar, hg, Sem.run_bind, Result.andThen_ok, run_load, hc, Bool.false_eq_true, if_false]
section
variable {ops : Array Oper} {rest : List Oper} {o : Oper} {a : Act} {w w0 w1 : World} {Q : Exit → Act → World → Prop} {L : List Ent}
theorem wv_elem (hgd : Region.wanted o (yielded ops a.tmps) = true) (x : Operand) (ho : o.op = .load 3 x) {g k : Nat} (hx : a.eval x = .pointer (some ⟨g, k, none⟩)) (hm : Hid (MV w0 w1 L w)) {T : TypeId} {xs : List Int} (hin : (g, T, icells xs) ∈ L) {v : Int} (hv : Hid (k < xs.length ∧ xs.getD k 0 = v))
  (h : wpList Tryz.prog ops Q rest (a.put o.dst (.int .i64 v)) w) : wpList Tryz.prog ops Q (o :: rest) a w :=
 wl_step hgd fun K hK => by
  have := hK _ _ h
  have hc := blk_at (hm.out.get hin) hv.out.1
  rw [hv.out.2] at hc
  unfold Oper.wp execOp
  simp only [ho, hx, Instr.loadAt, Instr.sureAddr, Sem.run_bind, Sem.run_pure, Result.andThen_ok, run_load_int hc]
  exact this
theorem wv_bytes (hgd : Region.wanted o (yielded ops a.tmps) = true) (x : Operand) (ho : o.op = .load 34 x) {g k : Nat} (hx : a.eval x = .pointer (some ⟨g, k, none⟩)) (hm : Hid (MV w0 w1 L w)) {T : TypeId} {cs : Array Value} (hin : (g, T, cs) ∈ L) {v : Value} (hv : cs[k]? = some v)
  (h : wpList Tryz.prog ops Q rest (a.put o.dst v) w) : wpList Tryz.prog ops Q (o :: rest) a w :=
 wl_step hgd fun K hK => by
  have := hK _ _ h
  have hg : (isAgg 34).run Tryz.prog w = .ok false w := by kernel_rfl
  have hc := hm.out.cell hin hv
  unfold Oper.wp execOp
  simp only [ho, hx, Instr.loadAt, Instr.sureAddr, Sem.run_bind, Sem.run_pure, Result.andThen_ok, loadVar, hg, run_load, hc, Bool.false_eq_true, if_false]
  exact this
theorem q8r (hgd : Region.wanted o (yielded ops a.tmps) = true) (T' : TypeId) (x : Operand) (ho : o.op = .load T' x) {g f n : Nat} (hx : a.eval x = .pointer (some ⟨g, f, none⟩)) (ha : Arr T' n) {T : TypeId} {xs ys : List Int} (hm : Hid (MV w0 w1 L w))
  (hin : (g, T, icells xs) ∈ L) (hy : Hid ((xs.drop f).take n = ys)) (hl : Hid (ys.length = n)) (h : wpList Tryz.prog ops Q rest (a.put o.dst (.agg (icells ys))) w) : wpList Tryz.prog ops Q (o :: rest) a w :=
 wl_step hgd fun K hK => by
  have := hK _ _ h
  have hr := run_load_part (T := T') (z := icells (zr n)) ha.row (hm.out.get hin) (o := f) (ys := ys) (fun j hj => by
   have hx : ys[j]? = some (ys.getD j 0) := by rw [List.getD_eq_getElem?_getD, List.getElem?_eq_getElem (by rw [hl.out]; exact hj)]; rfl
   rw [← hy.out, List.getElem?_take] at hx
   rw [if_pos hj, List.getElem?_drop, hy.out] at hx
   unfold icells
   rw [List.getElem?_toArray, List.getElem?_map, hx]
   rfl) hl.out
  unfold Oper.wp execOp
  simp only [ho, hx, Instr.loadAt, Instr.sureAddr, Sem.run_bind, Sem.run_pure, Result.andThen_ok, hr]
  exact this
theorem wv_put (hgd : Region.wanted o (yielded ops a.tmps) = true) (x y : Operand) (ho : o.op = .store 3 x y) {g k : Nat} (hx : a.eval x = .pointer (some ⟨g, k, none⟩)) {v : Int} (hy : a.eval y = .int .i64 v) (hm : Hid (MV w0 w1 L w)) {i : Nat} {T : TypeId} {xs : List Int} (hi : VNth L i (g, T, icells xs)) (hv : Hid (k < xs.length))
  (h : ∀ w', Hid (MV w0 w1 (L.set i (g, T, icells (xs.set k v))) w') → wpList Tryz.prog ops Q rest (a.put o.dst undef) w') : wpList Tryz.prog ops Q (o :: rest) a w :=
 wl_step hgd fun K hK => by
  have hb := hm.out.get (List.mem_of_getElem? hi)
  have h2 := hm.out.put i hi k (.int .i64 v)
  rw [icells_set] at h2
  have := hK _ _ (h _ (Lib.hid h2))
  unfold Oper.wp execOp
  simp only [ho, hx, hy, Instr.storeAt, Instr.sureAddr, Sem.run_bind, Sem.run_pure, Result.andThen_ok, run_store_int (blk_at hb hv.out) (hb.frozen k)]
  exact this
end
theorem built_frame : Tryz.prog.built 57 [] = some (icells (zr 23)) := by kernel_rfl
theorem wv_zeroF {ops : Array Oper} {rest : List Oper} {o : Oper} {a : Act} {w : World} {Q : Exit → Act → World → Prop} (hgd : Region.wanted o (yielded ops a.tmps) = true) (ho : o.op = .build 57 #[])
  (h : wpList Tryz.prog ops Q rest (a.put o.dst (.agg (icells (zr 23)))) w) : wpList Tryz.prog ops Q (o :: rest) a w :=
 wl_built hgd 57 #[] ho (zr 23) (by have h := built_frame; simpa using h) h
theorem vres_two {fn : Func} {p u : Tmp} {ty : TypeId} (h : fn.results = #[.cell p ty, .tmp u]) (tmps : Array Value) {w w0 w1 : World} {L : List Ent} {g n : Nat} {z cs : Array Value} {T0 : TypeId} {v : Value}
  (hp : tmps.getD p undef = .pointer (some ⟨g, 0, none⟩)) (hv : tmps.getD u undef = v) (ha : RowT ty n z) (hm : Hid (MV w0 w1 L w)) (hin : (g, T0, cs) ∈ L) (hl : Hid (cs.size = n)) :
  (results fn tmps).run Tryz.prog w = .ok (.tuple #[.agg cs, v]) w := by
 rw [results_cell_tmp h, hp, hv]
 simp only [asAddr, Sem.run_pure, Result.andThen_ok, run_load_blk ha (hm.out.get hin) hl.out]
theorem q7f {xs ys : List Int} {f n : Nat} (h : Hid ((xs.drop f).take n = ys) := by with_reducible assumption) : Hid ((xs.drop f).take n = ys) := h
theorem velOf {xs : List Int} {k : Nat} {v : Int} (h : Hid (k < xs.length ∧ xs.getD k 0 = v) := by with_reducible assumption) : Hid (k < xs.length ∧ xs.getD k 0 = v) := h
theorem vltOf {k n : Nat} (h : Hid (k < n) := by with_reducible assumption) : Hid (k < n) := h
def putAt (cs : Array Value) : Nat → List Value → Array Value
 | _, [] => cs
 | o, v :: r => putAt (cs.setIfInBounds o v) (o + 1) r
theorem putAt_mid : ∀ (new old pre post : List Value), old.length = new.length → putAt (pre ++ (old ++ post)).toArray pre.length new = (pre ++ (new ++ post)).toArray
 | [], old, pre, post, h => by
  obtain rfl : old = [] := List.length_eq_zero_iff.1 h
  rfl
 | v :: r, [], pre, post, h => by cases h
 | v :: r, x :: old, pre, post, h => by
  have h2 : old.length = r.length := by simpa using h
  have ih := putAt_mid r old (pre ++ [v]) post h2
  rw [List.length_append, List.length_singleton, List.append_assoc, List.append_assoc] at ih
  rw [putAt]
  refine Eq.trans (congrArg (fun c => putAt c (pre.length + 1) r) ?_) ih
  rw [List.setIfInBounds_toArray]
  refine congrArg List.toArray ?_
  rw [List.set_append_right _ _ (Nat.le_refl _), Nat.sub_self]
  rfl
theorem set_again {L : List Ent} {i : Nat} {g : Nat} {T : TypeId} (c1 c2 : Array Value) : (L.set i (g, T, c1)).set i (g, T, c2) = L.set i (g, T, c2) := List.set_set ..
theorem MV.puts {w0 w1 : World} {g : Nat} {T : TypeId} : ∀ (vs : List Value) (o : Nat) {w : World} {L : List Ent} {i : Nat} {cs : Array Value}, MV w0 w1 L w → L[i]? = some (g, T, cs) → MV w0 w1 (L.set i (g, T, putAt cs o vs)) (w.setCells g o vs)
 | [], o, w, L, i, cs, h, hi => by
  have e : L.set i (g, T, putAt cs o []) = L := by
   obtain ⟨hl, he⟩ := List.getElem?_eq_some_iff.1 hi
   rw [putAt, ← he]
   exact List.set_getElem_self hl
  rw [e, World.setCells]
  exact h
 | v :: r, o, w, L, i, cs, h, hi => by
  have h1 := h.put i hi o v
  have hi2 : (L.set i (g, T, cs.setIfInBounds o v))[i]? = some (g, T, cs.setIfInBounds o v) := by
   rw [List.getElem?_set, if_pos rfl, if_pos (List.getElem?_eq_some_iff.1 hi).1]
  have h2 := MV.puts r (o + 1) h1 hi2
  rw [set_again] at h2
  rw [World.setCells, putAt]
  exact h2
theorem there_blk {w : World} {g o n : Nat} {T : TypeId} {cs : Array Value} (h : Blk w g T cs) (hn : o + n ≤ cs.size) : w.there g o n := fun j hj => by
 refine ⟨?_, h.frozen _⟩
 rw [h.cell, Array.getElem?_eq_getElem (by omega)]
 rfl
theorem run_store_part {w : World} {g o n : Nat} {T T0 : TypeId} {z cs ds : Array Value} (ha : RowT T n z) (h : Blk w g T0 cs) (hl : o + n ≤ cs.size) (hl' : ds.size = n) (h1 : ds.all (·.oneCell') = true) : (storeVar T ⟨g, o, none⟩ (.agg ds)).run Tryz.prog w = .ok () (w.setCells g o ds.toList) :=
 run_storeVar_mid w g o T ds (there_blk h (by rw [hl']; exact hl)) (by rw [ha.size, hl']) h1
theorem run_load_partC {w : World} {g o n : Nat} {T T0 : TypeId} {z cs : Array Value} {ds : List Value} (ha : RowT T n z) (h : Blk w g T0 cs) (hy : ∀ j v, ds[j]? = some v → cs[o + j]? = some v) (hl : ds.length = n) : (loadVar T ⟨g, o, none⟩).run Tryz.prog w = .ok (.agg ds.toArray) w := by
 obtain ⟨d, h1, h2⟩ := ha.1
 exact run_loadVar_mid w g o T ds d (fun j v hv => by rw [h.cell]; exact hy j v hv) h1 (by cases d <;> first | rfl | cases h2) (by rw [ha.size, hl])
theorem run_load_1 {T : TypeId} (hg : ∀ w, (isAgg T).run Tryz.prog w = .ok false w) {w : World} {ad : Addr} {v : Value} (hc : w.cell? ad = some v) : (loadVar T ad).run Tryz.prog w = .ok v w := by
 simp only [loadVar, hg, Sem.run_bind, Result.andThen_ok, run_load, hc, Bool.false_eq_true, if_false]
theorem run_store_1 {T : TypeId} (hs : ∀ w, (sizeOf T).run Tryz.prog w = .ok 1 w) {w : World} {ad : Addr} {old v : Value} (hc : w.cell? ad = some old) (hf : w.frozen? ad = false) (h1 : v.oneCell' = true) (hv : v.cells = #[v]) : (storeVar T ad v).run Tryz.prog w = .ok () (w.setCell ad v) := by
 unfold storeVar
 simp only [hv]
 simp [storeCells, go_sem, run_store, h1, hc, hf, hs]
section
variable {ops : Array Oper} {rest : List Oper} {o : Oper} {a : Act} {w w0 w1 : World} {Q : Exit → Act → World → Prop} {L : List Ent}
theorem wv_loadP (hgd : Region.wanted o (yielded ops a.tmps) = true) (T : TypeId) (x : Operand) (ho : o.op = .load T x) {g k n : Nat} (hx : a.eval x = .pointer (some ⟨g, k, none⟩)) {z : Array Value} (ha : RowT T n z) (hm : Hid (MV w0 w1 L w)) {T0 : TypeId} {cs : Array Value} {ds : List Value}
  (hin : (g, T0, cs) ∈ L) (hy : ∀ j v, ds[j]? = some v → cs[k + j]? = some v) (hl : ds.length = n) (h : wpList Tryz.prog ops Q rest (a.put o.dst (.agg ds.toArray)) w) : wpList Tryz.prog ops Q (o :: rest) a w :=
 wl_step hgd fun K hK => by
  have := hK _ _ h
  unfold Oper.wp execOp
  simp only [ho, hx, Instr.loadAt, Instr.sureAddr, Sem.run_bind, Sem.run_pure, Result.andThen_ok, run_load_partC ha (hm.out.get hin) hy hl]
  exact this
theorem wv_storeP (hgd : Region.wanted o (yielded ops a.tmps) = true) (T : TypeId) (x y : Operand) (ho : o.op = .store T x y) {g k n : Nat} (hx : a.eval x = .pointer (some ⟨g, k, none⟩)) {ds : Array Value} (hy : a.eval y = .agg ds) {z : Array Value} (ha : RowT T n z) (hm : Hid (MV w0 w1 L w)) {i : Nat} {T0 : TypeId} {cs cs' : Array Value}
  (hi : VNth L i (g, T0, cs)) (hb : k + n ≤ cs.size) (hl' : ds.size = n) (h1 : ds.all (·.oneCell') = true) (hp : putAt cs k ds.toList = cs') (h : ∀ w', Hid (MV w0 w1 (L.set i (g, T0, cs')) w') → wpList Tryz.prog ops Q rest (a.put o.dst undef) w') : wpList Tryz.prog ops Q (o :: rest) a w :=
 wl_step hgd fun K hK => by
  have h2 := hm.out.puts ds.toList k hi
  rw [hp] at h2
  have := hK _ _ (h _ (Lib.hid h2))
  unfold Oper.wp execOp
  simp only [ho, hx, hy, Instr.storeAt, Instr.sureAddr, Sem.run_bind, Sem.run_pure, Result.andThen_ok, run_store_part ha (hm.out.get (List.mem_of_getElem? hi)) hb hl' h1]
  exact this
theorem wv_cell1 (hgd : Region.wanted o (yielded ops a.tmps) = true) (T : TypeId) (x : Operand) (ho : o.op = .load T x) {g k : Nat} (hx : a.eval x = .pointer (some ⟨g, k, none⟩)) (hg : ∀ w, (isAgg T).run Tryz.prog w = .ok false w) (hm : Hid (MV w0 w1 L w)) {T0 : TypeId} {cs : Array Value} {v : Value}
  (hin : (g, T0, cs) ∈ L) (hy : cs[k]? = some v) (h : wpList Tryz.prog ops Q rest (a.put o.dst v) w) : wpList Tryz.prog ops Q (o :: rest) a w :=
 wl_step hgd fun K hK => by
  have := hK _ _ h
  unfold Oper.wp execOp
  simp only [ho, hx, Instr.loadAt, Instr.sureAddr, Sem.run_bind, Sem.run_pure, Result.andThen_ok, run_load_1 hg (hm.out.cell hin hy)]
  exact this
theorem wv_put1 (hgd : Region.wanted o (yielded ops a.tmps) = true) (T : TypeId) (x y : Operand) (ho : o.op = .store T x y) {g k : Nat} (hx : a.eval x = .pointer (some ⟨g, k, none⟩)) {v : Value} (hy : a.eval y = v) (hs : ∀ w, (sizeOf T).run Tryz.prog w = .ok 1 w) (hm : Hid (MV w0 w1 L w)) {i : Nat} {T0 : TypeId} {cs cs' : Array Value}
  (hi : VNth L i (g, T0, cs)) (hb : k < cs.size) (h1 : v.oneCell' = true) (hv : v.cells = #[v]) (hp : cs.setIfInBounds k v = cs') (h : ∀ w', Hid (MV w0 w1 (L.set i (g, T0, cs')) w') → wpList Tryz.prog ops Q rest (a.put o.dst undef) w') : wpList Tryz.prog ops Q (o :: rest) a w :=
 wl_step hgd fun K hK => by
  have hbk := hm.out.get (List.mem_of_getElem? hi)
  have h2 := hm.out.put i hi k v
  rw [hp] at h2
  have := hK _ _ (h _ (Lib.hid h2))
  have hc : w.cell? ⟨g, k, none⟩ = some cs[k] := by rw [hbk.cell, Array.getElem?_eq_getElem hb]
  unfold Oper.wp execOp
  simp only [ho, hx, hy, Instr.storeAt, Instr.sureAddr, Sem.run_bind, Sem.run_pure, Result.andThen_ok, run_store_1 hs hc (hbk.frozen k) h1 hv]
  exact this
end
open Yr (nearN nearB chkB Fr nearN_succ chkB_iff)
theorem arrFr : Arr 57 23 := by
 have h : (Tryz.prog.underlying 57).any TypeDesc.isRow = true := by kernel_rfl
 refine ⟨?_, by kernel_rfl⟩
 cases hq : Tryz.prog.underlying 57 with
 | none => rw [hq] at h; cases h
 | some d => exact ⟨d, rfl, by rw [hq] at h; exact h⟩
def frL (K : Int) (l q : List Int) : List Int := K :: (l ++ q)
structure FrS (F : List Int) (K : Int) (l q : List Int) : Prop where
 len : F.length = 23
 ll : l.length = 6
 lq : q.length = 16
 k0 : F.getD 0 0 = K
 lev : (F.drop 1).take 6 = l
 num : (F.drop 7).take 16 = q
theorem frS_of (F : List Int) (h : F.length = 23) : FrS F (F.getD 0 0) ((F.drop 1).take 6) ((F.drop 7).take 16) :=
 ⟨h, by rw [List.length_take, List.length_drop, h]; rfl, by rw [List.length_take, List.length_drop, h]; rfl, rfl, rfl, rfl⟩
section
variable {w0 w : World} {L : List (Nat × TypeId × List Int)} {g n o : Nat} {T T' : TypeId} {xs ys : List Int}
theorem sub_get (hy : (xs.drop o).take n = ys) {j : Nat} {x : Int} (hx : ys[j]? = some x) : xs[o + j]? = some x := by
 rw [← hy, List.getElem?_take] at hx
 split at hx
 ·rwa [List.getElem?_drop] at hx
 ·cases hx
theorem run_load_sub (ha : Arr T' n) (hm : Mem w0 L w) (hin : (g, T, xs) ∈ L) (hy : (xs.drop o).take n = ys) (hl : ys.length = n) : (loadVar T' ⟨g, o, none⟩).run Tryz.prog w = .ok (.agg (icells ys)) w := by
 obtain ⟨d, h1, h2⟩ := ha.1
 refine run_loadVar_mid w g o T' (ys.map fun x => Value.int .i64 x) d (fun j v hv => ?_) h1 h2 (by rw [ha.size, List.length_map, hl])
 rw [List.getElem?_map] at hv
 cases hx : ys[j]? with
 | none => rw [hx] at hv; cases hv
 | some x =>
  rw [hx] at hv
  injection hv with hv
  subst hv
  have h3 := sub_get hy hx
  have h4 := (List.getElem?_eq_some_iff.1 h3).1
  have h5 := hm.cell hin (k := o + j) h4
  rw [h5, List.getD_eq_getElem?_getD, h3]
  rfl
end
section
variable {ops : Array Oper} {rest : List Oper} {o : Oper} {a : Act} {w w0 : World} {Q : Exit → Act → World → Prop} {L : List (Nat × TypeId × List Int)}
theorem wl_loadS (hgd : Region.wanted o (yielded ops a.tmps) = true) (T' : TypeId) (x : Operand) (ho : o.op = .load T' x) {g f n : Nat} (hx : a.eval x = .pointer (some ⟨g, f, none⟩)) (ha : Arr T' n) {T : TypeId} {xs ys : List Int} (hm : Hid (Mem w0 L w))
  (hin : (g, T, xs) ∈ L) (hy : Hid ((xs.drop f).take n = ys)) (hl : Hid (ys.length = n)) (h : wpList Tryz.prog ops Q rest (a.put o.dst (.agg (icells ys))) w) : wpList Tryz.prog ops Q (o :: rest) a w :=
 wl_step hgd fun K hK => by
  have := hK _ _ h
  unfold Oper.wp execOp
  simp only [ho, hx, Instr.loadAt, Instr.sureAddr, Sem.run_bind, Sem.run_pure, Result.andThen_ok, run_load_sub ha hm.out hin hy.out hl.out]
  exact this
theorem q8w (hgd : Region.wanted o (yielded ops a.tmps) = false) (h : wpList Tryz.prog ops Q rest (a.put o.dst undef) w) : wpList Tryz.prog ops Q (o :: rest) a w :=
 wpList_step fun K hK => by rw [if_neg (by rw [hgd]; exact Bool.false_ne_true)]; exact hK _ _ h
theorem wl_cellF (hgd : Region.wanted o (yielded ops a.tmps) = true) (x : Operand) (ho : o.op = .load 3 x) {g k : Nat}
  (hx : a.eval x = .pointer (some ⟨g, k, none⟩)) (hm : Hid (Mem w0 L w)) {T : TypeId} {xs : List Int} (hin : (g, T, xs) ∈ L) {v : Int} (hv : Hid (k < xs.length ∧ xs.getD k 0 = v))
  (h : wpList Tryz.prog ops Q rest (a.put o.dst (.int .i64 v)) w) : wpList Tryz.prog ops Q (o :: rest) a w :=
 wl_step hgd fun K hK => by
  have := hK _ _ h
  have hg : (isAgg 3).run Tryz.prog w = .ok false w := by kernel_rfl
  have hc := hm.out.cell hin hv.out.1
  rw [hv.out.2] at hc
  unfold Oper.wp execOp
  simp only [ho, hx, Instr.loadAt, Instr.sureAddr, Sem.run_bind, Sem.run_pure, Result.andThen_ok, loadVar, hg, run_load, hc, Bool.false_eq_true, if_false]
  exact this
end
theorem subF {xs ys : List Int} {f n : Nat} (h : Hid ((xs.drop f).take n = ys) := by with_reducible assumption) : Hid ((xs.drop f).take n = ys) := h
theorem celF {xs : List Int} {k : Nat} {v : Int} (h : Hid (k < xs.length ∧ xs.getD k 0 = v) := by with_reducible assumption) : Hid (k < xs.length ∧ xs.getD k 0 = v) := h
theorem near_mono {l p : List Int} : ∀ {k n : Nat}, k ≤ n → nearN l p k = false → nearN l p n = false
 | k, 0, h, h0 => by rw [Nat.le_zero.1 h] at h0; exact h0
 | k, n + 1, h, h0 => by
  by_cases e : k = n + 1
  ·rw [← e]; exact h0
  ·rw [nearN_succ, near_mono (k := k) (n := n) (by omega) h0]; rfl
open Cd (Pr Tb RdT tbs prs)
open Yr (chkB symsP wrB inB kindR rdR)
def errC (K : Int) (l q p : List Int) : Int := if chkB K l q p = true then 0 else 1
def WrOut (w : World) (K : Int) (l q p : List Int) (e : Ending) (w' : World) : Prop :=
 if chkB K l q p = true then ∃ A n c, e = .returned (.tuple #[.slice A n c, .int .i64 0]) ∧ Rd w' A n (wrB K l q p) ∧ Below w.heap.size w w'
 else e = .returned (.tuple #[.slice none 0 0, .int .i64 1]) ∧ Below w.heap.size w w'
def kdV (bs : List Nat) : Value := if 1 ≤ bs.length ∧ bs.length ≤ 40 then .tuple #[.int .i64 (kindR (inB bs)), .int .i64 0] else .tuple #[.int .i64 0, .int .i64 21]
theorem push_listF (l : List Int) (r : ByteArray) : (l.foldl (fun r n => r.push (UInt8.ofNat n.toNat)) r).data.toList = r.data.toList ++ l.map (fun n => UInt8.ofNat n.toNat) := by
 induction l generalizing r with
 | nil => simp
 | cons x l ih =>
  rw [List.foldl_cons, ih]
  have : (r.push (UInt8.ofNat x.toNat)).data = r.data.push (UInt8.ofNat x.toNat) := rfl
  rw [this, Array.toList_push]
  simp
theorem strOf_injF (a b : List Nat) (ha : ∀ x ∈ a, x < 256) (hb : ∀ x ∈ b, x < 256) (h : strOf a = strOf b) : a = b := by
 have h1 := congrArg (fun s : ByteArray => s.data.toList.map UInt8.toNat) h
 unfold strOf at h1
 simp only [push_listF, List.map_append, List.map_map] at h1
 have key : ∀ l : List Nat, (∀ x ∈ l, x < 256) → l.map (UInt8.toNat ∘ (fun n : Int => UInt8.ofNat n.toNat) ∘ fun n : Nat => (n : Int)) = l := by
  intro l hl
  refine (List.map_congr_left fun x hx => ?_).trans (List.map_id l)
  have := hl x hx
  simp; omega
 have e : ∀ l : List Nat, List.map (UInt8.toNat ∘ (fun n : Int => UInt8.ofNat n.toNat)) (List.map (fun n : Nat => (n : Int)) l) = l.map (UInt8.toNat ∘ (fun n : Int => UInt8.ofNat n.toNat) ∘ fun n : Nat => (n : Int)) := fun l => by rw [List.map_map]; rfl
 have h2 := List.append_cancel_left h1
 simp only [← List.map_map] at h2
 have k1 := key a ha
 have k2 := key b hb
 simp only [← List.map_map] at k1 k2
 rw [← k1, ← k2]
 exact h2
theorem str_beqF (a b : List Nat) (ha : ∀ x ∈ a, x < 256) (hb : ∀ x ∈ b, x < 256) : ((strOf a).toList == (strOf b).toList) = decide (a = b) := by
 by_cases h : a = b
 ·subst h
  simp
 ·rw [decide_eq_false h]
  refine beq_eq_false_iff_ne.2 fun e => h (strOf_injF a b ha hb ?_)
  rw [ByteArray.toList_eq, ByteArray.toList_eq] at e
  exact ByteArray.ext (Array.toList_inj.1 e)
def rdV (bs : List Nat) (p : List Int) : Value :=
 if chkL p = true then match rdR bs p with
  | some (K, l, q) => .tuple #[.agg (icells (frL K l q)), .int .i64 0]
  | none => .tuple #[.agg (icells (zr 23)), .int .i64 21]
 else .tuple #[.agg (icells (zr 23)), .int .i64 1]
theorem frL_len {K : Int} {l q : List Int} (ll : l.length = 6) (lq : q.length = 16) : (frL K l q).length = 23 := by
 unfold frL; rw [List.length_cons, List.length_append, ll, lq]
theorem frS_mk {K : Int} {l q : List Int} (ll : l.length = 6) (lq : q.length = 16) : FrS (frL K l q) K l q := by
 refine ⟨frL_len ll lq, ll, lq, rfl, ?_, ?_⟩
 ·unfold frL; rw [List.drop_succ_cons, List.drop_zero, ← ll, List.take_left]
 ·unfold frL; rw [show 7 = 6 + 1 by rfl, List.drop_succ_cons, ← ll, List.drop_left, ← lq, List.take_length]
theorem nums_len (q ms : List Int) : ∀ k, (Yr.numsP q ms k).length ≤ k
 | 0 => Nat.le_refl _
 | k + 1 => by
  have := nums_len q ms k
  rw [Yr.numsP_succ, List.length_append]
  split
  ·rw [List.length_singleton]; omega
  ·rw [List.length_nil]; omega
theorem syms_len (K : Int) (l q p : List Int) : (symsP K l q p).length ≤ 40 := by
 unfold symsP Yr.headP
 have := nums_len q (msL l) 16
 rw [List.length_append, List.length_cons, List.length_map, List.length_range]
 split
 ·rw [List.length_nil]; omega
 ·omega
theorem prs_is {ts : List Tb} {ps : List Pr} (h : tbs ts = ps.map (·.2)) : prs (ps.map (·.1)) ts = ps := by
 unfold prs
 unfold tbs at h
 rw [h]
 induction ps generalizing ts with
 | nil => rfl
 | cons x ps ih =>
  cases ts with
  | nil => cases h
  | cons t ts =>
   rw [List.map_cons, List.map_cons] at h
   injection h with h1 h2
   rw [List.map_cons, List.map_cons, List.zip_cons_cons, ih h2]
theorem run_eqL (d : Nat) (T : TypeId) {n : Nat} (hT : Tryz.prog.underlying T = some (.array n 3)) (xs ys : List Int) (hl : xs.length = n) (hl' : ys.length = n) (w : World) :
  (Op.equalIn (d + 2) T (.agg (icells xs)) (.agg (icells ys))).run Tryz.prog w = .ok (decide (xs = ys)) w := by
 have hc : Tryz.prog.cellsOf 3 = 1 := by kernel_rfl
 obtain ⟨i, hi⟩ : ∃ i, Tryz.prog.info? 3 = some i := Option.isSome_iff_exists.1 (by kernel_rfl)
 rw [run_equalIn_array w (d + 1) (icells xs) (icells ys) hT hi, hc, run_items_any d xs ys w _ fun j hj => ⟨by rw [hl]; exact List.mem_range.1 hj, by rw [hl']; exact List.mem_range.1 hj⟩]
 refine congrArg (fun b => Result.ok b w) ?_
 by_cases h : xs = ys
 ·subst h
  rw [decide_eq_true rfl, List.all_eq_true]
  exact fun _ _ => beq_self_eq_true _
 ·rw [decide_eq_false h, Bool.eq_false_iff]
  intro hall
  refine h (getD_ext (by rw [hl, hl']) fun k hk => ?_)
  rw [List.all_eq_true] at hall
  simpa using hall k (List.mem_range.2 (by omega))
def icl (xs : List Int) : List Value := xs.map fun x => Value.int .i64 x
theorem icl_length (xs : List Int) : (icl xs).length = xs.length := List.length_map _
def endL (s : Sy) : List Value := [.bool s.live, .bool s.hush, .int .u32 s.seed]
def syC (s : Sy) : Array Value := (icl s.t ++ (icl s.l ++ endL s)).toArray
theorem syC_size {s : Sy} (h : SyW s) : (syC s).size = 25 := by
 unfold syC endL
 rw [List.size_toArray, List.length_append, List.length_append, icl_length, icl_length, h.lt, h.ll]
 rfl
theorem syC_one (s : Sy) : (syC s).all (·.oneCell') = true := by
 unfold syC endL icl
 simp [Value.oneCell']
theorem syC_t (s : Sy) : ∀ j v, (icl s.t)[j]? = some v → (syC s)[0 + j]? = some v := fun j v h => by
 unfold syC
 rw [Nat.zero_add, List.getElem?_toArray, List.getElem?_append_left (List.getElem?_eq_some_iff.1 h).1]
 exact h
theorem syC_l {s : Sy} (hs : SyW s) : ∀ j v, (icl s.l)[j]? = some v → (syC s)[16 + j]? = some v := fun j v h => by
 unfold syC
 rw [List.getElem?_toArray, List.getElem?_append_right (by rw [icl_length, hs.lt]; omega), icl_length, hs.lt, Nat.add_sub_cancel_left, List.getElem?_append_left (List.getElem?_eq_some_iff.1 h).1]
 exact h
theorem syC_e {s : Sy} (hs : SyW s) {k : Nat} {v : Value} (h : (endL s)[k]? = some v) : (syC s)[22 + k]? = some v := by
 unfold syC
 rw [List.getElem?_toArray, List.getElem?_append_right (by rw [icl_length, hs.lt]; omega), icl_length, hs.lt, List.getElem?_append_right (by rw [icl_length, hs.ll]; omega), icl_length, hs.ll, show 22 + k - 16 - 6 = k by omega]
 exact h
theorem put_t {s : Sy} {t : List Int} (hs : SyW s) (ht : t.length = 16) : putAt (syC s) 0 (icl t) = syC { s with t := t } :=
 putAt_mid (icl t) (icl s.t) [] (icl s.l ++ endL s) (by rw [icl_length, icl_length, hs.lt, ht])
theorem put_l {s : Sy} {l : List Int} (hs : SyW s) (hl : l.length = 6) : putAt (syC s) 16 (icl l) = syC { s with l := l } := by
 have h := putAt_mid (icl l) (icl s.l) (icl s.t) (endL s) (by rw [icl_length, icl_length, hs.ll, hl])
 rw [icl_length, hs.lt] at h
 exact h
theorem set_end {s : Sy} (hs : SyW s) (k : Nat) (v : Value) : (syC s).setIfInBounds (22 + k) v = (icl s.t ++ (icl s.l ++ (endL s).set k v)).toArray := by
 unfold syC
 rw [List.setIfInBounds_toArray, List.set_append_right _ _ (by rw [icl_length, hs.lt]; omega), icl_length, hs.lt, List.set_append_right _ _ (by rw [icl_length, hs.ll]; omega), icl_length, hs.ll, show 22 + k - 16 - 6 = k by omega]
theorem put_live {s : Sy} (hs : SyW s) (b : Bool) : (syC s).setIfInBounds 22 (.bool b) = syC { s with live := b } := set_end hs 0 _
theorem put_hush {s : Sy} (hs : SyW s) (b : Bool) : (syC s).setIfInBounds 23 (.bool b) = syC { s with hush := b } := set_end hs 1 _
theorem put_seed {s : Sy} (hs : SyW s) (z : Int) : (syC s).setIfInBounds 24 (.int .u32 z) = syC { s with seed := z } := set_end hs 2 _
theorem rowSyn : RowT 32 25 (syC Sy.z) := rowT_of (by kernel_rfl) (by kernel_rfl)
theorem syW_z : SyW Sy.z := ⟨zr_length 16, zr_length 6, by decide⟩
theorem syW_one : SyW Sy.one := ⟨zr_length 16, zr_length 6, by decide⟩
theorem eq_five {d : Nat} {xs ys : Array Value} {t1 t2 t3 t4 t5 : TypeId} {o1 o2 o3 o4 o5 : Nat} {fs : List Field} {w : World} {x1 x2 x3 x4 x5 y1 y2 y3 y4 y5 : Value} {b1 b2 b3 b4 b5 : Bool} (h : fs.map (fun f => (f.name, f.type, f.offset)) = [("T", t1, o1), ("L", t2, o2), ("Live", t3, o3), ("Hush", t4, o4), ("Seed", t5, o5)])
  (p1 : (part t1 xs o1).run Tryz.prog w = .ok x1 w) (q1 : (part t1 ys o1).run Tryz.prog w = .ok y1 w) (r1 : (Op.equalIn d t1 x1 y1).run Tryz.prog w = .ok b1 w)
  (p2 : (part t2 xs o2).run Tryz.prog w = .ok x2 w) (q2 : (part t2 ys o2).run Tryz.prog w = .ok y2 w) (r2 : (Op.equalIn d t2 x2 y2).run Tryz.prog w = .ok b2 w)
  (p3 : (part t3 xs o3).run Tryz.prog w = .ok x3 w) (q3 : (part t3 ys o3).run Tryz.prog w = .ok y3 w) (r3 : (Op.equalIn d t3 x3 y3).run Tryz.prog w = .ok b3 w)
  (p4 : (part t4 xs o4).run Tryz.prog w = .ok x4 w) (q4 : (part t4 ys o4).run Tryz.prog w = .ok y4 w) (r4 : (Op.equalIn d t4 x4 y4).run Tryz.prog w = .ok b4 w)
  (p5 : (part t5 xs o5).run Tryz.prog w = .ok x5 w) (q5 : (part t5 ys o5).run Tryz.prog w = .ok y5 w) (r5 : (Op.equalIn d t5 x5 y5).run Tryz.prog w = .ok b5 w) :
  (Op.eqFields d xs ys fs).run Tryz.prog w = .ok (b1 && (b2 && (b3 && (b4 && b5)))) w := by
 obtain ⟨f1, s1, rfl, e1, h⟩ := List.map_eq_cons_iff.1 h
 obtain ⟨f2, s2, rfl, e2, h⟩ := List.map_eq_cons_iff.1 h
 obtain ⟨f3, s3, rfl, e3, h⟩ := List.map_eq_cons_iff.1 h
 obtain ⟨f4, s4, rfl, e4, h⟩ := List.map_eq_cons_iff.1 h
 obtain ⟨f5, s5, rfl, e5, h⟩ := List.map_eq_cons_iff.1 h
 obtain rfl := List.map_eq_nil_iff.1 h
 simp only [Prod.mk.injEq] at e1 e2 e3 e4 e5
 obtain ⟨a1, rfl, rfl⟩ := e1
 obtain ⟨a2, rfl, rfl⟩ := e2
 obtain ⟨a3, rfl, rfl⟩ := e3
 obtain ⟨a4, rfl, rfl⟩ := e4
 obtain ⟨a5, rfl, rfl⟩ := e5
 cases b1 with
 | false => simp [Op.eqFields, a1, Sem.run_bind, p1, q1, r1]
 | true =>
  cases b2 with
  | false => simp [Op.eqFields, a1, a2, Sem.run_bind, p1, q1, r1, p2, q2, r2]
  | true =>
   cases b3 with
   | false => simp [Op.eqFields, a1, a2, a3, Sem.run_bind, p1, q1, r1, p2, q2, r2, p3, q3, r3]
   | true =>
    cases b4 with
    | false => simp [Op.eqFields, a1, a2, a3, a4, Sem.run_bind, p1, q1, r1, p2, q2, r2, p3, q3, r3, p4, q4, r4]
    | true => cases b5 <;> simp [Op.eqFields, a1, a2, a3, a4, a5, Sem.run_bind, p1, q1, r1, p2, q2, r2, p3, q3, r3, p4, q4, r4, p5, q5, r5]
end Go.Proofs.YtkdbhndegkldcaaGreatDoor.Lp
