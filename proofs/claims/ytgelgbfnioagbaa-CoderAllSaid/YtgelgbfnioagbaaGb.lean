/-
  Own texts, laid together: Gb.
-/
import Derived.Test.YtgelgbfnioagbaaGa
import Derived.Deep.RegionHeld3
import Derived.Deep.DeepCutAuto
/- Gb -/
namespace Go.Proofs.Ytgelgbfnioagbaa.Cd
open Go.RowKit
theorem spanV_some (xs : List Int) (s : Int) : ∃ a b e : Int, Fq.spanV xs s = Fq.spanT a b e ∧ (Fq.symB xs s = true → e = 0 ∧ a = xs.getD s.toNat 0 ∧ b = xs.getD (s.toNat + 1) 0) ∧ (Fq.symB xs s = false → e = 1) := by
  unfold Fq.spanV
  cases h : Fq.symB xs s with
  | true => exact ⟨_, _, _, rfl, fun _ => ⟨rfl, rfl, rfl⟩, (fun h => by cases h)⟩
  | false => exact ⟨_, _, _, rfl, (fun h => by cases h), fun _ => rfl⟩
/-- what narrow leaves -/
def NrP (w : World) (p lo hi : Nat) (e : Ending) (w' : World) : Prop :=
  e = .returned (.int .i64 0) ∧ ∃ w1, Below w.heap.size w w1 ∧ w' = (w1.setCell ⟨p, 1, none⟩ (.int .u32 (hi : Int))).setCell ⟨p, 0, none⟩ (.int .u32 (lo : Int))
/-- inside of it -/
def NrS (w : World) (bf : Nat) (C : Option Addr) (m d : Nat) (xs : List Int) (u : World) : Prop := Blk u bf 30 #[.slice C m d] ∧ Fq.RdI u C m xs ∧ Below w.heap.size w u
theorem NrS.next {w : World} {bf : Nat} {C : Option Addr} {m d : Nat} {xs : List Int} {u u' : World} (h : NrS w bf C m d xs u) (hb : Below u.heap.size u u') : NrS w bf C m d xs u' :=
  ⟨h.1.below hb h.1.lt, h.2.1.below hb, h.2.2.trans (hb.mono h.2.2.size)⟩
theorem NrS.drew {w : World} {bf : Nat} {C : Option Addr} {m d : Nat} {xs : List Int} {u : World} (h : NrS w bf C m d xs u) : NrS w bf C m d xs u.drew := ⟨h.1, h.2.1, Below.drew h.2.2⟩
theorem nrs_start {w : World} {C : Option Addr} {m d : Nat} {xs : List Int} (h : Fq.RdI w C m xs) : NrS w w.heap.size C m d xs (w.alloc (.cells #[.slice C m d] 30)) :=
  ⟨Blk.new w _ _, h.alloc _, (Below.refl w.heap.size w).alloc (Nat.le_refl _) _⟩
/-- a symbol that may be: its numbers -/
def symP (xs : List Int) (s : Int) (a b T : Nat) : Prop := Fq.spanV xs s = Fq.spanT (a : Int) (b : Int) 0 ∧ Fq.okF xs = true ∧ Fq.totF true xs = (T : Int) ∧ Sp a b T
/-- two cells of a block, that may be written -/
def Two (w : World) (p low high : Nat) : Prop := w.cell? ⟨p, 0, none⟩ = some (.int .u32 (low : Int)) ∧ w.cell? ⟨p, 1, none⟩ = some (.int .u32 (high : Int)) ∧ w.frozen? ⟨p, 0, none⟩ = false ∧ w.frozen? ⟨p, 1, none⟩ = false
theorem Two.lt {w : World} {p low high : Nat} (h : Two w p low high) : p < w.heap.size := World.block_lt_of_cell? _ _ h.1
theorem Two.below {w u : World} {p low high : Nat} (h : Two w p low high) (hb : Below w.heap.size w u) : Two u p low high :=
  ⟨(hb.cell (p := ⟨p, 0, none⟩) h.lt).trans h.1, (hb.cell (p := ⟨p, 1, none⟩) h.lt).trans h.2.1, (hb.frozen (p := ⟨p, 0, none⟩) h.lt).trans h.2.2.1, (hb.frozen (p := ⟨p, 1, none⟩) h.lt).trans h.2.2.2⟩
theorem Two.drew {w : World} {p low high : Nat} (h : Two w p low high) : Two w.drew p low high := h
set_option maxRecDepth 100000 in
set_option maxHeartbeats 2000000 in
theorem narrow_ok (p low high a b T lo hi : Nat) (C : Option Addr) (m d : Nat) (xs : List Int) (s : Int) (w : World) (h1 : low ≤ high) (h2 : high < 4294967296) (hx : Hid (Fq.RdI w C m xs)) (hm : Hid (m ≤ maxLen)) (hsym : Hid (symP xs s a b T)) (h2c : Hid (Two w p low high))
    (hlo : Hid (lo = low + (high - low + 1) * a / T)) (hhi : Hid (hi = low + (high - low + 1) * b / T - 1)) (hb1 : Hid (1 ≤ (high - low + 1) * b / T)) (hlh : lo ≤ hi) (hhi2 : hi < 4294967296) :
    Calls Try.prog 66 #[.pointer (some ⟨p, 0, none⟩), .agg #[.slice C m d], .int .i64 s] w (NrP w p lo hi) := by
  obtain ⟨W, hW⟩ : ∃ W, W = high - low + 1 := ⟨_, rfl⟩
  have HWW := Lib.hid hW
  have W2 : W ≤ 4294967296 := by omega
  obtain ⟨S1, S2, S3⟩ := hsym.out.2.2.2
  have HLO := hlo.out
  have HHI := hhi.out
  have HB1 := hb1.out
  rw [← hW] at HLO HHI HB1
  obtain ⟨pa, hpa⟩ : ∃ pa, pa = W * a := ⟨_, rfl⟩
  obtain ⟨pb, hpb⟩ : ∃ pb, pb = W * b := ⟨_, rfl⟩
  have pa2 : pa ≤ 70368744177664 := by rw [hpa]; exact Nat.le_trans (Nat.mul_le_mul W2 (show a ≤ 16384 by omega)) (by omega)
  have pb2 : pb ≤ 70368744177664 := by rw [hpb]; exact Nat.le_trans (Nat.mul_le_mul W2 (show b ≤ 16384 by omega)) (by omega)
  have epa : (W : Int) * (a : Int) = (pa : Int) := by rw [hpa]; simp
  have epb : (W : Int) * (b : Int) = (pb : Int) := by rw [hpb]; simp
  obtain ⟨qa, hqa⟩ : ∃ qa, qa = pa / T := ⟨_, rfl⟩
  obtain ⟨qb, hqb⟩ : ∃ qb, qb = pb / T := ⟨_, rfl⟩
  have eqa : (pa : Int) / (T : Int) = (qa : Int) := by rw [hqa]; simp
  have eqb : (pb : Int) / (T : Int) = (qb : Int) := by rw [hqb]; simp
  rw [← hpa, ← hqa] at HLO
  rw [← hpb, ← hqb] at HHI HB1
  obtain ⟨qc, hqc⟩ : ∃ qc, qc + 1 = qb := ⟨qb - 1, by omega⟩
  have eqc : (qb : Int) - 1 = (qc : Int) := by omega
  have elo : (low : Int) + (qa : Int) = (lo : Int) := by omega
  have ehi : (low : Int) + (qc : Int) = (hi : Int) := by omega
  have qa3 : qa < 4294967296 := by omega
  have qc3 : qc < 4294967296 := by omega
  have qb3 : qb ≤ 4294967296 := by omega
  have T0 : ¬ (T : Int) = 0 := by omega
  have T0' : ((T : Int) == 0) = false := by simp; omega
  have T1 : T ≤ 16384 := S3
  have E1 := Lib.hid epa
  have E2 := Lib.hid epb
  have E3 := Lib.hid eqa
  have E4 := Lib.hid eqb
  have E5 := Lib.hid eqc
  have E6 := Lib.hid elo
  have E7 := Lib.hid ehi
  clear hW hpa hpb hqa hqb hqc HLO HHI HB1 epa epb eqa eqb eqc elo ehi
  have HS0 := Lib.hid (nrs_start (d := d) hx.out)
  go_enter Try.func66, Try.ntmps66
  go_wp2_with fail
  have H0 := Lib.hid (h2c.out.below (((Below.refl w.heap.size w).alloc (Nat.le_refl _) (.cells #[.slice C m d] 30))))
  obtain ⟨bf, hbf⟩ : ∃ bf, bf = w.heap.size := ⟨_, rfl⟩
  generalize w.alloc (.cells #[.slice C m d] 30) = w0 at HS0 H0 ⊢
  rw [← hbf] at HS0 ⊢
  have HBF := Lib.hid hbf
  clear hbf
  have hcon := Fq.span_any C m d xs s w0 (Lib.hid HS0.out.2.1) hm.out
  rw [hsym.out.1] at hcon
  refine hcon.mono ?_
  clear hcon
  rintro e w1 ⟨rfl, hb1⟩
  have HS1 := Lib.hid (HS0.out.next hb1)
  have H1 := Lib.hid (H0.out.below hb1)
  clear hb1 HS0 H0
  unfold Fq.spanT
  go_wp2_with fail
  obtain ⟨x1, x2, -, -⟩ := H1.out
  have x3 := Fq.blk0 HS1.out.1
  have v1 : IntKind.u64.wrap (T : Int) = (T : Int) := IntWalk.u64_in _ (by omega)
  have C1 := Lib.hid (show ∀ u, NrS w bf C m d xs u ∧ Two u p low high → Calls Try.prog 35 #[.agg #[.slice C m d]] u (fun e w' => e = .returned (.int .i64 (T : Int)) ∧ NrS w bf C m d xs w' ∧ Two w' p low high) from fun u h =>
    (Fq.total_any C m d xs true (T : Int) u (Lib.hid h.1.2.1) hm.out hsym.out.2.1 hsym.out.2.2.1).mono fun e w' ⟨h1, h2⟩ => ⟨h1, h.1.next h2, h.2.below h2⟩)
  have C2 := Lib.hid (show ∀ u, NrS w bf C m d xs u ∧ Two u p low high → Calls Try.prog 71 #[.agg #[.int .u32 (low : Int), .int .u32 (high : Int)]] u (fun e w' => e = .returned (.int .u64 (W : Int)) ∧ NrS w bf C m d xs w' ∧ Two w' p low high) from fun u h =>
    (size_any low high W u h1 h2 HWW).mono fun e w' ⟨h1, h2⟩ => ⟨h1, h.1.next h2, h.2.below h2⟩)
  go_region_held3 (fun w' => w'.cell? ⟨p, 0, none⟩ = some (.int .u32 (low : Int)) ∧ w'.cell? ⟨p, 1, none⟩ = some (.int .u32 (high : Int)) ∧ w'.cell? ⟨bf, 0, none⟩ = some (.slice C m d) ∧ NrS w bf C m d xs w' ∧ Two w' p low high) (first | exact ⟨hQ.2.1, hQ.2.2.1, Fq.blk0 hQ.1.1, hQ⟩ | exact ⟨x1, x2, x3, HS1.out, H1.out⟩ | exact ⟨x1, x2, x3, HS1.out.drew, H1.out.drew⟩) (first
    | (go_at_call 35; refine (C1.out _ (by first | exact hQ | exact ⟨HS1.out, H1.out⟩ | exact ⟨HS1.out.drew, H1.out.drew⟩)).mono ?_; rintro e w6 ⟨rfl, hQ⟩)
    | (go_at_call 71; refine (C2.out _ (by first | exact hQ | exact ⟨HS1.out, H1.out⟩ | exact ⟨HS1.out.drew, H1.out.drew⟩)).mono ?_; rintro e w6 ⟨rfl, hQ⟩))
  all_goals
    have HQ := Lib.hid hQ
    clear hQ x1 x2 x3 v1 C1 C2
    obtain ⟨y1, y2, y3, y4⟩ := HQ.out.2
    have e1 := E1.out
    have e2 := E2.out
    have e3 := E3.out
    have e4 := E4.out
    have e5 := E5.out
    have e6 := E6.out
    have e7 := E7.out
    go_wp2
    go_ret
    exact ⟨rfl, _, HQ.out.1.2.2, rfl⟩
theorem narrow_no (p : Nat) (C : Option Addr) (m d : Nat) (xs : List Int) (s : Int) (w : World) (hx : Hid (Fq.RdI w C m xs)) (hm : Hid (m ≤ maxLen)) (hsym : Hid (Fq.symB xs s = false)) :
    Calls Try.prog 66 #[.pointer (some ⟨p, 0, none⟩), .agg #[.slice C m d], .int .i64 s] w fun e w' => e = .returned (.int .i64 1) ∧ Below w.heap.size w w' := by
  have HS0 := Lib.hid (nrs_start (d := d) hx.out)
  go_enter Try.func66, Try.ntmps66
  go_wp2_with fail
  generalize w.alloc (.cells #[.slice C m d] 30) = w0 at HS0 ⊢
  have hcon := Fq.span_any C m d xs s w0 (Lib.hid HS0.out.2.1) hm.out
  obtain ⟨a, b, e, he, -, h1⟩ := spanV_some xs s
  obtain rfl := h1 hsym.out
  rw [he] at hcon
  refine hcon.mono ?_
  clear hcon he h1
  rintro e w1 ⟨rfl, hb1⟩
  have HS1 := Lib.hid (HS0.out.next hb1)
  clear hb1 HS0
  unfold Fq.spanT
  go_wp2
  go_ret
  exact ⟨rfl, HS1.out.2.2⟩
end Go.Proofs.Ytgelgbfnioagbaa.Cd
