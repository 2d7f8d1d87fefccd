/-
  Own texts, laid together: Gk.
-/
import Derived.Test.YtgelgbfnioagbaaGj
/- Gk -/
namespace Go.Proofs.Ytgelgbfnioagbaa.Cd
open Go.RowKit
theorem get_bad (A : Option Addr) (n c : Nat) (N a wd : Int) (bs : List Nat) (w : World) (hr : Hid (Rd w A n bs)) (hok : Hid (okB bs N = false)) :
    Calls Try.prog 75 #[.agg #[.slice A n c, .int .i64 N], .int .i64 a, .int .i64 wd] w fun e w' => e = .returned (.tuple #[.int .u64 0, .int .i64 1]) ∧ Below w.heap.size w w' := by
  have HW := Lib.hid ((Below.refl w.heap.size w).alloc (Nat.le_refl _) (.cells #[.slice A n c, .int .i64 N] 25))
  go_enter Try.func75, Try.ntmps75
  go_wp2_with fail
  generalize w.alloc (.cells #[.slice A n c, .int .i64 N] 25) = w0 at HW ⊢
  have hcon := check_any A n c N bs w0 (hr.out.below HW.out)
  rw [hok.out] at hcon
  refine hcon.mono ?_
  clear hcon
  rintro e w1 ⟨rfl, hb1⟩
  have HW1 := Lib.hid (HW.out.trans (hb1.mono HW.out.size))
  clear hb1
  go_wp2
  go_ret2
  exact ⟨rfl, HW1.out⟩
/-- a reader's cells -/
def rdC (d : De) (A : Option Addr) (n c : Nat) (N : Int) : Array Value := #[.int .u32 (d.low : Int), .int .u32 (d.high : Int), .int .u32 (d.code : Int), .slice A n c, .int .i64 N, .int .i64 (d.at_ : Int)]
def RdS (w : World) (p : Nat) (d : De) (A : Option Addr) (n c : Nat) (N : Int) : Prop := Blk w p 110 (rdC d A n c N)
theorem RdS.six {w : World} {p : Nat} {d : De} {A : Option Addr} {n c : Nat} {N : Int} (h : RdS w p d A n c N) : w.cell? ⟨p, 0, none⟩ = some (.int .u32 (d.low : Int)) ∧ w.cell? ⟨p, 1, none⟩ = some (.int .u32 (d.high : Int)) ∧ w.cell? ⟨p, 2, none⟩ = some (.int .u32 (d.code : Int)) ∧ w.cell? ⟨p, 3, none⟩ = some (.slice A n c) ∧ w.cell? ⟨p, 4, none⟩ = some (.int .i64 N) ∧ w.cell? ⟨p, 5, none⟩ = some (.int .i64 (d.at_ : Int)) := blk6 h
theorem val_first (l : List Bool) (th : Nat) (h : th = min l.length 32) : val l 32 = num (l.take th) * 2 ^ (32 - th) := by
  have key : ∀ k, val l (th + k) = num (l.take th) * 2 ^ k ∨ th < l.length := by
    intro k
    by_cases hlt : th < l.length
    · exact .inr hlt
    · left
      have e : th = l.length := by omega
      induction k with
      | zero =>
        have := val_pre l [] th (by omega)
        rw [List.append_nil] at this
        rw [Nat.add_zero, this]; simp
      | succ k ih =>
        rw [← Nat.add_assoc, val_succ, ih, bitF_of_ge (by omega), Nat.pow_succ]
        simp
        rw [Nat.mul_comm 2, Nat.mul_assoc]
  rcases Nat.lt_or_ge l.length 32 with h32 | h32
  · rcases key (32 - th) with h1 | h1
    · rwa [show th + (32 - th) = 32 by omega] at h1
    · omega
  · have e : th = 32 := by omega
    subst e
    have := val_pre l [] 32 h32
    rw [List.append_nil] at this
    rw [this]; simp
/-- the reader at first -/
def d0 (l : List Bool) : De := ⟨0, 4294967295, val l 32, 32⟩
def OpOk (w : World) (l : List Bool) (A : Option Addr) (n c : Nat) (N : Int) (e : Ending) (w' : World) : Prop :=
  ∃ p, e = .returned (.tuple #[.pointer (some ⟨p, 0, none⟩), .int .i64 0]) ∧ w.heap.size ≤ p ∧ RdS w' p (d0 l) A n c N ∧ Below w.heap.size w w'
def OpNo (w : World) (e : Ending) (w' : World) : Prop := e = .returned (.tuple #[.pointer none, .int .i64 1]) ∧ Below w.heap.size w w'
theorem open_no (A : Option Addr) (n c : Nat) (N : Int) (bs : List Nat) (w : World) (hr : Hid (Rd w A n bs)) (hok : Hid (okB bs N = false)) :
    Calls Try.prog 55 #[.agg #[.slice A n c, .int .i64 N]] w (OpNo w) := by
  have HW := Lib.hid ((Below.refl w.heap.size w).alloc (Nat.le_refl _) (.cells #[.slice A n c, .int .i64 N] 25))
  go_enter Try.func55, Try.ntmps55
  go_wp2_with fail
  generalize w.alloc (.cells #[.slice A n c, .int .i64 N] 25) = w0 at HW ⊢
  refine (get_bad A n c N _ _ bs w0 (Lib.hid (hr.out.below HW.out)) hok).mono ?_
  rintro e w1 ⟨rfl, hb1⟩
  have HW1 := Lib.hid (HW.out.trans (hb1.mono HW.out.size))
  clear hb1
  go_wp2
  go_ret2
  exact ⟨rfl, HW1.out⟩
theorem whole_lit (w : World) : Calls Try.prog 47 #[] w fun e w' => e = .returned (.agg #[.int .u32 0, .int .u32 4294967295]) ∧ Below w.heap.size w w' := whole_any w
theorem u64_small (x : Nat) (h : x < 18446744073709551616) : IntKind.u64.wrap (x : Int) = (x : Int) := IntWalk.u64_in _ (by omega)
theorem num_lt_pow (l : List Bool) (k : Nat) (h : l.length ≤ k) : num l < 2 ^ k := Nat.lt_of_lt_of_le (num_lt l) (Nat.pow_le_pow_right (by omega) h)
set_option maxRecDepth 100000 in
set_option maxHeartbeats 2000000 in
theorem open_ok (A : Option Addr) (n c : Nat) (N : Int) (l : List Bool) (w : World) (h : Hid (IsB w (.agg #[.slice A n c, .int .i64 N]) l)) :
    Calls Try.prog 55 #[.agg #[.slice A n c, .int .i64 N]] w (OpOk w l A n c N) := by
  obtain ⟨-, hN, -, hl⟩ := isB_parts h.out
  obtain ⟨th, hth⟩ : ∃ th, th = min l.length 32 := ⟨_, rfl⟩
  obtain ⟨sh, hsh⟩ : ∃ sh, sh = 32 - th := ⟨_, rfl⟩
  obtain ⟨F, hF⟩ : ∃ F, F = num (l.take th) := ⟨_, rfl⟩
  obtain ⟨V, hV⟩ : ∃ V, V = val l 32 := ⟨_, rfl⟩
  have hVF : V = F * 2 ^ sh := by rw [hV, hF, hsh]; exact val_first l th hth
  have hV2 : V < 4294967296 := by rw [hV, ← pow32]; exact val_lt l 32
  have em : min N 32 = (th : Int) := by omega
  have es : (32 : Int) - (th : Int) = (sh : Int) := by omega
  have hF2 : F < 4294967296 := by
    refine Nat.lt_of_le_of_lt ?_ hV2
    rw [hVF]; exact Nat.le_mul_of_pos_right _ (Nat.pow_pos (by omega))
  have t1 : th ≤ 32 := by omega
  have HTH := Lib.hid hth
  have HV := Lib.hid hV
  have HF := Lib.hid (show F = num ((l.drop 0).take th) by rw [List.drop_zero]; exact hF)
  have eV : (F : Int) * 2 ^ sh = (V : Int) := by rw [hVF]; simp
  have s1 : sh ≤ 32 := by omega
  have s2 : decide ((sh : Int) < 0) = false := by simp
  have s3 : ¬ (sh : Int) < 0 := by omega
  have s4 : ((sh : Int)).toNat = sh := by omega
  clear hth hsh hF hV hVF hN hl
  have HK := Lib.hid (Blk.new w 25 #[.slice A n c, .int .i64 N])
  have HW := Lib.hid ((Below.refl w.heap.size w).alloc (Nat.le_refl _) (.cells #[.slice A n c, .int .i64 N] 25))
  have HES := Lib.hid es
  have HEV := Lib.hid eV
  clear es eV
  go_enter Try.func55, Try.ntmps55
  go_wp2_with fail
  generalize w.alloc (.cells #[.slice A n c, .int .i64 N] 25) = w0 at HK HW ⊢
  clear em
  refine (get_n _ l 0 _ 0 th F w0 (h.out.below HW.out) rfl rfl (by omega) (by have := HTH.out; omega) HF.out).mono ?_
  rintro e w1 ⟨rfl, hb1⟩
  have HK1 := Lib.hid (HK.out.below hb1 HK.out.lt)
  have HW1 := Lib.hid (HW.out.trans (hb1.mono HW.out.size))
  clear hb1 HK HW
  obtain ⟨x1, x2, -, -⟩ := blk2 HK1.out
  go_wp2_with fail
  have es := HES.out
  have eV := HEV.out
  have q1 : IntKind.i64.wrap (sh : Int) = (sh : Int) := IntWalk.i64_in _ (by omega)
  have q2 : IntKind.u64.wrap (V : Int) = (V : Int) := IntWalk.u64_in _ (by omega)
  have q3 : IntKind.u32.wrap (V : Int) = (V : Int) := IntWalk.u32_in _ (by omega)
  go_region_with (go_at_call 47; refine (whole_lit _).mono ?_; rintro e w2 ⟨rfl, hb2⟩; obtain ⟨x3, x4, -, -⟩ := blk2 ((HK1.out.drew).below hb2 HK1.out.lt))
  all_goals
    have HB2 := Lib.hid hb2
    clear hb2 x1 x2 x3 x4 q1 q2 q3 es eV
    have HW2 := Lib.hid (HW1.out.trans ((show Below w1.heap.size w1 w2 from ⟨HB2.out.os, HB2.out.tape, HB2.out.output, HB2.out.size, HB2.out.block⟩).mono HW1.out.size))
    go_wp2
    go_ret2
    refine ⟨w2.heap.size, rfl, HW2.out.size, ?_, HW2.out.alloc HW2.out.size _⟩
    unfold d0
    rw [← HV.out]
    exact Blk.new w2 _ _
end Go.Proofs.Ytgelgbfnioagbaa.Cd
