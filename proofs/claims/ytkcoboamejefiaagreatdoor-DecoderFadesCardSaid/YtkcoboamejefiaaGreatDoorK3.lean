/-
  Own texts, laid together: CH, Ha, MW, MX, MQ, YA, Ye, Yt, Mv, My, Yq, Open, Zo, Dm, Da, Ds.
-/
import Derived.Test.YtkcoboamejefiaaGreatDoorK2
set_option maxHeartbeats 8000000
set_option linter.unusedSimpArgs false
set_option linter.unusedVariables false
set_option maxRecDepth 100000
namespace Go.Proofs.YtkcoboamejefiaaGreatDoor.Cd
open Go.RowKit
theorem get_bad (A : Option Addr) (n c : Nat) (N a wd : Int) (bs : List Nat) (w : World) (hr : Hid (Rd w A n bs)) (hok : Hid (okB bs N = false)) :
  Calls Tryz.prog 140 #[.agg #[.slice A n c, .int .i64 N], .int .i64 a, .int .i64 wd] w fun e w' => e = .returned (.tuple #[.int .u64 0, .int .i64 1]) ∧ Below w.heap.size w w' := by
 have HW := Lib.hid ((Below.refl w.heap.size w).alloc (Nat.le_refl _) (.cells #[.slice A n c, .int .i64 N] 75))
 go_enter Tryz.func140, Tryz.ntmps140
 go_wp2_with fail
 generalize w.alloc (.cells #[.slice A n c, .int .i64 N] 75) = w0 at HW ⊢
 have hcon := check_any A n c N bs w0 (hr.out.below HW.out)
 rw [hok.out] at hcon
 refine hcon.mono ?_
 clear hcon
 rintro e w1 ⟨rfl, hb1⟩
 have HW1 := Lib.hid (HW.out.trans (hb1.mono HW.out.size))
 clear hb1
 go_wp2
 go_ret2
 exact ⟨rfl, HW1.out⟩
def rdC (d : De) (A : Option Addr) (n c : Nat) (N : Int) : Array Value := #[.int .u32 (d.low : Int), .int .u32 (d.high : Int), .int .u32 (d.code : Int), .slice A n c, .int .i64 N, .int .i64 (d.at_ : Int)]
def RdS (w : World) (p : Nat) (d : De) (A : Option Addr) (n c : Nat) (N : Int) : Prop := Blk w p 200 (rdC d A n c N)
theorem RdS.six {w : World} {p : Nat} {d : De} {A : Option Addr} {n c : Nat} {N : Int} (h : RdS w p d A n c N) : w.cell? ⟨p, 0, none⟩ = some (.int .u32 (d.low : Int)) ∧ w.cell? ⟨p, 1, none⟩ = some (.int .u32 (d.high : Int)) ∧ w.cell? ⟨p, 2, none⟩ = some (.int .u32 (d.code : Int)) ∧ w.cell? ⟨p, 3, none⟩ = some (.slice A n c) ∧ w.cell? ⟨p, 4, none⟩ = some (.int .i64 N) ∧ w.cell? ⟨p, 5, none⟩ = some (.int .i64 (d.at_ : Int)) := blk6 h
theorem val_first (l : List Bool) (th : Nat) (h : th = min l.length 32) : val l 32 = num (l.take th) * 2 ^ (32 - th) := by
 have key : ∀ k, val l (th + k) = num (l.take th) * 2 ^ k ∨ th < l.length := by
  intro k
  by_cases hlt : th < l.length
  ·exact .inr hlt
  ·left
   have e : th = l.length := by omega
   induction k with
   | zero =>
    have := val_pre l [] th (by omega)
    rw [List.append_nil] at this
    rw [Nat.add_zero, this]; simp
   | succ k ih =>
    rw [← Nat.add_assoc, val_succ, ih, bitF_of_ge (by omega), Nat.pow_succ]
    simp
    rw [Nat.mul_comm 2, Nat.mul_assoc]
 rcases Nat.lt_or_ge l.length 32 with h32 | h32
 ·rcases key (32 - th) with h1 | h1
  ·rwa [show th + (32 - th) = 32 by omega] at h1
  ·omega
 ·have e : th = 32 := by omega
  subst e
  have := val_pre l [] 32 h32
  rw [List.append_nil] at this
  rw [this]; simp
def d0 (l : List Bool) : De := ⟨0, 4294967295, val l 32, 32⟩
def OpOk (w : World) (l : List Bool) (A : Option Addr) (n c : Nat) (N : Int) (e : Ending) (w' : World) : Prop :=
 ∃ p, e = .returned (.tuple #[.pointer (some ⟨p, 0, none⟩), .int .i64 0]) ∧ w.heap.size ≤ p ∧ RdS w' p (d0 l) A n c N ∧ Below w.heap.size w w'
def OpNo (w : World) (e : Ending) (w' : World) : Prop := e = .returned (.tuple #[.pointer none, .int .i64 1]) ∧ Below w.heap.size w w'
theorem open_no (A : Option Addr) (n c : Nat) (N : Int) (bs : List Nat) (w : World) (hr : Hid (Rd w A n bs)) (hok : Hid (okB bs N = false)) :
  Calls Tryz.prog 90 #[.agg #[.slice A n c, .int .i64 N]] w (OpNo w) := by
 have HW := Lib.hid ((Below.refl w.heap.size w).alloc (Nat.le_refl _) (.cells #[.slice A n c, .int .i64 N] 75))
 go_enter Tryz.func90, Tryz.ntmps90
 go_wp2_with fail
 generalize w.alloc (.cells #[.slice A n c, .int .i64 N] 75) = w0 at HW ⊢
 refine (get_bad A n c N _ _ bs w0 (Lib.hid (hr.out.below HW.out)) hok).mono ?_
 rintro e w1 ⟨rfl, hb1⟩
 have HW1 := Lib.hid (HW.out.trans (hb1.mono HW.out.size))
 clear hb1
 go_wp2
 go_ret2
 exact ⟨rfl, HW1.out⟩
theorem whole_lit (w : World) : Calls Tryz.prog 85 #[] w fun e w' => e = .returned (.agg #[.int .u32 0, .int .u32 4294967295]) ∧ Below w.heap.size w w' := whole_any w
theorem open_ok (A : Option Addr) (n c : Nat) (N : Int) (l : List Bool) (w : World) (h : Hid (IsB w (.agg #[.slice A n c, .int .i64 N]) l)) :
  Calls Tryz.prog 90 #[.agg #[.slice A n c, .int .i64 N]] w (OpOk w l A n c N) := by
 obtain ⟨-, hN, -, hl⟩ := isB_parts h.out
 obtain ⟨th, hth⟩ : ∃ th, th = min l.length 32 := ⟨_, rfl⟩
 obtain ⟨sh, hsh⟩ : ∃ sh, sh = 32 - th := ⟨_, rfl⟩
 obtain ⟨F, hF⟩ : ∃ F, F = num (l.take th) := ⟨_, rfl⟩
 obtain ⟨V, hV⟩ : ∃ V, V = val l 32 := ⟨_, rfl⟩
 have hVF : V = F * 2 ^ sh := by rw [hV, hF, hsh]; exact val_first l th hth
 have hV2 : V < 4294967296 := by rw [hV, ← pow32]; exact val_lt l 32
 have em : min N 32 = (th : Int) := by omega
 have es : (32 : Int) - (th : Int) = (sh : Int) := by omega
 have hF2 : F < 4294967296 := by
  refine Nat.lt_of_le_of_lt ?_ hV2
  rw [hVF]; exact Nat.le_mul_of_pos_right _ (Nat.pow_pos (by omega))
 have t1 : th ≤ 32 := by omega
 have HTH := Lib.hid hth
 have HV := Lib.hid hV
 have HF := Lib.hid (show F = num ((l.drop 0).take th) by rw [List.drop_zero]; exact hF)
 have eV : (F : Int) * 2 ^ sh = (V : Int) := by rw [hVF]; simp
 have s1 : sh ≤ 32 := by omega
 have s2 : decide ((sh : Int) < 0) = false := by simp
 have s3 : ¬ (sh : Int) < 0 := by omega
 have s4 : ((sh : Int)).toNat = sh := by omega
 clear hth hsh hF hV hVF hN hl
 have HK := Lib.hid (Blk.new w 75 #[.slice A n c, .int .i64 N])
 have HW := Lib.hid ((Below.refl w.heap.size w).alloc (Nat.le_refl _) (.cells #[.slice A n c, .int .i64 N] 75))
 have HES := Lib.hid es
 have HEV := Lib.hid eV
 clear es eV
 go_enter Tryz.func90, Tryz.ntmps90
 go_wp2_with fail
 generalize w.alloc (.cells #[.slice A n c, .int .i64 N] 75) = w0 at HK HW ⊢
 clear em
 refine (get_n _ l 0 _ 0 th F w0 (h.out.below HW.out) rfl rfl (by omega) (by have := HTH.out; omega) HF.out).mono ?_
 rintro e w1 ⟨rfl, hb1⟩
 have HK1 := Lib.hid (HK.out.below hb1 HK.out.lt)
 have HW1 := Lib.hid (HW.out.trans (hb1.mono HW.out.size))
 clear hb1 HK HW
 obtain ⟨x1, x2, -, -⟩ := blk2 HK1.out
 go_wp2_with fail
 have es := HES.out
 have eV := HEV.out
 have q1 : IntKind.i64.wrap (sh : Int) = (sh : Int) := IntWalk.i64_in _ (by omega)
 have q2 : IntKind.u64.wrap (V : Int) = (V : Int) := IntWalk.u64_in _ (by omega)
 have q3 : IntKind.u32.wrap (V : Int) = (V : Int) := IntWalk.u32_in _ (by omega)
 go_region_with (go_at_call 85; refine (whole_lit _).mono ?_; rintro e w2 ⟨rfl, hb2⟩; obtain ⟨x3, x4, -, -⟩ := blk2 ((HK1.out.drew).below hb2 HK1.out.lt))
 all_goals
  have HB2 := Lib.hid hb2
  clear hb2 x1 x2 x3 x4 q1 q2 q3 es eV
  have HW2 := Lib.hid (HW1.out.trans ((show Below w1.heap.size w1 w2 from ⟨HB2.out.os, HB2.out.tape, HB2.out.output, HB2.out.size, HB2.out.block⟩).mono HW1.out.size))
  go_wp2
  go_ret2
  refine ⟨w2.heap.size, rfl, HW2.out.size, ?_, HW2.out.alloc HW2.out.size _⟩
  unfold d0
  rw [← HV.out]
  exact Blk.new w2 _ _
end Go.Proofs.YtkcoboamejefiaaGreatDoor.Cd
namespace Go.Proofs.YtkcoboamejefiaaGreatDoor.Cd
open Go.RowKit
theorem grown_trans {a b c : World} {row : Option Nat} (h1 : a.grownBy b row) (h2 : b.grownBy c row) : a.grownBy c row :=
 ⟨h2.os.trans h1.os, h2.tape.trans h1.tape, h2.output.trans h1.output, Nat.le_trans h1.size h2.size, fun i hi hne => (h2.block i (Nat.lt_of_lt_of_le hi h1.size) hne).trans (h1.block i hi hne)⟩
theorem isB_only {w w' : World} {row : Nat} {A : Option Addr} {n c : Nat} {N : Int} {l : List Bool} (h : IsB w (.agg #[.slice A n c, .int .i64 N]) l) (hb : w.grownBy w' (some row)) (hA : ∀ ad, A = some ad → 0 < n → ad.block ≠ row) : IsB w' (.agg #[.slice A n c, .int .i64 N]) l := by
 obtain ⟨e1, e2, e3, e4⟩ := isB_parts h
 subst e1 e2
 exact ⟨A, c, rfl, e3.only hb hA, e4⟩
theorem bit_num (l : List Bool) (i : Nat) (h : i < l.length) : num ((l.drop i).take 1) = (bitF l i).toNat := by
 have := num_take_succ l i 0 (by omega)
 rw [this]
 simp [num_nil]
theorem get1_any (v : Value) (l : List Bool) (i t : Nat) (w : World) (h : IsB w v l) (ht : t = (bitF l i).toNat) :
  Calls Tryz.prog 140 #[v, .int .i64 (i : Int), .int .i64 1] w fun e w' => (∃ er, e = .returned (.tuple #[.int .u64 (t : Int), .int .i64 er])) ∧ Below w.heap.size w w' := by
 by_cases hi : i < l.length
 ·exact (get_n v l (i : Int) 1 i 1 t w h rfl rfl (by omega) (by omega) (by rw [ht, bit_num l i hi])).mono fun e w' ⟨h1, h2⟩ => ⟨⟨0, h1⟩, h2⟩
 ·have ht0 : t = 0 := by rw [ht, bitF_of_ge (by omega)]; rfl
  exact (get_short v l (i : Int) 1 w h (by omega) (by omega) (by omega) (by omega)).mono fun e w' ⟨h1, h2⟩ => ⟨⟨20, by rw [ht0]; exact h1⟩, h2⟩
theorem bit_any (p : Nat) (d : De) (A : Option Addr) (n c : Nat) (N : Int) (l : List Bool) (t : Nat) (w : World) (hs : Hid (RdS w p d A n c N)) (h : Hid (IsB w (.agg #[.slice A n c, .int .i64 N]) l)) (ht : Hid (t = (bitF l d.at_).toNat)) (ht2 : t < 2) :
  Calls Tryz.prog 200 #[.pointer (some ⟨p, 0, none⟩)] w fun e w' => e = .returned (.int .u32 (t : Int)) ∧ Below w.heap.size w w' := by
 obtain ⟨-, -, -, c3, c4, c5⟩ := hs.out.six
 have q1 : IntKind.u32.wrap (t : Int) = (t : Int) := IntWalk.u32_in _ (by omega)
 have HQ1 := Lib.hid q1
 clear q1
 have HD := Lib.hid (show IsB w.drew (.agg #[.slice A n c, .int .i64 N]) l from h.out)
 go_enter Tryz.func200, Tryz.ntmps200
 go_wp2_with fail
 go_region_with (go_at_call 140; refine (get1_any _ l d.at_ t w.drew HD.out ht.out).mono ?_; rintro e w2 ⟨⟨er, rfl⟩, hb2⟩)
 all_goals
  have HB2 := Lib.hid (show Below w.heap.size w w2 from ⟨hb2.os, hb2.tape, hb2.output, hb2.size, hb2.block⟩)
  clear hb2 c3 c4 c5
  have q1 := HQ1.out
  go_wp2
  go_ret
  exact ⟨rfl, HB2.out⟩
def WidS (w0 : World) (p : Nat) (A : Option Addr) (n c : Nat) (N : Int) (l : List Bool) (fin : De) (m : Nat) (wr : World) : Prop :=
 ∃ d : De, RdS wr p d A n c N ∧ widD m l d = fin ∧ Ok d.low d.high ∧ d.low ≤ d.code ∧ d.code ≤ d.high ∧ 4294967296 < (d.high - d.low + 1) * 2 ^ (m + 1) ∧ d.at_ + m ≤ 1000000 ∧ w0.grownBy wr (some p)
theorem stepD_facts {l : List Bool} {d : De} (hok : Ok d.low d.high) (hk : kind d.low d.high ≠ 3) (h1 : d.low ≤ d.code) (h2 : d.code ≤ d.high) : takeK (kind d.low d.high) ≤ d.low ∧ (stepD l d).low ≤ (stepD l d).code ∧ (stepD l d).code ≤ (stepD l d).high ∧ (stepD l d).high < 4294967296 ∧ (stepD l d).high - (stepD l d).low + 1 = 2 * (d.high - d.low + 1) ∧ (stepD l d).low ≤ (stepD l d).high := by
 have hb := toNat_le (bitF l d.at_)
 have hlow := stepE_low (e := ⟨d.low, d.high, 0, []⟩) hok hk
 obtain ⟨a1, a2, a3, a4⟩ := hlow
 dsimp only at a1 a2 a3 a4
 have ht : takeK (kind d.low d.high) ≤ d.low := by omega
 have e1 : (stepD l d).low = 2 * (d.low - takeK (kind d.low d.high)) := rfl
 have e2 : (stepD l d).high = 2 * (d.high - takeK (kind d.low d.high)) + 1 := rfl
 have e3 : (stepD l d).code = 2 * (d.code - takeK (kind d.low d.high)) + (bitF l d.at_).toNat := rfl
 have := hok.1
 refine ⟨ht, ?_, ?_, ?_, ?_, ?_⟩ <;> omega
theorem widS_zero {d : De} (hok : Ok d.low d.high) (h : 4294967296 < (d.high - d.low + 1) * 2 ^ (0 + 1)) : kind d.low d.high = 3 := widR_zero (e := ⟨d.low, d.high, 0, []⟩) hok h
theorem WidS.step {w0 wr : World} {p m : Nat} {A : Option Addr} {n c : Nat} {N : Int} {l : List Bool} {fin d : De} (hok : Ok d.low d.high) (hk : kind d.low d.high ≠ 3) (hf : widD (m + 1) l d = fin) (h1 : d.low ≤ d.code) (h2 : d.code ≤ d.high) (hw : 4294967296 < (d.high - d.low + 1) * 2 ^ (m + 1 + 1)) (ha : d.at_ + (m + 1) ≤ 1000000) (hs : RdS wr p (stepD l d) A n c N) (hg : w0.grownBy wr (some p)) : WidS w0 p A n c N l fin m wr := by
 obtain ⟨_, b1, b2, b3, b4, b5⟩ := stepD_facts (l := l) hok hk h1 h2
 refine ⟨stepD l d, hs, ?_, ⟨b5, b3⟩, b1, b2, ?_, ?_, hg⟩
 ·unfold widD at hf; rwa [if_neg hk] at hf
 ·rw [b4]
  rw [Nat.pow_succ 2 (m + 1)] at hw
  rw [Nat.mul_comm 2 (d.high - d.low + 1), Nat.mul_assoc, Nat.mul_comm 2]
  exact hw
 ·show d.at_ + 1 + m ≤ 1000000; omega
theorem excess_t (low high k t : Nat) (w : World) (hk : kind low high = k) (ht : takeK k = t) (h3 : k ≠ 3) :
  Calls Tryz.prog 83 #[.agg #[.int .u32 (low : Int), .int .u32 (high : Int)]] w fun e w' => e = .returned (.tuple #[.int .u32 (t : Int), .bool true]) ∧ Below w.heap.size w w' := by
 have := excess_any low high k w hk
 unfold excT at this
 rw [ht, decide_eq_true h3] at this
 exact this
end Go.Proofs.YtkcoboamejefiaaGreatDoor.Cd
namespace Go.Proofs.YtkcoboamejefiaaGreatDoor.Cd
open Go.RowKit
theorem RdS.two {w : World} {p : Nat} {d : De} {A : Option Addr} {n c : Nat} {N : Int} (h : RdS w p d A n c N) : Two w p d.low d.high := ⟨h.cell 0, h.cell 1, h.frozen 0, h.frozen 1⟩
theorem RdS.next {w w' : World} {p : Nat} {d : De} {A : Option Addr} {n c : Nat} {N : Int} (h : RdS w p d A n c N) (hb : Below w.heap.size w w') : RdS w' p d A n c N := Blk.below h hb (Blk.lt h)
theorem RdS.iv {w : World} {p : Nat} {d : De} {A : Option Addr} {n c : Nat} {N : Int} (h : RdS w p d A n c N) (lo hi : Nat) : RdS ((w.setCell ⟨p, 0, none⟩ (.int .u32 (lo : Int))).setCell ⟨p, 1, none⟩ (.int .u32 (hi : Int))) p ⟨lo, hi, d.code, d.at_⟩ A n c N := (Blk.set_ (Blk.set_ h 0 _) 1 _)
theorem RdS.iv' {w : World} {p : Nat} {d : De} {A : Option Addr} {n c : Nat} {N : Int} (h : RdS w p d A n c N) (lo hi : Nat) : RdS ((w.setCell ⟨p, 1, none⟩ (.int .u32 (hi : Int))).setCell ⟨p, 0, none⟩ (.int .u32 (lo : Int))) p ⟨lo, hi, d.code, d.at_⟩ A n c N := (Blk.set_ (Blk.set_ h 1 _) 0 _)
theorem RdS.co {w : World} {p : Nat} {d : De} {A : Option Addr} {n c : Nat} {N : Int} (h : RdS w p d A n c N) (co : Nat) : RdS (w.setCell ⟨p, 2, none⟩ (.int .u32 (co : Int))) p ⟨d.low, d.high, co, d.at_⟩ A n c N := (Blk.set_ h 2 _)
theorem RdS.pl {w : World} {p : Nat} {d : De} {A : Option Addr} {n c : Nat} {N : Int} (h : RdS w p d A n c N) (a : Nat) : RdS (w.setCell ⟨p, 5, none⟩ (.int .i64 (a : Int))) p ⟨d.low, d.high, d.code, a⟩ A n c N := (Blk.set_ h 5 _)
theorem widen_r (w0 : World) (p m : Nat) (A : Option Addr) (n c : Nat) (N : Int) (l : List Bool) (fin : De) (w : World) (h : Hid (WidS w0 p A n c N l fin m w)) (hI : Hid (IsB w0 (.agg #[.slice A n c, .int .i64 N]) l)) (hA : Hid (∀ ad, A = some ad → 0 < n → ad.block ≠ p)) :
  Calls Tryz.prog 185 #[.pointer (some ⟨p, 0, none⟩)] w fun e w' => e = .returned (.tuple #[]) ∧ RdS w' p fin A n c N ∧ w0.grownBy w' (some p) := by
 go_enter Tryz.func185, Tryz.ntmps185
 go_wp2_with fail
 go_loopg [2] m (fun k _ wr => Hid (WidS w0 p A n c N l fin k wr))
 case atStart => exact h
 case round =>
  have HR := hrel
  clear hrel h
  obtain ⟨d, hs, hf, hok, hc1, hc2, hw, ha, hg⟩ := HR.out
  obtain ⟨c0, c1, -, -, -, -⟩ := hs.six
  have HS := Lib.hid hs
  have HF := Lib.hid hf
  have HOK := Lib.hid hok
  have HC1 := Lib.hid hc1
  have HC2 := Lib.hid hc2
  have HW := Lib.hid hw
  have HA := Lib.hid ha
  have HG := Lib.hid hg
  clear hs hf hok hc1 hc2 hw ha hg HR
  obtain ⟨kk, hkk⟩ : ∃ kk, kind d.low d.high = kk := ⟨_, rfl⟩
  by_cases h3 : kk = 3
  ·subst h3
   have HE := Lib.hid (show d = fin from by
    have := HF.out
    cases gk with
    | zero => exact this
    | succ q => unfold widD at this; rwa [if_pos hkk] at this)
   go_wp2_with fail
   have hcon := excess_any d.low d.high 3 wr hkk
   rw [excT_3] at hcon
   refine hcon.mono ?_
   clear hcon hkk
   rintro ee w1 ⟨rfl, hb⟩
   have HS1 := Lib.hid (HS.out.next hb)
   have HG1 := Lib.hid (grown_trans HG.out (only_of_below hb (some p)))
   clear hb c0 c1
   go_wp2
   exact bodyPost_ret (v := .tuple #[]) (by simp [results, Tryz.results185, go_sem]) rfl ⟨rfl, by rw [← HE.out]; exact HS1.out, HG1.out⟩
  ·cases gk with
   | zero => exact absurd (widS_zero HOK.out HW.out) (by omega)
   | succ q =>
    obtain ⟨tk, htk⟩ : ∃ tk, takeK kk = tk := ⟨_, rfl⟩
    have HKK := Lib.hid hkk
    have HTK := Lib.hid htk
    obtain ⟨g1, g2, g3, g4, g5, g6⟩ := stepD_facts (l := l) HOK.out (by omega) HC1.out HC2.out
    rw [hkk, htk] at g1
    go_wp2_with fail
    refine (excess_t d.low d.high kk tk wr hkk htk h3).mono ?_
    clear hkk htk
    rintro ee w1 ⟨rfl, hb⟩
    have HS1 := Lib.hid (HS.out.next hb)
    have HG1 := Lib.hid (grown_trans HG.out (only_of_below hb (some p)))
    clear hb HS HG c0 c1
    obtain ⟨lo, hlo⟩ : ∃ lo, lo = 2 * (d.low - tk) := ⟨_, rfl⟩
    obtain ⟨hi, hhi⟩ : ∃ hi, hi = 2 * (d.high - tk) + 1 := ⟨_, rfl⟩
    obtain ⟨b, hb⟩ : ∃ b, b = (bitF l d.at_).toNat := ⟨_, rfl⟩
    have b2 : b < 2 := by have := toNat_le (bitF l d.at_); omega
    obtain ⟨co, hco⟩ : ∃ co, co = 2 * (d.code - tk) + b := ⟨_, rfl⟩
    have HSD := Lib.hid (show stepD l d = ⟨lo, hi, co, d.at_ + 1⟩ by unfold stepD; rw [HKK.out, HTK.out, hlo, hhi, hco, hb])
    have l0 : lo ≤ co ∧ co ≤ hi ∧ hi < 4294967296 := by have e := HSD.out; rw [e] at g2 g3 g4; exact ⟨g2, g3, g4⟩
    obtain ⟨l1, l2, l3⟩ := l0
    have ok1 := HOK.out.1
    have ok2 := HOK.out.2
    have k1 := HC1.out
    have k2 := HC2.out
    have HLO := Lib.hid hlo
    have HHI := Lib.hid hhi
    have HCO := Lib.hid hco
    have HBT := Lib.hid hb
    clear g2 g3 g4 g5 g6 hlo hhi hco hb
    go_wp2_with fail
    with_reducible refine (double_n p d.low d.high tk lo hi (tk : Int) w1 rfl g1 (by omega) HLO.out HHI.out (by omega) l3 (by omega) ok2 (RdS.two HS1.out)).mono ?_
    rintro ee w2 ⟨rfl, rfl⟩
    have HS2 := Lib.hid (HS1.out.iv lo hi)
    have HG2 := Lib.hid (only_setCell (only_setCell HG1.out (p := ⟨p, 0, none⟩) (.inl rfl) (.int .u32 (lo : Int))) (p := ⟨p, 1, none⟩) (.inl rfl) (.int .u32 (hi : Int)))
    generalize ((w1.setCell ⟨p, 0, none⟩ (.int .u32 (lo : Int))).setCell ⟨p, 1, none⟩ (.int .u32 (hi : Int))) = w2 at HS2 HG2 ⊢
    clear HS1 HG1
    obtain ⟨co1, hco1⟩ : ∃ co1, co1 = d.code - tk := ⟨_, rfl⟩
    obtain ⟨co2, hco2⟩ : ∃ co2, co2 = co1 * 2 := ⟨_, rfl⟩
    have c1' : co2 < 4294967296 := by have := HCO.out; omega
    have c2' : co1 < 4294967296 := by omega
    have e1 : (d.code : Int) - (tk : Int) = (co1 : Int) := by omega
    have e2 : (co1 : Int) * 2 = (co2 : Int) := by omega
    have e3 : (co2 : Int) + (b : Int) = (co : Int) := by have := HCO.out; omega
    have v1 : IntKind.u32.wrap (co1 : Int) = (co1 : Int) := IntWalk.u32_in _ (by omega)
    have v2 : IntKind.u32.wrap (co2 : Int) = (co2 : Int) := IntWalk.u32_in _ (by omega)
    have v3 : IntKind.u32.wrap (co : Int) = (co : Int) := IntWalk.u32_in _ (by omega)
    clear hco1 hco2
    obtain ⟨-, -, x2, -, -, -⟩ := HS2.out.six
    have x3 := HS2.out.frozen 2
    have lp := HS2.out.lt
    have HI2 := Lib.hid (show IsB w2.drew (.agg #[.slice A n c, .int .i64 N]) l from isB_only hI.out (only_drew HG2.out) hA.out)
    have HS2d := Lib.hid (show RdS w2.drew p ⟨lo, hi, d.code, d.at_⟩ A n c N from HS2.out)
    dsimp only at x2
    go_wp2_with fail
    go_region_with (go_at_call 200; refine (bit_any p ⟨lo, hi, d.code, d.at_⟩ A n c N l b w2.drew HS2d HI2 HBT b2).mono ?_; rintro e w6 ⟨rfl, hb6⟩; have y2 : w6.cell? ⟨p, 2, none⟩ = some (.int .u32 (d.code : Int)) := (RdS.next HS2d.out hb6).cell 2; have y3 : w6.frozen? ⟨p, 2, none⟩ = false := (RdS.next HS2d.out hb6).frozen 2)
    all_goals
     have HS6 := Lib.hid (RdS.co (RdS.next HS2d.out hb6) co)
     have HG6 := Lib.hid (only_setCell (grown_trans (only_drew HG2.out) (only_of_below hb6 (some p))) (p := ⟨p, 2, none⟩) (.inl rfl) (.int .u32 (co : Int)))
     clear hb6 x2 x3 y2 y3 v1 v2 v3 e1 e2 e3
     generalize w6.setCell ⟨p, 2, none⟩ (.int .u32 (co : Int)) = w7 at HS6 HG6 ⊢
     obtain ⟨-, -, -, -, -, z5⟩ := HS6.out.six
     have z6 := HS6.out.frozen 5
     dsimp only at z5
     have a1 : d.at_ ≤ 1000000 := by have := HA.out; omega
     go_wp2
     have ea : (d.at_ : Int) + 1 = ((d.at_ + 1 : Nat) : Int) := by omega
     rw [ea]
     clear ea
     have HS8 := Lib.hid (RdS.pl HS6.out (d.at_ + 1))
     have HG8 := Lib.hid (only_setCell HG6.out (p := ⟨p, 5, none⟩) (.inl rfl) (.int .i64 ((d.at_ + 1 : Nat) : Int)))
     dsimp only at HS8
     generalize w7.setCell ⟨p, 5, none⟩ (.int .i64 ((d.at_ + 1 : Nat) : Int)) = w8 at HS8 HG8 ⊢
     go_roundg q
     case rel =>
      refine Lib.hid (WidS.step HOK.out (by rw [HKK.out]; exact h3) HF.out HC1.out HC2.out HW.out HA.out ?_ HG8.out)
      rw [HSD.out]
      exact HS8.out
     case measure => omega
end Go.Proofs.YtkcoboamejefiaaGreatDoor.Cd
namespace Go.Proofs.YtkcoboamejefiaaGreatDoor.Cd
open Go.RowKit
def symK (xs : List Int) (X : Nat) : Nat := (xs.drop 1).findIdx (fun y => decide ((X : Int) < y))
theorem symK_is {xs : List Int} (h : Fq.okF xs = true) {X k : Nat} (hk : Fq.IsSym xs (X : Int) k) : symK xs X = k := by
 obtain ⟨h1, h2, h3⟩ := hk
 unfold symK
 have hl : k < (xs.drop 1).length := by rw [List.length_drop]; omega
 have gd : ∀ j, (hj : j < (xs.drop 1).length) → (xs.drop 1)[j] = xs.getD (j + 1) 0 := by
  intro j hj
  rw [List.length_drop] at hj
  rw [List.getElem_drop]
  have : xs.getD (j + 1) 0 = xs[j + 1] := by simp [List.getD_eq_getElem?_getD, show j + 1 < xs.length by omega]
  rw [this]
  congr 1
  omega
 rw [List.findIdx_eq hl]
 refine ⟨by rw [gd k hl]; simpa using h3, fun j hj => ?_⟩
 rw [gd j (by omega)]
 have := Fq.mono_le h (i := j + 1) (j := k) (by omega) (by omega)
 exact decide_eq_false (by omega)
def FineD (d : De) : Prop := Ok d.low d.high ∧ kind d.low d.high = 3 ∧ d.low ≤ d.code ∧ d.code ≤ d.high
def narD (d : De) (a b T : Nat) : De := ⟨d.low + (d.high - d.low + 1) * a / T, d.low + (d.high - d.low + 1) * b / T - 1, d.code, d.at_⟩
def nxD (l : List Bool) (d : De) (a b T : Nat) : De := widD 40 l (narD d a b T)
theorem fineD_wid {d : De} (h : FineD d) : 1073741824 ≤ d.high - d.low + 1 ∧ d.high - d.low + 1 ≤ 4294967296 := wide_wid (e := ⟨d.low, d.high, 0, []⟩) h.1 h.2.1
theorem symX_lt {d : De} {T : Nat} (h : FineD d) (hT : 0 < T) : symX d T < T := by
 obtain ⟨w1, w2⟩ := fineD_wid h
 unfold symX
 rw [Nat.div_lt_iff_lt_mul (by omega)]
 have k1 : d.code - d.low + 1 ≤ d.high - d.low + 1 := by have := h.2.2.2; omega
 have k2 := Nat.mul_le_mul_right T k1
 have k3 : 0 < (d.code - d.low + 1) * T := Nat.mul_pos (by omega) hT
 rw [Nat.mul_comm T]
 omega
theorem narD_in {d : De} {a b T : Nat} (h : FineD d) (hS : Sp a b T) (h1 : a ≤ symX d T) (h2 : symX d T < b) :
  (narD d a b T).low ≤ d.code ∧ d.code ≤ (narD d a b T).high ∧ Ok (narD d a b T).low (narD d a b T).high ∧ 1 ≤ (d.high - d.low + 1) * b / T := by
 obtain ⟨w1, w2⟩ := fineD_wid h
 have hT : 0 < T := by have := hS.1; have := hS.2.1; omega
 obtain ⟨_, _, c1, c2⟩ := h
 have hn := nar_ok (e := ⟨d.low, d.high, 0, []⟩) (by assumption) (by assumption) hS
 have hb1 := (nar_parts hS (W := d.high - d.low + 1) (by omega)).1
 unfold symX at h1 h2
 rw [Nat.le_div_iff_mul_le (by omega)] at h1
 rw [Nat.div_lt_iff_lt_mul (by omega)] at h2
 have k3 : 0 < (d.code - d.low + 1) * T := Nat.mul_pos (by omega) hT
 have k1 : (d.high - d.low + 1) * a / T < d.code - d.low + 1 := by
  rw [Nat.div_lt_iff_lt_mul hT, Nat.mul_comm (d.high - d.low + 1) a]
  omega
 have k2 : d.code - d.low + 1 ≤ (d.high - d.low + 1) * b / T := by
  rw [Nat.le_div_iff_mul_le hT, Nat.mul_comm (d.high - d.low + 1) b]
  omega
 refine ⟨?_, ?_, hn.1, by omega⟩
 ·show d.low + (d.high - d.low + 1) * a / T ≤ d.code; omega
 ·show d.code ≤ d.low + (d.high - d.low + 1) * b / T - 1; omega
theorem widD_fine (m : Nat) {l : List Bool} : ∀ {d : De}, Ok d.low d.high → d.low ≤ d.code → d.code ≤ d.high → 4294967296 < (d.high - d.low + 1) * 2 ^ (m + 1) → FineD (widD m l d) ∧ (widD m l d).at_ ≤ d.at_ + m := by
 induction m with
 | zero =>
  intro d hok h1 h2 hw
  exact ⟨⟨hok, widS_zero hok hw, h1, h2⟩, by simp [widD]⟩
 | succ m ih =>
  intro d hok h1 h2 hw
  unfold widD
  by_cases hk : kind d.low d.high = 3
  ·rw [if_pos hk]; exact ⟨⟨hok, hk, h1, h2⟩, by omega⟩
  ·rw [if_neg hk]
   obtain ⟨_, b1, b2, b3, b4, b5⟩ := stepD_facts (l := l) hok hk h1 h2
   have := ih (d := stepD l d) ⟨b5, b3⟩ b1 b2 (by
    rw [b4]
    rw [Nat.pow_succ 2 (m + 1)] at hw
    rw [Nat.mul_comm 2 (d.high - d.low + 1), Nat.mul_assoc, Nat.mul_comm 2]
    exact hw)
   refine ⟨this.1, ?_⟩
   have e : (stepD l d).at_ = d.at_ + 1 := rfl
   have h3 := this.2
   omega
theorem nxD_fine {l : List Bool} {d : De} {a b T : Nat} (h : FineD d) (hS : Sp a b T) (h1 : a ≤ symX d T) (h2 : symX d T < b) : FineD (nxD l d a b T) ∧ (nxD l d a b T).at_ ≤ d.at_ + 40 := by
 obtain ⟨n1, n2, n3, _⟩ := narD_in h hS h1 h2
 refine widD_fine 40 n3 n1 n2 ?_
 rw [pow41]
 omega
theorem fineD0 (l : List Bool) : FineD (d0 l) := ⟨⟨by show (0 : Nat) ≤ 4294967295; omega, by show (4294967295 : Nat) < 4294967296; omega⟩, by show kind 0 4294967295 = 3; decide, Nat.zero_le _, by have := val_lt l 32; rw [pow32] at this; show val l 32 ≤ 4294967295; omega⟩
theorem okF_tot {xs : List Int} (h : Fq.okF xs = true) : 1 ≤ spT xs ∧ spT xs ≤ 16384 ∧ Fq.totF true xs = (spT xs : Int) := by
 have hp := Fq.okF_parts h
 have b3 := Fq.okF_bd h (i := xs.length - 1) (by omega)
 have m2 := Fq.okF_mono h (i := 0) (j := xs.length - 1) (by omega) (by omega)
 unfold spT Fq.totF
 simp only [if_true]
 omega
def nxK (d : De) (xs : List Int) : Nat := symK xs (symX d (spT xs))
def nxQ (d : De) (xs : List Int) : Pr := ((nxK d xs : Int), xs)
def nxE (l : List Bool) (d : De) (xs : List Int) : De := nxD l d (spA (nxQ d xs)) (spB (nxQ d xs)) (spT xs)
theorem next_sym {d : De} {xs : List Int} (h : FineD d) (ho : Fq.okF xs = true) : Fq.IsSym xs (symX d (spT xs) : Int) (nxK d xs) ∧ okP (nxQ d xs) = true ∧ spA (nxQ d xs) ≤ symX d (spT xs) ∧ symX d (spT xs) < spB (nxQ d xs) ∧ nxK d xs + 1 < xs.length := by
 obtain ⟨t1, t2, t3⟩ := okF_tot ho
 have hx := symX_lt h (T := spT xs) (by omega)
 have ht : xs.getD (xs.length - 1) 0 = (spT xs : Int) := t3
 obtain ⟨k, hk⟩ := Fq.isSym_some (x := (symX d (spT xs) : Int)) ho (by omega) (by rw [ht]; omega)
 have e : nxK d xs = k := symK_is ho hk
 rw [← e] at hk
 obtain ⟨h1, h2, h3⟩ := hk
 have e1 : (nxQ d xs).1 = (nxK d xs : Int) := rfl
 have e2 : (nxQ d xs).2 = xs := rfl
 have b1 := Fq.okF_bd ho (i := nxK d xs) (by omega)
 have b2 := Fq.okF_bd ho (i := nxK d xs + 1) h1
 refine ⟨⟨h1, h2, h3⟩, ?_, ?_, ?_, h1⟩
 ·unfold okP Fq.symB
  rw [e1, e2, ho]
  simp only [Bool.true_and, decide_eq_true_eq]
  omega
 ·unfold spA
  rw [e1, e2, Int.toNat_natCast]
  omega
 ·unfold spB
  rw [e1, e2, Int.toNat_natCast]
  omega
theorem nxE_fine {l : List Bool} {d : De} {xs : List Int} (h : FineD d) (ho : Fq.okF xs = true) : FineD (nxE l d xs) ∧ (nxE l d xs).at_ ≤ d.at_ + 40 := by
 obtain ⟨_, h1, h2, h3, _⟩ := next_sym h ho
 exact nxD_fine h (symP_of h1).2.2.2 h2 h3
end Go.Proofs.YtkcoboamejefiaaGreatDoor.Cd
namespace Go.Proofs.YtkcoboamejefiaaGreatDoor.Cd
open Go.RowKit
def NxS (w : World) (p bf : Nat) (d : De) (A : Option Addr) (n c : Nat) (N : Int) (C : Option Addr) (m dd : Nat) (xs : List Int) (u : World) : Prop :=
 RdS u p d A n c N ∧ Blk u bf 103 #[.slice C m dd] ∧ Fq.RdI u C m xs ∧ Below w.heap.size w u
section
variable {w : World} {p bf : Nat} {d : De} {A : Option Addr} {n c : Nat} {N : Int} {C : Option Addr} {m dd : Nat} {xs : List Int} {u u' : World}
theorem NxS.next (h : NxS w p bf d A n c N C m dd xs u) (hb : Below u.heap.size u u') : NxS w p bf d A n c N C m dd xs u' :=
 ⟨h.1.next hb, h.2.1.below hb h.2.1.lt, h.2.2.1.below hb, h.2.2.2.trans (hb.mono h.2.2.2.size)⟩
theorem NxS.drew (h : NxS w p bf d A n c N C m dd xs u) : NxS w p bf d A n c N C m dd xs u.drew := ⟨h.1, h.2.1, h.2.2.1, Below.drew h.2.2.2⟩
theorem NxS.drewN (h : NxS w p bf d A n c N C m dd xs u) (k : Nat) : NxS w p bf d A n c N C m dd xs (u.drewN k) := ⟨h.1, h.2.1, h.2.2.1, below_drewN h.2.2.2 k⟩
theorem nxs_start (h : RdS w p d A n c N) (hx : Fq.RdI w C m xs) : NxS w p w.heap.size d A n c N C m dd xs (w.alloc (.cells #[.slice C m dd] 103)) :=
 ⟨Blk.alloc h _, Blk.new w _ _, hx.alloc _, (Below.refl w.heap.size w).alloc (Nat.le_refl _) _⟩
end
theorem next_bad (p : Nat) (d : De) (A : Option Addr) (n c : Nat) (N : Int) (C : Option Addr) (m dd : Nat) (xs : List Int) (w : World) (hs : Hid (RdS w p d A n c N)) (hx : Hid (Fq.RdI w C m xs)) (hm : Hid (m ≤ maxLen)) (hok : Hid (Fq.okF xs = false)) :
  Calls Tryz.prog 147 #[.pointer (some ⟨p, 0, none⟩), .agg #[.slice C m dd]] w fun e w' => e = .returned (.tuple #[.int .i64 0, .int .i64 1]) ∧ Below w.heap.size w w' := by
 have H0 := Lib.hid (nxs_start (dd := dd) hs.out hx.out)
 go_enter Tryz.func147, Tryz.ntmps147
 go_wp2_with fail
 generalize w.alloc (.cells #[.slice C m dd] 103) = w0 at H0 ⊢
 refine (Fq.check_any C m dd xs false w0 (Lib.hid H0.out.2.2.1) hm.out hok.out).mono ?_
 rintro e w1 ⟨rfl, hb1⟩
 have H1 := Lib.hid (H0.out.next hb1)
 clear hb1 H0
 rw [show Fq.errN false = 1 from rfl]
 go_wp2
 go_ret2
 exact ⟨rfl, H1.out.2.2.2⟩
theorem next_short (p : Nat) (d : De) (A : Option Addr) (n c L : Nat) (C : Option Addr) (m dd : Nat) (xs : List Int) (w : World) (hs : Hid (RdS w p d A n c (L : Int))) (hL : L ≤ 65536) (ha : L + 32 < d.at_) (_ha2 : d.at_ ≤ 1000000) (hx : Hid (Fq.RdI w C m xs)) (hm : Hid (m ≤ maxLen)) (hok : Hid (Fq.okF xs = true)) :
  Calls Tryz.prog 147 #[.pointer (some ⟨p, 0, none⟩), .agg #[.slice C m dd]] w fun e w' => e = .returned (.tuple #[.int .i64 0, .int .i64 20]) ∧ Below w.heap.size w w' := by
 have H0 := Lib.hid (nxs_start (dd := dd) hs.out hx.out)
 obtain ⟨L3, hL3⟩ : ∃ L3, L3 = L + 32 := ⟨_, rfl⟩
 have eL : (L : Int) + 32 = (L3 : Int) := by omega
 have v1 : IntKind.i64.wrap (L3 : Int) = (L3 : Int) := IntWalk.i64_in _ (by omega)
 have dd1 : decide (L3 < d.at_) = true := by simp; omega
 have dd2 : decide ((L3 : Int) < (d.at_ : Int)) = true := by simp; omega
 clear hL3
 have EL := Lib.hid eL
 have V1 := Lib.hid v1
 clear eL v1
 go_enter Tryz.func147, Tryz.ntmps147
 go_wp2_with fail
 generalize w.alloc (.cells #[.slice C m dd] 103) = w0 at H0 ⊢
 refine (Fq.check_any C m dd xs true w0 (Lib.hid H0.out.2.2.1) hm.out hok.out).mono ?_
 rintro e w1 ⟨rfl, hb1⟩
 have H1 := Lib.hid (H0.out.next hb1)
 clear hb1 H0
 rw [show Fq.errN true = 0 from rfl]
 obtain ⟨-, -, -, -, x4, x5⟩ := H1.out.1.six
 have eL := EL.out
 have v1 := V1.out
 go_wp2_with fail
 go_quiet (fail)
 go_wp2
 go_ret2
 exact ⟨rfl, below_drewN H1.out.2.2.2 _⟩
end Go.Proofs.YtkcoboamejefiaaGreatDoor.Cd
namespace Go.Proofs.YtkcoboamejefiaaGreatDoor.Cd
open Go.RowKit
def NxP (w : World) (p : Nat) (k : Nat) (fin : De) (A : Option Addr) (n c : Nat) (N : Int) (e : Ending) (w' : World) : Prop :=
 e = .returned (.tuple #[.int .i64 (k : Int), .int .i64 0]) ∧ RdS w' p fin A n c N ∧ w.grownBy w' (some p)
theorem next_ok (p : Nat) (d : De) (A : Option Addr) (n c L : Nat) (l : List Bool) (C : Option Addr) (m dd : Nat) (xs : List Int) (w : World) (hs : Hid (RdS w p d A n c (L : Int))) (hI : Hid (IsB w (.agg #[.slice A n c, .int .i64 (L : Int)]) l)) (hA : Hid (∀ ad, A = some ad → 0 < n → ad.block ≠ p)) (hL : L ≤ 65536) (hd : Hid (FineD d)) (ha : d.at_ ≤ L + 32) (hx : Hid (Fq.RdI w C m xs)) (hm : Hid (m ≤ maxLen)) (hok : Hid (Fq.okF xs = true)) :
  Calls Tryz.prog 147 #[.pointer (some ⟨p, 0, none⟩), .agg #[.slice C m dd]] w (NxP w p (nxK d xs) (nxE l d xs) A n c (L : Int)) := by
 obtain ⟨T, hT⟩ : ∃ T, T = spT xs := ⟨_, rfl⟩
 obtain ⟨X, hX⟩ : ∃ X, X = symX d T := ⟨_, rfl⟩
 obtain ⟨K, hK⟩ : ∃ K, K = nxK d xs := ⟨_, rfl⟩
 obtain ⟨t1, t2, t3⟩ := okF_tot hok.out
 obtain ⟨y1, y2, y3, y4, y5⟩ := next_sym hd.out hok.out
 have hxl := symX_lt hd.out (T := T) (by omega)
 rw [← hT] at t1 t2 t3 y1 y3 y4
 rw [← hX] at hxl y1 y3 y4
 obtain ⟨a, hav⟩ : ∃ a, a = spA (nxQ d xs) := ⟨_, rfl⟩
 obtain ⟨b, hbv⟩ : ∃ b, b = spB (nxQ d xs) := ⟨_, rfl⟩
 have HSY := Lib.hid (show symP xs (K : Int) a b T from by have := symP_of y2; rw [hav, hbv, hT, hK]; exact this)
 have HY1 := Lib.hid (show Fq.IsSym xs (X : Int) K by rw [hK]; exact y1)
 rw [← hav] at y3
 rw [← hbv] at y4
 obtain ⟨n1, n2, n3, n4⟩ := narD_in hd.out HSY.out.2.2.2 (show a ≤ symX d T by rw [← hX]; exact y3) (show symX d T < b by rw [← hX]; exact y4)
 have HFIN := Lib.hid (show nxE l d xs = nxD l d a b T by unfold nxE; rw [hav, hbv, hT])
 have HKK := Lib.hid hK
 obtain ⟨lo, hlo⟩ : ∃ lo, lo = d.low + (d.high - d.low + 1) * a / T := ⟨_, rfl⟩
 obtain ⟨hi, hhi⟩ : ∃ hi, hi = d.low + (d.high - d.low + 1) * b / T - 1 := ⟨_, rfl⟩
 have HN1 := Lib.hid (show lo ≤ d.code ∧ d.code ≤ hi ∧ lo ≤ hi ∧ hi < 4294967296 by rw [hlo, hhi]; exact ⟨n1, n2, n3.1, n3.2⟩)
 have HND := Lib.hid (show narD d a b T = ⟨lo, hi, d.code, d.at_⟩ by unfold narD; rw [hlo, hhi])
 have HLO := Lib.hid hlo
 have HHI := Lib.hid hhi
 have HB1 := Lib.hid n4
 obtain ⟨o1, o2⟩ := hd.out.1
 have k1 := hd.out.2.2.1
 have k2 := hd.out.2.2.2
 obtain ⟨w1', w2'⟩ := fineD_wid hd.out
 -- letters
 obtain ⟨W, hW⟩ : ∃ W, W = d.high - d.low + 1 := ⟨_, rfl⟩
 rw [← hW] at w1' w2'
 have HWW := Lib.hid hW
 obtain ⟨c1, hc1⟩ : ∃ c1, c1 = d.code - d.low := ⟨_, rfl⟩
 obtain ⟨c2, hc2⟩ : ∃ c2, c2 = c1 + 1 := ⟨_, rfl⟩
 obtain ⟨pr, hpr⟩ : ∃ pr, pr = c2 * T := ⟨_, rfl⟩
 obtain ⟨pq, hpq⟩ : ∃ pq, pq = pr - 1 := ⟨_, rfl⟩
 have c2b : c2 ≤ 4294967296 := by omega
 have prb : pr ≤ 70368744177664 := by rw [hpr]; exact Nat.le_trans (Nat.mul_le_mul c2b t2) (by omega)
 have pr1 : 1 ≤ pr := by rw [hpr]; exact Nat.mul_pos (by omega) (by omega)
 have hXq : X = pq / W := by rw [hX, hpq, hpr, hc2, hc1, hW]; rfl
 have E1 := Lib.hid (show (d.code : Int) - (d.low : Int) = (c1 : Int) by omega)
 have E2 := Lib.hid (show (c1 : Int) + 1 = (c2 : Int) by omega)
 have E3 := Lib.hid (show (c2 : Int) * (T : Int) = (pr : Int) by rw [hpr]; simp)
 have E4 := Lib.hid (show (pr : Int) - 1 = (pq : Int) by omega)
 have E5 := Lib.hid (show (pq : Int) / (W : Int) = (X : Int) by rw [hXq]; simp)
 have c1b : c1 < 4294967296 := by omega
 have X2 : X < 16384 := by omega
 have K2 : K ≤ 300 := by have := HY1.out.1; have := (Fq.okF_parts hok.out).2.1; omega
 have W0 : ¬ (W : Int) = 0 := by omega
 have W0' : ((W : Int) == 0) = false := by simp; omega
 have W1' : ¬ W = 0 := by omega
 have W2' : (W == 0) = false := by simp; omega
 obtain ⟨L3, hL3⟩ : ∃ L3, L3 = L + 32 := ⟨_, rfl⟩
 have EL := Lib.hid (show (L : Int) + 32 = (L3 : Int) by omega)
 have VL := Lib.hid (show IntKind.i64.wrap (L3 : Int) = (L3 : Int) from IntWalk.i64_in _ (by omega))
 have dd1 : decide (L3 < d.at_) = false := by simp; omega
 have dd2 : decide ((L3 : Int) < (d.at_ : Int)) = false := by simp; omega
 have pqb : pq ≤ 70368744177664 := by omega
 have HT := Lib.hid t3
 have XT : X < T := hxl
 clear hT hX hK y1 y2 y3 y4 y5 hav hbv hlo hhi n1 n2 n3 n4 hW hc1 hc2 hpr hpq hXq hL3 t3 hxl
 have H0 := Lib.hid (nxs_start (dd := dd) hs.out hx.out)
 go_enter Tryz.func147, Tryz.ntmps147
 go_wp2_with fail
 generalize w.alloc (.cells #[.slice C m dd] 103) = w0 at H0 ⊢
 obtain ⟨bf, hbf⟩ : ∃ bf, bf = w.heap.size := ⟨_, rfl⟩
 rw [← hbf] at H0 ⊢
 clear hbf
 refine (Fq.check_any C m dd xs true w0 (Lib.hid H0.out.2.2.1) hm.out hok.out).mono ?_
 rintro e w1 ⟨rfl, hb1⟩
 have H1 := Lib.hid (H0.out.next hb1)
 clear hb1 H0
 rw [show Fq.errN true = 0 from rfl]
 obtain ⟨-, -, -, -, x4, x5⟩ := H1.out.1.six
 have eL := EL.out
 have v1 := VL.out
 go_wp2_with fail
 go_quiet (fail)
 clear x4 x5 eL v1
 have H2 := Lib.hid (H1.out.drewN nq)
 generalize w1.drewN nq = w2 at H2 ⊢
 clear H1
 obtain ⟨x0, -, x2, -, -, -⟩ := H2.out.1.six
 have e1 := E1.out
 have e2 := E2.out
 have v1 : IntKind.u32.wrap (c1 : Int) = (c1 : Int) := IntWalk.u32_in _ (by omega)
 have v2 : IntKind.u64.wrap (c1 : Int) = (c1 : Int) := IntWalk.u64_in _ (by omega)
 have v3 : IntKind.u64.wrap (c2 : Int) = (c2 : Int) := IntWalk.u64_in _ (by omega)
 go_wp2_with fail
 go_quiet (fail)
 clear x0 x2 e1 e2 v1 v2 v3
 have H3 := Lib.hid (H2.out.drewN nq)
 generalize w2.drewN nq = w3 at H3 ⊢
 clear H2
 go_wp2_with fail
 obtain ⟨x0, x1, -, -, -, -⟩ := H3.out.1.six
 have x3 := Fq.blk0 H3.out.2.1
 have v1 : IntKind.u64.wrap (T : Int) = (T : Int) := IntWalk.u64_in _ (by omega)
 have v2 : IntKind.u64.wrap (pr : Int) = (pr : Int) := IntWalk.u64_in _ (by omega)
 have v3 : IntKind.u64.wrap (pq : Int) = (pq : Int) := IntWalk.u64_in _ (by omega)
 have v4 : IntKind.u64.wrap (X : Int) = (X : Int) := IntWalk.u64_in _ (by omega)
 have e3 := E3.out
 have e4 := E4.out
 have e5 := E5.out
 have e6 : Int.tdiv (pq : Int) (W : Int) = (X : Int) := by rw [Int.tdiv_eq_ediv_of_nonneg (by omega)]; exact e5
 have C1 := Lib.hid (show ∀ u, NxS w p bf d A n c (L : Int) C m dd xs u → Calls Tryz.prog 136 #[.agg #[.slice C m dd]] u (fun e w' => e = .returned (.int .i64 (T : Int)) ∧ NxS w p bf d A n c (L : Int) C m dd xs w') from fun u h =>
  (Fq.total_any C m dd xs true (T : Int) u (Lib.hid h.2.2.1) hm.out hok.out HT.out).mono fun e w' ⟨h1, h2⟩ => ⟨h1, h.next h2⟩)
 have C2 := Lib.hid (show ∀ u, NxS w p bf d A n c (L : Int) C m dd xs u → Calls Tryz.prog 135 #[.agg #[.int .u32 (d.low : Int), .int .u32 (d.high : Int)]] u (fun e w' => e = .returned (.int .u64 (W : Int)) ∧ NxS w p bf d A n c (L : Int) C m dd xs w') from fun u h =>
  (size_any d.low d.high W u o1 o2 HWW).mono fun e w' ⟨h1, h2⟩ => ⟨h1, h.next h2⟩)
 go_region_held3 (fun w' => w'.cell? ⟨p, 0, none⟩ = some (.int .u32 (d.low : Int)) ∧ w'.cell? ⟨p, 1, none⟩ = some (.int .u32 (d.high : Int)) ∧ w'.cell? ⟨bf, 0, none⟩ = some (.slice C m dd) ∧ NxS w p bf d A n c (L : Int) C m dd xs w') (first | exact ⟨hQ.1.six.1, hQ.1.six.2.1, Fq.blk0 hQ.2.1, hQ⟩ | exact ⟨x0, x1, x3, H3.out⟩ | exact ⟨x0, x1, x3, H3.out.drew⟩) (first
  | (go_at_call 136; refine (C1.out _ (by first | exact hQ | exact H3.out | exact H3.out.drew)).mono ?_; rintro e w6 ⟨rfl, hQ⟩)
  | (go_at_call 135; refine (C2.out _ (by first | exact hQ | exact H3.out | exact H3.out.drew)).mono ?_; rintro e w6 ⟨rfl, hQ⟩))
 all_goals
  have HQ := Lib.hid hQ
  clear hQ x0 x1 x3 v1 v2 v3 v4 e3 e4 e5 e6 C1 C2
  go_wp2_with fail
  refine (Fq.find_yes C m dd K xs (X : Int) (T : Int) w6 (Lib.hid HQ.out.2.2.1) hok HY1 (by omega) HT (by omega) (by omega)).mono ?_
  rintro e w7 ⟨rfl, hb7⟩
  have H7 := Lib.hid (HQ.out.next hb7)
  clear hb7 HQ H3
  unfold Fq.findT
  have x3 := Fq.blk0 H7.out.2.1
  go_wp2_with fail
  go_region_with (go_at_call 86; refine (narrow_ok p d.low d.high a b T lo hi C m dd xs (K : Int) w7.drew o1 o2 (Lib.hid H7.out.drew.2.2.1) hm HSY (Lib.hid (RdS.two H7.out.drew.1)) HLO HHI HB1 HN1.out.2.2.1 HN1.out.2.2.2).mono ?_; rintro e w8 ⟨rfl, w9, hb9, rfl⟩)
  have HS9 := Lib.hid (RdS.iv' (H7.out.drew.1.next hb9) lo hi)
  have HG9 := Lib.hid (only_setCell (only_setCell (only_of_below (H7.out.drew.2.2.2.trans (hb9.mono H7.out.drew.2.2.2.size)) (some p)) (p := ⟨p, 1, none⟩) (.inl rfl) (.int .u32 (hi : Int))) (p := ⟨p, 0, none⟩) (.inl rfl) (.int .u32 (lo : Int)))
  clear hb9 x3 H7
  generalize (w9.setCell ⟨p, 1, none⟩ (.int .u32 (hi : Int))).setCell ⟨p, 0, none⟩ (.int .u32 (lo : Int)) = w10 at HS9 HG9 ⊢
  have HWD := Lib.hid (show WidS w p A n c (L : Int) l (nxD l d a b T) 40 w10 from by
   refine ⟨⟨lo, hi, d.code, d.at_⟩, HS9.out, by unfold nxD; rw [HND.out], ⟨HN1.out.2.2.1, HN1.out.2.2.2⟩, HN1.out.1, HN1.out.2.1, ?_, ?_, HG9.out⟩
   ·rw [pow41]; omega
   ·show d.at_ + 40 ≤ 1000000; omega)
  clear HS9 HG9
  go_wp2_with fail
  with_reducible refine (widen_r w p 40 A n c (L : Int) l (nxD l d a b T) w10 HWD hI hA).mono ?_
  rintro e w11 ⟨rfl, hs11, hg11⟩
  have HS11 := Lib.hid hs11
  have HG11 := Lib.hid hg11
  clear hs11 hg11 HWD
  go_wp2
  go_ret2
  exact ⟨by rw [← HKK.out]; rfl, by rw [HFIN.out]; exact HS11.out, HG11.out⟩
end Go.Proofs.YtkcoboamejefiaaGreatDoor.Cd
namespace Go.Proofs.YtkcoboamejefiaaGreatDoor.Cd
open Go.RowKit
def stD (l : List Bool) (d : De) (fs : List (List Int)) : De := fs.foldl (nxE l) d
theorem stD_snoc (l : List Bool) (d : De) (fs : List (List Int)) (xs : List Int) : stD l d (fs ++ [xs]) = nxE l (stD l d fs) xs := by simp [stD]
def backErr (l : List Bool) (d : De) : List (List Int) → Int
 | [] => 0
 | xs :: r => if Fq.okF xs = true then (if l.length + 32 < d.at_ then 20 else backErr l (nxE l d xs) r) else 1
theorem backErr_no {l : List Bool} {d : De} {xs : List Int} {r : List (List Int)} (h : Fq.okF xs = false) : backErr l d (xs :: r) = 1 := by unfold backErr; rw [h]; rfl
theorem backErr_short {l : List Bool} {d : De} {xs : List Int} {r : List (List Int)} (h : Fq.okF xs = true) (h2 : l.length + 32 < d.at_) : backErr l d (xs :: r) = 20 := by unfold backErr; rw [if_pos h, if_pos h2]
theorem backErr_ok {l : List Bool} {d : De} {xs : List Int} {r : List (List Int)} (h : Fq.okF xs = true) (h2 : d.at_ ≤ l.length + 32) : backErr l d (xs :: r) = backErr l (nxE l d xs) r := by rw [backErr, if_pos h, if_neg (by omega)]
def symL (l : List Bool) (d : De) (fs : List (List Int)) : List Int := (List.range fs.length).map fun k => (nxK (stD l d (fs.take k)) (fs.getD k []) : Int)
theorem symL_length (l : List Bool) (d : De) (fs : List (List Int)) : (symL l d fs).length = fs.length := by simp [symL]
theorem symL_take (l : List Bool) (d : De) (fs : List (List Int)) (k : Nat) (xs : List Int) (h : fs[k]? = some xs) : (symL l d fs).take (k + 1) = (symL l d fs).take k ++ [(nxK (stD l d (fs.take k)) xs : Int)] := by
 obtain ⟨hk, e⟩ := List.getElem?_eq_some_iff.1 h
 have hl : k < (symL l d fs).length := by rw [symL_length]; exact hk
 rw [List.take_succ_eq_append_getElem hl]
 congr 2
 simp [symL, List.getD_eq_getElem?_getD, hk, e]
def tbs (ts : List Tb) : List (List Int) := ts.map (·.xs)
structure BkR (w : World) (l : List Bool) (p g n8 c N m k : Nat) (A : Option Addr) (fs : List (List Int)) (wr : World) : Prop where
 rd : RdS wr p (stD l (d0 l) (fs.take k)) A n8 c (N : Int)
 fine : FineD (stD l (d0 l) (fs.take k))
 far : (stD l (d0 l) (fs.take k)).at_ ≤ N + 72
 err : backErr l (d0 l) fs = backErr l (stD l (d0 l) (fs.take k)) (fs.drop k)
 zs : ∃ zs, zs.length = m ∧ zs.take k = (symL l (d0 l) fs).take k ∧ Blk wr g 3 (Fq.icells zs)
 hp : w.heap.size ≤ p
 hg : w.heap.size ≤ g
 ne : g ≠ p
 blw : Below w.heap.size w wr
end Go.Proofs.YtkcoboamejefiaaGreatDoor.Cd
namespace Go.Proofs.YtkcoboamejefiaaGreatDoor.Cd
open Go.RowKit
section
variable {w : World} {l : List Bool} {p g n8 c N m k : Nat} {A : Option Addr} {fs : List (List Int)} {wr w' : World}
theorem BkR.next (h : BkR w l p g n8 c N m k A fs wr) (hb : Below wr.heap.size wr w') : BkR w l p g n8 c N m k A fs w' := by
 obtain ⟨zs, z1, z2, z3⟩ := h.zs
 exact ⟨h.rd.next hb, h.fine, h.far, h.err, ⟨zs, z1, z2, z3.below hb z3.lt⟩, h.hp, h.hg, h.ne, h.blw.trans (hb.mono h.blw.size)⟩
theorem BkR.step {xs : List Int} {w2 : World} (h : BkR w l p g n8 c N m k A fs wr) (hN : N = l.length) (hx : fs[k]? = some xs) (hd : fs.drop k = xs :: fs.drop (k + 1)) (ht : fs.take (k + 1) = fs.take k ++ [xs]) (ho : Fq.okF xs = true) (ha : (stD l (d0 l) (fs.take k)).at_ ≤ N + 32) (hk : k < m)
  (hs : RdS w2 p (nxE l (stD l (d0 l) (fs.take k)) xs) A n8 c (N : Int)) (hg : wr.grownBy w2 (some p)) :
  BkR w l p g n8 c N m (k + 1) A fs (w2.setCell ⟨g, k, none⟩ (.int .i64 ((nxK (stD l (d0 l) (fs.take k)) xs : Nat) : Int))) := by
 obtain ⟨zs, z1, z2, z3⟩ := h.zs
 obtain ⟨f1, f2⟩ := nxE_fine (l := l) h.fine ho
 refine ⟨?_, ?_, ?_, ?_, ⟨zs.set k ((nxK (stD l (d0 l) (fs.take k)) xs : Nat) : Int), by simp [z1], ?_, Fq.blk_put (z3.only hg h.ne) _ _⟩, h.hp, h.hg, h.ne, ?_⟩
 ·rw [ht, stD_snoc]
  exact Blk.far hs (fun e => h.ne e.symm) _
 ·rw [ht, stD_snoc]; exact f1
 ·rw [ht, stD_snoc]; omega
 ·rw [h.err, hd, backErr_ok ho (by omega), ht, stD_snoc]
 ·rw [symL_take l (d0 l) fs k xs hx, List.take_succ_eq_append_getElem (by simp [z1]; omega), List.take_set_of_le (Nat.le_refl _), z2]
  simp
 ·exact (h.blw.grown hg h.blw.size (fun j hj => by injection hj with hj; rw [← hj]; exact h.hp)).setCell h.hg _
end
end Go.Proofs.YtkcoboamejefiaaGreatDoor.Cd
namespace Go.Proofs.YtkcoboamejefiaaGreatDoor.Cd
open Go.RowKit
theorem symL_cons (l : List Bool) (d : De) (xs : List Int) (r : List (List Int)) : symL l d (xs :: r) = (nxK d xs : Int) :: symL l (nxE l d xs) r := by
 unfold symL
 rw [List.length_cons, List.range_succ_eq_map, List.map_cons, List.map_map]
 rfl
theorem in_back {inp : List Bool} {ps : List Pr} : ∀ {e : En}, Fine e → allErr e ps = 0 → In inp (stE e ps) → In inp e := by
 induction ps with
 | nil => intro e _ _ h; exact h
 | cons q r ih =>
  intro e h h0 hi
  cases hq : okP q with
  | false => rw [allErr_no hq] at h0; cases h0
  | true =>
   rcases putC_cases (put1 e q) with ⟨c, _, _⟩ | c
   ·rw [allErr_ok hq c] at h0
    rw [stE_cons] at hi
    exact (In.put h.1 h.2.1 (symP_of hq).2.2.2 (ih (h.put hq c) h0 hi)).2
   ·rw [allErr_long hq c] at h0; cases h0
theorem len_mono {ps : List Pr} : ∀ {e : En}, Fine e → allErr e ps = 0 → len e ≤ len (stE e ps) := by
 induction ps with
 | nil => intro e _ _; exact Nat.le_refl _
 | cons q r ih =>
  intro e h h0
  cases hq : okP q with
  | false => rw [allErr_no hq] at h0; cases h0
  | true =>
   rcases putC_cases (put1 e q) with ⟨c, _, _⟩ | c
   ·rw [allErr_ok hq c] at h0
    have h1 := ih (h.put hq c) h0
    obtain ⟨_, _, k, hk, _⟩ := put_facts h.1 h.2.1 (symP_of hq).2.2.2
    rw [stE_cons]
    have : len (put1 e q) = len e + k := hk
    omega
   ·rw [allErr_long hq c] at h0; cases h0
theorem next_back {inp : List Bool} {e : En} {d : De} {q : Pr} (h : Fine e) (hq : okP q = true) (hs : Sync inp e d) (hi : In inp (put1 e q)) : (nxK d q.2 : Int) = q.1 ∧ Sync inp (put1 e q) (nxE inp d q.2) := by
 have hsp := symP_of hq
 obtain ⟨y1, y2, y3, y4, y5⟩ := next_sync h.1 h.2.1 hsp.2.2.2 hi hs
 have hq' := hq
 unfold okP Fq.symB at hq'
 simp only [Bool.and_eq_true, decide_eq_true_eq] at hq'
 obtain ⟨hok, h0, h1⟩ := hq'
 have b1 := Fq.okF_bd hok (i := q.1.toNat) (by omega)
 have b2 := Fq.okF_bd hok (i := q.1.toNat + 1) (by omega)
 have hk : nxK d q.2 = q.1.toNat := symK_is hok ⟨by omega, by unfold spA at y1; omega, by unfold spB at y2; omega⟩
 have hk2 : (nxK d q.2 : Int) = q.1 := by rw [hk]; omega
 refine ⟨hk2, ?_⟩
 have eq : nxQ d q.2 = q := by unfold nxQ; rw [hk2]
 have e1 : nxE inp d q.2 = widD 40 inp ⟨(nar e (spA q) (spB q) (spT q.2)).low, (nar e (spA q) (spB q) (spT q.2)).high, d.code, d.at_⟩ := by
  unfold nxE nxD narD
  rw [eq, hs.1, hs.2.1]
  rfl
 rw [e1]
 exact y5
theorem back_all {inp : List Bool} {ps : List Pr} : ∀ {e : En} {d : De}, Fine e → allErr e ps = 0 → Sync inp e d → In inp (stE e ps) → len (stE e ps) ≤ inp.length → backErr inp d (ps.map (·.2)) = 0 ∧ symL inp d (ps.map (·.2)) = ps.map (·.1) := by
 induction ps with
 | nil => intro e d _ _ _ _ _; exact ⟨rfl, rfl⟩
 | cons q r ih =>
  intro e d h h0 hs hi hl
  have hlm := len_mono h h0
  cases hq : okP q with
  | false => rw [allErr_no hq] at h0; cases h0
  | true =>
   rcases putC_cases (put1 e q) with ⟨c, _, _⟩ | c
   ·rw [allErr_ok hq c] at h0
    rw [stE_cons] at hi hl hlm
    have hi1 := in_back (h.put hq c) h0 hi
    obtain ⟨n1, n2⟩ := next_back h hq hs hi1
    obtain ⟨r1, r2⟩ := ih (h.put hq c) h0 n2 hi hl
    have hok : Fq.okF q.2 = true := (symP_of hq).2.1
    have hat : d.at_ ≤ inp.length + 32 := by rw [hs.2.2.1]; omega
    rw [List.map_cons, List.map_cons, backErr_ok hok hat, symL_cons, n1, r2]
    exact ⟨r1, rfl⟩
   ·rw [allErr_long hq c] at h0; cases h0
theorem all_back {ps : List Pr} (h0 : allErr e0 ps = 0) (tail : List Bool) :
  backErr (endBits (stE e0 ps) ++ tail) (d0 (endBits (stE e0 ps) ++ tail)) (ps.map (·.2)) = 0 ∧ symL (endBits (stE e0 ps) ++ tail) (d0 (endBits (stE e0 ps) ++ tail)) (ps.map (·.2)) = ps.map (·.1) := by
 have hf := (allErr_zero fine0 h0).1
 refine back_all fine0 h0 (e0_sync _) (end_in hf.1 hf.2.1 tail) ?_
 rw [List.length_append, endBits_length]
 omega
end Go.Proofs.YtkcoboamejefiaaGreatDoor.Cd
namespace Go.Proofs.YtkcoboamejefiaaGreatDoor.Cd
open Go.RowKit
structure LvS (w : World) (b1 g1 b3 gf : Nat) (u : World) : Prop where
 x1 : Blk u b1 75 #[.slice (some ⟨g1, 0, none⟩) 1 1, .int .i64 2]
 x2 : Blk u g1 5 #[.int .u8 64]
 x3 : Blk u b3 103 #[.slice (some ⟨gf, 0, none⟩) 3 3]
 x4 : Blk u gf 3 (Fq.icells [0, 1, 4])
 x5 : Below w.heap.size w u
theorem LvS.next {w : World} {b1 g1 b3 gf : Nat} {u u' : World} (h : LvS w b1 g1 b3 gf u) (hb : Below u.heap.size u u') : LvS w b1 g1 b3 gf u' :=
 ⟨h.x1.below hb h.x1.lt, h.x2.below hb h.x2.lt, h.x3.below hb h.x3.lt, h.x4.below hb h.x4.lt, h.x5.trans (hb.mono h.x5.size)⟩
theorem LvS.alloc {w : World} {b1 g1 b3 gf : Nat} {u : World} (h : LvS w b1 g1 b3 gf u) (o : Obj) : LvS w b1 g1 b3 gf (u.alloc o) := h.next ((Below.refl u.heap.size u).alloc (Nat.le_refl _) o)
def t3 (gf : Nat) : Tb := ⟨some ⟨gf, 0, none⟩, 3, 3, [0, 1, 4]⟩
end Go.Proofs.YtkcoboamejefiaaGreatDoor.Cd
namespace Go.Proofs.YtkcoboamejefiaaGreatDoor.Cd
open Go.RowKit
end Go.Proofs.YtkcoboamejefiaaGreatDoor.Cd
namespace Go.Proofs.YtkcoboamejefiaaGreatDoor.Cd
open Go.RowKit
end Go.Proofs.YtkcoboamejefiaaGreatDoor.Cd
namespace Go.Proofs.YtkcoboamejefiaaGreatDoor.Cd
open Go.RowKit
def LB (w : World) (b : Nat) (a v : Value) (u : World) : Prop := Blk u b 75 #[a, v] ∧ Below w.heap.size w u
theorem LB.next {w : World} {b : Nat} {a v : Value} {u u' : World} (h : LB w b a v u) (hb : Below u.heap.size u u') : LB w b a v u' := ⟨h.1.below hb h.1.lt, h.2.trans (hb.mono h.2.size)⟩
theorem LB.alloc {w : World} {b : Nat} {a v : Value} {u : World} (h : LB w b a v u) (o : Obj) : LB w b a v (u.alloc o) := h.next ((Below.refl u.heap.size u).alloc (Nat.le_refl _) o)
theorem isB_it {w : World} {A : Option Addr} {n c : Nat} {N : Int} {l : List Bool} (h : IsB w (.agg #[.slice A n c, .int .i64 N]) l) : It.ok ⟨A, n, c, N, pack l⟩ = true ∧ It.bits ⟨A, n, c, N, pack l⟩ = l := by
 obtain ⟨_, hN, _, hl⟩ := isB_parts h
 refine ⟨?_, ?_⟩
 ·show okB (pack l) N = true
  rw [hN]; exact okB_pack l hl
 ·show bitsIn (pack l) N.toNat = l
  rw [hN]; exact bitsIn_pack l
theorem join_two {w : World} {b : Nat} {A1 A2 : Option Addr} {n1 c1 n2 c2 : Nat} {N1 N2 : Int} {l1 l2 : List Bool} (h1 : IsB w (.agg #[.slice A1 n1 c1, .int .i64 N1]) l1) (h2 : IsB w (.agg #[.slice A2 n2 c2, .int .i64 N2]) l2) (hb : Blk w b 75 #[.slice A1 n1 c1, .int .i64 N1, .slice A2 n2 c2, .int .i64 N2]) :
  Calls Tryz.prog 89 #[.slice (some ⟨b, 0, none⟩) 2 2] w (BOut w (JQ w.heap.size (l1 ++ l2))) := by
 have hall : allBits [⟨A1, n1, c1, N1, pack l1⟩, ⟨A2, n2, c2, N2, pack l2⟩] = l1 ++ l2 := by
  show It.bits _ ++ (It.bits _ ++ []) = _
  rw [(isB_it h1).2, (isB_it h2).2, List.append_nil]
 rw [← hall]
 refine join_out (some ⟨b, 0, none⟩) 2 2 _ w (by omega) ?_ ?_
 ·refine ⟨rfl, fun _ => ⟨_, rfl, fun j x hx => ?_⟩⟩
  rcases (show j = 0 ∨ j = 1 by
   obtain ⟨hk, _⟩ := List.getElem?_eq_some_iff.1 hx
   have hk' : j < 2 := hk
   omega) with rfl | rfl
  ·injection hx with hx
   subst hx
   exact ⟨hb.cell 0, hb.cell 1, (isB_parts h1).2.2.1⟩
  ·injection hx with hx
   subst hx
   exact ⟨hb.cell 2, hb.cell 3, (isB_parts h2).2.2.1⟩
 ·intro x hx
  simp only [List.mem_cons, List.mem_nil_iff, or_false] at hx
  rcases hx with rfl | rfl
  ·exact (isB_it h1).1
  ·exact (isB_it h2).1
end Go.Proofs.YtkcoboamejefiaaGreatDoor.Cd
namespace Go.Proofs.YtkcoboamejefiaaGreatDoor.Cd
open Go.RowKit
def evT : List Int := Fq.acc (List.replicate 256 1)
theorem evT_ok : Fq.okF evT = true := Fq.okF_acc (Fq.okN_rep 256 (by omega) (by omega))
theorem evT_length : evT.length = 257 := by unfold evT; rw [Fq.acc_length, List.length_replicate]
theorem row_neC {w : World} {b1 b2 : Nat} {e1 e2 : TypeId} {s1 s2 n1 n2 : Nat} {v1 v2 : Value} {x1 x2 : List Value} (h1 : w.ownsRow b1 e1 s1 v1 n1 x1) (h2 : w.ownsRow b2 e2 s2 v2 n2 x2) (he : e1 ≠ e2) : v1.ownBlock = none ∨ v1.ownBlock ≠ v2.ownBlock := by
 rcases h1.2 with ⟨rfl, _⟩ | ⟨g, cap, cur, rfl, _, hh, _⟩
 ·exact .inl rfl
 ·refine .inr fun e => ?_
  rcases h2.2 with ⟨rfl, _⟩ | ⟨g', cap', cur', rfl, _, hh', _⟩
  ·simp [Value.ownBlock] at e
  ·simp only [Value.ownBlock, Option.some.injEq] at e
   subst e
   exact Blk.ne_ (t := e1) (t' := e2) hh hh' he rfl
structure EvS (w : World) (B b4 ge k k2 : Nat) (bs : List Nat) (v6 v7 : Value) (u : World) : Prop where
 syms : u.ownsRow B 3 1 v6 k ((bs.take k).map fun b : Nat => Value.int .i64 (b : Int))
 tabs : u.ownsRow B 103 1 v7 k2 (List.replicate k2 (.slice (some ⟨ge, 0, none⟩) 257 257))
 box : Blk u b4 103 #[.slice (some ⟨ge, 0, none⟩) 257 257]
 tab : Blk u ge 3 (Fq.icells evT)
 lt4 : b4 < B
 ltg : ge < B
 hB : w.heap.size ≤ B
 hBu : B ≤ u.heap.size
 blw : Below w.heap.size w u
theorem own_far {u : World} {B k g : Nat} {t : TypeId} {v : Value} {xs : List Value} (h : u.ownsRow B t 1 v k xs) (hg : g < B) : v.ownBlock ≠ some g := fun e => by
 have := (h.lt g e).1
 omega
section
variable {w : World} {B b4 ge k k2 : Nat} {bs : List Nat} {v6 v7 v' : Value} {u u' : World}
theorem EvS.alloc (h : EvS w B b4 ge k k2 bs v6 v7 u) (o : Obj) : EvS w B b4 ge k k2 bs v6 v7 (u.alloc o) :=
 ⟨h.syms.alloc o, h.tabs.alloc o, h.box.alloc o, h.tab.alloc o, h.lt4, h.ltg, h.hB, by have := h.hBu; simp; omega, h.blw.alloc h.blw.size o⟩
theorem EvS.push6 (h : EvS w B b4 ge k k2 bs v6 v7 u) (hk : k < bs.length) (ho : u'.ownsRow B 3 1 v' (k + 1) ((bs.take k).map (fun b : Nat => Value.int .i64 (b : Int)) ++ [.int .i64 ((bs.getD k 0 : Nat) : Int)])) (hg : u.grownBy u' v6.ownBlock) : EvS w B b4 ge (k + 1) k2 bs v' v7 u' := by
 have hB := fun j hj => (h.syms.lt j hj).1
 refine ⟨?_, World.ownsRow.kept h.tabs hg (row_neC h.tabs h.syms (by decide)), h.box.row hg (own_far h.syms h.lt4), h.tab.row hg (own_far h.syms h.ltg), h.lt4, h.ltg, h.hB, Nat.le_trans h.hBu hg.size, h.blw.grown hg h.blw.size (fun j hj => Nat.le_trans h.hB (hB j hj))⟩
 have e : (bs.take (k + 1)).map (fun b : Nat => Value.int .i64 (b : Int)) = (bs.take k).map (fun b : Nat => Value.int .i64 (b : Int)) ++ [.int .i64 ((bs.getD k 0 : Nat) : Int)] := by
  rw [List.take_succ_eq_append_getElem hk, List.map_append]
  simp [List.getD_eq_getElem?_getD, hk]
 rw [e]
 exact ho
theorem EvS.push7 (h : EvS w B b4 ge k k2 bs v6 v7 u) (ho : u'.ownsRow B 103 1 v' (k2 + 1) (List.replicate k2 (.slice (some ⟨ge, 0, none⟩) 257 257) ++ [.slice (some ⟨ge, 0, none⟩) 257 257])) (hg : u.grownBy u' v7.ownBlock) : EvS w B b4 ge k (k2 + 1) bs v6 v' u' := by
 have hB := fun j hj => (h.tabs.lt j hj).1
 refine ⟨World.ownsRow.kept h.syms hg (row_neC h.syms h.tabs (by decide)), ?_, h.box.row hg (own_far h.tabs h.lt4), h.tab.row hg (own_far h.tabs h.ltg), h.lt4, h.ltg, h.hB, Nat.le_trans h.hBu hg.size, h.blw.grown hg h.blw.size (fun j hj => Nat.le_trans h.hB (hB j hj))⟩
 rw [List.replicate_succ']
 exact ho
theorem EvS.rd6 (h : EvS w B b4 ge k k2 bs v6 v7 u) (hk : k = bs.length) : ∃ A c, v6 = .slice A k c ∧ Fq.RdI u A k (bs.map fun b : Nat => (b : Int)) := by
 have hl : (bs.map fun b : Nat => (b : Int)).length = k := by rw [List.length_map, hk]
 rcases h.syms.2 with ⟨rfl, h0⟩ | ⟨g, cap, cur, rfl, hb, _⟩
 ·refine ⟨none, 0, by rw [h0], hl, fun hn => absurd hn (by omega)⟩
 ·refine ⟨_, cap, rfl, hl, fun _ => ⟨_, rfl, fun j x hx => ?_⟩⟩
  refine World.ownsRow.cells h.syms (g := g) rfl j _ ?_
  rw [List.take_of_length_le (by omega)]
  rw [List.getElem?_map] at hx ⊢
  cases hb : bs[j]? with
  | none => rw [hb] at hx; cases hx
  | some y => rw [hb] at hx; injection hx with hx; rw [← hx]; rfl
def evTb (ge : Nat) : Tb := ⟨some ⟨ge, 0, none⟩, 257, 257, evT⟩
theorem evTb_C (ge : Nat) : (evTb ge).C = some ⟨ge, 0, none⟩ := by unfold evTb; with_reducible rfl
theorem evTb_m (ge : Nat) : (evTb ge).m = 257 := by unfold evTb; with_reducible rfl
theorem evTb_d (ge : Nat) : (evTb ge).d = 257 := by unfold evTb; with_reducible rfl
theorem evTb_x (ge : Nat) : (evTb ge).xs = evT := by unfold evTb; with_reducible rfl
theorem EvS.rd7 (h : EvS w B b4 ge k k2 bs v6 v7 u) : ∃ A c, v7 = .slice A k2 c ∧ RdT u A k2 (List.replicate k2 (evTb ge)) := by
 have hl : (List.replicate k2 (evTb ge)).length = k2 := List.length_replicate
 rcases h.tabs.2 with ⟨rfl, h0⟩ | ⟨g, cap, cur, rfl, hb, _⟩
 ·refine ⟨none, 0, by rw [h0], hl, fun hn => absurd hn (by omega)⟩
 ·refine ⟨_, cap, rfl, hl, fun _ => ⟨_, rfl, fun j x hx => ?_⟩⟩
  obtain ⟨hj, e⟩ := List.getElem?_eq_some_iff.1 hx
  rw [List.getElem_replicate] at e
  subst e
  rw [List.length_replicate] at hj
  refine ⟨World.ownsRow.cells h.tabs (g := g) rfl j _ (by rw [List.getElem?_replicate, if_pos hj, evTb_C, evTb_m, evTb_d]), by rw [evTb_C, evTb_m, evTb_x]; exact Fq.RdI.of_blk h.tab evT_length, by rw [evTb_m]; unfold maxLen; omega⟩
end
end Go.Proofs.YtkcoboamejefiaaGreatDoor.Cd
namespace Go.Proofs.YtkcoboamejefiaaGreatDoor.Cd
open Go.RowKit
theorem backErr_take {l : List Bool} {fs : List (List Int)} : ∀ {d : De} (k : Nat), backErr l d fs = 0 → backErr l d (fs.take k) = 0 := by
 induction fs with
 | nil => intro d k h; simpa using h
 | cons xs r ih =>
  intro d k h
  cases k with
  | zero => rfl
  | succ k =>
   rw [List.take_succ_cons]
   cases ho : Fq.okF xs with
   | false => rw [backErr_no ho] at h; cases h
   | true =>
    by_cases ha : l.length + 32 < d.at_
    ·rw [backErr_short ho ha] at h; cases h
    ·rw [backErr_ok ho (by omega)] at h ⊢
     exact ih k h
theorem symL_take_all (l : List Bool) (fs : List (List Int)) : ∀ (d : De) (k : Nat), symL l d (fs.take k) = (symL l d fs).take k := by
 induction fs with
 | nil => intro d k; simp [symL]
 | cons xs r ih =>
  intro d k
  cases k with
  | zero => simp [symL]
  | succ k => rw [List.take_succ_cons, symL_cons, symL_cons, List.take_succ_cons, ih]
theorem RdT.take {w : World} {L : Option Addr} {n : Nat} {ts : List Tb} (h : RdT w L n ts) (k : Nat) (hk : k ≤ n) : RdT w L k (ts.take k) := by
 refine ⟨by rw [List.length_take, h.1]; omega, fun h0 => ?_⟩
 obtain ⟨ad, e, hc⟩ := h.2 (by omega)
 refine ⟨ad, e, fun j t ht => hc j t ?_⟩
 rw [List.getElem?_take] at ht
 split at ht
 ·exact ht
 ·cases ht
end Go.Proofs.YtkcoboamejefiaaGreatDoor.Cd
namespace Go.Proofs.YtkcoboamejefiaaGreatDoor.Cd
open Go.RowKit
def LongR (e : En) (M : Nat) : Prop := 4294967296 * 2 ^ len e ≤ wid e * 2 ^ M
theorem long0 : LongR e0 0 := by unfold LongR; decide
theorem LongR.put {e : En} {q : Pr} {M n : Nat} (h : LongR e M) (hf : Fine e) (hq : okP q = true) (hn : spT q.2 ≤ (spB q - spA q) * 2 ^ n) : LongR (put1 e q) (M + (n + 1)) := put_long hf.1 hf.2.1 (symP_of hq).2.2.2 hn M h
end Go.Proofs.YtkcoboamejefiaaGreatDoor.Cd
namespace Go.Proofs.YtkcoboamejefiaaGreatDoor.Lp
open Go.RowKit Fx Fq Tb
theorem run_items_any (d : Nat) (xs ys : List Int) (u : World) : ∀ l : List Nat, (∀ i ∈ l, i < xs.length ∧ i < ys.length) → (Op.eqItems (d + 1) 3 1 (icells xs) (icells ys) l).run Tryz.prog u = .ok (l.all fun i => xs.getD i 0 == ys.getD i 0) u
 | [], _ => by simp [Op.eqItems]
 | i :: l, h => by
  have ih := run_items_any d xs ys u l fun j hj => h j (by simp [hj])
  have ha : (isAgg 3).run Tryz.prog u = .ok false u := by kernel_rfl
  have hu : Tryz.prog.underlying 3 = some (.int .i64) := by kernel_rfl
  have hp : ∀ zs : List Int, i < zs.length → (part 3 (icells zs) (i * 1)).run Tryz.prog u = .ok (.int .i64 (zs.getD i 0)) u := fun zs hz => by
   have hc : (icells zs)[i]? = some (.int .i64 (zs.getD i 0)) := icells_get hz
   rw [Nat.mul_one]
   simp only [part, Sem.run_bind, ha, Result.andThen_ok, Bool.false_eq_true, if_false, hc, Sem.run_pure]
  have he := run_equalIn_int (P := Tryz.prog) u d 3 .i64 .i64 (xs.getD i 0) (ys.getD i 0) hu
  have h1 := hp xs (h i (by simp)).1
  have h2 := hp ys (h i (by simp)).2
  simp only [Op.eqItems, Sem.run_bind, h1, h2, Result.andThen_ok, he]
  rw [List.all_cons]
  by_cases k : xs.getD i 0 = ys.getD i 0
  ·have k2 : (xs.getD i 0 == ys.getD i 0) = true := by rw [k]; exact beq_self_eq_true _
   simp only [k2, Bool.true_and]
   simpa using ih
  ·have k2 : (xs.getD i 0 == ys.getD i 0) = false := by simpa using k
   simp only [k2, Bool.false_and]
   simp
theorem run_equalIn_diff (T : TypeId) {n : Nat} (hT : Tryz.prog.underlying T = some (.array n 3)) (xs ys : List Int) (hl : xs.length = n) (hl' : ys.length = n) (hne : xs ≠ ys) (w : World) :
  (Op.equalIn 10000 T (.agg (icells xs)) (.agg (icells ys))).run Tryz.prog w = .ok false w := by
 have hc : Tryz.prog.cellsOf 3 = 1 := by kernel_rfl
 obtain ⟨i, hi⟩ : ∃ i, Tryz.prog.info? 3 = some i := Option.isSome_iff_exists.1 (by kernel_rfl)
 rw [run_equalIn_array w 9999 (icells xs) (icells ys) hT hi, hc, run_items_any 9998 xs ys w _ fun j hj => ⟨by rw [hl]; exact List.mem_range.1 hj, by rw [hl']; exact List.mem_range.1 hj⟩]
 congr 1
 rw [Bool.eq_false_iff]
 intro hall
 refine hne (getD_ext (by rw [hl, hl']) fun k hk => ?_)
 rw [List.all_eq_true] at hall
 simpa using hall k (List.mem_range.2 (by omega))
theorem arrLev : Arr 25 6 := ⟨⟨.array 6 3, by kernel_rfl, rfl⟩, by kernel_rfl⟩
theorem arrAll : Arr 129 6 := ⟨⟨.array 6 3, by kernel_rfl, rfl⟩, by kernel_rfl⟩
theorem grdLev : Tryz.prog.eqGuardType Tryz.prog.depth 25 = false := by kernel_rfl
def edgL : List Nat := [0, 1, 2, 4, 6, 10, 16]
def edg (b : Nat) : Nat := edgL.getD b 0
theorem edg_all : ∀ b, b < 6 → edg b < edg (b + 1) ∧ edg (b + 1) ≤ 16 ∧ edg b ≤ 15 := by decide
def Edg (w : World) : Prop := ∀ b, b < 7 → w.cell? ⟨0, b, none⟩ = some (.int .i64 (edg b : Int))
theorem Edg.below {w w' : World} (h : Edg w) (hb : Below w.heap.size w w') : Edg w' := fun b hlt => by
 have hc := h b hlt
 exact (hb.cell (p := ⟨_, b, none⟩) (World.block_lt_of_cell? _ _ hc)).trans hc
theorem Edg.drew {w : World} (h : Edg w) : Edg w.drew := h
theorem Edg.mem {w w' : World} {L : List (Nat × TypeId × List Int)} (h : Edg w) (hm : Mem w L w') : Edg w' := h.below hm.1
theorem Edg.cells {w : World} (h : Edg w) {b : Nat} (hb : b < 6) : w.cell? ⟨0, b, none⟩ = some (.int .i64 (edg b : Int)) ∧ w.cell? ⟨0, b + 1, none⟩ = some (.int .i64 (edg (b + 1) : Int)) := ⟨h b (by omega), h (b + 1) (by omega)⟩
theorem sumN_nonneg {f : Nat → Int} : ∀ n : Nat, (∀ i, i < n → 0 ≤ f i) → 0 ≤ sumN f n
 | 0, _ => Int.le_refl _
 | n + 1, h => by
  have h1 := sumN_nonneg n fun i hi => h i (by omega)
  have h2 := h n (by omega)
  rw [sumN_succ]; omega
end Go.Proofs.YtkcoboamejefiaaGreatDoor.Lp
namespace Go.Proofs.YtkcoboamejefiaaGreatDoor.Lp
open Go.RowKit Fx Fq Tb
end Go.Proofs.YtkcoboamejefiaaGreatDoor.Lp
namespace Go.Proofs.YtkcoboamejefiaaGreatDoor.Lp
open Go.RowKit Fx Fq Tb
def chkL (l : List Int) : Bool := inR 0 255 l
def heldL (l : List Int) : List Int := tab 6 (fun b => max 0 (min (l.getD b 0) 255))
theorem held_iff {l : List Int} (hl : l.length = 6) : heldL l = l ↔ chkL l = true := by
 unfold chkL
 rw [inR_iff hl]
 constructor
 ·intro h k hk
  have e : (heldL l).getD k 0 = l.getD k 0 := by rw [h]
  rw [heldL, tab_getD _ hk] at e
  omega
 ·intro h
  refine getD_ext (by rw [heldL, tab_length, hl]) fun k hk => ?_
  rw [heldL, tab_length] at hk
  rw [heldL, tab_getD _ hk]
  have := h k hk
  omega
def mkN (l : List Int) (b : Nat) : Nat → Int
 | 0 => 0
 | k + 1 => if k = b then mkN l b k else max (mkN l b k) (l.getD k 0 - 12 * max ((k : Int) - (b : Int)) ((b : Int) - (k : Int)) - 8)
theorem mkN_self (l : List Int) (k : Nat) : mkN l k (k + 1) = mkN l k k := by rw [mkN, if_pos rfl]
theorem mkN_other (l : List Int) {b k : Nat} (h : ¬ k = b) : mkN l b (k + 1) = max (mkN l b k) (l.getD k 0 - 12 * max ((k : Int) - (b : Int)) ((b : Int) - (k : Int)) - 8) := by rw [mkN, if_neg h]
def maskL (l : List Int) : List Int := tab 6 (fun b => mkN l b 6)
theorem maskL_length (l : List Int) : (maskL l).length = 6 := tab_length _ _
theorem mkN_bd {l : List Int} (h : chkL l = true) (b : Nat) : ∀ k, 0 ≤ mkN l b k ∧ mkN l b k ≤ 255
 | 0 => ⟨Int.le_refl _, by show (0 : Int) ≤ 255; omega⟩
 | k + 1 => by
  have ih := mkN_bd h b k
  have hv := inR_bd h (by omega) (by omega) k
  unfold mkN
  split <;> omega
theorem mask_bd {l : List Int} (h : chkL l = true) {b : Nat} (hb : b < 6) : 0 ≤ (maskL l).getD b 0 ∧ (maskL l).getD b 0 ≤ 255 := by
 rw [maskL, tab_getD _ hb]; exact mkN_bd h b 6
def wishI (v m : Int) : Int := if v ≤ m then 0 else min ((v - m + 7) / 8) 7
def wishL (l m : List Int) : List Int := tab 6 (fun b => wishI (l.getD b 0) (m.getD b 0))
theorem wishI_bd (v m : Int) : 0 ≤ wishI v m ∧ wishI v m ≤ 7 := by
 unfold wishI; split <;> omega
def costN (a : List Int) (k : Nat) : Int := sumN (fun b => a.getD b 0 * ((edg (b + 1) : Int) - (edg b : Int))) k
def costL (a : List Int) : Int := costN a 6
theorem costL_eq (a : List Int) : costL a = a.getD 0 0 + a.getD 1 0 + 2 * a.getD 2 0 + 2 * a.getD 3 0 + 4 * a.getD 4 0 + 6 * a.getD 5 0 := by
 have e : ∀ b, b < 7 → (edg b : Int) = [0, 1, 2, 4, 6, 10, 16].getD b 0 := by decide
 unfold costL costN
 simp only [sumN]
 rw [e 0 (by omega), e (0 + 1) (by omega), e (1 + 1) (by omega), e (2 + 1) (by omega), e (3 + 1) (by omega), e (4 + 1) (by omega), e (5 + 1) (by omega)]
 simp only [Nat.reduceAdd, List.getD_cons_zero, List.getD_cons_succ]
 omega
def lastM (a : List Int) : Nat → Nat
 | 0 => 0
 | k + 1 => if a.getD (lastM a k) 0 ≤ a.getD k 0 then k else lastM a k
theorem lastM_lt (a : List Int) : ∀ k, lastM a (k + 1) < k + 1
 | 0 => by unfold lastM; split <;> simp [lastM]
 | k + 1 => by
  have ih := lastM_lt a k
  rw [lastM]; split <;> omega
theorem lastM_lt6 (a : List Int) : lastM a 6 < 6 := lastM_lt a 5
theorem lastM_max (a : List Int) : ∀ k j, j < k → a.getD j 0 ≤ a.getD (lastM a k) 0
 | k + 1, j, hj => by
  have ih := lastM_max a k
  rw [lastM]
  split
  ·rename_i h
   by_cases e : j = k
   ·subst e; exact Int.le_refl _
   ·exact Int.le_trans (ih j (by omega)) h
  ·rename_i h
   by_cases e : j = k
   ·subst e; omega
   ·exact ih j (by omega)
theorem lastM_last (a : List Int) : ∀ k j, j < k → lastM a k < j → a.getD j 0 < a.getD (lastM a k) 0
 | k + 1, j, hj, hl => by
  have ih := lastM_last a k
  rw [lastM] at hl ⊢
  split
  ·rename_i h
   rw [if_pos h] at hl; omega
  ·rename_i h
   rw [if_neg h] at hl
   by_cases e : j = k
   ·subst e; omega
   ·exact ih j (by omega) hl
theorem lastM_is {a : List Int} {b : Nat} (hb : b < 6) (h1 : ∀ j, j < 6 → a.getD j 0 ≤ a.getD b 0) (h2 : ∀ j, j < 6 → b < j → a.getD j 0 < a.getD b 0) : lastM a 6 = b := by
 have k1 := lastM_lt6 a
 have k2 := lastM_max a 6 b hb
 have k3 := h1 _ k1
 rcases Nat.lt_trichotomy (lastM a 6) b with h | h | h
 ·have := lastM_last a 6 b hb h; omega
 ·exact h
 ·have := h2 _ k1 h; omega
def stpL (a : List Int) : List Int := a.set (lastM a 6) (a.getD (lastM a 6) 0 - 1)
def OkA (a : List Int) : Prop := a.length = 6 ∧ ∀ b, b < 6 → 0 ≤ a.getD b 0 ∧ a.getD b 0 ≤ 7
def sumA (a : List Int) : Nat := (sumN (fun b => a.getD b 0) 6).toNat
theorem getD_set' (a : List Int) (i : Nat) (v : Int) (j : Nat) (hi : i < a.length) : (a.set i v).getD j 0 = if i = j then v else a.getD j 0 := by
 simp only [List.getD_eq_getElem?_getD, List.getElem?_set]
 by_cases h : i = j
 ·subst h; simp [hi]
 ·simp [h]
theorem costL_pos {a : List Int} {B : Int} (hB : 0 ≤ B) (hc : B < costL a) : 0 < a.getD (lastM a 6) 0 := by
 rw [costL_eq] at hc
 have m := lastM_max a 6
 have m0 := m 0 (by omega)
 have m1 := m 1 (by omega)
 have m2 := m 2 (by omega)
 have m3 := m 3 (by omega)
 have m4 := m 4 (by omega)
 have m5 := m 5 (by omega)
 omega
theorem stp_ok {a : List Int} (h : OkA a) (hp : 0 < a.getD (lastM a 6) 0) : OkA (stpL a) := by
 have hl := lastM_lt6 a
 refine ⟨by rw [stpL, List.length_set, h.1], fun b hb => ?_⟩
 rw [stpL, getD_set' _ _ _ _ (by rw [h.1]; exact hl)]
 have := h.2 b hb
 have := h.2 _ hl
 split <;> omega
theorem sum_set (a : List Int) (i : Nat) (v : Int) (hi : i < a.length) : ∀ k, sumN (fun b => (a.set i v).getD b 0) k = sumN (fun b => a.getD b 0) k + if i < k then v - a.getD i 0 else 0
 | 0 => by simp [sumN]
 | k + 1 => by
  rw [sumN_succ, sumN_succ, sum_set a i v hi k, getD_set' _ _ _ _ hi]
  by_cases h : i = k
  ·subst h
   rw [if_pos rfl, if_neg (by omega), if_pos (by omega)]
   omega
  ·rw [if_neg h]
   by_cases h2 : i < k
   ·rw [if_pos h2, if_pos (by omega)]; omega
   ·rw [if_neg h2, if_neg (by omega)]; omega
theorem sumA_le {a : List Int} (h : OkA a) : sumA a ≤ 42 := by
 have := sumN_bd (fun b => if b < 6 then a.getD b 0 else 0) 7 6 fun i hi => by
  have := h.2 i hi
  show -7 ≤ (if i < 6 then a.getD i 0 else 0) ∧ (if i < 6 then a.getD i 0 else 0) ≤ 7
  rw [if_pos hi]; omega
 have e : sumN (fun b => a.getD b 0) 6 = sumN (fun b => if b < 6 then a.getD b 0 else 0) 6 := sumN_congr _ _ _ fun i hi => (if_pos hi).symm
 unfold sumA; rw [e]; omega
theorem sum_nonneg {a : List Int} (h : OkA a) : 0 ≤ sumN (fun b => a.getD b 0) 6 := sumN_nonneg _ fun i hi => (h.2 i hi).1
theorem stp_sum {a : List Int} (h : OkA a) (hp : 0 < a.getD (lastM a 6) 0) : sumA (stpL a) + 1 = sumA a := by
 have hl := lastM_lt6 a
 have h1 := sum_set a (lastM a 6) (a.getD (lastM a 6) 0 - 1) (by rw [h.1]; exact hl) 6
 rw [if_pos hl] at h1
 have h2 := sum_nonneg (stp_ok h hp)
 unfold stpL at h2
 unfold sumA stpL
 omega
def narL : Nat → List Int → Int → List Int
 | 0, a, _ => a
 | n + 1, a, B => if costL a ≤ B then a else narL n (stpL a) B
theorem nar_done {n : Nat} {a : List Int} {B : Int} (h : costL a ≤ B) : narL n a B = a := by
 cases n with
 | zero => rfl
 | succ n => rw [narL, if_pos h]
theorem nar_fuel {B : Int} (hB : 0 ≤ B) : ∀ (n m : Nat) (a : List Int), OkA a → sumA a ≤ n → sumA a ≤ m → narL n a B = narL m a B
 | n, m, a, h, hn, hm => by
  by_cases hc : costL a ≤ B
  ·rw [nar_done hc, nar_done hc]
  ·have hp := costL_pos (a := a) hB (by omega)
   have hs := stp_sum h hp
   match n, m with
   | n + 1, m + 1 =>
    rw [narL, narL, if_neg hc, if_neg hc]
    exact nar_fuel hB n m _ (stp_ok h hp) (by omega) (by omega)
   | 0, _ => omega
   | _ + 1, 0 => omega
theorem nar_step {B : Int} (hB : 0 ≤ B) {a : List Int} (h : OkA a) (hc : ¬ costL a ≤ B) : narL 42 a B = narL 42 (stpL a) B ∧ OkA (stpL a) := by
 have hp := costL_pos (a := a) hB (by omega)
 have hs := stp_sum h hp
 have h42 := sumA_le h
 refine ⟨?_, stp_ok h hp⟩
 rw [show (42 : Nat) = 41 + 1 from rfl, narL, if_neg hc]
 exact nar_fuel hB 41 (41 + 1) _ (stp_ok h hp) (by omega) (by omega)
theorem nar_ok {B : Int} (hB : 0 ≤ B) : ∀ (n : Nat) (a : List Int), OkA a → sumA a ≤ n → OkA (narL n a B) ∧ costL (narL n a B) ≤ B ∧ ∀ b, b < 6 → (narL n a B).getD b 0 ≤ a.getD b 0
 | n, a, h, hn => by
  by_cases hc : costL a ≤ B
  ·rw [nar_done hc]; exact ⟨h, hc, fun b _ => Int.le_refl _⟩
  ·have hp := costL_pos (a := a) hB (by omega)
   have hs := stp_sum h hp
   match n with
   | 0 => omega
   | n + 1 =>
    rw [narL, if_neg hc]
    obtain ⟨h1, h2, h3⟩ := nar_ok hB n _ (stp_ok h hp) (by omega)
    refine ⟨h1, h2, fun b hb => Int.le_trans (h3 b hb) ?_⟩
    have hl := lastM_lt6 a
    rw [stpL, getD_set' _ _ _ _ (by rw [h.1]; exact hl)]
    split
    ·rename_i e; rw [e]; omega
    ·exact Int.le_refl _
def shareL (l : List Int) (B : Int) : List Int := narL 42 (wishL l (maskL l)) B
theorem wish_ok (l m : List Int) : OkA (wishL l m) := ⟨tab_length _ _, fun b hb => by rw [wishL, tab_getD _ hb]; exact wishI_bd _ _⟩
theorem share_ok (l : List Int) {B : Int} (hB : 0 ≤ B) : OkA (shareL l B) ∧ costL (shareL l B) ≤ B := by
 have h := nar_ok hB 42 _ (wish_ok l (maskL l)) (sumA_le (wish_ok _ _))
 exact ⟨h.1, h.2.1⟩
end Go.Proofs.YtkcoboamejefiaaGreatDoor.Lp
namespace Go.Proofs.YtkcoboamejefiaaGreatDoor.Lp
open Go.RowKit Fx Fq Tb
theorem ri {k : IntKind} {a b : Int} (h : a = b) : Ending.returned (.int k a) = .returned (.int k b) := by rw [h]
theorem held_any (l : List Int) (w : World) (ll : l.length = 6) :
  Calls Tryz.prog 67 #[.agg (icells l)] w (ValQ w (.agg (icells (heldL l)))) := by
 have LL := Lib.hid ll
 have HM := Lib.hid (Mem.start w)
 clear ll
 go_enter Tryz.func67, Tryz.ntmps67
 go_wp2_with (first | ((first | refine wl_box rfl _ _ rfl rfl HM ?_ | refine wl_alloc rfl _ rfl (by exact q7a) HM ?_); first | (have q:dL HM = 0:=rfl;clear q HM;intro g1 u1 HM) | (have q:dL HM = 1:=rfl;clear q HM;intro g2 u2 HM) | (have q:dL HM = 2:=rfl;clear q HM;intro g3 u3 HM) | (have q:dL HM = 3:=rfl;clear q HM;intro g4 u4 HM)) | (refine wl_load rfl _ _ rfl rfl (by exact q7a) HM (by exact q7e) (by exact q7l) ?_) | (refine wl_storeM rfl _ _ _ rfl rfl rfl (by exact q7a) HM (by exact q7x) (by exact q7l) (by exact q7l) ?_; clear HM; intro us HM; dsimp only [List.set] at HM) | (refine q8v rfl _ rfl (by exact q7a) (by kernel_rfl) ?_))
 go_loopw [6] (fun vi wr => ∃ k : Nat, k ≤ 6 ∧ vi = .int .i64 (k : Int) ∧ Hid (Mem w [(g2, 25, zr 6), (g1, 25, tab 6 (part2 k (fun b => max 0 (min (l.getD b 0) 255)) (fun b => l.getD b 0)))] wr)) (fun vi _ => 6 - (intOf vi).toNat)
 case atStart => exact ⟨0, by omega, rfl, Lib.hid (by rw [part2_none, tab_self LL.out]; exact HM.out)⟩
 case round =>
  clear HM
  obtain ⟨k, hk, rfl, HM⟩ := hrel
  by_cases hlt : k < 6
  ·have k6 : (k : Int) < 6 := by omega
   have hix := run_index 25 (n := 6) (by kernel_rfl) l LL.out k hlt
   have S1 := Lib.hid (part2_set (n := 6) (k := k) (fun b => max 0 (min (l.getD b 0) 255)) (fun b => l.getD b 0))
   have c3 := HM.out.cell (.tail _ (.head _)) (k := k) (by rw [tab_length]; omega)
   have f3 := HM.out.free (.tail _ (.head _)) k
   generalize List.getD (tab 6 _) k 0 = o at c3
   generalize l.getD k 0 = v at hix S1
   go_wp2
   have HM3 := Lib.hid (HM.out.put 1 rfl k (max 0 (min v 255)))
   simp only [List.set_cons_zero, List.set_cons_succ] at HM3
   rw [S1.out] at HM3
   clear HM c3 f3
   go_roundw
   case rel => exact ⟨k + 1, by omega, by go_num, HM3⟩
   case measure => simp [intOf]; omega
  ·obtain rfl : k = 6 := by omega
   rw [part2_all] at HM
   have LO := Lib.hid (show (heldL l).length = 6 from tab_length _ _)
   change Hid (Mem w [(g2, 25, zr 6), (g1, 25, heldL l)] wr) at HM
   go_wp2_with (first | ((first | refine wl_box rfl _ _ rfl rfl HM ?_ | refine wl_alloc rfl _ rfl (by exact q7a) HM ?_); first | (have q:dL HM = 0:=rfl;clear q HM;intro g1 u1 HM) | (have q:dL HM = 1:=rfl;clear q HM;intro g2 u2 HM) | (have q:dL HM = 2:=rfl;clear q HM;intro g3 u3 HM) | (have q:dL HM = 3:=rfl;clear q HM;intro g4 u4 HM)) | (refine wl_load rfl _ _ rfl rfl (by exact q7a) HM (by exact q7e) (by exact q7l) ?_) | (refine wl_storeM rfl _ _ _ rfl rfl rfl (by exact q7a) HM (by exact q7x) (by exact q7l) (by exact q7l) ?_; clear HM; intro us HM; dsimp only [List.set] at HM) | (refine q8v rfl _ rfl (by exact q7a) (by kernel_rfl) ?_))
   refine bodyPost_ret (v := .agg (icells (heldL l))) (res_one rfl _ rfl arrLev HM (by exact q7e) LO) rfl ⟨rfl, HM.out.1⟩
theorem bcheck_any (l : List Int) (c : Bool) (z : Int) (w : World) (ll : l.length = 6) (hc : chkL l = c) (hz : (if c = true then 0 else 1) = z) :
  Calls Tryz.prog 41 #[.agg (icells l)] w (ValQ w (.int .i64 z)) := by
 have LL := Lib.hid ll
 have HM := Lib.hid (Mem.start w)
 have HH := Lib.hid (fun u => held_any l u ll)
 have LH := Lib.hid (show (heldL l).length = 6 from tab_length _ _)
 have hgd := grdLev
 cases c with
 | true =>
  obtain rfl : z = 0 := by rw [← hz]; rfl
  have heq := fun u => run_equalIn_same 25 (n := 6) (by kernel_rfl) l ll u
  rw [(held_iff ll).2 hc] at HH LH
  clear ll hc hz
  go_enter Tryz.func41, Tryz.ntmps41
  go_wp2_with (first | ((first | refine wl_box rfl _ _ rfl rfl HM ?_ | refine wl_alloc rfl _ rfl (by exact q7a) HM ?_); first | (have q:dL HM = 0:=rfl;clear q HM;intro g1 u1 HM) | (have q:dL HM = 1:=rfl;clear q HM;intro g2 u2 HM) | (have q:dL HM = 2:=rfl;clear q HM;intro g3 u3 HM) | (have q:dL HM = 3:=rfl;clear q HM;intro g4 u4 HM)) | (refine wl_load rfl _ _ rfl rfl (by exact q7a) HM (by exact q7e) (by exact q7l) ?_) | (refine wl_storeM rfl _ _ _ rfl rfl rfl (by exact q7a) HM (by exact q7x) (by exact q7l) (by exact q7l) ?_; clear HM; intro us HM; dsimp only [List.set] at HM) | (refine q8v rfl _ rfl (by exact q7a) (by kernel_rfl) ?_))
  refine wp_region_held_drew (S := Mem w [(g1, 25, l)]) (by kernel_rfl) (HM.out.drew.sub (by exact q7u)) (fun hHeld => ?_)
  have HMd := Lib.hid HM.out.drew
  clear HM
  have HM := HMd
  clear HMd
  generalize World.drew _ = wd at HM hHeld ⊢
  (refine wa_take (i := 0) rfl (by kernel_rfl) (by kernel_rfl) (by kernel_rfl) (fun _ _ _ h => h) (yi_load rfl _ _ rfl rfl (by exact q7a) (fun u hu => hu) (by exact q7e) (by exact q7l)) hHeld rfl ?_; (try simp only [Act.put, qz1, qz2, qz3]))
  (refine wa_take (i := 2) rfl (by kernel_rfl) (by kernel_rfl) (by kernel_rfl) (fun _ _ _ h => h) (yi_load rfl _ _ rfl rfl (by exact q7a) (fun u hu => hu) (by exact q7e) (by exact q7l)) hHeld rfl ?_; (try simp only [Act.put, qz1, qz2, qz3]))
  refine wpAnyH_ready (rs := [1]) (by kernel_rfl) (by simp) ?_; refine AllReadyH.cons rfl (fun K hK => ?_) (AllReadyH.nil)
  rw [if_pos (by rfl)]; go_simp
  refine (HH.out _).mono ?_
  rintro e wb ⟨rfl, h1⟩
  replace HM := Lib.hid (HM.out.below h1)
  clear h1 HH hHeld
  go_wp2_with fail; refine hK.out _ _ (HM.out.sub (by exact q7u)) (fun hHeld => ?_); clear hK K; (try simp only [Act.put, qz1, qz2, qz3])
  (refine wa_take (i := 3) (v := .bool false) rfl (by kernel_rfl) (by kernel_rfl) (by kernel_rfl) (fun _ _ _ h => h) (yi_free rfl (fun u => by go_simp)) hHeld rfl ?_; (try simp only [Act.put, qz1, qz2, qz3]))
  refine wpAnyH_done (by kernel_rfl) ?_ _
  go_wp2
  go_ret
  exact ⟨rfl, HM.out.1⟩
 | false =>
  obtain rfl : z = 1 := by rw [← hz]; rfl
  have heq := fun u => run_equalIn_diff 25 (n := 6) (by kernel_rfl) (heldL l) l LH.out ll (fun e => by rw [(held_iff ll).1 e] at hc; cases hc) u
  clear ll hc hz
  generalize heldL l = m at HH LH heq
  go_enter Tryz.func41, Tryz.ntmps41
  go_wp2_with (first | ((first | refine wl_box rfl _ _ rfl rfl HM ?_ | refine wl_alloc rfl _ rfl (by exact q7a) HM ?_); first | (have q:dL HM = 0:=rfl;clear q HM;intro g1 u1 HM) | (have q:dL HM = 1:=rfl;clear q HM;intro g2 u2 HM) | (have q:dL HM = 2:=rfl;clear q HM;intro g3 u3 HM) | (have q:dL HM = 3:=rfl;clear q HM;intro g4 u4 HM)) | (refine wl_load rfl _ _ rfl rfl (by exact q7a) HM (by exact q7e) (by exact q7l) ?_) | (refine wl_storeM rfl _ _ _ rfl rfl rfl (by exact q7a) HM (by exact q7x) (by exact q7l) (by exact q7l) ?_; clear HM; intro us HM; dsimp only [List.set] at HM) | (refine q8v rfl _ rfl (by exact q7a) (by kernel_rfl) ?_))
  refine wp_region_held_drew (S := Mem w [(g1, 25, l)]) (by kernel_rfl) (HM.out.drew.sub (by exact q7u)) (fun hHeld => ?_)
  have HMd := Lib.hid HM.out.drew
  clear HM
  have HM := HMd
  clear HMd
  generalize World.drew _ = wd at HM hHeld ⊢
  (refine wa_take (i := 0) rfl (by kernel_rfl) (by kernel_rfl) (by kernel_rfl) (fun _ _ _ h => h) (yi_load rfl _ _ rfl rfl (by exact q7a) (fun u hu => hu) (by exact q7e) (by exact q7l)) hHeld rfl ?_; (try simp only [Act.put, qz1, qz2, qz3]))
  (refine wa_take (i := 2) rfl (by kernel_rfl) (by kernel_rfl) (by kernel_rfl) (fun _ _ _ h => h) (yi_load rfl _ _ rfl rfl (by exact q7a) (fun u hu => hu) (by exact q7e) (by exact q7l)) hHeld rfl ?_; (try simp only [Act.put, qz1, qz2, qz3]))
  refine wpAnyH_ready (rs := [1]) (by kernel_rfl) (by simp) ?_; refine AllReadyH.cons rfl (fun K hK => ?_) (AllReadyH.nil)
  rw [if_pos (by rfl)]; go_simp
  refine (HH.out _).mono ?_
  rintro e wb ⟨rfl, h1⟩
  replace HM := Lib.hid (HM.out.below h1)
  clear h1 HH hHeld
  go_wp2_with fail; refine hK.out _ _ (HM.out.sub (by exact q7u)) (fun hHeld => ?_); clear hK K; (try simp only [Act.put, qz1, qz2, qz3])
  (refine wa_take (i := 3) (v := .bool true) rfl (by kernel_rfl) (by kernel_rfl) (by kernel_rfl) (fun _ _ _ h => h) (yi_free rfl (fun u => by go_simp)) hHeld rfl ?_; (try simp only [Act.put, qz1, qz2, qz3]))
  refine wpAnyH_done (by kernel_rfl) ?_ _
  go_wp2
  go_ret
  exact ⟨rfl, HM.out.1⟩
theorem drowned_any (l : List Int) (b : Nat) (w : World) (ll : l.length = 6) (hc : chkL l = true) (hb : b < 6) :
  Calls Tryz.prog 173 #[.agg (icells l), .int .i64 (b : Int)] w (ValQ w (.int .i64 (mkN l b 6))) := by
 have LL := Lib.hid ll
 have HC := Lib.hid hc
 have HM := Lib.hid (Mem.start w)
 have b6 : (b : Int) < 6 := by omega
 clear ll hc
 go_enter Tryz.func173, Tryz.ntmps173
 go_wp2_with (first | ((first | refine wl_box rfl _ _ rfl rfl HM ?_ | refine wl_alloc rfl _ rfl (by exact q7a) HM ?_); first | (have q:dL HM = 0:=rfl;clear q HM;intro g1 u1 HM) | (have q:dL HM = 1:=rfl;clear q HM;intro g2 u2 HM) | (have q:dL HM = 2:=rfl;clear q HM;intro g3 u3 HM) | (have q:dL HM = 3:=rfl;clear q HM;intro g4 u4 HM)) | (refine wl_load rfl _ _ rfl rfl (by exact q7a) HM (by exact q7e) (by exact q7l) ?_) | (refine wl_storeM rfl _ _ _ rfl rfl rfl (by exact q7a) HM (by exact q7x) (by exact q7l) (by exact q7l) ?_; clear HM; intro us HM; dsimp only [List.set] at HM) | (refine q8v rfl _ rfl (by exact q7a) (by kernel_rfl) ?_))
 go_loop [5, 10] (fun vm vi => ∃ k : Nat, k ≤ 6 ∧ vi = .int .i64 (k : Int) ∧ vm = .int .i64 (mkN l b k)) (fun _ vi => 6 - (intOf vi).toNat)
 case atStart => exact ⟨0, by omega, rfl, rfl⟩
 case round =>
  obtain ⟨k, hk, rfl, rfl⟩ := hrel
  by_cases hlt : k < 6
  ·have k6 : (k : Int) < 6 := by omega
   have hix := run_index 25 (n := 6) (by kernel_rfl) l LL.out k hlt
   have hv := inR_bd HC.out (by omega) (by omega) k
   have hm := mkN_bd HC.out b k
   by_cases hkb : k = b
   ·subst hkb
    have HS := Lib.hid (mkN_self l k)
    have hd : ((k : Int) == (k : Int)) = true := by simp
    generalize mkN l k k = M at hm HS
    generalize l.getD k 0 = v at hix hv
    clear hv hm
    go_wp2
    go_round
    case rel => exact ⟨k + 1, by omega, by go_num, by rw [HS.out]⟩
    case measure => simp [intOf]; omega
   ·obtain ⟨D, hD⟩ : ∃ D : Int, max ((k : Int) - (b : Int)) ((b : Int) - (k : Int)) = D := ⟨_, rfl⟩
    have HS := Lib.hid (show mkN l b (k + 1) = max (mkN l b k) (l.getD k 0 - 12 * D - 8) by rw [← hD]; exact mkN_other l hkb)
    have d1 : 0 ≤ D := by omega
    have d2 : D ≤ 5 := by omega
    have hd : ((k : Int) == (b : Int)) = false := by simpa using fun h => hkb (by omega)
    generalize mkN l b k = M at hm HS
    generalize l.getD k 0 = v at hix hv HS
    obtain ⟨hv1, hv2⟩ := hv
    obtain ⟨hm1, hm2⟩ := hm
    clear hkb
    go_wp2
    go_round
    case rel => exact ⟨k + 1, by omega, by go_num, by rw [HS.out]⟩
    case measure => simp [intOf]; omega
  ·obtain rfl : k = 6 := by omega
   go_wp2
   go_ret
   exact ⟨rfl, HM.out.1⟩
theorem mask_bad (l : List Int) (w : World) (ll : l.length = 6) (hc : chkL l = false) :
  Calls Tryz.prog 124 #[.agg (icells l)] w (ValQ w (.tuple #[.agg (icells (zr 6)), .int .i64 1])) := by
 have LL := Lib.hid ll
 have LZ := Lib.hid (zr_length 6)
 have HM := Lib.hid (Mem.start w)
 have HC := Lib.hid (fun u => bcheck_any l false 1 u ll hc rfl)
 clear ll hc
 go_enter Tryz.func124, Tryz.ntmps124
 go_wp2_with (first | ((first | refine wl_box rfl _ _ rfl rfl HM ?_ | refine wl_alloc rfl _ rfl (by exact q7a) HM ?_); first | (have q:dL HM = 0:=rfl;clear q HM;intro g1 u1 HM) | (have q:dL HM = 1:=rfl;clear q HM;intro g2 u2 HM) | (have q:dL HM = 2:=rfl;clear q HM;intro g3 u3 HM) | (have q:dL HM = 3:=rfl;clear q HM;intro g4 u4 HM)) | (refine wl_load rfl _ _ rfl rfl (by exact q7a) HM (by exact q7e) (by exact q7l) ?_) | (refine wl_storeM rfl _ _ _ rfl rfl rfl (by exact q7a) HM (by exact q7x) (by exact q7l) (by exact q7l) ?_; clear HM; intro us HM; dsimp only [List.set] at HM) | (refine q8v rfl _ rfl (by exact q7a) (by kernel_rfl) ?_))
 refine (HC.out _).mono ?_
 rintro e w2 ⟨rfl, h1⟩
 replace HM := Lib.hid (HM.out.below h1)
 clear h1 HC
 go_wp2_with (first | ((first | refine wl_box rfl _ _ rfl rfl HM ?_ | refine wl_alloc rfl _ rfl (by exact q7a) HM ?_); first | (have q:dL HM = 0:=rfl;clear q HM;intro g1 u1 HM) | (have q:dL HM = 1:=rfl;clear q HM;intro g2 u2 HM) | (have q:dL HM = 2:=rfl;clear q HM;intro g3 u3 HM) | (have q:dL HM = 3:=rfl;clear q HM;intro g4 u4 HM)) | (refine wl_load rfl _ _ rfl rfl (by exact q7a) HM (by exact q7e) (by exact q7l) ?_) | (refine wl_storeM rfl _ _ _ rfl rfl rfl (by exact q7a) HM (by exact q7x) (by exact q7l) (by exact q7l) ?_; clear HM; intro us HM; dsimp only [List.set] at HM) | (refine q8v rfl _ rfl (by exact q7a) (by kernel_rfl) ?_))
 refine bodyPost_ret (v := .tuple #[.agg (icells (zr 6)), .int .i64 1]) (res_two rfl _ rfl rfl arrLev HM (by exact q7e) LZ) rfl ⟨rfl, HM.out.1⟩
theorem mask_good (l : List Int) (w : World) (ll : l.length = 6) (hc : chkL l = true) :
  Calls Tryz.prog 124 #[.agg (icells l)] w (ValQ w (.tuple #[.agg (icells (maskL l)), .int .i64 0])) := by
 have LL := Lib.hid ll
 have LZ := Lib.hid (zr_length 6)
 have HM := Lib.hid (Mem.start w)
 have HC := Lib.hid (fun u => bcheck_any l true 0 u ll hc rfl)
 have HD := Lib.hid (fun b u hb => drowned_any l b u ll hc hb)
 clear ll hc
 go_enter Tryz.func124, Tryz.ntmps124
 go_wp2_with (first | ((first | refine wl_box rfl _ _ rfl rfl HM ?_ | refine wl_alloc rfl _ rfl (by exact q7a) HM ?_); first | (have q:dL HM = 0:=rfl;clear q HM;intro g1 u1 HM) | (have q:dL HM = 1:=rfl;clear q HM;intro g2 u2 HM) | (have q:dL HM = 2:=rfl;clear q HM;intro g3 u3 HM) | (have q:dL HM = 3:=rfl;clear q HM;intro g4 u4 HM)) | (refine wl_load rfl _ _ rfl rfl (by exact q7a) HM (by exact q7e) (by exact q7l) ?_) | (refine wl_storeM rfl _ _ _ rfl rfl rfl (by exact q7a) HM (by exact q7x) (by exact q7l) (by exact q7l) ?_; clear HM; intro us HM; dsimp only [List.set] at HM) | (refine q8v rfl _ rfl (by exact q7a) (by kernel_rfl) ?_))
 refine (HC.out _).mono ?_
 rintro e w2 ⟨rfl, h1⟩
 replace HM := Lib.hid (HM.out.below h1)
 clear h1 HC
 go_wp2_with (first | ((first | refine wl_box rfl _ _ rfl rfl HM ?_ | refine wl_alloc rfl _ rfl (by exact q7a) HM ?_); first | (have q:dL HM = 0:=rfl;clear q HM;intro g1 u1 HM) | (have q:dL HM = 1:=rfl;clear q HM;intro g2 u2 HM) | (have q:dL HM = 2:=rfl;clear q HM;intro g3 u3 HM) | (have q:dL HM = 3:=rfl;clear q HM;intro g4 u4 HM)) | (refine wl_load rfl _ _ rfl rfl (by exact q7a) HM (by exact q7e) (by exact q7l) ?_) | (refine wl_storeM rfl _ _ _ rfl rfl rfl (by exact q7a) HM (by exact q7x) (by exact q7l) (by exact q7l) ?_; clear HM; intro us HM; dsimp only [List.set] at HM) | (refine q8v rfl _ rfl (by exact q7a) (by kernel_rfl) ?_))
 go_loopw [10] (fun vi wr => ∃ k : Nat, k ≤ 6 ∧ vi = .int .i64 (k : Int) ∧ Hid (Mem w [(g3, 25, tab 6 (part2 k (fun b => mkN l b 6) (fun _ => 0))), (g2, 25, zr 6), (g1, 25, l)] wr)) (fun vi _ => 6 - (intOf vi).toNat)
 case atStart => exact ⟨0, by omega, rfl, Lib.hid (by rw [part2_none, tab_zero]; exact HM.out)⟩
 case round =>
  clear HM
  obtain ⟨k, hk, rfl, HM⟩ := hrel
  by_cases hlt : k < 6
  ·have k6 : (k : Int) < 6 := by omega
   go_wp2_with (first | ((first | refine wl_box rfl _ _ rfl rfl HM ?_ | refine wl_alloc rfl _ rfl (by exact q7a) HM ?_); first | (have q:dL HM = 0:=rfl;clear q HM;intro g1 u1 HM) | (have q:dL HM = 1:=rfl;clear q HM;intro g2 u2 HM) | (have q:dL HM = 2:=rfl;clear q HM;intro g3 u3 HM) | (have q:dL HM = 3:=rfl;clear q HM;intro g4 u4 HM)) | (refine wl_load rfl _ _ rfl rfl (by exact q7a) HM (by exact q7e) (by exact q7l) ?_) | (refine wl_storeM rfl _ _ _ rfl rfl rfl (by exact q7a) HM (by exact q7x) (by exact q7l) (by exact q7l) ?_; clear HM; intro us HM; dsimp only [List.set] at HM) | (refine q8v rfl _ rfl (by exact q7a) (by kernel_rfl) ?_))
   refine (HD.out k _ hlt).mono ?_
   rintro e wb ⟨rfl, h1⟩
   replace HM := Lib.hid (HM.out.below h1)
   clear h1
   have S1 := Lib.hid (part2_set (n := 6) (k := k) (fun b => mkN l b 6) (fun _ => 0))
   have c3 := HM.out.cell (.head _) (k := k) (by rw [tab_length]; omega)
   have f3 := HM.out.free (.head _) k
   generalize List.getD (tab 6 _) k 0 = o at c3
   generalize mkN l k 6 = q at S1
   go_wp2
   have HM3 := Lib.hid (HM.out.put 0 rfl k q)
   simp only [List.set_cons_zero] at HM3
   rw [S1.out] at HM3
   clear HM c3 f3
   go_roundw
   case rel => exact ⟨k + 1, by omega, by go_num, HM3⟩
   case measure => simp [intOf]; omega
  ·obtain rfl : k = 6 := by omega
   rw [part2_all] at HM
   have LO := Lib.hid (maskL_length l)
   change Hid (Mem w [(g3, 25, maskL l), (g2, 25, zr 6), (g1, 25, l)] wr) at HM
   go_wp2_with (first | ((first | refine wl_box rfl _ _ rfl rfl HM ?_ | refine wl_alloc rfl _ rfl (by exact q7a) HM ?_); first | (have q:dL HM = 0:=rfl;clear q HM;intro g1 u1 HM) | (have q:dL HM = 1:=rfl;clear q HM;intro g2 u2 HM) | (have q:dL HM = 2:=rfl;clear q HM;intro g3 u3 HM) | (have q:dL HM = 3:=rfl;clear q HM;intro g4 u4 HM)) | (refine wl_load rfl _ _ rfl rfl (by exact q7a) HM (by exact q7e) (by exact q7l) ?_) | (refine wl_storeM rfl _ _ _ rfl rfl rfl (by exact q7a) HM (by exact q7x) (by exact q7l) (by exact q7l) ?_; clear HM; intro us HM; dsimp only [List.set] at HM) | (refine q8v rfl _ rfl (by exact q7a) (by kernel_rfl) ?_))
   refine bodyPost_ret (v := .tuple #[.agg (icells (maskL l)), .int .i64 0]) (res_two rfl _ rfl rfl arrLev HM (by exact q7e) LO) rfl ⟨rfl, HM.out.1⟩
end Go.Proofs.YtkcoboamejefiaaGreatDoor.Lp
namespace Go.Proofs.YtkcoboamejefiaaGreatDoor.Lp
open Go.RowKit Fx Fq Tb
theorem wished_any (v m : Int) (w : World) (h1 : 0 ≤ v) (h2 : v ≤ 255) (h3 : 0 ≤ m) (h4 : m ≤ 255) :
  Calls Tryz.prog 125 #[.int .i64 v, .int .i64 m] w fun e w' => e = .returned (.int .i64 (wishI v m)) ∧ w = w' := by
 by_cases h : v ≤ m
 ·have HV := Lib.hid (show wishI v m = 0 from if_pos h)
  go_enter Tryz.func125, Tryz.ntmps125
  go_wp2
  go_ret
  exact ⟨ri HV.out.symm, rfl⟩
 ·have HV := Lib.hid (show wishI v m = min ((v - m + 8 - 1) / 8) 7 by
   unfold wishI; rw [if_neg h]; omega)
  have h5 : m < v := by omega
  clear h
  go_enter Tryz.func125, Tryz.ntmps125
  go_wp2
  go_ret
  exact ⟨ri HV.out.symm, rfl⟩
theorem costN_bd {a : List Int} (h : OkA a) : ∀ k, k ≤ 6 → 0 ≤ costN a k ∧ costN a k ≤ 112 * (k : Int)
 | 0, _ => by simp [costN, sumN]
 | k + 1, hk => by
  have ih := costN_bd h k (by omega)
  have hv := h.2 k (by omega)
  have he := edg_all k (by omega)
  have hm := mul_bd (x := a.getD k 0) (y := (edg (k + 1) : Int) - (edg k : Int)) (A := 7) (B := 16) (by omega) (by omega) (by omega) (by omega)
  have hp := Int.mul_nonneg hv.1 (show 0 ≤ (edg (k + 1) : Int) - (edg k : Int) by omega)
  unfold costN at ih ⊢
  rw [sumN_succ]
  omega
theorem cost_any (a : List Int) (w : World) (ha : OkA a) (he : Edg w) :
  Calls Tryz.prog 175 #[.agg (icells a)] w (ValQ w (.int .i64 (costL a))) := by
 have HA := Lib.hid ha
 have LA := Lib.hid ha.1
 have HE := Lib.hid he
 have HM := Lib.hid (Mem.start w)
 clear ha he
 go_enter Tryz.func175, Tryz.ntmps175
 go_wp2_with (first | ((first | refine wl_box rfl _ _ rfl rfl HM ?_ | refine wl_alloc rfl _ rfl (by exact q7a) HM ?_); first | (have q:dL HM = 0:=rfl;clear q HM;intro g1 u1 HM) | (have q:dL HM = 1:=rfl;clear q HM;intro g2 u2 HM) | (have q:dL HM = 2:=rfl;clear q HM;intro g3 u3 HM) | (have q:dL HM = 3:=rfl;clear q HM;intro g4 u4 HM)) | (refine wl_load rfl _ _ rfl rfl (by exact q7a) HM (by exact q7e) (by exact q7l) ?_) | (refine wl_storeM rfl _ _ _ rfl rfl rfl (by exact q7a) HM (by exact q7x) (by exact q7l) (by exact q7l) ?_; clear HM; intro us HM; dsimp only [List.set] at HM) | (refine q8v rfl _ rfl (by exact q7a) (by kernel_rfl) ?_))
 go_loopw [3, 7] (fun vs vi wr => ∃ k : Nat, k ≤ 6 ∧ vi = .int .i64 (k : Int) ∧ vs = .int .i64 (costN a k) ∧ Hid (Mem w [(g1, 129, a)] wr)) (fun _ vi _ => 6 - (intOf vi).toNat)
 case atStart => exact ⟨0, by omega, rfl, rfl, HM⟩
 case round =>
  clear HM
  obtain ⟨k, hk, rfl, rfl, HM⟩ := hrel
  by_cases hlt : k < 6
  ·have k6 : (k : Int) < 6 := by omega
   have hix := run_index 129 (n := 6) (by kernel_rfl) a LA.out k hlt
   obtain ⟨c1, c2⟩ := (HE.out.mem HM.out).cells hlt
   have hb := costN_bd HA.out k hk
   have hb2 := costN_bd HA.out (k + 1) (by omega)
   have hv := HA.out.2 k hlt
   have hed := edg_all k hlt
   have HS := Lib.hid (show costN a (k + 1) = costN a k + a.getD k 0 * ((edg (k + 1) : Int) - (edg k : Int)) from sumN_succ _ _)
   rw [HS.out] at hb2
   have hm := mul_bd (x := a.getD k 0) (y := (edg (k + 1) : Int) - (edg k : Int)) (A := 7) (B := 16) (by omega) (by omega) (by omega) (by omega)
   generalize costN a k = S at hb hb2 HS
   generalize a.getD k 0 = v at hix hv HS hb2 hm
   generalize edg k = lo at c1 hed HS hb2 hm
   generalize edg (k + 1) = hi at c2 hed HS hb2 hm
   obtain ⟨d, hd⟩ : ∃ d : Int, (hi : Int) - (lo : Int) = d := ⟨_, rfl⟩
   rw [hd] at HS hb2 hm
   have e1 : IntKind.i64.wrap ((k : Int) + 1) = (k : Int) + 1 := IntWalk.i64_in _ (by omega)
   have e2 : IntKind.i64.wrap ((hi : Int) - (lo : Int)) = d := by rw [hd]; exact IntWalk.i64_in _ (by omega)
   have e3 : IntKind.i64.wrap (v * d) = v * d := IntWalk.i64_in _ (by omega)
   have e4 : IntKind.i64.wrap (S + v * d) = S + v * d := IntWalk.i64_in _ (by omega)
   have e5 : ((k : Int) + 1).toNat = k + 1 := by omega
   have e6 : 0 ≤ (k : Int) + 1 := by omega
   have e7 : (k : Int) + 1 < 7 := by omega
   clear hd hb hb2 hv hm hed
   go_wp2_with fail
   go_quiet (fail)
   have HM2 := Lib.hid (HM.out.drewN nq)
   clear HM c1 c2 e1 e2 e3 e4 e5 e6 e7
   go_wp2
   go_roundw
   case rel => exact ⟨k + 1, by omega, by go_num, by rw [HS.out], HM2⟩
   case measure => simp [intOf]; omega
  ·obtain rfl : k = 6 := by omega
   go_wp2
   go_ret
   exact ⟨rfl, HM.out.1⟩
def bnd (n : Nat) : Nat := if n < 1 then 0 else if n < 2 then 1 else if n < 4 then 2 else if n < 6 then 3 else if n < 10 then 4 else 5
theorem bnd_all : ∀ n, n < 16 → bnd n < 6 ∧ edg (bnd n) ≤ n ∧ n < edg (bnd n + 1) ∧ ∀ k, k < 6 → (k < bnd n → edg k ≤ n ∧ edg (k + 1) ≤ n) := by decide
theorem of_good (n : Nat) (w : World) (hn : n < 16) (he : Edg w) :
  Calls Tryz.prog 130 #[.int .i64 (n : Int)] w fun e w' => e = .returned (.tuple #[.int .i64 (bnd n : Int), .int .i64 0]) ∧ w = w' := by
 have HE := Lib.hid he
 obtain ⟨b1, b2, b3, b4⟩ := bnd_all n hn
 have B4 := Lib.hid b4
 obtain ⟨m, hm⟩ : ∃ m, bnd n = m := ⟨_, rfl⟩
 rw [hm] at b1 b2 b3 B4
 rw [hm]
 clear he b4 hm
 go_enter Tryz.func130, Tryz.ntmps130
 go_wp2_with fail
 go_loop [5] (fun vi => ∃ k : Nat, k ≤ m ∧ vi = .int .i64 (k : Int)) (fun vi => 6 - (intOf vi).toNat)
 case atStart => exact ⟨0, by omega, rfl⟩
 case round =>
  obtain ⟨k, hk, rfl⟩ := hrel
  have k6 : (k : Int) < 6 := by omega
  have k7 : (k : Int) + 1 < 7 := by omega
  obtain ⟨c1, c2⟩ := HE.out.cells (show k < 6 by omega)
  by_cases hlt : k < m
  ·obtain ⟨l1, l2⟩ := B4.out k (by omega) hlt
   generalize edg k = lo at c1 l1
   generalize edg (k + 1) = hi at c2 l2
   have g1 : (lo : Int) ≤ (n : Int) := by omega
   have g2 : (hi : Int) ≤ (n : Int) := by omega
   go_wp2
   go_round
   case rel => exact ⟨k + 1, by omega, by go_num⟩
   case measure => simp [intOf]; omega
  ·obtain rfl : k = m := by omega
   generalize edg k = lo at c1 b2
   generalize edg (k + 1) = hi at c2 b3
   have g1 : (lo : Int) ≤ (n : Int) := by omega
   have g2 : (n : Int) < (hi : Int) := by omega
   go_wp2
   go_ret2
   exact ⟨rfl, rfl⟩
end Go.Proofs.YtkcoboamejefiaaGreatDoor.Lp
namespace Go.Proofs.YtkcoboamejefiaaGreatDoor.Lp
open Go.RowKit Fx Fq Tb
theorem edg_int : ∀ b, b < 7 → ([0, 1, 2, 4, 6, 10, 16] : List Int).getD b 0 = (edg b : Int) := by decide
theorem rbcheck_any (l : List Int) (c : Bool) (z : Int) (w : World) (ll : l.length = 6) (hc : chkL l = c) (hz : (if c = true then 0 else 1) = z) :
  Calls Tryz.prog 31 #[.agg (icells l)] w (ValQ w (.int .i64 z)) := by
 have LL := Lib.hid ll
 have HI := Lib.hid (inR_iff (lo := 0) (hi := 255) ll)
 rw [show inR 0 255 l = c from hc] at HI
 have HZ := Lib.hid hz
 have HM := Lib.hid (Mem.start w)
 clear ll hc hz
 go_enter Tryz.func31, Tryz.ntmps31
 go_wp2_with (first | ((first | refine wl_box rfl _ _ rfl rfl HM ?_ | refine wl_alloc rfl _ rfl (by exact q7a) HM ?_); first | (have q:dL HM = 0:=rfl;clear q HM;intro g1 u1 HM) | (have q:dL HM = 1:=rfl;clear q HM;intro g2 u2 HM) | (have q:dL HM = 2:=rfl;clear q HM;intro g3 u3 HM) | (have q:dL HM = 3:=rfl;clear q HM;intro g4 u4 HM)) | (refine wl_load rfl _ _ rfl rfl (by exact q7a) HM (by exact q7e) (by exact q7l) ?_) | (refine wl_storeM rfl _ _ _ rfl rfl rfl (by exact q7a) HM (by exact q7x) (by exact q7l) (by exact q7l) ?_; clear HM; intro us HM; dsimp only [List.set] at HM) | (refine q8v rfl _ rfl (by exact q7a) (by kernel_rfl) ?_))
 go_loop [6] (fun vi => ∃ k : Nat, vi = .int .i64 (k : Int) ∧ k ≤ 6 ∧ Hid (∀ j, j < k → 0 ≤ l.getD j 0 ∧ l.getD j 0 ≤ 255)) (fun vi => 6 - (intOf vi).toNat)
 case atStart => exact ⟨0, rfl, by omega, Lib.hid (fun j hj => by omega)⟩
 case round =>
  obtain ⟨k, rfl, hk, HK⟩ := hrel
  by_cases hlt : k < 6
  ·have hix := run_index 25 (n := 6) (by kernel_rfl) l LL.out k hlt
   obtain ⟨v, hv⟩ : ∃ v, l.getD k 0 = v := ⟨_, rfl⟩
   rw [hv] at hix
   have HX := Lib.hid hv
   have kn : (k : Int) < 6 := by omega
   clear hv
   by_cases h1 : 0 ≤ v
   ·by_cases h2 : v ≤ 255
    ·go_wp2
     go_round
     case rel =>
      refine ⟨k + 1, by go_num, by omega, Lib.hid fun j hj => ?_⟩
      by_cases hjk : j < k
      ·exact HK.out j hjk
      ·obtain rfl : j = k := by omega
       rw [HX.out]; exact ⟨h1, h2⟩
     case measure => simp [intOf]; omega
    ·have h3 : 255 < v := by omega
     obtain rfl : c = false := by
      cases c with
      | false => rfl
      | true => have := HI.out.1 rfl k hlt; rw [HX.out] at this; omega
     go_wp2
     go_ret
     exact ⟨ri HZ.out, HM.out.1⟩
   ·have h3 : v < 0 := by omega
    obtain rfl : c = false := by
     cases c with
     | false => rfl
     | true => have := HI.out.1 rfl k hlt; rw [HX.out] at this; omega
    go_wp2
    go_ret
    exact ⟨ri HZ.out, HM.out.1⟩
  ·obtain rfl : k = 6 := by omega
   obtain rfl : c = true := HI.out.2 HK.out
   go_wp2
   go_ret
   exact ⟨ri HZ.out, HM.out.1⟩
end Go.Proofs.YtkcoboamejefiaaGreatDoor.Lp
namespace Go.Proofs.YtkcoboamejefiaaGreatDoor.Lp
open Go.RowKit Go.Shelf Fx Fq Tb
attribute [local go_sem] Oper.semAt_some
section
variable {P : Program} {l n : Nat} {a : Act} {w : World} {Q : Exit → Act → World → Prop} {ops : Array Oper}
theorem oper_in {o : Oper} {K : Act → World → Prop} (hnd : ∀ c, o.op ≠ .defer c) (h : o.wp P a w K Q) : o.wpIn (Fence.wide.inRound l) n P a w K Q := by
 refine ⟨fun _ _ => trivial, ?_⟩
 unfold Oper.wp at h
 rw [show (Fence.wide.inRound l).round = some l from rfl, Oper.semAt_some l _ _ hnd]
 generalize (execOp a.eval o).run P w = r at h ⊢
 cases r with
 | ok x w' =>
  cases x <;> first
   | exact h
   | exact h.elim
   | exact ⟨fun hd => (by cases hd), (callsIn_wide.2 h).inRound l⟩
   | exact ⟨fun hd => (by cases hd), fun c cs _ => let ⟨v, w'', r, s⟩ := h c cs; ⟨v, w'', r, stepsIn_wide.2 s⟩⟩
 | halt x w' => cases x <;> exact h
def undeferred (ops : Array Oper) : Bool := ops.toList.all fun o => match o.op with | .defer _ => false | _ => true
theorem undeferred_at (h : undeferred ops = true) {i : Nat} {o : Oper} (hi : ops[i]? = some o) (c) : o.op ≠ .defer c := fun e => by
 have hm : o ∈ ops.toList := by
  rw [← Array.getElem?_toList] at hi
  exact List.mem_of_getElem? hi
 have := List.all_eq_true.1 h o hm
 rw [e] at this
 cases this
theorem op_in (h : undeferred ops = true) (hno : ¬ LetsOut Q) {i : Nat} {K : Act → World → Prop} (hh : wpOp P ops Q i K a w) : wpOpIn (Fence.wide.inRound l) n P ops Q i K a w := by
 unfold wpOp at hh
 unfold wpOpIn
 cases ho : ops[i]? with
 | none => rw [ho] at hh; exact hh
 | some o =>
  rw [ho] at hh
  simp only at hh ⊢
  by_cases hw : Region.wanted o (yielded ops a.tmps) = true
  ·rw [if_pos hw] at hh ⊢
   exact oper_in (undeferred_at h ho) (hh.resolve_right fun k => hno k.2)
  ·rw [if_neg hw] at hh ⊢
   exact ⟨fun _ _ => trivial, hh⟩
theorem any_in {md : Region.Mode} (h : undeferred ops = true) (hno : ¬ LetsOut Q) : ∀ (fuel : Nat) (listed : Array Bool) (a : Act) (w : World), wpAny P md ops Q fuel listed a w → wpAnyIn (Fence.wide.inRound l) n P md ops Q fuel listed a w
 | 0, _, _, _, hh => hh
 | fuel + 1, _, _, _, hh => ⟨hh.1, fun i hi => wpOpIn_mono (fun a' w' h' => any_in h hno fuel _ a' w' h') (op_in h hno (hh.2 i hi))⟩
theorem round_held {S : World → Prop} {id : Nat} (hm : P.follows .mixedOrders = true) (h : undeferred ops = true) (hno : ¬ LetsOut Q) (hS : S w.drew)
  (hh : S w.drew → wpAnyH P .any ops Q S ops.size (Array.replicate ops.size false) a w.drew) : (Code.region id ops true).wpIn (Fence.wide.inRound l) n P Q a w :=
 wpIn_region_any hm (any_in h hno _ _ _ _ (wpAny_of_held _ _ _ _ (hh hS)))
end
def std (k : Nat) : List (Fin 6) := (List.range k).map fun i => (⟨5 - i, by omega⟩ : Fin 6)
theorem std_succ (k : Nat) : std (k + 1) = std k ++ [⟨5 - k, by omega⟩] := by
 unfold std; rw [List.range_succ, List.map_append]; rfl
theorem std_length (k : Nat) : (std k).length = k := by unfold std; rw [List.length_map, List.length_range]
theorem behind_stops (F : Fence) (n : Nat) (hF : F.fn 174) (hro : F.round = none) (hn : 1 ≤ n) (w : World) :
  SeqStopsK F n Tryz.prog 174 #[] (fun x : Fin 6 => #[.int .i64 ((x.val : Nat) : Int)]) KeepsWalks (fun xs => xs = std 6) (fun pre => ∃ k, k ≤ 6 ∧ pre = std k) 6 w := fun l J Jx W _ _ _ hY h0 => by
 refine callsIn_of_wp Tryz.func174 rfl hF ?_ hro
 simp only [Tryz.ntmps174, List.size_toArray, List.length_cons, List.length_nil, Nat.reduceAdd, Nat.reduceSub, Array.replicate_succ, Array.replicate_zero, List.push_toArray, List.append_toArray, List.nil_append, List.cons_append]
 gi_wp2
 gi_loopw [2] (fun p wr => ∃ (k : Nat) (z : Int), k ≤ 6 ∧ p = .int .i64 z ∧ Hid (z = 5 - (k : Int)) ∧ J (std k) wr) (fun p _ => (intOf p + 1).toNat)
 case atStart => exact ⟨0, 5, by omega, rfl, Lib.hid (by omega), h0⟩
 case round =>
  obtain ⟨k, z, hk, rfl, HZ, hJ⟩ := hrel
  have hz1 : -1 ≤ z := by have := HZ.out; omega
  have hz2 : z ≤ 5 := by have := HZ.out; omega
  by_cases hlt : k < 6
  ·have hz3 : 0 ≤ z := by have := HZ.out; omega
   obtain ⟨fn, tmps, assign, body, hy, hR⟩ := hY (std k) ⟨5 - k, by omega⟩ wr hJ (by rw [std_length]; exact hlt)
   have e : (((5 - k : Nat)) : Int) = z := by have := HZ.out; omega
   rw [← std_succ] at hR
   simp only [e] at hy
   clear e
   gi_wp2
   refine hR.mono ?_
   rintro e W3 (⟨rfl, hJ3, -⟩ | ⟨rfl, hJx3⟩)
   ·gi_wp2
    go_roundw
    case rel => exact ⟨k + 1, z - 1, by omega, rfl, Lib.hid (by have := HZ.out; omega), hJ3⟩
    case measure => simp [intOf]; omega
   ·gi_wp2
    refine bodyPost_ret (results_none rfl _ _ _) rfl ?_
    exact ⟨⟨_, rfl⟩, .inr ⟨std (k + 1), ⟨k + 1, by omega, rfl⟩, hJx3⟩⟩
  ·obtain rfl : k = 6 := by omega
   have hz3 : z < 0 := by have := HZ.out; omega
   gi_wp2
   go_end0
   exact ⟨⟨_, rfl⟩, .inl ⟨std 6, rfl, hJ⟩⟩
end Go.Proofs.YtkcoboamejefiaaGreatDoor.Lp
namespace Go.Proofs.YtkcoboamejefiaaGreatDoor.Lp
open Go.RowKit Go.Shelf Fx Fq Tb
attribute [local go_sem] Oper.semAt_some
section
variable {ops : Array Oper} {rest : List Oper} {o : Oper} {a : Act} {w w0 : World} {Q : Exit → Act → World → Prop} {L : List (Nat × TypeId × List Int)}
theorem wl_box1 (hgd : Region.wanted o (yielded ops a.tmps) = true) (x : Operand) (ho : o.op = .box 3 x) {v : Int} (hx : a.eval x = .int .i64 v) (hm : Hid (Mem w0 L w))
  (h : ∀ g w', Hid (Mem w0 ((g, 3, [v]) :: L) w') → wpList Tryz.prog ops Q rest (a.put o.dst (.pointer (some ⟨g, 0, none⟩))) w') : wpList Tryz.prog ops Q (o :: rest) a w :=
 wl_step hgd fun K hK => by
  have := hK _ _ (h w.heap.size _ (Lib.hid (hm.out.alloc 3 [v])))
  unfold Oper.wp execOp
  simp only [ho, Instr.box, newVar, newRow, Sem.run_bind, hx, Result.andThen, Value.cells, Sem.run_pure]
  exact this
theorem wl_alloc1 (hgd : Region.wanted o (yielded ops a.tmps) = true) (ho : o.op = .alloc 3) (hm : Hid (Mem w0 L w))
  (h : ∀ g w', Hid (Mem w0 ((g, 3, [0]) :: L) w') → wpList Tryz.prog ops Q rest (a.put o.dst (.pointer (some ⟨g, 0, none⟩))) w') : wpList Tryz.prog ops Q (o :: rest) a w :=
 wl_step hgd fun K hK => by
  have hz : (zeroValue 3).run Tryz.prog w = .ok (.int .i64 0) w := by kernel_rfl
  have := hK _ _ (h w.heap.size _ (Lib.hid (hm.out.alloc 3 [0])))
  unfold Oper.wp execOp
  simp only [ho, Instr.alloc, newVar, newRow, Sem.run_bind, hz, Result.andThen, Value.cells, Sem.run_pure]
  exact this
theorem Mem.one (h : Mem w0 L w) {g : Nat} {v : Int} (hm : (g, 3, [v]) ∈ L) : w.cell? ⟨g, 0, none⟩ = some (.int .i64 v) := h.cell hm (k := 0) (by simp)
theorem Mem.put1 (h : Mem w0 L w) (i : Nat) {g : Nat} {x : Int} (hi : L[i]? = some (g, 3, [x])) (v : Int) : Mem w0 (L.set i (g, 3, [v])) (w.setCell ⟨g, 0, none⟩ (.int .i64 v)) := h.put i hi 0 v
theorem Mem.grows {row : Option Nat} {u' : World} {B : Nat} (h : Mem w0 L w) (hB : w0.heap.size ≤ B) (hg : w.grownBy u' row) (hr : ∀ r, row = some r → B ≤ r ∧ ∃ o : Obj, w.heap[r]? = some o ∧ o.isCells = false) : Mem w0 L u' := by
 have hne : ∀ i, (∃ T cs, Blk w i T cs) → some i ≠ row := fun i ⟨T, cs, hb⟩ e => by
  obtain ⟨-, o, ho, hc⟩ := hr i e.symm
  have hb' : w.heap[i]? = some (.cells cs T (0, 0)) := hb
  rw [hb'] at ho
  injection ho with ho
  subst ho
  cases hc
 have hbl : Below w0.heap.size w0 u' := by
  refine ⟨hg.os.trans h.1.os, hg.tape.trans h.1.tape, hg.output.trans h.1.output, Nat.le_trans h.1.size hg.size, fun i hi => (hg.block i (Nat.lt_of_lt_of_le hi h.1.size) (fun e => ?_)).trans (h.1.block i hi)⟩
  have := (hr i e.symm).1
  omega
 exact ⟨hbl, fun e he => (hg.block e.1 (h.2.1 e he).lt (hne e.1 ⟨_, _, h.2.1 e he⟩)).trans (h.2.1 e he), h.2.2.1, h.2.2.2⟩
end
theorem KeepsOthers.below {W W' : World} (h : Below W.heap.size W W') : KeepsOthers W W' := ⟨h.size, fun k _ hk _ => (h.block k (Array.getElem?_eq_some_iff.1 hk).1).trans hk⟩
section
variable {ops : Array Oper} {rest : List Oper} {o : Oper} {a : Act} {w w0 : World} {Q : Exit → Act → World → Prop} {L : List (Nat × TypeId × List Int)}
theorem KeepsOthers.row {g : Nat} {T : TypeId} {cs ds : Array Value} (h : Blk w g T cs) : KeepsOthers w (w.setRow g ds) :=
 KeepsOthers.of_grownBy (grown_row w g ds) fun j o e ho => by
  injection e with e
  subst e
  have h' : w.heap[g]? = some (.cells cs T (0, 0)) := h
  rw [h'] at ho
  injection ho with ho
  rw [← ho]; rfl
theorem wl_storeK (hgd : Region.wanted o (yielded ops a.tmps) = true) (T : TypeId) (x y : Operand) (ho : o.op = .store T x y) {g n : Nat} (hx : a.eval x = .pointer (some ⟨g, 0, none⟩)) {ys : List Int} (hy : a.eval y = .agg (icells ys)) (ha : Arr T n) {xs : List Int}
  (hm : Hid (Mem w0 L w)) (i : Nat) (hi : L[i]? = some (g, T, xs)) (hl : Hid (xs.length = n)) (hl' : Hid (ys.length = n))
  (h : ∀ w', Hid (Mem w0 (L.set i (g, T, ys)) w') → KeepsOthers w w' → wpList Tryz.prog ops Q rest (a.put o.dst undef) w') : wpList Tryz.prog ops Q (o :: rest) a w :=
 wl_step hgd fun K hK => by
  have := hK _ _ (h _ (Lib.hid (hm.out.row i hi ys)) (KeepsOthers.row (hm.out.get (List.mem_of_getElem? hi))))
  unfold Oper.wp execOp
  simp only [ho, hx, hy, Instr.storeAt, Instr.sureAddr, Sem.run_bind, Sem.run_pure, Result.andThen_ok, run_store_mem ha hm.out (List.mem_of_getElem? hi) hl.out hl'.out]
  exact this
theorem wl_alloc1K (hgd : Region.wanted o (yielded ops a.tmps) = true) (ho : o.op = .alloc 3) (hm : Hid (Mem w0 L w))
  (h : ∀ g w', Hid (Mem w0 ((g, 3, [0]) :: L) w') → KeepsOthers w w' → wpList Tryz.prog ops Q rest (a.put o.dst (.pointer (some ⟨g, 0, none⟩))) w') : wpList Tryz.prog ops Q (o :: rest) a w :=
 wl_step hgd fun K hK => by
  have hz : (zeroValue 3).run Tryz.prog w = .ok (.int .i64 0) w := by kernel_rfl
  have := hK _ _ (h w.heap.size _ (Lib.hid (hm.out.alloc 3 [0])) (KeepsOthers.alloc _ _))
  unfold Oper.wp execOp
  simp only [ho, Instr.alloc, newVar, newRow, Sem.run_bind, hz, Result.andThen, Value.cells, Sem.run_pure]
  exact this
end
def mark (D : Nat) : Deferred := { target := .collected D, args := #[] }
def Marks (B : Nat) (Ds : List Nat) (W : World) : Prop := Ds.Nodup ∧ ∀ D ∈ Ds, B ≤ D ∧ W.heap[D]? = some (.deferred (some []))
theorem Marks.keeps {B : Nat} {Ds : List Nat} {W W' : World} (h : Marks B Ds W) (hk : KeepsOthers W W') : Marks B Ds W' := ⟨h.1, fun D hD => ⟨(h.2 D hD).1, hk.same D _ (h.2 D hD).2 rfl⟩⟩
theorem Marks.lt {B : Nat} {Ds : List Nat} {W : World} (h : Marks B Ds W) {D : Nat} (hD : D ∈ Ds) : D < W.heap.size := (Array.getElem?_eq_some_iff.1 (h.2 D hD).2).1
theorem Marks.cons {B : Nat} {Ds : List Nat} {W : World} (h : Marks B Ds W) {D : Nat} (hlt : ∀ E ∈ Ds, E < D) (hB : B ≤ D) (hD : W.heap[D]? = some (.deferred (some []))) : Marks B (D :: Ds) W :=
 ⟨List.nodup_cons.2 ⟨fun hm => Nat.lt_irrefl _ (hlt D hm), h.1⟩, fun E hE => by
  rcases List.mem_cons.1 hE with rfl | hE
  ·exact ⟨hB, hD⟩
  ·exact h.2 E hE⟩
theorem Marks.grows {A B : Nat} {Ds : List Nat} {W W' : World} {row : Option Nat} (h : Marks A Ds W) (hlt : ∀ D ∈ Ds, D < B) (hg : W.grownBy W' row) (hr : ∀ r, row = some r → B ≤ r ∧ ∃ o : Obj, W.heap[r]? = some o ∧ o.isCells = false) : Marks A Ds W' :=
 ⟨h.1, fun D hD => ⟨(h.2 D hD).1, (hg.block D (h.lt hD) (fun e => by have := (hr D e.symm).1; have := hlt D hD; omega)).trans (h.2 D hD).2⟩⟩
structure Shut (Ds : List Nat) (W W' : World) : Prop where
 os : W'.os = W.os
 tape : W'.tape = W.tape
 output : W'.output = W.output
 size : W'.heap.size = W.heap.size
 same : ∀ i, i ∉ Ds → W'.heap[i]? = W.heap[i]?
theorem Shut.mem {w0 W W' : World} {L : List (Nat × TypeId × List Int)} {Ds : List Nat} (h : Mem w0 L W) (hM : Marks w0.heap.size Ds W) (hs : Shut Ds W W') : Mem w0 L W' := by
 refine ⟨⟨hs.os.trans h.1.os, hs.tape.trans h.1.tape, hs.output.trans h.1.output, by rw [hs.size]; exact h.1.size, fun i hi => (hs.same i (fun hm => by have := (hM.2 i hm).1; omega)).trans (h.1.block i hi)⟩, fun e he => (hs.same e.1 (fun hm => ?_)).trans (h.2.1 e he), h.2.2⟩
 have h1 := (hM.2 _ hm).2
 have h2 : W.heap[e.1]? = some (.cells (icells e.2.2) e.2.1 (0, 0)) := h.2.1 e he
 rw [h2] at h1
 injection h1 with h1
 cases h1
theorem leaves_marks {F : Fence} {n : Nat} {P : Program} {fn : Func} {tmps : Array Value} {R : Ending → World → Prop} : ∀ (Ds : List Nat) (W : World), Ds.Nodup → (∀ D ∈ Ds, W.heap[D]? = some (.deferred (some []))) →
  (∀ W', Shut Ds W W' → ∃ v, (results fn tmps).run P W' = .ok v W' ∧ R (.returned v) W') → LeavesInM F n P fn tmps R (Ds.map mark) .returning W
 | [], W, _, _, h => h W ⟨rfl, rfl, rfl, rfl, fun _ _ => rfl⟩
 | D :: Ds, W, hn, hd, h => by
  have hn2 := List.nodup_cons.1 hn
  refine ⟨by simp, .inl ⟨D, W.putObj D (.deferred none), rfl, run_takeDeferred (hd D (.head _)), leaves_marks Ds _ hn2.2 (fun E hE => ?_) fun W' hs => h W' ?_⟩⟩
  ·exact (World.putObj_heap_other (fun e => hn2.1 (by rw [← e]; exact hE))).trans (hd E (.tail _ hE))
  ·have hg := grownBy_putObj' W D (.deferred none)
   refine ⟨hs.os.trans hg.os, hs.tape.trans hg.tape, hs.output.trans hg.output, by rw [hs.size]; simp, fun i hi => ?_⟩
   have h1 : i ∉ Ds := fun hm => hi (.tail _ hm)
   have h2 : i ≠ D := fun e => hi (by rw [e]; exact .head _)
   exact (hs.same i h1).trans (World.putObj_heap_other h2)
theorem std_snoc {pre : List (Fin 6)} {x : Fin 6} {k : Nat} (h : pre ++ [x] = std k) : ∃ j, k = j + 1 ∧ pre = std j ∧ x.val = 5 - j := by
 cases k with
 | zero => exact absurd (congrArg List.length h) (by rw [List.length_append, std_length]; simp)
 | succ j =>
  rw [std_succ] at h
  obtain ⟨h1, h2⟩ := List.append_inj' h rfl
  refine ⟨j, rfl, h1, ?_⟩
  injection h2 with h2
  rw [h2]
def FitM (w : World) (B : Int) (g1 g2 g3 gw n : Nat) (cur : List Int) (W : World) : Prop := Mem w [(gw, 3, [(n : Int)]), (g3, 129, zr 6), (g2, 3, [B]), (g1, 129, cur)] W
def FitI (w : World) (B : Int) (R : List Int) (g1 g2 g3 gw n : Nat) (Ds : List Nat) (W : World) : Prop :=
 ∃ cur, OkA cur ∧ narL 42 cur B = R ∧ (∀ b, b < 6 → cur.getD b 0 ≤ (n : Int)) ∧ n ≤ 7 ∧ FitM w B g1 g2 g3 gw n cur W ∧ Marks w.heap.size Ds W
def FitJ (w : World) (B : Int) (R : List Int) (g1 g2 g3 gw n : Nat) (Ds : List Nat) (pre : List (Fin 6)) (W : World) : Prop :=
 ∃ cur, OkA cur ∧ FitM w B g1 g2 g3 gw n cur W ∧ Marks w.heap.size Ds W ∧
  ∀ k, k ≤ 6 → pre = std k → narL 42 cur B = R ∧ ∀ b, b < 6 → cur.getD b 0 ≤ (n : Int) ∧ (6 ≤ b + k → cur.getD b 0 < (n : Int))
def FitX (w : World) (B : Int) (R : List Int) (g1 g2 g3 gw n : Nat) (Ds : List Nat) (c : Code) (pre : List (Fin 6)) (W : World) : Prop :=
 c = .exit 0 ∧ ∃ cur, OkA cur ∧ FitM w B g1 g2 g3 gw n cur W ∧ Marks w.heap.size Ds W ∧ ∀ k, k ≤ 6 → pre = std k → cur = R
section
variable {w : World} {B : Int} {R : List Int} {g1 g2 g3 gw n A : Nat} {Ds : List Nat}
theorem fitJ_own (hA : w.heap.size ≤ A) (hD : ∀ D ∈ Ds, D < A) : OwnFrom A (FitJ w B R g1 g2 g3 gw n Ds) := fun s W W' row h hg hr => by
 obtain ⟨cur, h1, h2, h3, h4⟩ := h
 exact ⟨cur, h1, Mem.grows h2 hA hg hr, h3.grows hD hg hr, h4⟩
theorem fitX_own (hA : w.heap.size ≤ A) (hD : ∀ D ∈ Ds, D < A) (c : Code) : OwnFrom A (FitX w B R g1 g2 g3 gw n Ds c) := fun s W W' row h hg hr => by
 obtain ⟨hc, cur, h1, h2, h3, h4⟩ := h
 exact ⟨hc, cur, h1, Mem.grows h2 hA hg hr, h3.grows hD hg hr, h4⟩
end
theorem fit_take {B : Int} {R cur : List Int} {n j : Nat} (hB : 0 ≤ B) (hok : OkA cur) (hj : j < 6) (hinv : narL 42 cur B = R ∧ ∀ b, b < 6 → cur.getD b 0 ≤ (n : Int) ∧ (6 ≤ b + j → cur.getD b 0 < (n : Int)))
  (hc : ¬ costL cur ≤ B) (hv : cur.getD (5 - j) 0 = (n : Int)) : narL 42 (cur.set (5 - j) ((n : Int) - 1)) B = R ∧ ∀ b, b < 6 → (cur.set (5 - j) ((n : Int) - 1)).getD b 0 ≤ (n : Int) ∧ (6 ≤ b + (j + 1) → (cur.set (5 - j) ((n : Int) - 1)).getD b 0 < (n : Int)) := by
 have hl : lastM cur 6 = 5 - j := lastM_is (by omega) (fun b hb => by rw [hv]; exact (hinv.2 b hb).1) fun b hb hlt => by rw [hv]; exact (hinv.2 b hb).2 (by omega)
 have hs : stpL cur = cur.set (5 - j) ((n : Int) - 1) := by unfold stpL; rw [hl, hv]
 refine ⟨by rw [← hs, ← (nar_step hB hok hc).1]; exact hinv.1, fun b hb => ?_⟩
 rw [getD_set' _ _ _ _ (by rw [hok.1]; omega)]
 by_cases e : 5 - j = b
 ·rw [if_pos e]; omega
 ·rw [if_neg e]
  exact ⟨(hinv.2 b hb).1, fun h => (hinv.2 b hb).2 (by omega)⟩
theorem fit_pass {B : Int} {R cur : List Int} {n j : Nat} (hj : j < 6) (hinv : narL 42 cur B = R ∧ ∀ b, b < 6 → cur.getD b 0 ≤ (n : Int) ∧ (6 ≤ b + j → cur.getD b 0 < (n : Int)))
  (hv : ¬ cur.getD (5 - j) 0 = (n : Int)) : narL 42 cur B = R ∧ ∀ b, b < 6 → cur.getD b 0 ≤ (n : Int) ∧ (6 ≤ b + (j + 1) → cur.getD b 0 < (n : Int)) :=
 ⟨hinv.1, fun b hb => ⟨(hinv.2 b hb).1, fun h => by
  by_cases e : b = 5 - j
  ·have := (hinv.2 b hb).1
   rw [e] at this ⊢
   omega
  ·exact (hinv.2 b hb).2 (by omega)⟩⟩
theorem ok_set {cur : List Int} (h : OkA cur) {b : Nat} {v : Int} (hb : b < 6) (h1 : 0 ≤ v) (h2 : v ≤ 7) : OkA (cur.set b v) :=
 ⟨by rw [List.length_set, h.1], fun k hk => by
  rw [getD_set' _ _ _ _ (by rw [h.1]; exact hb)]
  have := h.2 k hk
  split <;> omega⟩
theorem fit_any (a : List Int) (B : Int) (w : World) (ha : OkA a) (hB : 0 ≤ B) (he : Edg w) :
  Calls Tryz.prog 126 #[.agg (icells a), .int .i64 B] w (ValQ w (.agg (icells (narL 42 a B)))) := by
 have HA := Lib.hid ha
 have LA := Lib.hid ha.1
 have HE := Lib.hid he
 have HM := Lib.hid (Mem.start w)
 obtain ⟨R, hR0⟩ : ∃ R, narL 42 a B = R := ⟨_, rfl⟩
 rw [hR0]
 have HR := Lib.hid hR0
 have LR := Lib.hid (show R.length = 6 by rw [← hR0]; exact (nar_ok hB 42 a ha (sumA_le ha)).1.1)
 have HB := Lib.hid hB
 clear ha he hR0 hB
 refine (callsIn_wide (n := 3)).1 (callsIn_of_wp_marks Tryz.func126 rfl trivial ?_ rfl)
 refine wpIn_wide.2 ?_
 simp only [Tryz.ntmps126, List.size_toArray, List.length_cons, List.length_nil, Nat.reduceAdd, Nat.reduceSub, Array.replicate_succ, Array.replicate_zero, List.push_toArray, List.append_toArray, List.nil_append, List.cons_append]
 go_wp2_with (first | (first | ((first | refine wl_box rfl _ _ rfl rfl HM ?_ | refine wl_alloc rfl _ rfl (by exact q7a) HM ?_); first | (have q:dL HM = 0:=rfl;clear q HM;intro g1 u1 HM) | (have q:dL HM = 1:=rfl;clear q HM;intro g2 u2 HM) | (have q:dL HM = 2:=rfl;clear q HM;intro g3 u3 HM) | (have q:dL HM = 3:=rfl;clear q HM;intro g4 u4 HM) | (have q:dL HM = 4:=rfl;clear q HM;intro g5 u5 HM) | (have q:dL HM = 5:=rfl;clear q HM;intro g6 u6 HM) | (have q:dL HM = 6:=rfl;clear q HM;intro g7 u7 HM) | (have q:dL HM = 7:=rfl;clear q HM;intro g8 u8 HM) | (have q:dL HM = 8:=rfl;clear q HM;intro g9 u9 HM) | (have q:dL HM = 9:=rfl;clear q HM;intro g10 u10 HM) | (have q:dL HM = 10:=rfl;clear q HM;intro g11 u11 HM) | (have q:dL HM = 11:=rfl;clear q HM;intro g12 u12 HM) | (have q:dL HM = 12:=rfl;clear q HM;intro g13 u13 HM) | (have q:dL HM = 13:=rfl;clear q HM;intro g14 u14 HM)) | (refine wl_load rfl _ _ rfl rfl (by exact q7a) HM (by exact q7e) (by exact q7l) ?_) | (refine wl_storeM rfl _ _ _ rfl rfl rfl (by exact q7a) HM (by exact q7x) (by exact q7l) (by exact q7l) ?_; clear HM; intro us HM; dsimp only [List.set] at HM) | (refine q8v rfl _ rfl (by exact q7a) (by kernel_rfl) ?_)) | (refine wl_box1 rfl _ rfl rfl HM ?_; clear HM; intro g2 u2 HM))
 go_step3
 go_wp2
 go_step3
 go_wp2_with (first | (refine wl_alloc1 rfl rfl HM ?_; clear HM; intro g4 u4 HM; have c4 := HM.out.one (.head _); have f4 := HM.out.free (.head _) 0))
 have HI := Lib.hid (show FitI w B R g1 g2 g3 g4 7 [] (u4.setCell ⟨g4, 0, none⟩ (.int .i64 7)) from ⟨a, HA.out, HR.out, fun b hb => (HA.out.2 b hb).2, by omega, HM.out.put1 0 rfl 7, ⟨List.nodup_nil, fun D hD => (by cases hD)⟩⟩)
 clear HM c4 f4 HA LA HR
 generalize World.setCell _ _ _ = W0 at HI ⊢
 refine wp_loop_ghost (fun n act W => ∃ (gw : Nat) (Ds : List Nat) (u6 u7 u8 u9 u10 u11 u12 u13 u14 u15 u16 u17 u18 u19 u20 u21 u22 u23 u24 u25 u26 u27 : Value),
  act = { tmps := #[.agg (icells a), .int .i64 B, .pointer (some ⟨g1, 0, none⟩), .pointer (some ⟨g2, 0, none⟩), .pointer (some ⟨g3, 0, none⟩), .pointer (some ⟨gw, 0, none⟩), u6, u7, u8, u9, u10, u11, u12, u13, u14, u15, u16, u17, u18, u19, u20, u21, u22, u23, u24, u25, u26, u27], defers := Ds.map mark } ∧ Hid (FitI w B R g1 g2 g3 gw n Ds W)) 7 ⟨g4, [], _, _, _, _, _, _, _, _, _, _, _, _, _, _, _, _, _, _, _, _, _, _, rfl, HI⟩ ?_
 clear HI
 rintro n act W ⟨gw, Ds, u6, u7, u8, u9, u10, u11, u12, u13, u14, u15, u16, u17, u18, u19, u20, u21, u22, u23, u24, u25, u26, u27, rfl, HI⟩
 obtain ⟨cur, hok, hnar, hle, hn7, hM, hMk⟩ := HI.out
 clear HI
 have HM := Lib.hid hM
 have HK := Lib.hid hMk
 have HO := Lib.hid hok
 have c5 : W.cell? ⟨gw, 0, none⟩ = some (.int .i64 (n : Int)) := Mem.one hM (.head _)
 by_cases hn : n = 0
 ·subst hn
  have hcur : cur = R := by
   rw [← hnar, nar_done]
   rw [costL_eq]
   have h0 := hle 0 (by omega)
   have h1 := hle 1 (by omega)
   have h2 := hle 2 (by omega)
   have h3 := hle 3 (by omega)
   have h4 := hle 4 (by omega)
   have h5 := hle 5 (by omega)
   have := HB.out
   omega
  have HQ := Lib.hid hcur
  clear hcur hnar hle hM hMk hok
  rw [HQ.out] at HM
  unfold FitM at HM
  clear HQ HO
  go_wp2_with (first | (refine wl_load rfl _ _ rfl rfl (by exact q7a) HM (by exact q7e) (by exact q7l) ?_) | (refine wl_storeK rfl _ _ _ rfl rfl rfl arrAll HM 1 rfl (by exact q7l) LR ?_; clear HM; intro us HM hko; have HK2 := Lib.hid (HK.out.keeps hko); clear HK hko; simp only [List.set_cons_zero, List.set_cons_succ] at HM))
  refine leaves_marks Ds _ HK2.out.1 (fun D hD => (HK2.out.2 D hD).2) fun W' hs => ?_
  have hm := Shut.mem HM.out HK2.out hs
  exact ⟨_, res_one rfl _ rfl arrAll (Lib.hid hm) (by exact q7e) LR, rfl, hm.1⟩
 ·have hn1 : 0 < (n : Int) := by omega
  have HN := Lib.hid hnar
  have HLE := Lib.hid hle
  clear hnar hle hM hMk hok
  have hn0 : 0 < n := by omega
  go_wp2_with fail
  clear c5 hn1
  have hD : ∀ D ∈ Ds, D < W.heap.size := fun D hD => HK.out.lt hD
  have HDL := Lib.hid hD
  refine (wpIn_wide (n := 3)).1 ?_
  refine wpIn_rangeFunc_ownF (F := Fence.wide) (n := 3) rfl (by omega) (gf := 174) (lb := #[]) rfl trivial (enters_of Tryz.func174 (by kernel_rfl) rfl) (behind_stops Fence.wide 2 trivial rfl (by omega) W) walksK_t walksK_b (Below.refl _ _) (fun _ => rfl)
   (FitJ w B R g1 g2 g3 gw n Ds) (FitX w B R g1 g2 g3 gw n Ds) (fitJ_own HM.out.1.size hD) (fitX_own HM.out.1.size hD)
   ⟨cur, HO.out, HM.out, HK.out, fun k hk e => by
    obtain rfl : k = 0 := by have := congrArg List.length e; rw [std_length] at this; simpa using this.symm
    exact ⟨HN.out, fun b hb => ⟨HLE.out b hb, fun h => by omega⟩⟩⟩
   (fun x => { tmps := #[.agg (icells a), .int .i64 B, .pointer (some ⟨g1, 0, none⟩), .pointer (some ⟨g2, 0, none⟩), .pointer (some ⟨g3, 0, none⟩), .pointer (some ⟨gw, 0, none⟩), (.int .i64 ((x.val : Nat) : Int)), .int .i64 (n : Int), .bool true, u9, u10, (.int .i64 ((x.val : Nat) : Int)), u12, u13, u14, u15, u16, u17, u18, u19, u20, u21, u22, u23, u24, u25, u26, u27], defers := [] }) ?assign ?body ?done ?stop
  case assign =>
   intro l x W' K hK
   gi_wp2
   exact hK
  case body =>
   clear HK HN HLE HO HM hD
   rintro l pre x W1 ⟨cur1, hok1, hM1, hK1, hinv⟩ -
   have HM := Lib.hid (show Mem w [(gw, 3, [(n : Int)]), (g3, 129, zr 6), (g2, 3, [B]), (g1, 129, cur1)] W1 from hM1)
   have HK := Lib.hid hK1
   have HO := Lib.hid hok1
   have LC := Lib.hid hok1.1
   have HV := Lib.hid hinv
   obtain ⟨b, hb⟩ := x
   have hb6 : (b : Int) < 6 := by omega
   clear hok1 hM1 hK1 hinv
   obtain ⟨C, hC⟩ : ∃ C, costL cur1 = C := ⟨_, rfl⟩
   have HC := Lib.hid hC
   have HCst := Lib.hid (fun u (hu : Edg u) => cost_any cur1 u HO.out hu)
   rw [hC] at HCst
   have HH2 := Lib.hid (fun (u : World) (hu : Mem w [(gw, 3, [(n : Int)]), (g2, 3, [B]), (g1, 129, cur1)] u) => hu.one (.tail _ (.head _)))
   have H1 := Lib.hid (fun (u : World) (hu : Mem w [(gw, 3, [(n : Int)]), (g1, 129, cur1)] u) => hu.cell (.tail _ (.head _)) (k := b) (by rw [LC.out]; omega))
   have H2 := Lib.hid (fun (u : World) (hu : Mem w [(gw, 3, [(n : Int)]), (g1, 129, cur1)] u) => hu.one (.head _))
   obtain ⟨v, hv⟩ : ∃ v, cur1.getD b 0 = v := ⟨_, rfl⟩
   rw [hv] at H1
   have HVV := Lib.hid hv
   clear hC hv
   gi_wp2
   refine round_held (S := Mem w [(gw, 3, [(n : Int)]), (g2, 3, [B]), (g1, 129, cur1)]) (by kernel_rfl) (by rfl) (fun ⟨_, _, h⟩ => h) (HM.out.drew.sub (by exact q7u)) (fun hHeld => ?_)
   have HMd := Lib.hid HM.out.drew
   have HKo := Lib.hid (KeepsOthers.drew W1)
   clear HM
   have HM := HMd
   clear HMd
   generalize World.drew _ = wd at HM HKo hHeld ⊢
   (refine wa_take (i := 0) rfl (by kernel_rfl) (by kernel_rfl) (by kernel_rfl) (fun _ _ _ h => h) (yi_load rfl _ _ rfl rfl (by exact q7a) (fun u hu => hu) (by exact q7e) (by exact q7l)) hHeld rfl ?_; (try simp only [Act.put, qz1, qz2, qz3]))
   (refine wa_take (i := 2) rfl (by kernel_rfl) (by kernel_rfl) (by kernel_rfl) (fun _ _ _ h => h) (yi_cell rfl _ rfl rfl (HH2).out) hHeld rfl ?_; (try simp only [Act.put, qz1, qz2, qz3]))
   refine wpAnyH_ready (rs := [1]) (by kernel_rfl) (by simp) ?_; refine AllReadyH.cons rfl (fun K hK => ?_) (AllReadyH.nil)
   rw [if_pos (by rfl)]; go_simp
   refine (HCst.out _ (HE.out.mem HM.out)).mono ?_
   rintro e wb ⟨rfl, h1⟩
   have HM2 := Lib.hid (HM.out.below h1)
   have HKo2 := Lib.hid (HKo.out.trans (KeepsOthers.below h1))
   clear h1 HM hHeld HKo HCst
   have HM := HM2
   have HKo := HKo2
   clear HM2 HKo2
   go_wp2_with fail; refine hK.out _ _ (HM.out.sub (by exact q7u)) (fun hHeld => ?_); clear hK K; (try simp only [Act.put, qz1, qz2, qz3])
   by_cases hc : C ≤ B
   ·have hd : decide (C ≤ B) = true := decide_eq_true hc
    (refine wa_take (i := 3) (v := .bool true) rfl (by kernel_rfl) (by kernel_rfl) (by kernel_rfl) (fun _ _ _ h => h) (yi_free rfl (fun u => by go_simp)) hHeld rfl ?_; (try simp only [Act.put, qz1, qz2, qz3]))
    refine wpAnyH_done (by kernel_rfl) ?_ _
    clear hd
    gi_wp2
    exact ⟨HKo.out, rfl, cur1, HO.out, HM.out, HK.out.keeps HKo.out, fun k hk e => by
     obtain ⟨j, rfl, hj, -⟩ := std_snoc e
     have := (HV.out j (by omega) hj).1
     rw [nar_done (by rw [HC.out]; exact hc)] at this
     exact this⟩
   ·have hd : decide (C ≤ B) = false := decide_eq_false hc
    (refine wa_take (i := 3) (v := .bool false) rfl (by kernel_rfl) (by kernel_rfl) (by kernel_rfl) (fun _ _ _ h => h) (yi_free rfl (fun u => by go_simp)) hHeld rfl ?_; (try simp only [Act.put, qz1, qz2, qz3]))
    refine wpAnyH_done (by kernel_rfl) ?_ _
    clear hd
    gi_wp2
    refine round_held (S := Mem w [(gw, 3, [(n : Int)]), (g1, 129, cur1)]) (by kernel_rfl) (by rfl) (fun ⟨_, _, h⟩ => h) (HM.out.drew.sub (by exact q7u)) (fun hHeld => ?_)
    have HMd := Lib.hid HM.out.drew
    have HKo2 := Lib.hid (HKo.out.trans (KeepsOthers.drew wb))
    clear HM HKo
    have HM := HMd
    have HKo := HKo2
    clear HMd HKo2
    generalize World.drew _ = wd2 at HM HKo hHeld ⊢
    (refine wa_take (i := 0) rfl (by kernel_rfl) (by kernel_rfl) (by kernel_rfl) (fun _ _ _ h => h) (yi_free rfl (fun u => rfl)) hHeld rfl ?_; (try simp only [Act.put, qz1, qz2, qz3]))
    (refine wa_take (i := 1) (v := .pointer (some ⟨g1, b, none⟩)) rfl (by kernel_rfl) (by kernel_rfl) (by kernel_rfl) (fun _ _ _ h => h) (yi_free rfl (fun u => by go_simp)) hHeld rfl ?_; (try simp only [Act.put, qz1, qz2, qz3]))
    (refine wa_take (i := 2) rfl (by kernel_rfl) (by kernel_rfl) (by kernel_rfl) (fun _ _ _ h => h) (yi_cell rfl _ rfl rfl (H1).out) hHeld rfl ?_; (try simp only [Act.put, qz1, qz2, qz3]))
    (refine wa_take (i := 3) rfl (by kernel_rfl) (by kernel_rfl) (by kernel_rfl) (fun _ _ _ h => h) (yi_cell rfl _ rfl rfl (H2).out) hHeld rfl ?_; (try simp only [Act.put, qz1, qz2, qz3]))
    by_cases hvn : v = (n : Int)
    ·have hd : (v == (n : Int)) = true := by simpa using hvn
     (refine wa_take (i := 4) (v := .bool true) rfl (by kernel_rfl) (by kernel_rfl) (by kernel_rfl) (fun _ _ _ h => h) (yi_free rfl (fun u => by go_simp)) hHeld rfl ?_; (try simp only [Act.put, qz1, qz2, qz3]))
     refine wpAnyH_done (by kernel_rfl) ?_ _
     have c7 := HM.out.cell (.tail _ (.tail _ (.tail _ (.head _)))) (k := b) (by rw [LC.out]; omega)
     have f7 := HM.out.free (.tail _ (.tail _ (.tail _ (.head _)))) b
     rw [HVV.out, hvn] at c7
     clear hd H1 H2 HH2 hHeld
     have HVN := Lib.hid hvn
     clear hvn
     gi_wp2
     have HM2 := HM.out.put 3 rfl b ((n : Int) - 1)
     simp only [List.set_cons_zero, List.set_cons_succ] at HM2
     have hks := HKo.out.trans (KeepsOthers.setCell wd2 ⟨g1, b, none⟩ (.int .i64 ((n : Int) - 1)))
     refine ⟨hks, hks.walks, cur1.set b ((n : Int) - 1), ok_set HO.out hb (by omega) (by omega), HM2, HK.out.keeps hks, fun k hk e => ?_⟩
     obtain ⟨j, rfl, hj, hx⟩ := std_snoc e
     obtain rfl : b = 5 - j := hx
     exact fit_take HB.out HO.out (by omega) (HV.out j (by omega) hj) (by rw [HC.out]; omega) (by rw [HVV.out, HVN.out])
    ·have hd : (v == (n : Int)) = false := by simpa using hvn
     (refine wa_take (i := 4) (v := .bool false) rfl (by kernel_rfl) (by kernel_rfl) (by kernel_rfl) (fun _ _ _ h => h) (yi_free rfl (fun u => by go_simp)) hHeld rfl ?_; (try simp only [Act.put, qz1, qz2, qz3]))
     refine wpAnyH_done (by kernel_rfl) ?_ _
     clear hd H1 H2 HH2 hHeld
     gi_wp2
     refine ⟨HKo.out, HKo.out.walks, cur1, HO.out, HM.out, HK.out.keeps HKo.out, fun k hk e => ?_⟩
     obtain ⟨j, rfl, hj, hx⟩ := std_snoc e
     obtain rfl : b = 5 - j := hx
     exact fit_pass (by omega) (HV.out j (by omega) hj) (by rw [HVV.out]; exact hvn)
  case done =>
   have HWS := Lib.hid HM.out.1.size
   clear HK HN HLE HO HM hD
   rintro D xs W1 hDW rfl ⟨cur1, hok1, hM1, hK1, hinv⟩ hDef
   obtain ⟨hnar1, hle1⟩ := hinv 6 (by omega) rfl
   have HN := Lib.hid hnar1
   have HLE := Lib.hid hle1
   have HO := Lib.hid hok1
   have HM := Lib.hid (show Mem w [(gw, 3, [(n : Int)]), (g3, 129, zr 6), (g2, 3, [B]), (g1, 129, cur1)] W1 from hM1)
   have HK := Lib.hid (hK1.cons (fun E hE => Nat.lt_of_lt_of_le (HDL.out E hE) hDW) (Nat.le_trans HWS.out hDW) hDef)
   have c5 : W1.cell? ⟨gw, 0, none⟩ = some (.int .i64 (n : Int)) := Mem.one HM.out (.head _)
   have hn1 : 0 < (n : Int) := by omega
   have hn8 : (n : Int) ≤ 7 := by omega
   clear hok1 hM1 hK1 hinv hnar1 hle1 hDef hDW
   go_wp2_with (first | (refine wl_alloc1K rfl rfl HM ?_; clear HM; intro g5 u5 HM hko; have HK2 := Lib.hid (HK.out.keeps hko); clear HK hko; have c6 := HM.out.one (.head _); have f6 := HM.out.free (.head _) 0))
   have HM2 := (HM.out.put1 0 rfl (n : Int)).put1 0 rfl ((n : Int) - 1)
   simp only [List.set_cons_zero] at HM2
   have hks := (KeepsOthers.setCell u5 ⟨g5, 0, none⟩ (.int .i64 (n : Int))).trans (KeepsOthers.setCell _ ⟨g5, 0, none⟩ (.int .i64 ((n : Int) - 1)))
   have e : ((n - 1 : Nat) : Int) = (n : Int) - 1 := by omega
   refine ⟨n - 1, by omega, g5, D :: Ds, _, _, _, _, _, _, _, _, _, _, _, _, _, _, _, _, _, _, _, _, _, _, rfl, Lib.hid ⟨cur1, HO.out, HN.out, fun b hb => by have := (HLE.out b hb).2 (by omega); omega, by omega, ?_, HK2.out.keeps hks⟩⟩
   unfold FitM
   rw [e]
   exact HM2.sub (by exact q7u)
  case stop =>
   have HWS := Lib.hid HM.out.1.size
   clear HK HN HLE HO HM hD
   rintro D c pre W1 hDW ⟨k, hk, rfl⟩ ⟨rfl, cur1, hok1, hM1, hK1, hinv⟩ hDef
   have hcur := hinv k hk rfl
   rw [hcur] at hM1
   have HM := Lib.hid (show Mem w [(gw, 3, [(n : Int)]), (g3, 129, zr 6), (g2, 3, [B]), (g1, 129, R)] W1 from hM1)
   have HK := Lib.hid (hK1.cons (fun E hE => Nat.lt_of_lt_of_le (HDL.out E hE) hDW) (Nat.le_trans HWS.out hDW) hDef)
   clear hok1 hM1 hK1 hinv hDef hDW hcur
   refine wpIn_wide.2 ?_
   go_wp2_with (first | (refine wl_load rfl _ _ rfl rfl (by exact q7a) HM (by exact q7e) (by exact q7l) ?_) | (refine wl_storeK rfl _ _ _ rfl rfl rfl arrAll HM 1 rfl (by exact q7l) LR ?_; clear HM; intro us HM hko; have HK2 := Lib.hid (HK.out.keeps hko); clear HK hko; simp only [List.set_cons_zero, List.set_cons_succ] at HM))
   refine leaves_marks (D :: Ds) _ HK2.out.1 (fun D hD => (HK2.out.2 D hD).2) fun W' hs => ?_
   have hm := Shut.mem HM.out HK2.out hs
   exact ⟨_, res_one rfl _ rfl arrAll (Lib.hid hm) (by exact q7e) LR, rfl, hm.1⟩
end Go.Proofs.YtkcoboamejefiaaGreatDoor.Lp
namespace Go.Proofs.YtkcoboamejefiaaGreatDoor.Lp
open Go.RowKit Fx Fq Tb
def shareV (l : List Int) (B : Int) : Value := if chkL l = true ∧ 0 ≤ B then .tuple #[.agg (icells (shareL l B)), .int .i64 0] else .tuple #[.agg (icells (zr 6)), .int .i64 1]
theorem share_bad1 (l : List Int) (B : Int) (w : World) (ll : l.length = 6) (hc : chkL l = false) :
  Calls Tryz.prog 79 #[.agg (icells l), .int .i64 B] w (ValQ w (.tuple #[.agg (icells (zr 6)), .int .i64 1])) := by
 have LL := Lib.hid ll
 have LZ := Lib.hid (zr_length 6)
 have HM := Lib.hid (Mem.start w)
 have HC := Lib.hid (fun u => mask_bad l u ll hc)
 clear ll hc
 go_enter Tryz.func79, Tryz.ntmps79
 go_wp2_with (first | ((first | refine wl_box rfl _ _ rfl rfl HM ?_ | refine wl_alloc rfl _ rfl (by exact q7a) HM ?_); first | (have q:dL HM = 0:=rfl;clear q HM;intro g1 u1 HM) | (have q:dL HM = 1:=rfl;clear q HM;intro g2 u2 HM) | (have q:dL HM = 2:=rfl;clear q HM;intro g3 u3 HM) | (have q:dL HM = 3:=rfl;clear q HM;intro g4 u4 HM)) | (refine wl_load rfl _ _ rfl rfl (by exact q7a) HM (by exact q7e) (by exact q7l) ?_) | (refine wl_storeM rfl _ _ _ rfl rfl rfl (by exact q7a) HM (by exact q7x) (by exact q7l) (by exact q7l) ?_; clear HM; intro us HM; dsimp only [List.set] at HM) | (refine q8v rfl _ rfl (by exact q7a) (by kernel_rfl) ?_))
 refine (HC.out _).mono ?_
 rintro e w2 ⟨rfl, h1⟩
 replace HM := Lib.hid (HM.out.below h1)
 clear h1 HC
 go_wp2_with (first | ((first | refine wl_box rfl _ _ rfl rfl HM ?_ | refine wl_alloc rfl _ rfl (by exact q7a) HM ?_); first | (have q:dL HM = 0:=rfl;clear q HM;intro g1 u1 HM) | (have q:dL HM = 1:=rfl;clear q HM;intro g2 u2 HM) | (have q:dL HM = 2:=rfl;clear q HM;intro g3 u3 HM) | (have q:dL HM = 3:=rfl;clear q HM;intro g4 u4 HM)) | (refine wl_load rfl _ _ rfl rfl (by exact q7a) HM (by exact q7e) (by exact q7l) ?_) | (refine wl_storeM rfl _ _ _ rfl rfl rfl (by exact q7a) HM (by exact q7x) (by exact q7l) (by exact q7l) ?_; clear HM; intro us HM; dsimp only [List.set] at HM) | (refine q8v rfl _ rfl (by exact q7a) (by kernel_rfl) ?_))
 refine bodyPost_ret (v := .tuple #[.agg (icells (zr 6)), .int .i64 1]) (res_two rfl _ rfl rfl arrAll HM (by exact q7e) LZ) rfl ⟨rfl, HM.out.1⟩
theorem share_bad2 (l : List Int) (B : Int) (w : World) (ll : l.length = 6) (hc : chkL l = true) (hB : B < 0) :
  Calls Tryz.prog 79 #[.agg (icells l), .int .i64 B] w (ValQ w (.tuple #[.agg (icells (zr 6)), .int .i64 1])) := by
 have LL := Lib.hid ll
 have LZ := Lib.hid (zr_length 6)
 have LM := Lib.hid (maskL_length l)
 have HM := Lib.hid (Mem.start w)
 have HC := Lib.hid (fun u => mask_good l u ll hc)
 generalize maskL l = m at HC LM
 clear ll hc
 go_enter Tryz.func79, Tryz.ntmps79
 go_wp2_with (first | ((first | refine wl_box rfl _ _ rfl rfl HM ?_ | refine wl_alloc rfl _ rfl (by exact q7a) HM ?_); first | (have q:dL HM = 0:=rfl;clear q HM;intro g1 u1 HM) | (have q:dL HM = 1:=rfl;clear q HM;intro g2 u2 HM) | (have q:dL HM = 2:=rfl;clear q HM;intro g3 u3 HM) | (have q:dL HM = 3:=rfl;clear q HM;intro g4 u4 HM)) | (refine wl_load rfl _ _ rfl rfl (by exact q7a) HM (by exact q7e) (by exact q7l) ?_) | (refine wl_storeM rfl _ _ _ rfl rfl rfl (by exact q7a) HM (by exact q7x) (by exact q7l) (by exact q7l) ?_; clear HM; intro us HM; dsimp only [List.set] at HM) | (refine q8v rfl _ rfl (by exact q7a) (by kernel_rfl) ?_))
 refine (HC.out _).mono ?_
 rintro e w2 ⟨rfl, h1⟩
 replace HM := Lib.hid (HM.out.below h1)
 clear h1 HC
 go_wp2_with (first | ((first | refine wl_box rfl _ _ rfl rfl HM ?_ | refine wl_alloc rfl _ rfl (by exact q7a) HM ?_); first | (have q:dL HM = 0:=rfl;clear q HM;intro g1 u1 HM) | (have q:dL HM = 1:=rfl;clear q HM;intro g2 u2 HM) | (have q:dL HM = 2:=rfl;clear q HM;intro g3 u3 HM) | (have q:dL HM = 3:=rfl;clear q HM;intro g4 u4 HM)) | (refine wl_load rfl _ _ rfl rfl (by exact q7a) HM (by exact q7e) (by exact q7l) ?_) | (refine wl_storeM rfl _ _ _ rfl rfl rfl (by exact q7a) HM (by exact q7x) (by exact q7l) (by exact q7l) ?_; clear HM; intro us HM; dsimp only [List.set] at HM) | (refine q8v rfl _ rfl (by exact q7a) (by kernel_rfl) ?_))
 refine bodyPost_ret (v := .tuple #[.agg (icells (zr 6)), .int .i64 1]) (res_two rfl _ rfl rfl arrAll HM (by exact q7e) LZ) rfl ⟨rfl, HM.out.1⟩
theorem share_good (l : List Int) (B : Int) (w : World) (ll : l.length = 6) (hc : chkL l = true) (hB : 0 ≤ B) (he : Edg w) :
  Calls Tryz.prog 79 #[.agg (icells l), .int .i64 B] w (ValQ w (.tuple #[.agg (icells (shareL l B)), .int .i64 0])) := by
 have LL := Lib.hid ll
 have HE := Lib.hid he
 have LZ := Lib.hid (zr_length 6)
 have LM := Lib.hid (maskL_length l)
 have LS := Lib.hid (share_ok l hB).1.1
 have HM := Lib.hid (Mem.start w)
 have HC := Lib.hid (fun u => mask_good l u ll hc)
 have HF := Lib.hid (fun u (hu : Edg u) => fit_any (wishL l (maskL l)) B u (wish_ok _ _) hB hu)
 rw [show narL 42 (wishL l (maskL l)) B = shareL l B from rfl] at HF
 have HL := Lib.hid (fun k => inR_bd hc (by omega) (by omega) k)
 have HB := Lib.hid (fun (k : Nat) (hk : k < 6) => mask_bd hc hk)
 obtain ⟨m, hm⟩ : ∃ m, maskL l = m := ⟨_, rfl⟩
 rw [hm] at HC LM HB HF
 clear ll hc he hm
 go_enter Tryz.func79, Tryz.ntmps79
 go_wp2_with (first | ((first | refine wl_box rfl _ _ rfl rfl HM ?_ | refine wl_alloc rfl _ rfl (by exact q7a) HM ?_); first | (have q:dL HM = 0:=rfl;clear q HM;intro g1 u1 HM) | (have q:dL HM = 1:=rfl;clear q HM;intro g2 u2 HM) | (have q:dL HM = 2:=rfl;clear q HM;intro g3 u3 HM) | (have q:dL HM = 3:=rfl;clear q HM;intro g4 u4 HM) | (have q:dL HM = 4:=rfl;clear q HM;intro g5 u5 HM)) | (refine wl_load rfl _ _ rfl rfl (by exact q7a) HM (by exact q7e) (by exact q7l) ?_) | (refine wl_storeM rfl _ _ _ rfl rfl rfl (by exact q7a) HM (by exact q7x) (by exact q7l) (by exact q7l) ?_; clear HM; intro us HM; dsimp only [List.set] at HM) | (refine q8v rfl _ rfl (by exact q7a) (by kernel_rfl) ?_))
 refine (HC.out _).mono ?_
 rintro e w2 ⟨rfl, h1⟩
 replace HM := Lib.hid (HM.out.below h1)
 clear h1 HC
 go_wp2_with (first | ((first | refine wl_box rfl _ _ rfl rfl HM ?_ | refine wl_alloc rfl _ rfl (by exact q7a) HM ?_); first | (have q:dL HM = 0:=rfl;clear q HM;intro g1 u1 HM) | (have q:dL HM = 1:=rfl;clear q HM;intro g2 u2 HM) | (have q:dL HM = 2:=rfl;clear q HM;intro g3 u3 HM) | (have q:dL HM = 3:=rfl;clear q HM;intro g4 u4 HM) | (have q:dL HM = 4:=rfl;clear q HM;intro g5 u5 HM)) | (refine wl_load rfl _ _ rfl rfl (by exact q7a) HM (by exact q7e) (by exact q7l) ?_) | (refine wl_storeM rfl _ _ _ rfl rfl rfl (by exact q7a) HM (by exact q7x) (by exact q7l) (by exact q7l) ?_; clear HM; intro us HM; dsimp only [List.set] at HM) | (refine q8v rfl _ rfl (by exact q7a) (by kernel_rfl) ?_))
 go_loopw [22] (fun vi wr => ∃ k : Nat, k ≤ 6 ∧ vi = .int .i64 (k : Int) ∧ Hid (Mem w [(g4, 129, tab 6 (part2 k (fun b => wishI (l.getD b 0) (m.getD b 0)) (fun _ => 0))), (g3, 25, m), (g2, 129, zr 6), (g1, 25, l)] wr)) (fun vi _ => 6 - (intOf vi).toNat)
 case atStart => exact ⟨0, by omega, rfl, Lib.hid (by rw [part2_none, tab_zero]; exact HM.out)⟩
 case round =>
  clear HM
  obtain ⟨k, hk, rfl, HM⟩ := hrel
  by_cases hlt : k < 6
  ·have k6 : (k : Int) < 6 := by omega
   have S1 := Lib.hid (part2_set (n := 6) (k := k) (fun b => wishI (l.getD b 0) (m.getD b 0)) (fun _ => 0))
   have H1 := Lib.hid (fun (u : World) (hu : Mem w [(g3, 25, m), (g1, 25, l)] u) => hu.cell (.tail _ (.head _)) (k := k) (by rw [LL.out]; exact hlt))
   have H2 := Lib.hid (fun (u : World) (hu : Mem w [(g3, 25, m), (g1, 25, l)] u) => hu.cell (.head _) (k := k) (by rw [LM.out]; exact hlt))
   have HW := Lib.hid (fun u => wished_any (l.getD k 0) (m.getD k 0) u (HL.out k).1 (HL.out k).2 (HB.out k hlt).1 (HB.out k hlt).2)
   generalize l.getD k 0 = x at H1 HW S1
   generalize m.getD k 0 = y at H2 HW S1
   generalize wishI x y = z at HW S1
   go_wp2_with fail
   refine wp_region_held_drew (S := Mem w [(g3, 25, m), (g1, 25, l)]) (by kernel_rfl) (HM.out.drew.sub (by exact q7u)) (fun hHeld => ?_)
   have HMd := Lib.hid HM.out.drew
   clear HM
   have HM := HMd
   clear HMd
   generalize World.drew _ = wd at HM hHeld ⊢
   (refine wa_take (i := 0) rfl (by kernel_rfl) (by kernel_rfl) (by kernel_rfl) (fun _ _ _ h => h) (yi_free rfl (fun u => rfl)) hHeld rfl ?_; (try simp only [Act.put, qz1, qz2, qz3]))
   (refine wa_take (i := 1) rfl (by kernel_rfl) (by kernel_rfl) (by kernel_rfl) (fun _ _ _ h => h) (yi_free rfl (fun u => rfl)) hHeld rfl ?_; (try simp only [Act.put, qz1, qz2, qz3]))
   (refine wa_take (i := 2) (v := .pointer (some ⟨g1, k, none⟩)) rfl (by kernel_rfl) (by kernel_rfl) (by kernel_rfl) (fun _ _ _ h => h) (yi_free rfl (fun u => by go_simp)) hHeld rfl ?_; (try simp only [Act.put, qz1, qz2, qz3]))
   (refine wa_take (i := 3) rfl (by kernel_rfl) (by kernel_rfl) (by kernel_rfl) (fun _ _ _ h => h) (yi_cell rfl _ rfl rfl (H1).out) hHeld rfl ?_; (try simp only [Act.put, qz1, qz2, qz3]))
   (refine wa_take (i := 4) rfl (by kernel_rfl) (by kernel_rfl) (by kernel_rfl) (fun _ _ _ h => h) (yi_free rfl (fun u => rfl)) hHeld rfl ?_; (try simp only [Act.put, qz1, qz2, qz3]))
   (refine wa_take (i := 5) (v := .pointer (some ⟨g3, k, none⟩)) rfl (by kernel_rfl) (by kernel_rfl) (by kernel_rfl) (fun _ _ _ h => h) (yi_free rfl (fun u => by go_simp)) hHeld rfl ?_; (try simp only [Act.put, qz1, qz2, qz3]))
   (refine wa_take (i := 6) rfl (by kernel_rfl) (by kernel_rfl) (by kernel_rfl) (fun _ _ _ h => h) (yi_cell rfl _ rfl rfl (H2).out) hHeld rfl ?_; (try simp only [Act.put, qz1, qz2, qz3]))
   refine wpAnyH_ready (rs := [7]) (by kernel_rfl) (by simp) ?_; refine AllReadyH.cons rfl (fun K hK => ?_) (AllReadyH.nil)
   rw [if_pos (by rfl)]; go_simp
   refine (HW.out _).mono ?_
   rintro e wb ⟨rfl, rfl⟩
   clear hHeld
   go_wp2_with fail; refine hK.out _ _ (HM.out.sub (by exact q7u)) (fun hHeld => ?_); clear hK K; (try simp only [Act.put, qz1, qz2, qz3])
   (refine wa_take (i := 8) (v := .pointer (some ⟨g4, k, none⟩)) rfl (by kernel_rfl) (by kernel_rfl) (by kernel_rfl) (fun _ _ _ h => h) (yi_free rfl (fun u => by go_simp)) hHeld rfl ?_; (try simp only [Act.put, qz1, qz2, qz3]))
   have c1 := HM.out.cell (.head _) (k := k) (by rw [tab_length]; exact hlt)
   have f1 := HM.out.free (.head _) k
   generalize List.getD (tab 6 _) k 0 = o at c1
   refine wpAnyH_ready (rs := [9]) (by kernel_rfl) (by simp) ?_; refine AllReadyH.cons rfl (fun K hK => ?_) (AllReadyH.nil)
   rw [if_pos (by rfl)]; go_simp
   have HM3 := Lib.hid (HM.out.put 0 rfl k z)
   simp only [List.set_cons_zero] at HM3
   rw [S1.out] at HM3
   clear HM c1 f1 hHeld
   have HM := HM3
   clear HM3
   go_wp2_with fail; refine hK.out _ _ (HM.out.sub (by exact q7u)) (fun hHeld => ?_); clear hK K; (try simp only [Act.put, qz1, qz2, qz3])
   refine wpAnyH_done (by kernel_rfl) ?_ _
   clear H1 H2
   go_wp2
   go_roundw
   case rel => exact ⟨k + 1, by omega, by go_num, HM⟩
   case measure => simp [intOf]; omega
  ·obtain rfl : k = 6 := by omega
   rw [part2_all] at HM
   change Hid (Mem w [(g4, 129, wishL l m), (g3, 25, m), (g2, 129, zr 6), (g1, 25, l)] wr) at HM
   have LW := Lib.hid (show (wishL l m).length = 6 from tab_length _ _)
   go_wp2_with (first | ((first | refine wl_box rfl _ _ rfl rfl HM ?_ | refine wl_alloc rfl _ rfl (by exact q7a) HM ?_); first | (have q:dL HM = 0:=rfl;clear q HM;intro g1 u1 HM) | (have q:dL HM = 1:=rfl;clear q HM;intro g2 u2 HM) | (have q:dL HM = 2:=rfl;clear q HM;intro g3 u3 HM) | (have q:dL HM = 3:=rfl;clear q HM;intro g4 u4 HM) | (have q:dL HM = 4:=rfl;clear q HM;intro g5 u5 HM)) | (refine wl_load rfl _ _ rfl rfl (by exact q7a) HM (by exact q7e) (by exact q7l) ?_) | (refine wl_storeM rfl _ _ _ rfl rfl rfl (by exact q7a) HM (by exact q7x) (by exact q7l) (by exact q7l) ?_; clear HM; intro us HM; dsimp only [List.set] at HM) | (refine q8v rfl _ rfl (by exact q7a) (by kernel_rfl) ?_))
   refine (HF.out _ (HE.out.mem HM.out)).mono ?_
   rintro e w2 ⟨rfl, h1⟩
   replace HM := Lib.hid (HM.out.below h1)
   clear h1 HF
   go_wp2_with (first | ((first | refine wl_box rfl _ _ rfl rfl HM ?_ | refine wl_alloc rfl _ rfl (by exact q7a) HM ?_); first | (have q:dL HM = 0:=rfl;clear q HM;intro g1 u1 HM) | (have q:dL HM = 1:=rfl;clear q HM;intro g2 u2 HM) | (have q:dL HM = 2:=rfl;clear q HM;intro g3 u3 HM) | (have q:dL HM = 3:=rfl;clear q HM;intro g4 u4 HM) | (have q:dL HM = 4:=rfl;clear q HM;intro g5 u5 HM)) | (refine wl_load rfl _ _ rfl rfl (by exact q7a) HM (by exact q7e) (by exact q7l) ?_) | (refine wl_storeM rfl _ _ _ rfl rfl rfl (by exact q7a) HM (by exact q7x) (by exact q7l) (by exact q7l) ?_; clear HM; intro us HM; dsimp only [List.set] at HM) | (refine q8v rfl _ rfl (by exact q7a) (by kernel_rfl) ?_))
   refine bodyPost_ret (v := .tuple #[.agg (icells (shareL l B)), .int .i64 0]) (res_two rfl _ rfl rfl arrAll HM (by exact q7e) LS) rfl ⟨rfl, HM.out.1⟩
theorem bshare_any (l : List Int) (B : Int) (w : World) (ll : l.length = 6) (he : Edg w) : Calls Tryz.prog 79 #[.agg (icells l), .int .i64 B] w (ValQ w (shareV l B)) := by
 unfold shareV
 by_cases h : chkL l = true
 ·by_cases hB : 0 ≤ B
  ·rw [if_pos ⟨h, hB⟩]; exact share_good l B w ll h hB he
  ·rw [if_neg (fun k => hB k.2)]; exact share_bad2 l B w ll h (by omega)
 ·rw [if_neg (fun k => h k.1)]; exact share_bad1 l B w ll (by simpa using h)
end Go.Proofs.YtkcoboamejefiaaGreatDoor.Lp
namespace Go.Proofs.YtkcoboamejefiaaGreatDoor.Lp
open Go.RowKit Fx Fq Tb
def x2 : List Int := 0 :: 1048576 :: List.replicate 14 0
def m2 : List Int := [0, 161, 0, 0, 0, 0]
def a2 : List Int := [0, 7, 0, 0, 0, 0]
end Go.Proofs.YtkcoboamejefiaaGreatDoor.Lp
namespace Go.Proofs.YtkcoboamejefiaaGreatDoor.Lp
open Go.RowKit Fx Fq Tb
end Go.Proofs.YtkcoboamejefiaaGreatDoor.Lp
namespace Go.Proofs.YtkcoboamejefiaaGreatDoor.Lp
open Go.RowKit Fx Fq Tb
end Go.Proofs.YtkcoboamejefiaaGreatDoor.Lp
namespace Go.Proofs.YtkcoboamejefiaaGreatDoor.Lp
open Go.RowKit Fx Fq Tb
def mostN (k : Nat) : Nat := 2 ^ k - 1
def peakN (l : Nat) : Nat := (8 + l % 8) * 2 ^ (l / 8) / 8 + 1
def stepN (l k : Nat) : Nat := (peakN l + mostN k - 1) / mostN k
theorem mostN_pos {k : Nat} (h : 1 ≤ k) : 1 ≤ mostN k := by
 obtain ⟨j, rfl⟩ : ∃ j, k = j + 1 := ⟨k - 1, by omega⟩
 have := Nat.two_pow_pos j
 unfold mostN; rw [Nat.pow_succ]; omega
theorem mostN_bd : ∀ k, k ≤ 7 → mostN k ≤ 127 := by decide
theorem peakN_bd : ∀ l, l < 256 → 2 ≤ peakN l ∧ peakN l ≤ 4026531841 := by decide +kernel
theorem stepN_bd {l k : Nat} (hl : l < 256) (hk : 1 ≤ k) (hk7 : k ≤ 7) : 1 ≤ stepN l k ∧ stepN l k ≤ 4026531967 := by
 have hm := mostN_pos hk
 have hm7 := mostN_bd k hk7
 have hp := peakN_bd l hl
 constructor
 ·unfold stepN
  exact (Nat.le_div_iff_mul_le (by omega)).2 (by omega)
 ·unfold stepN
  exact Nat.le_trans (Nat.div_le_self _ _) (by omega)
def clampI (v by' : Int) : Int := min (max v (-by')) by'
end Go.Proofs.YtkcoboamejefiaaGreatDoor.Lp
namespace Go.Proofs.YtkcoboamejefiaaGreatDoor.Lp
open Go.RowKit Fx Fq Tb
def mostV (v : Int) : Nat := mostN (min (max v 0) 7).toNat
theorem two_pow_le31 {i : Nat} (h : i ≤ 31) : 2 ^ i ≤ 2147483648 := Nat.pow_le_pow_right (n := 2) (i := i) (j := 31) (by omega) h
end Go.Proofs.YtkcoboamejefiaaGreatDoor.Lp
namespace Go.Proofs.YtkcoboamejefiaaGreatDoor.Lp
open Go.RowKit Fx Fq Tb
theorem arrHop : Arr 22 16 := ⟨⟨.array 16 3, by kernel_rfl, rfl⟩, by kernel_rfl⟩
def stF (l a : List Int) (n : Nat) : Int := if 0 < a.getD (bnd n) 0 then (stepN (l.getD (bnd n) 0).toNat (a.getD (bnd n) 0).toNat : Int) else 0
def moF (a : List Int) (n : Nat) : Int := if 0 < a.getD (bnd n) 0 then (mostN (a.getD (bnd n) 0).toNat : Int) else 0
theorem moF_is (a : List Int) (n : Nat) : moF a n = if 0 < a.getD (bnd n) 0 then (mostN (a.getD (bnd n) 0).toNat : Int) else 0 := rfl
def stL (l a : List Int) : List Int := tab 16 (stF l a)
def moL (a : List Int) : List Int := tab 16 (moF a)
def ssL (l : List Int) : List Int := if chkL l = true then stL l (shareL l 120) else zr 16
def msL (l : List Int) : List Int := if chkL l = true then moL (shareL l 120) else zr 16
theorem part2_skip {n k : Nat} {f g : Nat → Int} (h : f k = g k) : tab n (part2 k f g) = tab n (part2 (k + 1) f g) := tab_congr fun i _ => by
 unfold part2
 by_cases e : i = k
 ·subst e; rw [if_neg (by omega), if_pos (by omega), h]
 ·by_cases h1 : i < k
  ·rw [if_pos h1, if_pos (by omega)]
  ·rw [if_neg h1, if_neg (by omega)]
theorem ssL_length (l : List Int) : (ssL l).length = 16 := by unfold ssL; split; exact tab_length _ _; exact zr_length _
theorem msL_length (l : List Int) : (msL l).length = 16 := by unfold msL; split; exact tab_length _ _; exact zr_length _
theorem msL_bd (l : List Int) {k : Nat} (hk : k < 16) : 0 ≤ (msL l).getD k 0 ∧ (msL l).getD k 0 ≤ 127 := by
 unfold msL
 split
 ·unfold moL
  rw [tab_getD _ hk]
  unfold moF
  have h := (share_ok l (B := 120) (by decide)).1.2 (bnd k) (bnd_all k hk).1
  split
  ·have := mostN_bd ((shareL l 120).getD (bnd k) 0).toNat (by omega)
   omega
  ·omega
 ·rw [zr_getD]; omega
theorem ssL_bd (l : List Int) {k : Nat} (hk : k < 16) : 0 ≤ (ssL l).getD k 0 ∧ (ssL l).getD k 0 ≤ 4026531967 := by
 unfold ssL
 split
 ·rename_i hc
  unfold stL
  rw [tab_getD _ hk]
  unfold stF
  have h := (share_ok l (B := 120) (by decide)).1.2 (bnd k) (bnd_all k hk).1
  have hl := inR_bd hc (by omega) (by omega) (bnd k)
  split
  ·have := stepN_bd (l := (l.getD (bnd k) 0).toNat) (k := ((shareL l 120).getD (bnd k) 0).toNat) (by omega) (by omega) (by omega)
   omega
  ·omega
 ·rw [zr_getD]; omega
end Go.Proofs.YtkcoboamejefiaaGreatDoor.Lp
namespace Go.Proofs.YtkcoboamejefiaaGreatDoor.Lp
open Go.RowKit Fx Fq Tb
def mayN (q m : List Int) : Nat → Bool
 | 0 => true
 | k + 1 => mayN q m k && (decide (-(m.getD k 0) ≤ q.getD k 0) && decide (q.getD k 0 ≤ m.getD k 0))
theorem mayN_succ (q m : List Int) (k : Nat) : mayN q m (k + 1) = (mayN q m k && (decide (-(m.getD k 0) ≤ q.getD k 0) && decide (q.getD k 0 ≤ m.getD k 0))) := rfl
def mayB (q l : List Int) : Bool := chkL l && mayN q (msL l) 16
theorem mayN_at {q m : List Int} : ∀ n k, k < n → mayN q m n = true → -(m.getD k 0) ≤ q.getD k 0 ∧ q.getD k 0 ≤ m.getD k 0
 | n + 1, k, hk, h => by
  rw [mayN_succ, Bool.and_eq_true, Bool.and_eq_true, decide_eq_true_eq, decide_eq_true_eq] at h
  by_cases e : k = n
  ·subst e; exact h.2
  ·exact mayN_at n k (by omega) h.1
def greatF (q s : List Int) (n : Nat) : Int := clampI (q.getD n 0 * s.getD n 0) 67108864
def greatL (q l : List Int) : List Int := tab 16 (greatF q (ssL l))
def greatV (q l : List Int) : Value := if mayB q l = true then .tuple #[.agg (icells (greatL q l)), .int .i64 0] else .tuple #[.agg (icells (zr 16)), .int .i64 1]
theorem mulq_bd {a b m n : Int} (h1 : -m ≤ a) (h2 : a ≤ m) (h3 : 0 ≤ b) (h4 : b ≤ n) (hm : 0 ≤ m) : -(m * n) ≤ a * b ∧ a * b ≤ m * n := by
 have k1 : a * b ≤ m * b := Int.mul_le_mul_of_nonneg_right h2 h3
 have k2 : -m * b ≤ a * b := Int.mul_le_mul_of_nonneg_right h1 h3
 have k3 : m * b ≤ m * n := Int.mul_le_mul_of_nonneg_left h4 hm
 rw [Int.neg_mul] at k2
 omega
end Go.Proofs.YtkcoboamejefiaaGreatDoor.Lp
namespace Go.Proofs.YtkcoboamejefiaaGreatDoor.Lp
open Go.RowKit Fx Fq Tb
end Go.Proofs.YtkcoboamejefiaaGreatDoor.Lp
namespace Go.Proofs.YtkcoboamejefiaaGreatDoor.Lp
open Go.RowKit Fx Fq Tb
def nextS (t : Int) : Int := (1664525 * t + 1013904223) % 4294967296
def seedN (t : Int) : Nat → Int
 | 0 => t
 | k + 1 => nextS (seedN t k)
theorem seedN_succ (t : Int) (k : Nat) : seedN t (k + 1) = nextS (seedN t k) := rfl
theorem nextS_bd (t : Int) : 0 ≤ nextS t ∧ nextS t < 4294967296 := by unfold nextS; omega
theorem seedN_bd {t : Int} (h : 0 ≤ t ∧ t < 4294967296) : ∀ k, 0 ≤ seedN t k ∧ seedN t k < 4294967296
 | 0 => h
 | _ + 1 => nextS_bd _
def noiseR (t : Int) (p : Nat) : Int := roundI ((t / 65536 - 32768) * (p : Int)) 18
def noiseF (t : Int) (l : List Int) (n : Nat) : Int := if 0 < l.getD (bnd n) 0 then clampI (noiseR (seedN t (n + 1)) (peakN (l.getD (bnd n) 0).toNat)) 67108864 else 0
theorem noiseF_is (t : Int) (l : List Int) (n : Nat) : noiseF t l n = if 0 < l.getD (bnd n) 0 then min (max (noiseR (seedN t (n + 1)) (peakN (l.getD (bnd n) 0).toNat)) (-67108864)) 67108864 else 0 := rfl
def noiseL (t : Int) (l : List Int) : List Int := tab 16 (noiseF t l)
def noiseV (t : Int) (l : List Int) : Value := if chkL l = true then .tuple #[.agg (icells (noiseL t l)), .int .u32 (seedN t 16), .int .i64 0] else .tuple #[.agg (icells (zr 16)), .int .u32 0, .int .i64 1]
theorem res_css {fn : Func} {p u v : Tmp} {ty : TypeId} (h : fn.results = #[.cell p ty, .tmp u, .tmp v]) (tmps : Array Value) {w w0 : World} {L : List (Nat × TypeId × List Int)} {g n : Nat} {xs : List Int} {a b : Value}
  (hp : tmps.getD p undef = .pointer (some ⟨g, 0, none⟩)) (hu : tmps.getD u undef = a) (hv : tmps.getD v undef = b) (ha : Arr ty n) (hm : Hid (Mem w0 L w)) (hin : (g, ty, xs) ∈ L) (hl : Hid (xs.length = n)) :
  (results fn tmps).run Tryz.prog w = .ok (.tuple #[.agg (icells xs), a, b]) w := by
 have hp' : tmps[p]?.getD undef = .pointer (some ⟨g, 0, none⟩) := by simpa using hp
 have hu' : tmps[u]?.getD undef = a := by simpa using hu
 have hv' : tmps[v]?.getD undef = b := by simpa using hv
 simp [results, h, hp', hu', hv', asAddr, Result.andThen, run_load_mem ha hm.out hin hl.out]
end Go.Proofs.YtkcoboamejefiaaGreatDoor.Lp
namespace Go.Proofs.YtkcoboamejefiaaGreatDoor.Yr
open Go.RowKit Cd
open Lp (tab tab_getD tab_length chkL shareL msL mayB mayN mayN_at bnd bnd_all mostN moF costL costL_eq OkA share_ok moF_is mostN_bd moL)
theorem totF_acc' (zs : List Int) : Fq.totF true (Fq.acc zs) = Fq.tot zs := by
 unfold Fq.totF
 rw [Fq.acc_length, Nat.add_sub_cancel, Fq.acc_getD _ _ (Nat.le_refl _)]
 simp
theorem ms_at {l : List Int} (hc : chkL l = true) {k : Nat} (hk : k < 16) : (msL l).getD k 0 = moF (shareL l 120) k := by
 unfold msL; rw [if_pos hc]; exact tab_getD _ hk
def kindN : List Int := [6, 9, 1]
def chgN : List Int := [1, 1, 2, 3, 5, 9, 16, 30, 60, 30, 16, 9, 5, 3, 2, 1]
def smN (m : Nat) : List Int := (List.range (2 * m + 1)).map fun (j : Nat) => (m : Int) + 1 - max ((j : Int) - (m : Int)) ((m : Int) - (j : Int))
def kT : List Int := Fq.acc kindN
def cT : List Int := Fq.acc chgN
def lT : List Int := evT
def smT (m : Nat) : List Int := Fq.acc (smN m)
theorem smN_length (m : Nat) : (smN m).length = 2 * m + 1 := by simp [smN]
theorem smT_length (m : Nat) : (smT m).length = 2 * m + 2 := by unfold smT; rw [Fq.acc_length, smN_length]
theorem kT_ok : Fq.okF kT = true := by decide +kernel
theorem cT_ok : Fq.okF cT = true := by decide +kernel
theorem lT_ok : Fq.okF lT = true := evT_ok
theorem lT_length : lT.length = 257 := evT_length
theorem kT_length : kT.length = 4 := by decide +kernel
theorem cT_length : cT.length = 17 := by decide +kernel
theorem kT_tot : spT kT = 16 := by decide +kernel
theorem cT_tot : spT cT = 193 := by decide +kernel
theorem tot_rep (n : Nat) : Fq.tot (List.replicate n 1) = (n : Int) := by
 induction n with
 | zero => rfl
 | succ n ih => rw [List.replicate_succ, Fq.tot_cons, ih]; omega
theorem lT_tot : spT lT = 256 := by unfold spT lT evT; rw [totF_acc', tot_rep]; rfl
theorem smN_sum : ∀ k, k < 8 → Fq.tot (smN (mostN k)) = ((2 ^ (2 * k) : Nat) : Int) := by decide +kernel
theorem smN_in (m : Nat) : ∀ x ∈ smN m, 1 ≤ x ∧ x ≤ (m : Int) + 1 := fun x hx => by
 unfold smN at hx
 rw [List.mem_map] at hx
 obtain ⟨j, hj, rfl⟩ := hx
 have := List.mem_range.1 hj
 omega
theorem pow_le14 {k : Nat} (h : k < 8) : 2 ^ (2 * k) ≤ 16384 := Nat.pow_le_pow_right (n := 2) (i := 2 * k) (j := 14) (by omega) (by omega)
theorem smN_ok {k : Nat} (hk : k < 8) : Fq.okN (smN (mostN k)) = true := by
 have hm := mostN_bd k (by omega)
 have h := smN_sum k hk
 have hp := pow_le14 hk
 unfold Fq.okN
 refine decide_eq_true ⟨by rw [smN_length]; omega, by rw [smN_length]; omega, fun x hx => ?_, by rw [h]; omega⟩
 have := smN_in _ x hx
 omega
theorem smT_ok {k : Nat} (hk : k < 8) : Fq.okF (smT (mostN k)) = true := Fq.okF_acc (smN_ok hk)
theorem smT_tot {k : Nat} (hk : k < 8) : spT (smT (mostN k)) = 2 ^ (2 * k) := by
 unfold spT smT
 rw [totF_acc', smN_sum k hk]
 exact Int.toNat_natCast _
def lvP (K : Int) (l p : List Int) (b : Nat) : Pr := if K = 1 then (l.getD b 0 - p.getD b 0 + 8, cT) else (l.getD b 0, lT)
def headP (K : Int) (l p : List Int) : List Pr := (K, kT) :: (List.range 6).map (lvP K l p)
def numsP (q ms : List Int) : Nat → List Pr
 | 0 => []
 | k + 1 => numsP q ms k ++ if 0 < ms.getD k 0 then [(q.getD k 0 + ms.getD k 0, smT (ms.getD k 0).toNat)] else []
theorem numsP_succ (q ms : List Int) (k : Nat) : numsP q ms (k + 1) = numsP q ms k ++ if 0 < ms.getD k 0 then [(q.getD k 0 + ms.getD k 0, smT (ms.getD k 0).toNat)] else [] := rfl
def symsP (K : Int) (l q p : List Int) : List Pr := headP K l p ++ if K = 2 then [] else numsP q (msL l) 16
def nearN (l p : List Int) : Nat → Bool
 | 0 => true
 | k + 1 => nearN l p k && (decide (p.getD k 0 - 8 ≤ l.getD k 0) && decide (l.getD k 0 ≤ p.getD k 0 + 7))
theorem nearN_succ (l p : List Int) (k : Nat) : nearN l p (k + 1) = (nearN l p k && (decide (p.getD k 0 - 8 ≤ l.getD k 0) && decide (l.getD k 0 ≤ p.getD k 0 + 7))) := rfl
theorem nearN_at {l p : List Int} : ∀ n k, k < n → nearN l p n = true → p.getD k 0 - 8 ≤ l.getD k 0 ∧ l.getD k 0 ≤ p.getD k 0 + 7
 | n + 1, k, hk, h => by
  rw [nearN_succ, Bool.and_eq_true, Bool.and_eq_true, decide_eq_true_eq, decide_eq_true_eq] at h
  by_cases e : k = n
  ·subst e; exact h.2
  ·exact nearN_at n k (by omega) h.1
def nearB (l p : List Int) : Bool := chkL l && (chkL p && nearN l p 6)
def chkB (K : Int) (l q p : List Int) : Bool :=
 (decide (0 ≤ K) && decide (K ≤ 2)) && (chkL l && (chkL p && ((decide (K ≠ 1) || nearN l p 6) && ((decide (K ≠ 2) || decide (q = Lp.zr 16)) && mayB q l))))
structure Fr (K : Int) (l q p : List Int) : Prop where
 kind : 0 ≤ K ∧ K ≤ 2
 lev : chkL l = true
 ahead : chkL p = true
 near : K = 1 → nearN l p 6 = true
 sid : K = 2 → q = Lp.zr 16
 may : mayB q l = true
theorem chkB_iff (K : Int) (l q p : List Int) : chkB K l q p = true ↔ Fr K l q p := by
 unfold chkB
 simp only [Bool.and_eq_true, Bool.or_eq_true, decide_eq_true_eq]
 constructor
 ·rintro ⟨h1, h2, h3, h4, h5, h6⟩
  exact ⟨h1, h2, h3, fun e => h4.resolve_left fun k => k e, fun e => h5.resolve_left fun k => k e, h6⟩
 ·rintro ⟨h1, h2, h3, h4, h5, h6⟩
  refine ⟨h1, h2, h3, ?_, ?_, h6⟩
  ·by_cases e : K = 1
   ·exact .inr (h4 e)
   ·exact .inl e
  ·by_cases e : K = 2
   ·exact .inr (h5 e)
   ·exact .inl e
end Go.Proofs.YtkcoboamejefiaaGreatDoor.Yr
namespace Go.Proofs.YtkcoboamejefiaaGreatDoor.Yr
open Go.RowKit Cd
open Lp (tab tab_getD tab_length zr_getD chkL shareL msL mayB mayN mayN_at bnd bnd_all mostN moF costL costL_eq OkA share_ok moF_is mostN_bd moL inR_bd)
theorem okP_of {xs : List Int} {s : Int} (ho : Fq.okF xs = true) (h0 : 0 ≤ s) (h1 : s < (xs.length : Int) - 1) : okP (s, xs) = true := by
 unfold okP Fq.symB
 rw [ho, Bool.true_and]
 exact decide_eq_true ⟨h0, h1⟩
def wtT (T : Nat) : Nat := if T = 193 then 8 else T.log2
def wSum : List Pr → Nat
 | [] => 0
 | q :: r => (wtT (spT q.2) + 1) + wSum r
theorem wSum_append (a b : List Pr) : wSum (a ++ b) = wSum a + wSum b := by
 induction a with
 | nil => simp [wSum]
 | cons q r ih => rw [List.cons_append]; simp only [wSum]; rw [ih]; omega
def Good (q : Pr) : Prop := okP q = true ∧ spT q.2 ≤ 2 ^ wtT (spT q.2)
theorem puts_long {ps : List Pr} : ∀ {e : En} {M : Nat}, Fine e → LongR e M → (∀ q ∈ ps, Good q) → M + wSum ps ≤ 60000 → allErr e ps = 0 ∧ Fine (stE e ps) ∧ LongR (stE e ps) (M + wSum ps) := by
 induction ps with
 | nil => intro e M hf hl _ _; exact ⟨rfl, hf, hl⟩
 | cons q r ih =>
  intro e M hf hl hg hM
  obtain ⟨g1, g2⟩ := hg q (by simp)
  have hs := (symP_of g1).2.2.2
  have hl2 := hl.put hf g1 (n := wtT (spT q.2)) (Nat.le_trans g2 (Nat.le_mul_of_pos_left _ (by have := hs.1; omega)))
  obtain ⟨a, b, _⟩ := put_facts hf.1 hf.2.1 hs
  have hlen := long_end a b hl2
  simp only [wSum] at hM ⊢
  unfold len at hlen
  have hc : putC (put1 e q) = 0 := by
   unfold putC
   rw [if_pos]
   unfold put1
   constructor <;> omega
  rw [allErr_ok g1 hc, stE_cons]
  obtain ⟨r1, r2, r3⟩ := ih (hf.put g1 hc) hl2 (fun x hx => hg x (by simp [hx])) (by omega)
  refine ⟨r1, r2, ?_⟩
  rw [show M + (wtT (spT q.2) + 1 + wSum r) = M + (wtT (spT q.2) + 1) + wSum r by omega]
  exact r3
theorem good_k {K : Int} (h : 0 ≤ K ∧ K ≤ 2) : Good (K, kT) := ⟨okP_of kT_ok h.1 (by rw [kT_length]; omega), by rw [kT_tot]; decide⟩
theorem good_lv {K : Int} {l q p : List Int} (h : Fr K l q p) {b : Nat} (hb : b < 6) : Good (lvP K l p b) ∧ wtT (spT (lvP K l p b).2) = 8 := by
 unfold lvP
 by_cases e : K = 1
 ·rw [if_pos e]
  have hn := nearN_at 6 b hb (h.near e)
  have w : wtT (spT cT) = 8 := by rw [cT_tot]; rfl
  exact ⟨⟨okP_of cT_ok (by omega) (by rw [cT_length]; omega), by rw [w, cT_tot]; decide⟩, w⟩
 ·rw [if_neg e]
  have hl := inR_bd h.lev (by omega) (by omega) b
  have w : wtT (spT lT) = 8 := by rw [lT_tot]; decide
  exact ⟨⟨okP_of lT_ok (by omega) (by rw [lT_length]; omega), by rw [w, lT_tot]; decide⟩, w⟩
theorem lv_all {K : Int} {l q p : List Int} (h : Fr K l q p) : ∀ k, k ≤ 6 → (∀ x ∈ (List.range k).map (lvP K l p), Good x) ∧ wSum ((List.range k).map (lvP K l p)) = 9 * k
 | 0, _ => ⟨by simp, rfl⟩
 | k + 1, hk => by
  obtain ⟨i1, i2⟩ := lv_all h k (by omega)
  obtain ⟨g1, g2⟩ := good_lv h (b := k) (by omega)
  rw [List.range_succ, List.map_append, List.map_cons, List.map_nil]
  refine ⟨fun x hx => ?_, ?_⟩
  ·rcases List.mem_append.1 hx with hx | hx
   ·exact i1 x hx
   ·rw [List.mem_singleton] at hx; subst hx; exact g1
  ·rw [wSum_append, i2]; simp only [wSum]; rw [g2]; omega
theorem head_all {K : Int} {l q p : List Int} (h : Fr K l q p) : (∀ x ∈ headP K l p, Good x) ∧ wSum (headP K l p) = 59 := by
 obtain ⟨i1, i2⟩ := lv_all h 6 (by omega)
 unfold headP
 refine ⟨fun x hx => ?_, ?_⟩
 ·rcases List.mem_cons.1 hx with hx | hx
  ·subst hx; exact good_k h.kind
  ·exact i1 x hx
 ·simp only [wSum]; rw [i2, kT_tot]; decide
theorem good_num {k : Nat} {x : Int} (h1 : 1 ≤ k) (hk : k ≤ 7) (hx : -(mostN k : Int) ≤ x ∧ x ≤ (mostN k : Int)) : Good (x + (mostN k : Int), smT (mostN k)) ∧ wtT (spT (smT (mostN k))) = 2 * k := by
 have w : wtT (spT (smT (mostN k))) = 2 * k := by
  rw [smT_tot (by omega)]
  exact (show ∀ k, k < 8 → wtT (2 ^ (2 * k)) = 2 * k by decide +kernel) k (by omega)
 refine ⟨⟨okP_of (smT_ok (by omega)) (by omega) (by rw [smT_length]; omega), ?_⟩, w⟩
 show spT (smT (mostN k)) ≤ 2 ^ wtT (spT (smT (mostN k)))
 rw [w, smT_tot (by omega)]
 exact Nat.le_refl _
theorem ms_cases {l : List Int} (hc : chkL l = true) {n : Nat} (hn : n < 16) : ∃ k : Nat, k ≤ 7 ∧ (shareL l 120).getD (bnd n) 0 = (k : Int) ∧ ((k = 0 ∧ (msL l).getD n 0 = 0) ∨ (1 ≤ k ∧ (msL l).getD n 0 = (mostN k : Int))) := by
 have ha := (share_ok l (B := 120) (by decide)).1.2 (bnd n) (bnd_all n hn).1
 refine ⟨((shareL l 120).getD (bnd n) 0).toNat, by omega, by omega, ?_⟩
 rw [ms_at hc hn, moF_is]
 by_cases h0 : 0 < (shareL l 120).getD (bnd n) 0
 ·rw [if_pos h0]; exact .inr ⟨by omega, rfl⟩
 ·rw [if_neg h0]; exact .inl ⟨by omega, rfl⟩
theorem mostN_pos' {k : Nat} (h : 1 ≤ k) : 0 < (mostN k : Int) := by
 have := Go.Proofs.YtkcoboamejefiaaGreatDoor.Lp.mostN_pos h; omega
theorem nums_all {l q : List Int} (hc : chkL l = true) (hm : mayN q (msL l) 16 = true) : ∀ k, k ≤ 16 → (∀ x ∈ numsP q (msL l) k, Good x) ∧ ((wSum (numsP q (msL l) k) : Nat) : Int) ≤ Lp.sumN (fun n => 2 * (shareL l 120).getD (bnd n) 0 + 1) k
 | 0, _ => ⟨by simp [numsP], by simp [numsP, wSum, Lp.sumN]⟩
 | k + 1, hk => by
  obtain ⟨i1, i2⟩ := nums_all hc hm k (by omega)
  obtain ⟨z, z7, za, zm⟩ := ms_cases hc (n := k) (by omega)
  have hq := mayN_at 16 k (by omega) hm
  rw [numsP_succ, Lp.sumN_succ, za]
  rcases zm with ⟨z0, zm⟩ | ⟨z1, zm⟩
  ·rw [zm, if_neg (by omega), List.append_nil]
   exact ⟨i1, by omega⟩
  ·rw [zm] at hq ⊢
   have hp := mostN_pos' z1
   obtain ⟨g1, g2⟩ := good_num (x := q.getD k 0) z1 z7 hq
   rw [if_pos hp, Int.toNat_natCast]
   refine ⟨fun x hx => ?_, ?_⟩
   ·rcases List.mem_append.1 hx with hx | hx
    ·exact i1 x hx
    ·rw [List.mem_singleton] at hx; subst hx; exact g1
   ·rw [wSum_append]; simp only [wSum]; rw [g2]; omega
theorem sum_cost (a : List Int) : Lp.sumN (fun n => 2 * a.getD (bnd n) 0 + 1) 16 = 2 * costL a + 16 := by
 rw [costL_eq]
 simp only [Lp.sumN, show bnd 0 = 0 from rfl, show bnd 1 = 1 from rfl, show bnd 2 = 2 from rfl, show bnd 3 = 2 from rfl, show bnd 4 = 3 from rfl, show bnd 5 = 3 from rfl, show bnd 6 = 4 from rfl, show bnd 7 = 4 from rfl, show bnd 8 = 4 from rfl, show bnd 9 = 4 from rfl, show bnd 10 = 5 from rfl, show bnd 11 = 5 from rfl, show bnd 12 = 5 from rfl, show bnd 13 = 5 from rfl, show bnd 14 = 5 from rfl, show bnd 15 = 5 from rfl]
 omega
theorem fr_bits {K : Int} {l q p : List Int} (h : Fr K l q p) : allErr e0 (symsP K l q p) = 0 ∧ (endBits (stE e0 (symsP K l q p))).length ≤ 317 ∧ (∀ x ∈ symsP K l q p, Good x) := by
 obtain ⟨a1, a2⟩ := head_all h
 have hm := h.may
 unfold mayB at hm
 rw [Bool.and_eq_true] at hm
 obtain ⟨b1, b2⟩ := nums_all h.lev hm.2 16 (by omega)
 rw [sum_cost] at b2
 have hcost := (share_ok l (B := 120) (by decide)).2
 have key : (∀ x ∈ symsP K l q p, Good x) ∧ wSum (symsP K l q p) ≤ 315 := by
  unfold symsP
  by_cases e : K = 2
  ·rw [if_pos e, List.append_nil]; exact ⟨a1, by omega⟩
  ·rw [if_neg e]
   refine ⟨fun x hx => ?_, by rw [wSum_append]; omega⟩
   rcases List.mem_append.1 hx with hx | hx
   ·exact a1 x hx
   ·exact b1 x hx
 obtain ⟨r1, r2, r3⟩ := puts_long fine0 long0 key.1 (by omega)
 refine ⟨r1, ?_, key.1⟩
 have := long_end r2.1 r2.2.1 r3
 rw [endBits_length]
 omega
end Go.Proofs.YtkcoboamejefiaaGreatDoor.Yr
namespace Go.Proofs.YtkcoboamejefiaaGreatDoor.Yr
open Go.RowKit Cd
open Lp (tab tab_getD tab_get tab_length tab_congr tab_self zr_getD zr_length chkL shareL msL mayB mayN mayN_at bnd bnd_all mostN msL_length inR_bd)
def tabK (K : Int) : List Int := if K = 1 then cT else lT
def hdT (K : Int) : List (List Int) := kT :: List.replicate 6 (tabK K)
def numT (ms : List Int) : Nat → List (List Int)
 | 0 => []
 | k + 1 => numT ms k ++ if 0 < ms.getD k 0 then [smT (ms.getD k 0).toNat] else []
theorem numT_succ (ms : List Int) (k : Nat) : numT ms (k + 1) = numT ms k ++ if 0 < ms.getD k 0 then [smT (ms.getD k 0).toNat] else [] := rfl
theorem numsP_snd (q ms : List Int) : ∀ k, (numsP q ms k).map (·.2) = numT ms k
 | 0 => rfl
 | k + 1 => by
  rw [numsP_succ, numT_succ, List.map_append, numsP_snd q ms k]
  congr 1
  split <;> rfl
theorem lvP_snd (K : Int) (l p : List Int) (b : Nat) : (lvP K l p b).2 = tabK K := by
 unfold lvP tabK; split <;> rfl
theorem headP_snd (K : Int) (l p : List Int) : (headP K l p).map (·.2) = hdT K := by
 unfold headP hdT
 rw [List.map_cons, List.map_map]
 congr 1
 refine List.eq_replicate_iff.2 ⟨by simp, fun x hx => ?_⟩
 rw [List.mem_map] at hx
 obtain ⟨b, -, rfl⟩ := hx
 exact lvP_snd K l p b
def plc (ms : List Int) : Nat → Nat
 | 0 => 0
 | k + 1 => plc ms k + if 0 < ms.getD k 0 then 1 else 0
theorem plc_succ (ms : List Int) (k : Nat) : plc ms (k + 1) = plc ms k + if 0 < ms.getD k 0 then 1 else 0 := rfl
theorem numT_length (ms : List Int) : ∀ k, (numT ms k).length = plc ms k
 | 0 => rfl
 | k + 1 => by
  rw [numT_succ, List.length_append, numT_length ms k, plc_succ]
  congr 1
  by_cases h : 0 < ms.getD k 0
  ·rw [if_pos h, if_pos h]; rfl
  ·rw [if_neg h, if_neg h]; rfl
theorem plc_mono (ms : List Int) : ∀ {j k : Nat}, j ≤ k → plc ms j ≤ plc ms k
 | j, 0, h => by rw [Nat.le_zero.1 h]; exact Nat.le_refl _
 | j, k + 1, h => by
  by_cases e : j = k + 1
  ·rw [e]; exact Nat.le_refl _
  ·have := plc_mono ms (j := j) (k := k) (by omega)
   rw [plc_succ]
   exact Nat.le_trans this (Nat.le_add_right _ _)
def lvG (K : Int) (ss p : List Int) : List Int := tab 6 fun b => if K = 1 then p.getD b 0 + ss.getD (b + 1) 0 - 8 else ss.getD (b + 1) 0
def nmF (ss ms : List Int) (n : Nat) : Int := if 0 < ms.getD n 0 then ss.getD (7 + plc ms n) 0 - ms.getD n 0 else 0
def kindR (inp : List Bool) : Int := (nxK (d0 inp) kT : Int)
def lvR (inp : List Bool) (p : List Int) : List Int := lvG (kindR inp) (symL inp (d0 inp) (hdT (kindR inp))) p
def gsR (inp : List Bool) (p : List Int) : Option (Int × List Int × List Int) :=
 if backErr inp (d0 inp) (hdT (kindR inp)) = 0 then
  if kindR inp = 2 then some (kindR inp, lvR inp p, Lp.zr 16)
  else if backErr inp (d0 inp) (hdT (kindR inp) ++ numT (msL (lvR inp p)) 16) = 0 then
   some (kindR inp, lvR inp p, tab 16 (nmF (symL inp (d0 inp) (hdT (kindR inp) ++ numT (msL (lvR inp p)) 16)) (msL (lvR inp p))))
  else none
 else none
theorem backErr_pre {l : List Bool} {d : De} {a b : List (List Int)} (h : backErr l d (a ++ b) = 0) : backErr l d a = 0 := by
 have := backErr_take a.length h
 rwa [List.take_left] at this
theorem symL_pre (l : List Bool) (d : De) (a b : List (List Int)) : symL l d a = (symL l d (a ++ b)).take a.length := by
 have := symL_take_all l (a ++ b) d a.length
 rwa [List.take_left] at this
theorem symL_head (l : List Bool) (d : De) (xs : List Int) (r : List (List Int)) : (symL l d (xs :: r)).getD 0 0 = (nxK d xs : Int) := by rw [symL_cons]; rfl
theorem nums_at (q ms : List Int) : ∀ k n, n < k → 0 < ms.getD n 0 → ((numsP q ms k).map (·.1)).getD (plc ms n) 0 = q.getD n 0 + ms.getD n 0
 | k + 1, n, hn, h0 => by
  have hl : ((numsP q ms k).map (·.1)).length = plc ms k := by rw [List.length_map, ← numT_length ms k, ← numsP_snd q ms k, List.length_map]
  rw [numsP_succ, List.map_append]
  by_cases e : n = k
  ·subst e
   rw [if_pos h0]
   simp only [List.getD_eq_getElem?_getD]
   rw [List.getElem?_append_right (by omega), hl, Nat.sub_self]
   rfl
  ·have ih := nums_at q ms k n (by omega) h0
   have hlt : plc ms n < plc ms k := by
    have := plc_mono ms (j := n + 1) (k := k) (by omega)
    have h1 : plc ms (n + 1) = plc ms n + 1 := by rw [plc_succ, if_pos h0]
    omega
   simp only [List.getD_eq_getElem?_getD] at ih ⊢
   rw [List.getElem?_append_left (by omega)]
   exact ih
theorem gs_back {K : Int} {l q p : List Int} (h : Fr K l q p) (ll : l.length = 6) (lq : q.length = 16) (hms : ∀ n, n < 16 → (msL l).getD n 0 ≤ 0 → q.getD n 0 = 0) (tail : List Bool) :
  gsR (endBits (stE e0 (symsP K l q p)) ++ tail) p = some (K, l, q) := by
 obtain ⟨f1, -, -⟩ := fr_bits h
 obtain ⟨b1, b2⟩ := all_back f1 tail
 generalize endBits (stE e0 (symsP K l q p)) ++ tail = inp at b1 b2
 have e1 : ∃ R, symsP K l q p = headP K l p ++ R ∧ R = if K = 2 then [] else numsP q (msL l) 16 := ⟨_, rfl, rfl⟩
 obtain ⟨R, e1, eR⟩ := e1
 rw [e1, List.map_append, headP_snd] at b1 b2
 rw [List.map_append] at b2
 have hk : kindR inp = K := by
  have h1 : (symL inp (d0 inp) (hdT K ++ R.map (·.2))).getD 0 0 = ((headP K l p).map (·.1) ++ R.map (·.1)).getD 0 0 := by rw [b2]
  unfold hdT at h1
  rw [List.cons_append, symL_head] at h1
  unfold kindR
  rw [h1]
  rfl
 have hb := backErr_pre b1
 have hs : symL inp (d0 inp) (hdT K) = (headP K l p).map (·.1) := by
  have h1 := symL_pre inp (d0 inp) (hdT K) (R.map (·.2))
  rw [b2] at h1
  rw [h1]
  have h2 : (hdT K).length = ((headP K l p).map (·.1)).length := by rw [← headP_snd K l p, List.length_map, List.length_map]
  rw [h2, List.take_left]
 have hl : lvR inp p = l := by
  unfold lvR lvG
  rw [hk, hs]
  refine (tab_congr (g := fun b => l.getD b 0) fun b hb6 => ?_).trans (tab_self ll)
  have h1 : ((headP K l p).map (·.1)).getD (b + 1) 0 = (lvP K l p b).1 := by
   unfold headP
   rw [List.map_cons, List.map_map]
   simp only [List.getD_eq_getElem?_getD, List.getElem?_cons_succ, List.getElem?_map, List.getElem?_range hb6]
   rfl
  rw [h1]
  unfold lvP
  by_cases e : K = 1
  ·rw [if_pos e, if_pos e]; show p.getD b 0 + (l.getD b 0 - p.getD b 0 + 8) - 8 = l.getD b 0; omega
  ·rw [if_neg e, if_neg e]
 unfold gsR
 rw [hk, hl, if_pos hb]
 by_cases e : K = 2
 ·rw [if_pos e, ← h.sid e]
 ·rw [if_neg e]
  rw [if_neg e] at eR
  rw [eR, numsP_snd] at b1
  rw [eR, numsP_snd] at b2
  have hq : tab 16 (nmF ((headP K l p).map (·.1) ++ (numsP q (msL l) 16).map (·.1)) (msL l)) = q := by
   refine (tab_congr (g := fun n => q.getD n 0) fun n hn => ?_).trans (tab_self lq)
   unfold nmF
   by_cases h0 : 0 < (msL l).getD n 0
   ·rw [if_pos h0]
    have h7 : ((headP K l p).map (·.1)).length = 7 := by simp [headP]
    have h2 := nums_at q (msL l) 16 n hn h0
    simp only [List.getD_eq_getElem?_getD] at h2 ⊢
    rw [List.getElem?_append_right (by omega), h7, Nat.add_sub_cancel_left, h2]
    omega
   ·rw [if_neg h0]; exact (hms n hn (by omega)).symm
  rw [if_pos b1, b2, hq]
theorem bits_tail (l : List Bool) : ∃ tail, bitsIn (pack l) (8 * (pack l).length) = l ++ tail := by
 obtain ⟨m, hm⟩ : ∃ m, (l.length + 7) / 8 = m := ⟨_, rfl⟩
 have h1 : l.length ≤ 8 * m := by omega
 refine ⟨List.replicate (8 * m - l.length) false, ?_⟩
 have hlen : (l ++ List.replicate (8 * m - l.length) false).length = 8 * m := by rw [List.length_append, List.length_replicate]; omega
 have hp : pack l = pack (l ++ List.replicate (8 * m - l.length) false) := by
  unfold pack
  rw [hlen, hm, show (8 * m + 7) / 8 = m by omega]
  refine packF_congr fun i hi => ?_
  unfold bitF
  simp only [List.getD_eq_getElem?_getD]
  by_cases hl : i < l.length
  ·rw [List.getElem?_append_left hl]
  ·rw [List.getElem?_append_right (by omega), List.getElem?_eq_none (by omega)]
   rw [List.getElem?_replicate]
   split <;> rfl
 have h2 := bitsIn_pack (l ++ List.replicate (8 * m - l.length) false)
 rw [hlen, ← hp] at h2
 rw [pack_length, hm]
 exact h2
def wrB (K : Int) (l q p : List Int) : List Nat := pack (endBits (stE e0 (symsP K l q p)))
def inB (bs : List Nat) : List Bool := bitsIn bs (8 * bs.length)
def rdR (bs : List Nat) (p : List Int) : Option (Int × List Int × List Int) :=
 if bs.length ≤ 40 then
  match gsR (inB bs) p with
  | some (K, l, q) => if chkB K l q p = true ∧ wrB K l q p = bs then some (K, l, q) else none
  | none => none
 else none
theorem may_zero {q l : List Int} (h : mayB q l = true) {n : Nat} (hn : n < 16) (h0 : (msL l).getD n 0 ≤ 0) : q.getD n 0 = 0 := by
 unfold mayB at h
 rw [Bool.and_eq_true] at h
 have h1 := mayN_at 16 n hn h.2
 have h2 := Go.Proofs.YtkcoboamejefiaaGreatDoor.Lp.msL_bd l hn
 omega
theorem wrB_len {K : Int} {l q p : List Int} (h : Fr K l q p) : (wrB K l q p).length ≤ 40 ∧ 0 < (wrB K l q p).length := by
 obtain ⟨-, f2, -⟩ := fr_bits h
 unfold wrB
 rw [pack_length]
 have := endBits_length (stE e0 (symsP K l q p))
 omega
theorem rd_back {K : Int} {l q p : List Int} (h : Fr K l q p) (ll : l.length = 6) (lq : q.length = 16) : rdR (wrB K l q p) p = some (K, l, q) := by
 obtain ⟨tail, ht⟩ := bits_tail (endBits (stE e0 (symsP K l q p)))
 have hg := gs_back h ll lq (fun n hn h0 => may_zero h.may hn h0) tail
 have hg2 : gsR (inB (wrB K l q p)) p = some (K, l, q) := by unfold inB wrB; rw [ht]; exact hg
 unfold rdR
 rw [if_pos (wrB_len h).1, hg2]
 exact if_pos ⟨(chkB_iff K l q p).2 h, rfl⟩
theorem rd_one {bs : List Nat} {p : List Int} {K : Int} {l q : List Int} (h : rdR bs p = some (K, l, q)) : chkB K l q p = true ∧ wrB K l q p = bs ∧ bs.length ≤ 40 := by
 unfold rdR at h
 split at h
 ·rename_i hl
  split at h
  ·rename_i K' l' q' e
   split at h
   ·rename_i hc
    injection h with h
    injection h with h1 h2
    injection h2 with h2 h3
    subst h1 h2 h3
    exact ⟨hc.1, hc.2, hl⟩
   ·cases h
  ·cases h
 ·cases h
theorem gsR_len {inp : List Bool} {p : List Int} {K : Int} {l q : List Int} (h : gsR inp p = some (K, l, q)) : l.length = 6 ∧ q.length = 16 := by
 unfold gsR at h
 split at h
 ·split at h
  ·injection h with h
   injection h with h1 h2
   injection h2 with h2 h3
   subst h2 h3
   exact ⟨tab_length _ _, zr_length _⟩
  ·split at h
   ·injection h with h
    injection h with h1 h2
    injection h2 with h2 h3
    subst h2 h3
    exact ⟨tab_length _ _, tab_length _ _⟩
   ·cases h
 ·cases h
end Go.Proofs.YtkcoboamejefiaaGreatDoor.Yr
namespace Go.Proofs.YtkcoboamejefiaaGreatDoor.Yr
open Go.RowKit Cd
open Lp (tab tab_getD chkL msL mayB)
theorem gsR_parts {inp : List Bool} {p : List Int} {K : Int} {l q : List Int} (h : gsR inp p = some (K, l, q)) : K = kindR inp ∧ l = lvR inp p := by
 unfold gsR at h
 split at h
 ·split at h
  ·injection h with h
   injection h with h1 h2
   injection h2 with h2 h3
   exact ⟨h1.symm, h2.symm⟩
  ·split at h
   ·injection h with h
    injection h with h1 h2
    injection h2 with h2 h3
    exact ⟨h1.symm, h2.symm⟩
   ·cases h
 ·cases h
theorem rdR_gs {bs : List Nat} {p : List Int} {K : Int} {l q : List Int} (h : rdR bs p = some (K, l, q)) : gsR (inB bs) p = some (K, l, q) := by
 unfold rdR at h
 split at h
 ·split at h
  ·rename_i K' l' q' e
   split at h
   ·rw [e]; exact h
   ·cases h
  ·cases h
 ·cases h
end Go.Proofs.YtkcoboamejefiaaGreatDoor.Yr
namespace Go.Proofs.YtkcoboamejefiaaGreatDoor.Lp
open Go.RowKit Fx Fq Tb
open Yr (nearN nearB chkB Fr nearN_succ chkB_iff)
theorem arrFr : Arr 49 23 := by
 have h : (Tryz.prog.underlying 49).any TypeDesc.isRow = true := by kernel_rfl
 refine ⟨?_, by kernel_rfl⟩
 cases hq : Tryz.prog.underlying 49 with
 | none => rw [hq] at h; cases h
 | some d => exact ⟨d, rfl, by rw [hq] at h; exact h⟩
def frL (K : Int) (l q : List Int) : List Int := K :: (l ++ q)
structure FrS (F : List Int) (K : Int) (l q : List Int) : Prop where
 len : F.length = 23
 ll : l.length = 6
 lq : q.length = 16
 k0 : F.getD 0 0 = K
 lev : (F.drop 1).take 6 = l
 num : (F.drop 7).take 16 = q
theorem frS_of (F : List Int) (h : F.length = 23) : FrS F (F.getD 0 0) ((F.drop 1).take 6) ((F.drop 7).take 16) :=
 ⟨h, by rw [List.length_take, List.length_drop, h]; rfl, by rw [List.length_take, List.length_drop, h]; rfl, rfl, rfl, rfl⟩
section
variable {w0 w : World} {L : List (Nat × TypeId × List Int)} {g n o : Nat} {T T' : TypeId} {xs ys : List Int}
theorem sub_get (hy : (xs.drop o).take n = ys) {j : Nat} {x : Int} (hx : ys[j]? = some x) : xs[o + j]? = some x := by
 rw [← hy, List.getElem?_take] at hx
 split at hx
 ·rwa [List.getElem?_drop] at hx
 ·cases hx
theorem run_load_sub (ha : Arr T' n) (hm : Mem w0 L w) (hin : (g, T, xs) ∈ L) (hy : (xs.drop o).take n = ys) (hl : ys.length = n) : (loadVar T' ⟨g, o, none⟩).run Tryz.prog w = .ok (.agg (icells ys)) w := by
 obtain ⟨d, h1, h2⟩ := ha.1
 refine run_loadVar_mid w g o T' (ys.map fun x => Value.int .i64 x) d (fun j v hv => ?_) h1 h2 (by rw [ha.size, List.length_map, hl])
 rw [List.getElem?_map] at hv
 cases hx : ys[j]? with
 | none => rw [hx] at hv; cases hv
 | some x =>
  rw [hx] at hv
  injection hv with hv
  subst hv
  have h3 := sub_get hy hx
  have h4 := (List.getElem?_eq_some_iff.1 h3).1
  have h5 := hm.cell hin (k := o + j) h4
  rw [h5, List.getD_eq_getElem?_getD, h3]
  rfl
end
section
variable {ops : Array Oper} {rest : List Oper} {o : Oper} {a : Act} {w w0 : World} {Q : Exit → Act → World → Prop} {L : List (Nat × TypeId × List Int)}
theorem wl_loadS (hgd : Region.wanted o (yielded ops a.tmps) = true) (T' : TypeId) (x : Operand) (ho : o.op = .load T' x) {g f n : Nat} (hx : a.eval x = .pointer (some ⟨g, f, none⟩)) (ha : Arr T' n) {T : TypeId} {xs ys : List Int} (hm : Hid (Mem w0 L w))
  (hin : (g, T, xs) ∈ L) (hy : Hid ((xs.drop f).take n = ys)) (hl : Hid (ys.length = n)) (h : wpList Tryz.prog ops Q rest (a.put o.dst (.agg (icells ys))) w) : wpList Tryz.prog ops Q (o :: rest) a w :=
 wl_step hgd fun K hK => by
  have := hK _ _ h
  unfold Oper.wp execOp
  simp only [ho, hx, Instr.loadAt, Instr.sureAddr, Sem.run_bind, Sem.run_pure, Result.andThen_ok, run_load_sub ha hm.out hin hy.out hl.out]
  exact this
theorem q8w (hgd : Region.wanted o (yielded ops a.tmps) = false) (h : wpList Tryz.prog ops Q rest (a.put o.dst undef) w) : wpList Tryz.prog ops Q (o :: rest) a w :=
 wpList_step fun K hK => by rw [if_neg (by rw [hgd]; exact Bool.false_ne_true)]; exact hK _ _ h
theorem wl_cellF (hgd : Region.wanted o (yielded ops a.tmps) = true) (x : Operand) (ho : o.op = .load 3 x) {g k : Nat}
  (hx : a.eval x = .pointer (some ⟨g, k, none⟩)) (hm : Hid (Mem w0 L w)) {T : TypeId} {xs : List Int} (hin : (g, T, xs) ∈ L) {v : Int} (hv : Hid (k < xs.length ∧ xs.getD k 0 = v))
  (h : wpList Tryz.prog ops Q rest (a.put o.dst (.int .i64 v)) w) : wpList Tryz.prog ops Q (o :: rest) a w :=
 wl_step hgd fun K hK => by
  have := hK _ _ h
  have hg : (isAgg 3).run Tryz.prog w = .ok false w := by kernel_rfl
  have hc := hm.out.cell hin hv.out.1
  rw [hv.out.2] at hc
  unfold Oper.wp execOp
  simp only [ho, hx, Instr.loadAt, Instr.sureAddr, Sem.run_bind, Sem.run_pure, Result.andThen_ok, loadVar, hg, run_load, hc, Bool.false_eq_true, if_false]
  exact this
end
theorem subF {xs ys : List Int} {f n : Nat} (h : Hid ((xs.drop f).take n = ys) := by with_reducible assumption) : Hid ((xs.drop f).take n = ys) := h
theorem celF {xs : List Int} {k : Nat} {v : Int} (h : Hid (k < xs.length ∧ xs.getD k 0 = v) := by with_reducible assumption) : Hid (k < xs.length ∧ xs.getD k 0 = v) := h
theorem near_mono {l p : List Int} : ∀ {k n : Nat}, k ≤ n → nearN l p k = false → nearN l p n = false
 | k, 0, h, h0 => by rw [Nat.le_zero.1 h] at h0; exact h0
 | k, n + 1, h, h0 => by
  by_cases e : k = n + 1
  ·rw [← e]; exact h0
  ·rw [nearN_succ, near_mono (k := k) (n := n) (by omega) h0]; rfl
end Go.Proofs.YtkcoboamejefiaaGreatDoor.Lp
namespace Go.Proofs.YtkcoboamejefiaaGreatDoor.Lp
open Go.RowKit Fx Fq Tb
open Cd (Pr Tb RdT tbs prs)
open Yr (chkB symsP wrB inB kindR rdR)
def errC (K : Int) (l q p : List Int) : Int := if chkB K l q p = true then 0 else 1
def WrOut (w : World) (K : Int) (l q p : List Int) (e : Ending) (w' : World) : Prop :=
 if chkB K l q p = true then ∃ A n c, e = .returned (.tuple #[.slice A n c, .int .i64 0]) ∧ Rd w' A n (wrB K l q p) ∧ Below w.heap.size w w'
 else e = .returned (.tuple #[.slice none 0 0, .int .i64 1]) ∧ Below w.heap.size w w'
def kdV (bs : List Nat) : Value := if 1 ≤ bs.length ∧ bs.length ≤ 40 then .tuple #[.int .i64 (kindR (inB bs)), .int .i64 0] else .tuple #[.int .i64 0, .int .i64 21]
theorem push_listF (l : List Int) (r : ByteArray) : (l.foldl (fun r n => r.push (UInt8.ofNat n.toNat)) r).data.toList = r.data.toList ++ l.map (fun n => UInt8.ofNat n.toNat) := by
 induction l generalizing r with
 | nil => simp
 | cons x l ih =>
  rw [List.foldl_cons, ih]
  have : (r.push (UInt8.ofNat x.toNat)).data = r.data.push (UInt8.ofNat x.toNat) := rfl
  rw [this, Array.toList_push]
  simp
theorem strOf_injF (a b : List Nat) (ha : ∀ x ∈ a, x < 256) (hb : ∀ x ∈ b, x < 256) (h : strOf a = strOf b) : a = b := by
 have h1 := congrArg (fun s : ByteArray => s.data.toList.map UInt8.toNat) h
 unfold strOf at h1
 simp only [push_listF, List.map_append, List.map_map] at h1
 have key : ∀ l : List Nat, (∀ x ∈ l, x < 256) → l.map (UInt8.toNat ∘ (fun n : Int => UInt8.ofNat n.toNat) ∘ fun n : Nat => (n : Int)) = l := by
  intro l hl
  refine (List.map_congr_left fun x hx => ?_).trans (List.map_id l)
  have := hl x hx
  simp; omega
 have e : ∀ l : List Nat, List.map (UInt8.toNat ∘ (fun n : Int => UInt8.ofNat n.toNat)) (List.map (fun n : Nat => (n : Int)) l) = l.map (UInt8.toNat ∘ (fun n : Int => UInt8.ofNat n.toNat) ∘ fun n : Nat => (n : Int)) := fun l => by rw [List.map_map]; rfl
 have h2 := List.append_cancel_left h1
 simp only [← List.map_map] at h2
 have k1 := key a ha
 have k2 := key b hb
 simp only [← List.map_map] at k1 k2
 rw [← k1, ← k2]
 exact h2
theorem str_beqF (a b : List Nat) (ha : ∀ x ∈ a, x < 256) (hb : ∀ x ∈ b, x < 256) : ((strOf a).toList == (strOf b).toList) = decide (a = b) := by
 by_cases h : a = b
 ·subst h
  simp
 ·rw [decide_eq_false h]
  refine beq_eq_false_iff_ne.2 fun e => h (strOf_injF a b ha hb ?_)
  rw [ByteArray.toList_eq, ByteArray.toList_eq] at e
  exact ByteArray.ext (Array.toList_inj.1 e)
def rdV (bs : List Nat) (p : List Int) : Value :=
 if chkL p = true then match rdR bs p with
  | some (K, l, q) => .tuple #[.agg (icells (frL K l q)), .int .i64 0]
  | none => .tuple #[.agg (icells (zr 23)), .int .i64 21]
 else .tuple #[.agg (icells (zr 23)), .int .i64 1]
theorem frL_len {K : Int} {l q : List Int} (ll : l.length = 6) (lq : q.length = 16) : (frL K l q).length = 23 := by
 unfold frL; rw [List.length_cons, List.length_append, ll, lq]
theorem frS_mk {K : Int} {l q : List Int} (ll : l.length = 6) (lq : q.length = 16) : FrS (frL K l q) K l q := by
 refine ⟨frL_len ll lq, ll, lq, rfl, ?_, ?_⟩
 ·unfold frL; rw [List.drop_succ_cons, List.drop_zero, ← ll, List.take_left]
 ·unfold frL; rw [show 7 = 6 + 1 by rfl, List.drop_succ_cons, ← ll, List.drop_left, ← lq, List.take_length]
theorem nums_len (q ms : List Int) : ∀ k, (Yr.numsP q ms k).length ≤ k
 | 0 => Nat.le_refl _
 | k + 1 => by
  have := nums_len q ms k
  rw [Yr.numsP_succ, List.length_append]
  split
  ·rw [List.length_singleton]; omega
  ·rw [List.length_nil]; omega
theorem syms_len (K : Int) (l q p : List Int) : (symsP K l q p).length ≤ 40 := by
 unfold symsP Yr.headP
 have := nums_len q (msL l) 16
 rw [List.length_append, List.length_cons, List.length_map, List.length_range]
 split
 ·rw [List.length_nil]; omega
 ·omega
theorem prs_is {ts : List Tb} {ps : List Pr} (h : tbs ts = ps.map (·.2)) : prs (ps.map (·.1)) ts = ps := by
 unfold prs
 unfold tbs at h
 rw [h]
 induction ps generalizing ts with
 | nil => rfl
 | cons x ps ih =>
  cases ts with
  | nil => cases h
  | cons t ts =>
   rw [List.map_cons, List.map_cons] at h
   injection h with h1 h2
   rw [List.map_cons, List.map_cons, List.zip_cons_cons, ih h2]
end Go.Proofs.YtkcoboamejefiaaGreatDoor.Lp
namespace Go.Proofs.YtkcoboamejefiaaGreatDoor.Lp
open Go.RowKit Fx Fq Tb
abbrev Ent := Nat × TypeId × Array Value
def MF (w1 : World) (L : List Ent) (w : World) : Prop := w1.heap.size ≤ w.heap.size ∧ ∀ b, b < w1.heap.size → (∀ e ∈ L, e.1 ≠ b) → w.heap[b]? = w1.heap[b]?
def MV (w0 w1 : World) (L : List Ent) (w : World) : Prop :=
 Below w0.heap.size w0 w ∧ (∀ e ∈ L, Blk w e.1 e.2.1 e.2.2) ∧ (∀ e ∈ L, w0.heap.size ≤ e.1) ∧ L.Pairwise (fun a b => a.1 ≠ b.1) ∧ MF w1 L w
section
variable {w0 w1 w w' : World} {L : List Ent} {g : Nat} {T : TypeId} {cs : Array Value}
theorem MF.refl (w : World) (L : List Ent) : MF w L w := ⟨Nat.le_refl _, fun _ _ _ => rfl⟩
theorem MV.start (w : World) : MV w w [] w := ⟨Below.refl _ _, by simp, by simp, .nil, MF.refl w []⟩
theorem MV.base (h : MV w0 w1 L w) : MV w0 w L w := ⟨h.1, h.2.1, h.2.2.1, h.2.2.2.1, MF.refl w L⟩
theorem MV.get (h : MV w0 w1 L w) (hm : (g, T, cs) ∈ L) : Blk w g T cs := h.2.1 _ hm
theorem MV.alloc (h : MV w0 w1 L w) (T : TypeId) (cs : Array Value) : MV w0 w1 ((w.heap.size, T, cs) :: L) (w.alloc (.cells cs T)) := by
 obtain ⟨h1, h2, h3, h4, h5, h6⟩ := h
 refine ⟨h1.alloc h1.size _, fun e he => ?_, fun e he => ?_, .cons (fun e he => Nat.ne_of_gt (h2 e he).lt) h4, by simp; omega, fun b hb hn => ?_⟩
 ·rcases List.mem_cons.1 he with rfl | he
  ·exact Blk.new w _ _
  ·exact (h2 e he).alloc _
 ·rcases List.mem_cons.1 he with rfl | he
  ·exact h1.size
  ·exact h3 e he
 ·rw [((Below.refl w.heap.size w).alloc (Nat.le_refl _) (.cells cs T)).block b (by omega)]
  exact h6 b hb fun e he => hn e (.tail _ he)
theorem MV.below (h : MV w0 w1 L w) (hb : Below w.heap.size w w') : MV w0 w1 L w' :=
 ⟨h.1.trans (hb.mono h.1.size), fun e he => (h.2.1 e he).below hb (h.2.1 e he).lt, h.2.2.1, h.2.2.2.1, Nat.le_trans h.2.2.2.2.1 hb.size, fun b hb' hn => by
  have := h.2.2.2.2.1
  rw [hb.block b (by omega)]
  exact h.2.2.2.2.2 b hb' hn⟩
theorem MV.skip (h : MV w0 w1 L w) (o : Obj) : MV w0 w1 L (w.alloc o) := h.below ((Below.refl w.heap.size w).alloc (Nat.le_refl _) o)
theorem MV.drew (h : MV w0 w1 L w) : MV w0 w1 L w.drew := h.below (Below.drew (Below.refl _ _))
theorem MV.sub {L' : List Ent} (h : MV w0 w1 L w) (hs : L'.Sublist L) : MV w0 w L' w :=
 ⟨h.1, fun e he => h.2.1 e (hs.mem he), fun e he => h.2.2.1 e (hs.mem he), h.2.2.2.1.sublist hs, MF.refl w L'⟩
theorem pwv_ne {i j : Nat} {a b : Ent} (h : L.Pairwise (fun a b => a.1 ≠ b.1)) (hi : L[i]? = some a) (hj : L[j]? = some b) (hij : i ≠ j) : a.1 ≠ b.1 := by
 obtain ⟨hi1, hi2⟩ := List.getElem?_eq_some_iff.1 hi
 obtain ⟨hj1, hj2⟩ := List.getElem?_eq_some_iff.1 hj
 rw [List.pairwise_iff_getElem] at h
 rcases Nat.lt_or_gt_of_ne hij with k | k
 ·have := h i j hi1 hj1 k
  rwa [hi2, hj2] at this
 ·have := h j i hj1 hi1 k
  rw [hi2, hj2] at this; exact this.symm
theorem set_fst (L : List Ent) (i : Nat) (hi : L[i]? = some (g, T, cs)) (ds : Array Value) : (L.set i (g, T, ds)).map (·.1) = L.map (·.1) := by
 refine List.ext_getElem? fun j => ?_
 rw [List.getElem?_map, List.getElem?_map, List.getElem?_set]
 by_cases k : i = j
 ·subst k
  have hl := (List.getElem?_eq_some_iff.1 hi).1
  rw [if_pos rfl, if_pos hl, hi]
  rfl
 ·rw [if_neg k]
theorem MV.turn (h : MV w0 w1 L w) (i : Nat) (hi : L[i]? = some (g, T, cs)) (ds : Array Value) (hb : w.grownBy w' (some g)) (hg : Blk w' g T ds) : MV w0 w1 (L.set i (g, T, ds)) w' := by
 obtain ⟨h1, h2, h3, h4, h5, h6⟩ := h
 have hmem : (g, T, cs) ∈ L := List.mem_of_getElem? hi
 have hil := (List.getElem?_eq_some_iff.1 hi).1
 have hfst := set_fst L i hi ds
 refine ⟨below_grown h1 hb (h3 _ hmem) h1.size, fun e he => ?_, fun e he => ?_, ?_, Nat.le_trans h5 hb.size, fun b hb' hn => ?_⟩
 ·obtain ⟨j, hj⟩ := List.mem_iff_getElem?.1 he
  rw [List.getElem?_set] at hj
  by_cases hij : i = j
  ·rw [if_pos hij, if_pos (by omega)] at hj
   injection hj with hj
   subst hj
   exact hg
  ·rw [if_neg hij] at hj
   have hm := List.mem_of_getElem? hj
   exact (h2 e hm).only hb (fun k => pwv_ne h4 hi hj hij k.symm)
 ·rcases List.mem_or_eq_of_mem_set he with he | rfl
  ·exact h3 e he
  ·show w0.heap.size ≤ g; exact h3 _ hmem
 ·have h7 : (L.map (·.1)).Pairwise (· ≠ ·) := List.pairwise_map.2 h4
  rw [← hfst] at h7
  exact List.pairwise_map.1 h7
 ·have hm2 : ∀ e ∈ L, e.1 ≠ b := fun e he => by
   have : e.1 ∈ (L.set i (g, T, ds)).map (·.1) := by rw [hfst]; exact List.mem_map.2 ⟨e, he, rfl⟩
   obtain ⟨e', he', e2⟩ := List.mem_map.1 this
   rw [← e2]
   exact hn e' he'
  rw [hb.block b (by omega) (fun e => by injection e with e; exact hm2 _ hmem e.symm)]
  exact h6 b hb' hm2
theorem MV.put (h : MV w0 w1 L w) (i : Nat) (hi : L[i]? = some (g, T, cs)) (j : Nat) (v : Value) : MV w0 w1 (L.set i (g, T, cs.setIfInBounds j v)) (w.setCell ⟨g, j, none⟩ v) :=
 h.turn i hi _ (grown_set w g j _) ((h.get (List.mem_of_getElem? hi)).set_ j v)
theorem MV.row (h : MV w0 w1 L w) (i : Nat) (hi : L[i]? = some (g, T, cs)) (ds : Array Value) : MV w0 w1 (L.set i (g, T, ds)) (w.setRow g ds) :=
 h.turn i hi _ (grown_row w g _) (setRow_heap w g _ _ T _ (h.get (List.mem_of_getElem? hi)))
theorem MV.cell (h : MV w0 w1 L w) (hm : (g, T, cs) ∈ L) {k : Nat} {v : Value} (hk : cs[k]? = some v) : w.cell? ⟨g, k, none⟩ = some v := ((h.get hm).cell k).trans hk
theorem MV.free (h : MV w0 w1 L w) (hm : (g, T, cs) ∈ L) (k : Nat) : w.frozen? ⟨g, k, none⟩ = false := (h.get hm).frozen k
theorem MV.lt (h : MV w0 w1 L w) (hm : (g, T, cs) ∈ L) : g < w.heap.size := (h.get hm).lt
theorem MV.rd (h : MV w0 w1 L w) {A : Option Addr} {n : Nat} {bs : List Nat} (hr : Rd w1 A n bs) (hA : ∀ ad, A = some ad → 0 < n → ∀ e ∈ L, e.1 ≠ ad.block) : Rd w A n bs :=
 ⟨hr.1, hr.2.1, fun hn => by
  obtain ⟨ad, e, hc⟩ := hr.2.2 hn
  refine ⟨ad, e, fun j x hx => ?_⟩
  have h1 := hc j x hx
  have hl := World.block_lt_of_cell? _ _ h1
  rw [block_of_add] at hl
  refine (World.cell?_of_block ?_).trans h1
  rw [block_of_add]
  exact h.2.2.2.2.2 _ hl (hA ad e hn)⟩
end
def Apt (A : Option Addr) (n : Nat) (gs : List Nat) : Prop := ∀ ad, A = some ad → 0 < n → ∀ g ∈ gs, g ≠ ad.block
section
variable {w0 w1 w : World} {L : List Ent} {A : Option Addr} {n g : Nat} {gs : List Nat}
theorem MV.rdA (h : MV w0 w1 L w) {bs : List Nat} (hr : Rd w1 A n bs) (ha : Apt A n (L.map (·.1))) : Rd w A n bs :=
 h.rd hr fun ad e hn x hx => ha ad e hn _ (List.mem_map.2 ⟨x, hx, rfl⟩)
theorem Apt.old (h : MV w0 w1 L w) (hf : ∀ ad, A = some ad → 0 < n → w.heap.size ≤ ad.block) : Apt A n (L.map (·.1)) := fun ad e hn g hg => by
 obtain ⟨x, hx, rfl⟩ := List.mem_map.1 hg
 have := (h.2.1 x hx).lt
 have := hf ad e hn
 omega
theorem Apt.cons (ha : Apt A n gs) (hl : ∀ ad, A = some ad → 0 < n → ad.block < w.heap.size) (hg : w.heap.size ≤ g) : Apt A n (g :: gs) := fun ad e hn x hx => by
 rcases List.mem_cons.1 hx with rfl | hx
 ·have := hl ad e hn
  omega
 ·exact ha ad e hn x hx
theorem Apt.sub (ha : Apt A n gs) {hs : List Nat} (h : hs.Sublist gs) : Apt A n hs := fun ad e hn x hx => ha ad e hn x (h.mem hx)
theorem rd_lt {bs : List Nat} (hr : Rd w A n bs) : ∀ ad, A = some ad → 0 < n → ad.block < w.heap.size := fun ad e hn => by
 obtain ⟨ad', e', h, -⟩ := hr.at_ hn
 rw [e] at e'
 injection e' with e'
 subst e'
 exact h
theorem rdI_lt {zs : List Int} (hr : RdI w A n zs) : ∀ ad, A = some ad → 0 < n → ad.block < w.heap.size := fun ad e hn => by
 obtain ⟨ad', e', h, -⟩ := hr.at_ hn
 rw [e] at e'
 injection e' with e'
 subst e'
 exact h
end
def RowT (T : TypeId) (n : Nat) (z : Array Value) : Prop :=
 (∃ d, Tryz.prog.underlying T = some d ∧ d.isRow = true) ∧ (Tryz.prog.info? T).map (fun i => (i.zero, i.size)) = some (some (.agg z), n)
theorem Arr.row {T : TypeId} {n : Nat} (h : Arr T n) : RowT T n (icells (zr n)) := h
theorem rowT_of {T : TypeId} {n : Nat} {z : Array Value} (h1 : (Tryz.prog.underlying T).any TypeDesc.isRow = true) (h2 : (Tryz.prog.info? T).map (fun i => (i.zero, i.size)) = some (some (.agg z), n)) : RowT T n z := by
 refine ⟨?_, h2⟩
 cases hq : Tryz.prog.underlying T with
 | none => rw [hq] at h1; cases h1
 | some d => exact ⟨d, rfl, by rw [hq] at h1; exact h1⟩
theorem RowT.size {T : TypeId} {n : Nat} {z : Array Value} (h : RowT T n z) : (Tryz.prog.info? T).map (·.size) = some n := by
 obtain ⟨_, h⟩ := h
 cases hq : Tryz.prog.info? T with
 | none => simp [hq] at h
 | some i => simp [hq] at h; simp [h.2]
theorem RowT.zero {T : TypeId} {n : Nat} {z : Array Value} (h : RowT T n z) (w : World) : (zeroValue T).run Tryz.prog w = .ok (.agg z) w := by
 obtain ⟨_, h⟩ := h
 cases hq : Tryz.prog.info? T with
 | none => simp [hq] at h
 | some i => simp [hq] at h; simp [zeroValue, typeInfo, hq, h.1]
theorem rowDec : RowT 115 6 #[.int .u32 0, .int .u32 0, .int .u32 0, .slice none 0 0, .int .i64 0, .int .i64 0] := rowT_of (by kernel_rfl) (by kernel_rfl)
theorem rowBits : RowT 75 2 #[.slice none 0 0, .int .i64 0] := rowT_of (by kernel_rfl) (by kernel_rfl)
theorem rowFreq : RowT 103 1 #[.slice none 0 0] := rowT_of (by kernel_rfl) (by kernel_rfl)
theorem rowFr : RowT 49 23 (icells (zr 23)) := rowT_of (by kernel_rfl) (by kernel_rfl)
theorem run_load_blk {w : World} {g n : Nat} {T T0 : TypeId} {z cs : Array Value} (ha : RowT T n z) (h : Blk w g T0 cs) (hl : cs.size = n) : (loadVar T ⟨g, 0, none⟩).run Tryz.prog w = .ok (.agg cs) w := by
 obtain ⟨d, h1, h2⟩ := ha.1
 exact run_loadVar_row w g T0 T cs (0, 0) d h h1 (by cases d <;> first | rfl | cases h2) (by rw [ha.size, hl])
theorem run_store_blk {w : World} {g n : Nat} {T T0 : TypeId} {z cs ds : Array Value} (ha : RowT T n z) (h : Blk w g T0 cs) (hl : cs.size = n) (hl' : ds.size = n) (h1 : ds.all (·.oneCell') = true) : (storeVar T ⟨g, 0, none⟩ (.agg ds)).run Tryz.prog w = .ok () (w.setRow g ds) :=
 run_storeVar_row w g T0 T cs ds h (by rw [ha.size, hl']) (by rw [hl, hl']) h1
theorem run_load_part {w : World} {g o n : Nat} {T T0 : TypeId} {z cs : Array Value} {ys : List Int} (ha : RowT T n z) (h : Blk w g T0 cs) (hy : ∀ j, j < n → cs[o + j]? = some (.int .i64 (ys.getD j 0))) (hl : ys.length = n) : (loadVar T ⟨g, o, none⟩).run Tryz.prog w = .ok (.agg (icells ys)) w := by
 obtain ⟨d, h1, h2⟩ := ha.1
 refine run_loadVar_mid w g o T (ys.map fun x => Value.int .i64 x) d (fun j v hv => ?_) h1 h2 (by rw [ha.size, List.length_map, hl])
 rw [List.getElem?_map] at hv
 cases hx : ys[j]? with
 | none => rw [hx] at hv; cases hv
 | some x =>
  rw [hx] at hv
  injection hv with hv
  subst hv
  have hj := (List.getElem?_eq_some_iff.1 hx).1
  rw [h.cell, hy j (by omega), List.getD_eq_getElem?_getD, hx]
  rfl
/- short words: the premises find themselves -/
theorem q7m {e : Ent} {L : List Ent} (h : e ∈ L := by repeat' (first | exact .head _ | refine .tail _ ?_)) : e ∈ L := h
theorem q7s {cs : Array Value} {n : Nat} (h : Hid (cs.size = n) := by first | with_reducible assumption | exact Lib.hid rfl | exact Lib.hid ((icells_size _).trans (q7l).out)) : Hid (cs.size = n) := h
theorem q7o {cs : Array Value} (h : cs.all (·.oneCell') = true := by first | exact icells_one _ | rfl | (simp; done) | simp [Value.oneCell']) : cs.all (·.oneCell') = true := h
def VNth (L : List Ent) (i : Nat) (e : Ent) : Prop := L[i]? = some e
theorem VNth.hd {e : Ent} {L : List Ent} : VNth (e :: L) 0 e := rfl
theorem VNth.tl {e x : Ent} {L : List Ent} {i : Nat} (h : VNth L i e) : VNth (x :: L) (i + 1) e := by
 unfold VNth at h ⊢; rw [List.getElem?_cons_succ]; exact h
theorem q7i {L : List Ent} {i : Nat} {e : Ent} (h : VNth L i e := by first | exact VNth.hd | exact VNth.tl VNth.hd | exact VNth.tl (VNth.tl VNth.hd) | exact VNth.tl (VNth.tl (VNth.tl VNth.hd)) | exact VNth.tl (VNth.tl (VNth.tl (VNth.tl VNth.hd))) | exact VNth.tl (VNth.tl (VNth.tl (VNth.tl (VNth.tl VNth.hd)))) | exact VNth.tl (VNth.tl (VNth.tl (VNth.tl (VNth.tl (VNth.tl VNth.hd))))) | exact VNth.tl (VNth.tl (VNth.tl (VNth.tl (VNth.tl (VNth.tl (VNth.tl VNth.hd)))))) | exact VNth.tl (VNth.tl (VNth.tl (VNth.tl (VNth.tl (VNth.tl (VNth.tl (VNth.tl VNth.hd)))))))) : VNth L i e := h
def dV {w0 w1 w : World} {L : List Ent} (_ : Hid (MV w0 w1 L w)) : Nat := L.length
theorem q7r {T : TypeId} {n : Nat} {z : Array Value} (h : RowT T n z := by first | exact rowDec | exact rowBits | exact rowFreq | exact rowFr | exact Arr.row q7a) : RowT T n z := h
section
variable {ops : Array Oper} {rest : List Oper} {o : Oper} {a : Act} {w w0 w1 : World} {Q : Exit → Act → World → Prop} {L : List Ent}
theorem q8u (hgd : Region.wanted o (yielded ops a.tmps) = true) (T : TypeId) (ho : o.op = .alloc T) {n : Nat} {z : Array Value} (ha : RowT T n z) (hm : Hid (MV w0 w1 L w))
  (h : ∀ g w', Hid (w1.heap.size ≤ g) → Hid (MV w0 w1 ((g, T, z) :: L) w') → wpList Tryz.prog ops Q rest (a.put o.dst (.pointer (some ⟨g, 0, none⟩))) w') : wpList Tryz.prog ops Q (o :: rest) a w :=
 wl_step hgd fun K hK => by
  have hz := ha.zero w
  have := hK _ _ (h w.heap.size _ (Lib.hid hm.out.2.2.2.2.1) (Lib.hid (hm.out.alloc T z)))
  unfold Oper.wp execOp
  simp only [ho, Instr.alloc, newVar, newRow, Sem.run_bind, hz, Result.andThen, Value.cells, Sem.run_pure]
  exact this
theorem q8t (hgd : Region.wanted o (yielded ops a.tmps) = true) (T : TypeId) (x : Operand) (ho : o.op = .box T x) {cs : Array Value} (hx : a.eval x = .agg cs) (hm : Hid (MV w0 w1 L w))
  (h : ∀ g w', Hid (w1.heap.size ≤ g) → Hid (MV w0 w1 ((g, T, cs) :: L) w') → wpList Tryz.prog ops Q rest (a.put o.dst (.pointer (some ⟨g, 0, none⟩))) w') : wpList Tryz.prog ops Q (o :: rest) a w :=
 wl_step hgd fun K hK => by
  have := hK _ _ (h w.heap.size _ (Lib.hid hm.out.2.2.2.2.1) (Lib.hid (hm.out.alloc T cs)))
  unfold Oper.wp execOp
  simp only [ho, Instr.box, newVar, newRow, Sem.run_bind, hx, Result.andThen, Value.cells, Sem.run_pure]
  exact this
theorem q8q (hgd : Region.wanted o (yielded ops a.tmps) = true) (T : TypeId) (x : Operand) (ho : o.op = .load T x) {g n : Nat} (hx : a.eval x = .pointer (some ⟨g, 0, none⟩)) {z : Array Value} (ha : RowT T n z) {cs : Array Value} {T0 : TypeId}
  (hm : Hid (MV w0 w1 L w)) (hin : (g, T0, cs) ∈ L) (hl : Hid (cs.size = n)) (h : wpList Tryz.prog ops Q rest (a.put o.dst (.agg cs)) w) : wpList Tryz.prog ops Q (o :: rest) a w :=
 wl_step hgd fun K hK => by
  have := hK _ _ h
  unfold Oper.wp execOp
  simp only [ho, hx, Instr.loadAt, Instr.sureAddr, Sem.run_bind, Sem.run_pure, Result.andThen_ok, run_load_blk ha (hm.out.get hin) hl.out]
  exact this
theorem wv_loadE (hgd : Region.wanted o (yielded ops a.tmps) = true) (T : TypeId) (x : Operand) (ho : o.op = .load T x) {ad : Addr} (hx : a.eval x = .pointer (some ad)) {v : Value}
  (hv : Hid ((loadVar T ad).run Tryz.prog w = .ok v w)) (h : wpList Tryz.prog ops Q rest (a.put o.dst v) w) : wpList Tryz.prog ops Q (o :: rest) a w :=
 wl_step hgd fun K hK => by
  have := hK _ _ h
  unfold Oper.wp execOp
  simp only [ho, hx, Instr.loadAt, Instr.sureAddr, Sem.run_bind, Sem.run_pure, Result.andThen_ok, hv.out]
  exact this
theorem q8s (hgd : Region.wanted o (yielded ops a.tmps) = true) (T : TypeId) (x y : Operand) (ho : o.op = .store T x y) {g n : Nat} (hx : a.eval x = .pointer (some ⟨g, 0, none⟩)) {ds : Array Value} (hy : a.eval y = .agg ds) {z : Array Value} (ha : RowT T n z) {cs : Array Value} {T0 : TypeId}
  (hm : Hid (MV w0 w1 L w)) {i : Nat} (hi : VNth L i (g, T0, cs)) (hl : Hid (cs.size = n)) (hl' : Hid (ds.size = n)) (h1 : ds.all (·.oneCell') = true)
  (h : ∀ w', Hid (MV w0 w1 (L.set i (g, T0, ds)) w') → wpList Tryz.prog ops Q rest (a.put o.dst undef) w') : wpList Tryz.prog ops Q (o :: rest) a w :=
 wl_step hgd fun K hK => by
  have := hK _ _ (h _ (Lib.hid (hm.out.row i hi ds)))
  unfold Oper.wp execOp
  simp only [ho, hx, hy, Instr.storeAt, Instr.sureAddr, Sem.run_bind, Sem.run_pure, Result.andThen_ok, run_store_blk ha (hm.out.get (List.mem_of_getElem? hi)) hl.out hl'.out h1]
  exact this
end
section
variable {ops : Array Oper} {o : Oper} {a : Act} {w w0 w1 : World} {Q : Exit → Act → World → Prop} {K : Act → World → Prop} {L : List Ent} {S : World → Prop}
theorem yv_load (hw : Region.wanted o (yielded ops a.tmps) = true) (T : TypeId) (x : Operand) (ho : o.op = .load T x) {ad : Addr} (hx : a.eval x = .pointer (some ad)) {v : Value}
  (hS : ∀ u, S u → (loadVar T ad).run Tryz.prog u = .ok v u) : YieldsIf Tryz.prog ops S o v a :=
 .inl ⟨hw, fun u hu => by
  unfold execOp
  simp only [ho, hx, Instr.loadAt, Instr.sureAddr, Sem.run_bind, Sem.run_pure, Result.andThen_ok, hS u hu]⟩
theorem ov_load (T : TypeId) (x : Operand) (ho : o.op = .load T x) {ad : Addr} (hx : a.eval x = .pointer (some ad)) {v : Value} (hv : (loadVar T ad).run Tryz.prog w = .ok v w) (h : K (a.put o.dst v) w) : o.wp Tryz.prog a w K Q := by
 unfold Oper.wp execOp
 simp only [ho, hx, Instr.loadAt, Instr.sureAddr, Sem.run_bind, Sem.run_pure, Result.andThen_ok, hv]
 exact h
theorem ov_alloc (T : TypeId) (ho : o.op = .alloc T) {d : Nat} (hd : o.dst = some d) {n : Nat} {z : Array Value} (ha : RowT T n z) (hm : Hid (MV w0 w1 L w))
  (h : ∀ g w', Hid (MV w0 w1 ((g, T, z) :: L) w') → Hid (Below w.heap.size w w') → Hid (w.heap.size ≤ g) → K (a.put (some d) (.pointer (some ⟨g, 0, none⟩))) w') : o.wp Tryz.prog a w K Q := by
 rw [← hd] at h
 have hz := ha.zero w
 have := h w.heap.size _ (Lib.hid (hm.out.alloc T z)) (Lib.hid ((Below.refl w.heap.size w).alloc (Nat.le_refl _) _)) (Lib.hid (Nat.le_refl _))
 unfold Oper.wp execOp
 simp only [ho, Instr.alloc, newVar, newRow, Sem.run_bind, hz, Result.andThen, Value.cells, Sem.run_pure]
 exact this
theorem ov_store (T : TypeId) (x y : Operand) (ho : o.op = .store T x y) {g n : Nat} (hx : a.eval x = .pointer (some ⟨g, 0, none⟩)) {ds : Array Value} (hy : a.eval y = .agg ds) {z : Array Value} (ha : RowT T n z) {cs : Array Value} {T0 : TypeId}
  (hm : Hid (MV w0 w1 L w)) {i : Nat} (hi : VNth L i (g, T0, cs)) (hl : Hid (cs.size = n)) (hl' : Hid (ds.size = n)) (h1 : ds.all (·.oneCell') = true)
  (hd : o.dst = none) (h : ∀ w', Hid (MV w0 w1 (L.set i (g, T0, ds)) w') → K (a.put none undef) w') : o.wp Tryz.prog a w K Q := by
 rw [← hd] at h
 have := h _ (Lib.hid (hm.out.row i hi ds))
 unfold Oper.wp execOp
 simp only [ho, hx, hy, Instr.storeAt, Instr.sureAddr, Sem.run_bind, Sem.run_pure, Result.andThen_ok, run_store_blk ha (hm.out.get (List.mem_of_getElem? hi)) hl.out hl'.out h1]
 exact this
end
end Go.Proofs.YtkcoboamejefiaaGreatDoor.Lp
namespace Go.Proofs.YtkcoboamejefiaaGreatDoor.Lp
open Go.RowKit Fx Fq Tb
theorem run_store_int {w : World} {ad : Addr} {old : Value} {x : Int} (hc : w.cell? ad = some old) (hf : w.frozen? ad = false) : (storeVar 3 ad (.int .i64 x)).run Tryz.prog w = .ok () (w.setCell ad (.int .i64 x)) := by
 have h1 := arn_elem w
 simp [storeVar, storeCells, Value.cells, go_sem, h1, run_store, Value.oneCell', hc, hf]
theorem run_load_int {w : World} {ad : Addr} {v : Int} (hc : w.cell? ad = some (.int .i64 v)) : (loadVar 3 ad).run Tryz.prog w = .ok (.int .i64 v) w := by
 have hg : (isAgg 3).run Tryz.prog w = .ok false w := by kernel_rfl
 simp only [loadVar, hg, Sem.run_bind, Result.andThen_ok, run_load, hc, Bool.false_eq_true, if_false]
section
variable {ops : Array Oper} {rest : List Oper} {o : Oper} {a : Act} {w w0 w1 : World} {Q : Exit → Act → World → Prop} {L : List Ent}
theorem wv_elem (hgd : Region.wanted o (yielded ops a.tmps) = true) (x : Operand) (ho : o.op = .load 3 x) {g k : Nat} (hx : a.eval x = .pointer (some ⟨g, k, none⟩)) (hm : Hid (MV w0 w1 L w)) {T : TypeId} {xs : List Int} (hin : (g, T, icells xs) ∈ L) {v : Int} (hv : Hid (k < xs.length ∧ xs.getD k 0 = v))
  (h : wpList Tryz.prog ops Q rest (a.put o.dst (.int .i64 v)) w) : wpList Tryz.prog ops Q (o :: rest) a w :=
 wl_step hgd fun K hK => by
  have := hK _ _ h
  have hc := blk_at (hm.out.get hin) hv.out.1
  rw [hv.out.2] at hc
  unfold Oper.wp execOp
  simp only [ho, hx, Instr.loadAt, Instr.sureAddr, Sem.run_bind, Sem.run_pure, Result.andThen_ok, run_load_int hc]
  exact this
theorem wv_bytes (hgd : Region.wanted o (yielded ops a.tmps) = true) (x : Operand) (ho : o.op = .load 40 x) {g k : Nat} (hx : a.eval x = .pointer (some ⟨g, k, none⟩)) (hm : Hid (MV w0 w1 L w)) {T : TypeId} {cs : Array Value} (hin : (g, T, cs) ∈ L) {v : Value} (hv : cs[k]? = some v)
  (h : wpList Tryz.prog ops Q rest (a.put o.dst v) w) : wpList Tryz.prog ops Q (o :: rest) a w :=
 wl_step hgd fun K hK => by
  have := hK _ _ h
  have hg : (isAgg 40).run Tryz.prog w = .ok false w := by kernel_rfl
  have hc := hm.out.cell hin hv
  unfold Oper.wp execOp
  simp only [ho, hx, Instr.loadAt, Instr.sureAddr, Sem.run_bind, Sem.run_pure, Result.andThen_ok, loadVar, hg, run_load, hc, Bool.false_eq_true, if_false]
  exact this
theorem q8r (hgd : Region.wanted o (yielded ops a.tmps) = true) (T' : TypeId) (x : Operand) (ho : o.op = .load T' x) {g f n : Nat} (hx : a.eval x = .pointer (some ⟨g, f, none⟩)) (ha : Arr T' n) {T : TypeId} {xs ys : List Int} (hm : Hid (MV w0 w1 L w))
  (hin : (g, T, icells xs) ∈ L) (hy : Hid ((xs.drop f).take n = ys)) (hl : Hid (ys.length = n)) (h : wpList Tryz.prog ops Q rest (a.put o.dst (.agg (icells ys))) w) : wpList Tryz.prog ops Q (o :: rest) a w :=
 wl_step hgd fun K hK => by
  have := hK _ _ h
  have hr := run_load_part (T := T') (z := icells (zr n)) ha.row (hm.out.get hin) (o := f) (ys := ys) (fun j hj => by
   have hx : ys[j]? = some (ys.getD j 0) := by rw [List.getD_eq_getElem?_getD, List.getElem?_eq_getElem (by rw [hl.out]; exact hj)]; rfl
   rw [← hy.out, List.getElem?_take] at hx
   rw [if_pos hj, List.getElem?_drop, hy.out] at hx
   unfold icells
   rw [List.getElem?_toArray, List.getElem?_map, hx]
   rfl) hl.out
  unfold Oper.wp execOp
  simp only [ho, hx, Instr.loadAt, Instr.sureAddr, Sem.run_bind, Sem.run_pure, Result.andThen_ok, hr]
  exact this
theorem wv_put (hgd : Region.wanted o (yielded ops a.tmps) = true) (x y : Operand) (ho : o.op = .store 3 x y) {g k : Nat} (hx : a.eval x = .pointer (some ⟨g, k, none⟩)) {v : Int} (hy : a.eval y = .int .i64 v) (hm : Hid (MV w0 w1 L w)) {i : Nat} {T : TypeId} {xs : List Int} (hi : VNth L i (g, T, icells xs)) (hv : Hid (k < xs.length))
  (h : ∀ w', Hid (MV w0 w1 (L.set i (g, T, icells (xs.set k v))) w') → wpList Tryz.prog ops Q rest (a.put o.dst undef) w') : wpList Tryz.prog ops Q (o :: rest) a w :=
 wl_step hgd fun K hK => by
  have hb := hm.out.get (List.mem_of_getElem? hi)
  have h2 := hm.out.put i hi k (.int .i64 v)
  rw [icells_set] at h2
  have := hK _ _ (h _ (Lib.hid h2))
  unfold Oper.wp execOp
  simp only [ho, hx, hy, Instr.storeAt, Instr.sureAddr, Sem.run_bind, Sem.run_pure, Result.andThen_ok, run_store_int (blk_at hb hv.out) (hb.frozen k)]
  exact this
end
theorem built_frame : Tryz.prog.built 49 [] = some (icells (zr 23)) := by kernel_rfl
theorem wv_zeroF {ops : Array Oper} {rest : List Oper} {o : Oper} {a : Act} {w : World} {Q : Exit → Act → World → Prop} (hgd : Region.wanted o (yielded ops a.tmps) = true) (ho : o.op = .build 49 #[])
  (h : wpList Tryz.prog ops Q rest (a.put o.dst (.agg (icells (zr 23)))) w) : wpList Tryz.prog ops Q (o :: rest) a w :=
 wl_built hgd 49 #[] ho (zr 23) (by have h := built_frame; simpa using h) h
theorem vres_two {fn : Func} {p u : Tmp} {ty : TypeId} (h : fn.results = #[.cell p ty, .tmp u]) (tmps : Array Value) {w w0 w1 : World} {L : List Ent} {g n : Nat} {z cs : Array Value} {T0 : TypeId} {v : Value}
  (hp : tmps.getD p undef = .pointer (some ⟨g, 0, none⟩)) (hv : tmps.getD u undef = v) (ha : RowT ty n z) (hm : Hid (MV w0 w1 L w)) (hin : (g, T0, cs) ∈ L) (hl : Hid (cs.size = n)) :
  (results fn tmps).run Tryz.prog w = .ok (.tuple #[.agg cs, v]) w := by
 rw [results_cell_tmp h, hp, hv]
 simp only [asAddr, Sem.run_pure, Result.andThen_ok, run_load_blk ha (hm.out.get hin) hl.out]
theorem q7f {xs ys : List Int} {f n : Nat} (h : Hid ((xs.drop f).take n = ys) := by with_reducible assumption) : Hid ((xs.drop f).take n = ys) := h
theorem velOf {xs : List Int} {k : Nat} {v : Int} (h : Hid (k < xs.length ∧ xs.getD k 0 = v) := by with_reducible assumption) : Hid (k < xs.length ∧ xs.getD k 0 = v) := h
theorem vltOf {k n : Nat} (h : Hid (k < n) := by with_reducible assumption) : Hid (k < n) := h
end Go.Proofs.YtkcoboamejefiaaGreatDoor.Lp
namespace Go.Proofs.YtkcoboamejefiaaGreatDoor.Lp
open Go.RowKit Fx Fq Tb
theorem run_eqL (d : Nat) (T : TypeId) {n : Nat} (hT : Tryz.prog.underlying T = some (.array n 3)) (xs ys : List Int) (hl : xs.length = n) (hl' : ys.length = n) (w : World) :
  (Op.equalIn (d + 2) T (.agg (icells xs)) (.agg (icells ys))).run Tryz.prog w = .ok (decide (xs = ys)) w := by
 have hc : Tryz.prog.cellsOf 3 = 1 := by kernel_rfl
 obtain ⟨i, hi⟩ : ∃ i, Tryz.prog.info? 3 = some i := Option.isSome_iff_exists.1 (by kernel_rfl)
 rw [run_equalIn_array w (d + 1) (icells xs) (icells ys) hT hi, hc, run_items_any d xs ys w _ fun j hj => ⟨by rw [hl]; exact List.mem_range.1 hj, by rw [hl']; exact List.mem_range.1 hj⟩]
 refine congrArg (fun b => Result.ok b w) ?_
 by_cases h : xs = ys
 ·subst h
  rw [decide_eq_true rfl, List.all_eq_true]
  exact fun _ _ => beq_self_eq_true _
 ·rw [decide_eq_false h, Bool.eq_false_iff]
  intro hall
  refine h (getD_ext (by rw [hl, hl']) fun k hk => ?_)
  rw [List.all_eq_true] at hall
  simpa using hall k (List.mem_range.2 (by omega))
theorem flds_frame : (Tryz.prog.fieldsOf 49).toList.map (fun f => (f.name, f.type, f.offset)) = [("Kind", 3, 0), ("L", 25, 1), ("Q", 22, 7)] := by kernel_rfl
theorem und_frame : Tryz.prog.underlying 49 = some (.struct (Tryz.prog.fieldsOf 49)) := by kernel_rfl
end Go.Proofs.YtkcoboamejefiaaGreatDoor.Lp
namespace Go.Proofs.YtkcoboamejefiaaGreatDoor
open Go.ChangeShapes Go.WideShapes Go.ChangeAt Go.RowKit Go.Joins Go.Deep
theorem laidOut : laidOutB Tryz.prog = true := by kernel_rfl
theorem own : ownKnob Tryz.prog.godebug = none := by kernel_rfl
theorem cells_u8 : Tryz.prog.cellsOf 5 = 1 := by kernel_rfl
section
variable {H : Type} {enc : TypeId × Value → H} {W : World} {base : Nat} {spare : Nat → Bool} {held : Bool}
theorem open_bytes {fuel : Nat} {v : Value} {y : DataW H × List MemPlace} (h : DataW.trod enc Tryz.prog W base spare held fuel 40 [v] = some y) :
  ∃ A n c bs, v = .slice A n c ∧ Rd W A n bs ∧ n ≤ maxLen := by
 rcases open_ints Tryz.underlying40 Tryz.underlying5 cells_u8 h with ⟨hcs, _⟩ | ⟨x, l, c, zs, hcs, _, hl, hm, hz, _, hcell, hwz⟩
 ·simp only [List.cons.injEq, and_true] at hcs
  exact ⟨none, 0, 0, [], hcs, Rd.none_, by unfold maxLen; omega⟩
 ·simp only [List.cons.injEq, and_true] at hcs
  have hlen : l ≤ zs.length := by rw [hz]; split <;> omega
  have hb : ∀ z ∈ zs, 0 ≤ z ∧ z ≤ 255 := fun z hz => bounds_u8 (hwz z hz)
  refine ⟨some x, l, c, (zs.take l).map Int.toNat, hcs, ⟨by rw [List.length_map, List.length_take]; omega, ?_, fun _ => ⟨x, rfl, ?_⟩⟩, by omega⟩
  ·intro y hy
   obtain ⟨z, hz', rfl⟩ := List.mem_map.1 hy
   have := hb z (List.mem_of_mem_take hz')
   omega
  ·intro j y hy
   rw [List.getElem?_map] at hy
   obtain ⟨z, hz', rfl⟩ := Option.map_eq_some_iff.1 hy
   obtain ⟨hj, e⟩ := List.getElem?_eq_some_iff.1 hz'
   rw [List.length_take] at hj
   rw [List.getElem_take] at e
   have hm' : z ∈ zs := by rw [← e]; exact List.getElem_mem _
   have := hb z hm'
   rw [hcell j (by omega)]
   have e2 : zs.getD j 0 = z := by rw [← e]; simp [List.getD_eq_getElem?_getD, show j < zs.length by omega]
   rw [e2, byteV, Int.toNat_of_nonneg this.1]
end
end Go.Proofs.YtkcoboamejefiaaGreatDoor
namespace Go.Proofs.YtkcoboamejefiaaGreatDoor.Lp
open Go.ChangeShapes Go.WideShapes Go.ChangeAt Go.RowKit Go.Joins Go.Deep Fq
section
variable {H : Type} {enc : TypeId × Value → H} {W : World} {base : Nat} {spare : Nat → Bool} {held : Bool}
theorem trod_ints {T : TypeId} {n fuel : Nat} {l : List Value} {x : DataW H × List MemPlace} (hT : Tryz.prog.underlying T = some (.array n 3)) (h : DataW.trod enc Tryz.prog W base spare held fuel T l = some x) (hl : l.length = n) : ∃ zs : List Int, zs.length = n ∧ l = zs.map fun x => Value.int .i64 x := by
 obtain ⟨xs, m, rfl, _, _, hn, hel⟩ := DataW.trod_array hT h
 exact ints_of n l hl fun i hi => by
  have hi' := hel i hi
  rw [cells_int, Nat.mul_one] at hi'
  have hx : xs[i]? = some xs[i] := List.getElem?_eq_getElem (by omega)
  rw [hx] at hi'
  obtain ⟨z, hz, _⟩ := DataW.trod_int Tryz.underlying3 hi'
  exact ⟨z, by simpa [Value.cells] using hz⟩
theorem cells_lev : Tryz.prog.cellsOf 25 = 6 := by kernel_rfl
theorem cells_hop : Tryz.prog.cellsOf 22 = 16 := by kernel_rfl
theorem cells_frame : Tryz.prog.cellsOf 49 = 23 := by kernel_rfl
set_option maxRecDepth 20000 in
theorem open_fr {b0 : Nat} {r : Reach} {v : Value} {d : DataW H} {p : List MemPlace} (hv : Value.okWide Tryz.prog W r b0 49 v) (h : DataW.Trod enc Tryz.prog W base spare held 49 v d p) : ∃ zs : List Int, v = .agg (icells zs) ∧ zs.length = 23 := by
 obtain ⟨cs, rfl, hsz⟩ : ∃ cs, v = .agg cs ∧ cs.size = 23 := by
  simp only [Value.okWide, und_frame] at hv
  obtain ⟨cs, h1, h2, _⟩ := hv
  exact ⟨cs, h1, by rw [h2, cells_frame]⟩
 obtain ⟨fuel, hf⟩ := h
 obtain ⟨xs, m, rfl, _, _, hn, hel⟩ := DataW.trod_struct und_frame hf
 have hfl := flds_frame
 generalize Tryz.prog.fieldsOf 49 = fs at hel hn hfl
 obtain ⟨f1, s1, e0, e1, hfl⟩ := List.map_eq_cons_iff.1 hfl
 obtain ⟨f2, s2, rfl, e2, hfl⟩ := List.map_eq_cons_iff.1 hfl
 obtain ⟨f3, s3, rfl, e3, hfl⟩ := List.map_eq_cons_iff.1 hfl
 obtain rfl := List.map_eq_nil_iff.1 hfl
 simp only [Prod.mk.injEq] at e1 e2 e3
 have hl3 : fs.size = 3 := by rw [← Array.length_toList, e0]; rfl
 have g1 : fs[0]? = some f1 := by rw [← Array.getElem?_toList, e0]; rfl
 have g2 : fs[1]? = some f2 := by rw [← Array.getElem?_toList, e0]; rfl
 have g3 : fs[2]? = some f3 := by rw [← Array.getElem?_toList, e0]; rfl
 have h1 := hel 0 f1 g1
 have h2 := hel 1 f2 g2
 have h3 := hel 2 f3 g3
 rw [e1.2.1, e1.2.2, cells_int, List.getElem?_eq_getElem (by omega)] at h1
 rw [e2.2.1, e2.2.2, cells_lev, List.getElem?_eq_getElem (by omega)] at h2
 rw [e3.2.1, e3.2.2, cells_hop, List.getElem?_eq_getElem (by omega)] at h3
 simp only [Value.cells] at h1 h2 h3
 have hcl : cs.toList.length = 23 := by rw [Array.length_toList, hsz]
 obtain ⟨z, hz, _⟩ := DataW.trod_int Tryz.underlying3 h1
 obtain ⟨l2, hl2, q2⟩ := trod_ints (n := 6) (by kernel_rfl) h2 (by rw [List.length_take, List.length_drop, hcl]; rfl)
 obtain ⟨l3, hl3', q3⟩ := trod_ints (n := 16) (by kernel_rfl) h3 (by rw [List.length_take, List.length_drop, hcl]; rfl)
 refine ⟨z :: (l2 ++ l3), ?_, by rw [List.length_cons, List.length_append, hl2, hl3']⟩
 have e : cs.toList = (z :: (l2 ++ l3)).map fun x => Value.int .i64 x := by
  rw [List.map_cons, List.map_append, ← q2, ← q3]
  have a1 : cs.toList = cs.toList.take 1 ++ cs.toList.drop 1 := (List.take_append_drop 1 _).symm
  have a2 : cs.toList.drop 1 = (cs.toList.drop 1).take 6 ++ (cs.toList.drop 1).drop 6 := (List.take_append_drop 6 _).symm
  have a3 : (cs.toList.drop 7).take 16 = cs.toList.drop 7 := List.take_of_length_le (by rw [List.length_drop, hcl]; omega)
  rw [List.drop_drop] at a2
  have a4 : cs.toList.take 1 = [.int .i64 z] := by simpa using hz
  rw [a3]
  conv => lhs; rw [a1, a4, a2]
  rfl
 unfold icells
 rw [← e]
theorem open_bytesV {b0 : Nat} {r : Reach} {v : Value} {d : DataW H} {p : List MemPlace} (hv : Value.okWide Tryz.prog W r b0 40 v) (h : DataW.Trod enc Tryz.prog W base spare held 40 v d p) :
  ∃ A n c bs, v = .slice A n c ∧ Rd W A n bs ∧ n ≤ maxLen := by
 obtain ⟨a0, len0, cap0, rfl⟩ := okWide_slice Tryz.underlying40 hv
 obtain ⟨fuel, hf⟩ := h
 exact open_bytes hf
end
end Go.Proofs.YtkcoboamejefiaaGreatDoor.Lp
namespace Go.Proofs.YtkcoboamejefiaaGreatDoor.Lp
open Go.RowKit Fx Fq Tb
def putAt (cs : Array Value) : Nat → List Value → Array Value
 | _, [] => cs
 | o, v :: r => putAt (cs.setIfInBounds o v) (o + 1) r
theorem putAt_mid : ∀ (new old pre post : List Value), old.length = new.length → putAt (pre ++ (old ++ post)).toArray pre.length new = (pre ++ (new ++ post)).toArray
 | [], old, pre, post, h => by
  obtain rfl : old = [] := List.length_eq_zero_iff.1 h
  rfl
 | v :: r, [], pre, post, h => by cases h
 | v :: r, x :: old, pre, post, h => by
  have h2 : old.length = r.length := by simpa using h
  have ih := putAt_mid r old (pre ++ [v]) post h2
  rw [List.length_append, List.length_singleton, List.append_assoc, List.append_assoc] at ih
  rw [putAt]
  refine Eq.trans (congrArg (fun c => putAt c (pre.length + 1) r) ?_) ih
  rw [List.setIfInBounds_toArray]
  refine congrArg List.toArray ?_
  rw [List.set_append_right _ _ (Nat.le_refl _), Nat.sub_self]
  rfl
theorem set_again {L : List Ent} {i : Nat} {g : Nat} {T : TypeId} (c1 c2 : Array Value) : (L.set i (g, T, c1)).set i (g, T, c2) = L.set i (g, T, c2) := List.set_set ..
theorem MV.puts {w0 w1 : World} {g : Nat} {T : TypeId} : ∀ (vs : List Value) (o : Nat) {w : World} {L : List Ent} {i : Nat} {cs : Array Value}, MV w0 w1 L w → L[i]? = some (g, T, cs) → MV w0 w1 (L.set i (g, T, putAt cs o vs)) (w.setCells g o vs)
 | [], o, w, L, i, cs, h, hi => by
  have e : L.set i (g, T, putAt cs o []) = L := by
   obtain ⟨hl, he⟩ := List.getElem?_eq_some_iff.1 hi
   rw [putAt, ← he]
   exact List.set_getElem_self hl
  rw [e, World.setCells]
  exact h
 | v :: r, o, w, L, i, cs, h, hi => by
  have h1 := h.put i hi o v
  have hi2 : (L.set i (g, T, cs.setIfInBounds o v))[i]? = some (g, T, cs.setIfInBounds o v) := by
   rw [List.getElem?_set, if_pos rfl, if_pos (List.getElem?_eq_some_iff.1 hi).1]
  have h2 := MV.puts r (o + 1) h1 hi2
  rw [set_again] at h2
  rw [World.setCells, putAt]
  exact h2
theorem there_blk {w : World} {g o n : Nat} {T : TypeId} {cs : Array Value} (h : Blk w g T cs) (hn : o + n ≤ cs.size) : w.there g o n := fun j hj => by
 refine ⟨?_, h.frozen _⟩
 rw [h.cell, Array.getElem?_eq_getElem (by omega)]
 rfl
theorem run_store_part {w : World} {g o n : Nat} {T T0 : TypeId} {z cs ds : Array Value} (ha : RowT T n z) (h : Blk w g T0 cs) (hl : o + n ≤ cs.size) (hl' : ds.size = n) (h1 : ds.all (·.oneCell') = true) : (storeVar T ⟨g, o, none⟩ (.agg ds)).run Tryz.prog w = .ok () (w.setCells g o ds.toList) :=
 run_storeVar_mid w g o T ds (there_blk h (by rw [hl']; exact hl)) (by rw [ha.size, hl']) h1
theorem run_load_partC {w : World} {g o n : Nat} {T T0 : TypeId} {z cs : Array Value} {ds : List Value} (ha : RowT T n z) (h : Blk w g T0 cs) (hy : ∀ j v, ds[j]? = some v → cs[o + j]? = some v) (hl : ds.length = n) : (loadVar T ⟨g, o, none⟩).run Tryz.prog w = .ok (.agg ds.toArray) w := by
 obtain ⟨d, h1, h2⟩ := ha.1
 exact run_loadVar_mid w g o T ds d (fun j v hv => by rw [h.cell]; exact hy j v hv) h1 (by cases d <;> first | rfl | cases h2) (by rw [ha.size, hl])
theorem run_load_1 {T : TypeId} (hg : ∀ w, (isAgg T).run Tryz.prog w = .ok false w) {w : World} {ad : Addr} {v : Value} (hc : w.cell? ad = some v) : (loadVar T ad).run Tryz.prog w = .ok v w := by
 simp only [loadVar, hg, Sem.run_bind, Result.andThen_ok, run_load, hc, Bool.false_eq_true, if_false]
theorem run_store_1 {T : TypeId} (hs : ∀ w, (sizeOf T).run Tryz.prog w = .ok 1 w) {w : World} {ad : Addr} {old v : Value} (hc : w.cell? ad = some old) (hf : w.frozen? ad = false) (h1 : v.oneCell' = true) (hv : v.cells = #[v]) : (storeVar T ad v).run Tryz.prog w = .ok () (w.setCell ad v) := by
 unfold storeVar
 simp only [hv]
 simp [storeCells, go_sem, run_store, h1, hc, hf, hs]
section
variable {ops : Array Oper} {rest : List Oper} {o : Oper} {a : Act} {w w0 w1 : World} {Q : Exit → Act → World → Prop} {L : List Ent}
theorem wv_loadP (hgd : Region.wanted o (yielded ops a.tmps) = true) (T : TypeId) (x : Operand) (ho : o.op = .load T x) {g k n : Nat} (hx : a.eval x = .pointer (some ⟨g, k, none⟩)) {z : Array Value} (ha : RowT T n z) (hm : Hid (MV w0 w1 L w)) {T0 : TypeId} {cs : Array Value} {ds : List Value}
  (hin : (g, T0, cs) ∈ L) (hy : ∀ j v, ds[j]? = some v → cs[k + j]? = some v) (hl : ds.length = n) (h : wpList Tryz.prog ops Q rest (a.put o.dst (.agg ds.toArray)) w) : wpList Tryz.prog ops Q (o :: rest) a w :=
 wl_step hgd fun K hK => by
  have := hK _ _ h
  unfold Oper.wp execOp
  simp only [ho, hx, Instr.loadAt, Instr.sureAddr, Sem.run_bind, Sem.run_pure, Result.andThen_ok, run_load_partC ha (hm.out.get hin) hy hl]
  exact this
theorem wv_storeP (hgd : Region.wanted o (yielded ops a.tmps) = true) (T : TypeId) (x y : Operand) (ho : o.op = .store T x y) {g k n : Nat} (hx : a.eval x = .pointer (some ⟨g, k, none⟩)) {ds : Array Value} (hy : a.eval y = .agg ds) {z : Array Value} (ha : RowT T n z) (hm : Hid (MV w0 w1 L w)) {i : Nat} {T0 : TypeId} {cs cs' : Array Value}
  (hi : VNth L i (g, T0, cs)) (hb : k + n ≤ cs.size) (hl' : ds.size = n) (h1 : ds.all (·.oneCell') = true) (hp : putAt cs k ds.toList = cs') (h : ∀ w', Hid (MV w0 w1 (L.set i (g, T0, cs')) w') → wpList Tryz.prog ops Q rest (a.put o.dst undef) w') : wpList Tryz.prog ops Q (o :: rest) a w :=
 wl_step hgd fun K hK => by
  have h2 := hm.out.puts ds.toList k hi
  rw [hp] at h2
  have := hK _ _ (h _ (Lib.hid h2))
  unfold Oper.wp execOp
  simp only [ho, hx, hy, Instr.storeAt, Instr.sureAddr, Sem.run_bind, Sem.run_pure, Result.andThen_ok, run_store_part ha (hm.out.get (List.mem_of_getElem? hi)) hb hl' h1]
  exact this
theorem wv_cell1 (hgd : Region.wanted o (yielded ops a.tmps) = true) (T : TypeId) (x : Operand) (ho : o.op = .load T x) {g k : Nat} (hx : a.eval x = .pointer (some ⟨g, k, none⟩)) (hg : ∀ w, (isAgg T).run Tryz.prog w = .ok false w) (hm : Hid (MV w0 w1 L w)) {T0 : TypeId} {cs : Array Value} {v : Value}
  (hin : (g, T0, cs) ∈ L) (hy : cs[k]? = some v) (h : wpList Tryz.prog ops Q rest (a.put o.dst v) w) : wpList Tryz.prog ops Q (o :: rest) a w :=
 wl_step hgd fun K hK => by
  have := hK _ _ h
  unfold Oper.wp execOp
  simp only [ho, hx, Instr.loadAt, Instr.sureAddr, Sem.run_bind, Sem.run_pure, Result.andThen_ok, run_load_1 hg (hm.out.cell hin hy)]
  exact this
theorem wv_put1 (hgd : Region.wanted o (yielded ops a.tmps) = true) (T : TypeId) (x y : Operand) (ho : o.op = .store T x y) {g k : Nat} (hx : a.eval x = .pointer (some ⟨g, k, none⟩)) {v : Value} (hy : a.eval y = v) (hs : ∀ w, (sizeOf T).run Tryz.prog w = .ok 1 w) (hm : Hid (MV w0 w1 L w)) {i : Nat} {T0 : TypeId} {cs cs' : Array Value}
  (hi : VNth L i (g, T0, cs)) (hb : k < cs.size) (h1 : v.oneCell' = true) (hv : v.cells = #[v]) (hp : cs.setIfInBounds k v = cs') (h : ∀ w', Hid (MV w0 w1 (L.set i (g, T0, cs')) w') → wpList Tryz.prog ops Q rest (a.put o.dst undef) w') : wpList Tryz.prog ops Q (o :: rest) a w :=
 wl_step hgd fun K hK => by
  have hbk := hm.out.get (List.mem_of_getElem? hi)
  have h2 := hm.out.put i hi k v
  rw [hp] at h2
  have := hK _ _ (h _ (Lib.hid h2))
  have hc : w.cell? ⟨g, k, none⟩ = some cs[k] := by rw [hbk.cell, Array.getElem?_eq_getElem hb]
  unfold Oper.wp execOp
  simp only [ho, hx, hy, Instr.storeAt, Instr.sureAddr, Sem.run_bind, Sem.run_pure, Result.andThen_ok, run_store_1 hs hc (hbk.frozen k) h1 hv]
  exact this
end
end Go.Proofs.YtkcoboamejefiaaGreatDoor.Lp
namespace Go.Proofs.YtkcoboamejefiaaGreatDoor.Lp
open Go.RowKit Fx Fq Tb
open Yr (rdR rd_one Fr chkB chkB_iff gsR_len rdR_gs)
structure Sy where
 t : List Int
 l : List Int
 live : Bool
 hush : Bool
 seed : Int
def Sy.z : Sy := ⟨zr 16, zr 6, false, false, 0⟩
def Sy.one : Sy := ⟨zr 16, zr 6, false, false, 1⟩
structure SyW (s : Sy) : Prop where
 lt : s.t.length = 16
 ll : s.l.length = 6
 sd : 0 ≤ s.seed ∧ s.seed < 4294967296
def okSy (s : Sy) : Bool := okW s.t && (chkL s.l && !(s.live && s.hush))
theorem okSy_iff {s : Sy} : okSy s = true ↔ okW s.t = true ∧ chkL s.l = true ∧ ¬ (s.live = true ∧ s.hush = true) := by
 unfold okSy
 rw [Bool.and_eq_true, Bool.and_eq_true]
 cases s.live <;> cases s.hush <;> simp
def sndS (s : Sy) (x : List Int) : Sy × List Int := ({ s with t := leftL (invL x) }, lapL s.t (invL x))
def hisS (s : Sy) : Sy × List Int := sndS { s with seed := seedN s.seed 16 } (noiseL s.seed s.l)
abbrev Ds := Except Int (Sy × List Int)
def stepS (s : Sy) (bs : List Nat) : Ds :=
 if okSy s = true then
  match rdR bs s.l with
  | none => .error 21
  | some (K, l, q) => if K = 1 ∧ s.live = false then .error 40 else if K = 2 then .ok (hisS { s with l := l, live := false, hush := true }) else .ok (sndS { s with l := l, live := true, hush := false } (greatL q l))
 else .error 1
def restS (s : Sy) : Ds := if okSy s = true then (if s.hush = true then .ok (hisS s) else .ok (sndS { s with live := false } (zr 16))) else .error 1
def fadN (b v : Int) : Int := if 0 < v then max (v - min b 255) 0 else v
def fadL (b : Int) (l : List Int) : List Int := l.map (fadN b)
def fadeS (s : Sy) (b : Int) : Ds := if okSy s = true ∧ 1 ≤ b then .ok (hisS { s with l := fadL b s.l, live := false }) else .error 1
def nextD (s : Sy) (bs : List Nat) : Ds := if bs = [] then restS s else stepS s bs
def allD : Sy → List (List Nat) → Except Int (Sy × List (List Int))
 | s, [] => .ok (s, [])
 | s, bs :: L =>
  match nextD s bs with
  | .error e => .error e
  | .ok (s1, p) =>
   match allD s1 L with
   | .error e => .error e
   | .ok (s2, ps) => .ok (s2, p :: ps)
theorem clamp_bd (v : Int) {M : Int} (h : 0 ≤ M) : -M ≤ clampI v M ∧ clampI v M ≤ M := by
 have e : clampI v M = min (max v (-M)) M := rfl
 omega
theorem okX_great (q l : List Int) : okX (greatL q l) = true := (inR_iff (tab_length 16 _)).2 fun k hk => by
 rw [tab_getD _ hk]
 exact clamp_bd _ (by omega)
theorem okX_noise (t : Int) (l : List Int) : okX (noiseL t l) = true := (inR_iff (tab_length 16 _)).2 fun k hk => by
 rw [tab_getD _ hk]
 unfold noiseF
 split
 ·exact clamp_bd _ (by omega)
 ·omega
theorem okX_zr : okX (zr 16) = true := (inR_iff (zr_length 16)).2 fun k _ => by rw [zr_getD]; omega
theorem okW_left {x : List Int} (hx : okX x = true) : okW (leftL (invL x)) = true := (inR_iff (tab_length 16 _)).2 fun k hk => by
 have := (inR_iff (tab_length 32 _)).1 (okW_inv hx) (16 + k) (by omega)
 rw [tab_getD _ hk]
 exact this
theorem sat16_bd (v : Int) : -32768 ≤ satI v 16 ∧ satI v 16 ≤ 32767 := by
 unfold satI
 rw [show bwN 16 = 15 by decide, show ((2 ^ 15 : Nat) : Int) = 32768 by decide]
 unfold holdI
 omega
theorem okP_lap (t v : List Int) : okP (lapL t v) = true := (inR_iff (tab_length 16 _)).2 fun k hk => by
 rw [tab_getD _ hk]
 unfold lapN
 exact sat16_bd _
structure SndOk (s : Sy) (r : Sy × List Int) : Prop where
 okt : okW r.1.t = true
 okp : okP r.2 = true
 lt : r.1.t.length = 16
 lp : r.2.length = 16
 l : r.1.l = s.l
 live : r.1.live = s.live
 hush : r.1.hush = s.hush
theorem snd_ok (s : Sy) {x : List Int} (hx : okX x = true) : SndOk s (sndS s x) :=
 ⟨okW_left hx, okP_lap _ _, tab_length _ _, tab_length _ _, rfl, rfl, rfl⟩
theorem his_ok (s : Sy) : SndOk s (hisS s) :=
 have h := snd_ok { s with seed := seedN s.seed 16 } (okX_noise s.seed s.l)
 ⟨h.okt, h.okp, h.lt, h.lp, rfl, rfl, rfl⟩
theorem SndOk.may {s : Sy} {r : Sy × List Int} (h : SndOk s r) (hc : chkL s.l = true) (hn : ¬ (s.live = true ∧ s.hush = true)) : okSy r.1 = true := by
 rw [okSy_iff, h.l, h.live, h.hush]
 exact ⟨h.okt, hc, hn⟩
theorem fad_len (b : Int) (l : List Int) : (fadL b l).length = l.length := List.length_map _
theorem fad_get {b : Int} {l : List Int} (k : Nat) : (fadL b l).getD k 0 = fadN b (l.getD k 0) := by
 unfold fadL
 simp only [List.getD_eq_getElem?_getD, List.getElem?_map]
 cases l[k]? with
 | none => unfold fadN; rfl
 | some v => rfl
theorem step_ok {s s' : Sy} {p : List Int} {bs : List Nat} (hs : SyW s) (h : stepS s bs = .ok (s', p)) : okSy s = true ∧ okSy s' = true ∧ okP p = true ∧ SyW s' ∧ p.length = 16 ∧ s'.live ≠ s'.hush := by
 unfold stepS at h
 by_cases hc : okSy s = true
 ·rw [if_pos hc] at h
  cases hr : rdR bs s.l with
  | none => rw [hr] at h; cases h
  | some x =>
   obtain ⟨K, l, q⟩ := x
   rw [hr] at h
   dsimp only at h
   obtain ⟨c1, -, -⟩ := rd_one hr
   have hl := ((chkB_iff _ _ _ _).1 c1).lev
   obtain ⟨l6, -⟩ := gsR_len (rdR_gs hr)
   split at h
   ·cases h
   ·split at h
    ·injection h with h
     have g := his_ok { s with l := l, live := false, hush := true }
     rw [h] at g
     have hsd : s'.seed = seedN s.seed 16 := (congrArg (fun r : Sy × List Int => r.1.seed) h).symm
     exact ⟨hc, g.may hl (by simp), g.okp, ⟨g.lt, by rw [g.l]; exact l6, by rw [hsd]; exact seedN_bd hs.sd 16⟩, g.lp, by rw [g.live, g.hush]; simp⟩
    ·injection h with h
     have g := snd_ok { s with l := l, live := true, hush := false } (okX_great q l)
     rw [h] at g
     have hsd : s'.seed = s.seed := (congrArg (fun r : Sy × List Int => r.1.seed) h).symm
     exact ⟨hc, g.may hl (by simp), g.okp, ⟨g.lt, by rw [g.l]; exact l6, by rw [hsd]; exact hs.sd⟩, g.lp, by rw [g.live, g.hush]; simp⟩
 ·rw [if_neg hc] at h
  cases h
theorem step_err {s : Sy} {bs : List Nat} {e : Int} (hc : okSy s = true) (h : stepS s bs = .error e) : e = 21 ∨ e = 40 := by
 unfold stepS at h
 rw [if_pos hc] at h
 split at h
 ·injection h with h; exact .inl h.symm
 ·split at h
  ·injection h with h; exact .inr h.symm
  ·split at h <;> cases h
theorem fadL_chk {b : Int} (hb : 1 ≤ b) {l : List Int} (hl : l.length = 6) (h : chkL l = true) : chkL (fadL b l) = true := by
 unfold chkL at h ⊢
 refine (inR_iff ((fad_len b l).trans hl)).2 fun k hk => ?_
 have := (inR_iff hl).1 h k hk
 rw [fad_get]
 unfold fadN
 split <;> omega
theorem fade_ok {s s' : Sy} {p : List Int} {b : Int} (hs : SyW s) (h : fadeS s b = .ok (s', p)) : okSy s = true ∧ 1 ≤ b ∧ okSy s' = true ∧ okP p = true ∧ SyW s' ∧ p.length = 16 ∧ s'.live = false ∧ s'.hush = s.hush ∧ s'.l = fadL b s.l := by
 unfold fadeS at h
 by_cases hc : okSy s = true ∧ 1 ≤ b
 ·rw [if_pos hc] at h
  injection h with h
  have g := his_ok { s with l := fadL b s.l, live := false }
  rw [h] at g
  have hsd : s'.seed = seedN s.seed 16 := (congrArg (fun r : Sy × List Int => r.1.seed) h).symm
  exact ⟨hc.1, hc.2, g.may (fadL_chk hc.2 hs.ll (okSy_iff.1 hc.1).2.1) (by simp), g.okp, ⟨g.lt, by rw [g.l, fad_len]; exact hs.ll, by rw [hsd]; exact seedN_bd hs.sd 16⟩, g.lp, g.live, g.hush, g.l⟩
 ·rw [if_neg hc] at h
  cases h
theorem rest_ok {s s' : Sy} {p : List Int} (hs : SyW s) (h : restS s = .ok (s', p)) : okSy s = true ∧ okSy s' = true ∧ okP p = true ∧ SyW s' ∧ p.length = 16 ∧ s'.hush = s.hush ∧ s'.l = s.l ∧ s'.live = false := by
 unfold restS at h
 by_cases hc : okSy s = true
 ·have hc2 := okSy_iff.1 hc
  rw [if_pos hc] at h
  split at h
  ·rename_i hh
   injection h with h
   have g := his_ok s
   rw [h] at g
   have hsd : s'.seed = seedN s.seed 16 := (congrArg (fun r : Sy × List Int => r.1.seed) h).symm
   exact ⟨hc, g.may hc2.2.1 hc2.2.2, g.okp, ⟨g.lt, by rw [g.l]; exact hs.ll, by rw [hsd]; exact seedN_bd hs.sd 16⟩, g.lp, g.hush, g.l, by
    rw [g.live]
    cases hv : s.live with
    | false => rfl
    | true => exact absurd ⟨hv, hh⟩ hc2.2.2⟩
  ·injection h with h
   have g := snd_ok { s with live := false } okX_zr
   rw [h] at g
   have hsd : s'.seed = s.seed := (congrArg (fun r : Sy × List Int => r.1.seed) h).symm
   exact ⟨hc, g.may hc2.2.1 (by simp), g.okp, ⟨g.lt, by rw [g.l]; exact hs.ll, by rw [hsd]; exact hs.sd⟩, g.lp, g.hush, g.l, g.live⟩
 ·rw [if_neg hc] at h
  cases h
end Go.Proofs.YtkcoboamejefiaaGreatDoor.Lp
namespace Go.Proofs.YtkcoboamejefiaaGreatDoor.Lp
open Go.RowKit Fx Fq Tb
def icl (xs : List Int) : List Value := xs.map fun x => Value.int .i64 x
theorem icl_length (xs : List Int) : (icl xs).length = xs.length := List.length_map _
def endL (s : Sy) : List Value := [.bool s.live, .bool s.hush, .int .u32 s.seed]
def syC (s : Sy) : Array Value := (icl s.t ++ (icl s.l ++ endL s)).toArray
theorem syC_size {s : Sy} (h : SyW s) : (syC s).size = 25 := by
 unfold syC endL
 rw [List.size_toArray, List.length_append, List.length_append, icl_length, icl_length, h.lt, h.ll]
 rfl
theorem syC_one (s : Sy) : (syC s).all (·.oneCell') = true := by
 unfold syC endL icl
 simp [Value.oneCell']
theorem syC_t (s : Sy) : ∀ j v, (icl s.t)[j]? = some v → (syC s)[0 + j]? = some v := fun j v h => by
 unfold syC
 rw [Nat.zero_add, List.getElem?_toArray, List.getElem?_append_left (List.getElem?_eq_some_iff.1 h).1]
 exact h
theorem syC_l {s : Sy} (hs : SyW s) : ∀ j v, (icl s.l)[j]? = some v → (syC s)[16 + j]? = some v := fun j v h => by
 unfold syC
 rw [List.getElem?_toArray, List.getElem?_append_right (by rw [icl_length, hs.lt]; omega), icl_length, hs.lt, Nat.add_sub_cancel_left, List.getElem?_append_left (List.getElem?_eq_some_iff.1 h).1]
 exact h
theorem syC_e {s : Sy} (hs : SyW s) {k : Nat} {v : Value} (h : (endL s)[k]? = some v) : (syC s)[22 + k]? = some v := by
 unfold syC
 rw [List.getElem?_toArray, List.getElem?_append_right (by rw [icl_length, hs.lt]; omega), icl_length, hs.lt, List.getElem?_append_right (by rw [icl_length, hs.ll]; omega), icl_length, hs.ll, show 22 + k - 16 - 6 = k by omega]
 exact h
theorem put_t {s : Sy} {t : List Int} (hs : SyW s) (ht : t.length = 16) : putAt (syC s) 0 (icl t) = syC { s with t := t } :=
 putAt_mid (icl t) (icl s.t) [] (icl s.l ++ endL s) (by rw [icl_length, icl_length, hs.lt, ht])
theorem put_l {s : Sy} {l : List Int} (hs : SyW s) (hl : l.length = 6) : putAt (syC s) 16 (icl l) = syC { s with l := l } := by
 have h := putAt_mid (icl l) (icl s.l) (icl s.t) (endL s) (by rw [icl_length, icl_length, hs.ll, hl])
 rw [icl_length, hs.lt] at h
 exact h
theorem set_end {s : Sy} (hs : SyW s) (k : Nat) (v : Value) : (syC s).setIfInBounds (22 + k) v = (icl s.t ++ (icl s.l ++ (endL s).set k v)).toArray := by
 unfold syC
 rw [List.setIfInBounds_toArray, List.set_append_right _ _ (by rw [icl_length, hs.lt]; omega), icl_length, hs.lt, List.set_append_right _ _ (by rw [icl_length, hs.ll]; omega), icl_length, hs.ll, show 22 + k - 16 - 6 = k by omega]
theorem put_live {s : Sy} (hs : SyW s) (b : Bool) : (syC s).setIfInBounds 22 (.bool b) = syC { s with live := b } := set_end hs 0 _
theorem put_hush {s : Sy} (hs : SyW s) (b : Bool) : (syC s).setIfInBounds 23 (.bool b) = syC { s with hush := b } := set_end hs 1 _
theorem put_seed {s : Sy} (hs : SyW s) (z : Int) : (syC s).setIfInBounds 24 (.int .u32 z) = syC { s with seed := z } := set_end hs 2 _
theorem rowSyn : RowT 28 25 (syC Sy.z) := rowT_of (by kernel_rfl) (by kernel_rfl)
theorem syW_z : SyW Sy.z := ⟨zr_length 16, zr_length 6, by decide⟩
theorem syW_one : SyW Sy.one := ⟨zr_length 16, zr_length 6, by decide⟩
theorem eq_five {d : Nat} {xs ys : Array Value} {t1 t2 t3 t4 t5 : TypeId} {o1 o2 o3 o4 o5 : Nat} {fs : List Field} {w : World} {x1 x2 x3 x4 x5 y1 y2 y3 y4 y5 : Value} {b1 b2 b3 b4 b5 : Bool} (h : fs.map (fun f => (f.name, f.type, f.offset)) = [("T", t1, o1), ("L", t2, o2), ("Live", t3, o3), ("Hush", t4, o4), ("Seed", t5, o5)])
  (p1 : (part t1 xs o1).run Tryz.prog w = .ok x1 w) (q1 : (part t1 ys o1).run Tryz.prog w = .ok y1 w) (r1 : (Op.equalIn d t1 x1 y1).run Tryz.prog w = .ok b1 w)
  (p2 : (part t2 xs o2).run Tryz.prog w = .ok x2 w) (q2 : (part t2 ys o2).run Tryz.prog w = .ok y2 w) (r2 : (Op.equalIn d t2 x2 y2).run Tryz.prog w = .ok b2 w)
  (p3 : (part t3 xs o3).run Tryz.prog w = .ok x3 w) (q3 : (part t3 ys o3).run Tryz.prog w = .ok y3 w) (r3 : (Op.equalIn d t3 x3 y3).run Tryz.prog w = .ok b3 w)
  (p4 : (part t4 xs o4).run Tryz.prog w = .ok x4 w) (q4 : (part t4 ys o4).run Tryz.prog w = .ok y4 w) (r4 : (Op.equalIn d t4 x4 y4).run Tryz.prog w = .ok b4 w)
  (p5 : (part t5 xs o5).run Tryz.prog w = .ok x5 w) (q5 : (part t5 ys o5).run Tryz.prog w = .ok y5 w) (r5 : (Op.equalIn d t5 x5 y5).run Tryz.prog w = .ok b5 w) :
  (Op.eqFields d xs ys fs).run Tryz.prog w = .ok (b1 && (b2 && (b3 && (b4 && b5)))) w := by
 obtain ⟨f1, s1, rfl, e1, h⟩ := List.map_eq_cons_iff.1 h
 obtain ⟨f2, s2, rfl, e2, h⟩ := List.map_eq_cons_iff.1 h
 obtain ⟨f3, s3, rfl, e3, h⟩ := List.map_eq_cons_iff.1 h
 obtain ⟨f4, s4, rfl, e4, h⟩ := List.map_eq_cons_iff.1 h
 obtain ⟨f5, s5, rfl, e5, h⟩ := List.map_eq_cons_iff.1 h
 obtain rfl := List.map_eq_nil_iff.1 h
 simp only [Prod.mk.injEq] at e1 e2 e3 e4 e5
 obtain ⟨a1, rfl, rfl⟩ := e1
 obtain ⟨a2, rfl, rfl⟩ := e2
 obtain ⟨a3, rfl, rfl⟩ := e3
 obtain ⟨a4, rfl, rfl⟩ := e4
 obtain ⟨a5, rfl, rfl⟩ := e5
 cases b1 with
 | false => simp [Op.eqFields, a1, Sem.run_bind, p1, q1, r1]
 | true =>
  cases b2 with
  | false => simp [Op.eqFields, a1, a2, Sem.run_bind, p1, q1, r1, p2, q2, r2]
  | true =>
   cases b3 with
   | false => simp [Op.eqFields, a1, a2, a3, Sem.run_bind, p1, q1, r1, p2, q2, r2, p3, q3, r3]
   | true =>
    cases b4 with
    | false => simp [Op.eqFields, a1, a2, a3, a4, Sem.run_bind, p1, q1, r1, p2, q2, r2, p3, q3, r3, p4, q4, r4]
    | true => cases b5 <;> simp [Op.eqFields, a1, a2, a3, a4, a5, Sem.run_bind, p1, q1, r1, p2, q2, r2, p3, q3, r3, p4, q4, r4, p5, q5, r5]
end Go.Proofs.YtkcoboamejefiaaGreatDoor.Lp
