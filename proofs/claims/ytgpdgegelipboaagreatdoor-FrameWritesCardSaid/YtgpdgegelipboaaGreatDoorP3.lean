/-
  Own texts, laid together: CH, Ha, MN, MW, MX, MQ.
-/
import Derived.Test.YtgpdgegelipboaaGreatDoorP2
set_option linter.unusedSimpArgs false
set_option linter.unusedVariables false
set_option maxRecDepth 100000
namespace Go.Proofs.YtgpdgegelipboaaGreatDoor.Cd
open Go.RowKit
theorem get_bad (A : Option Addr) (n c : Nat) (N a wd : Int) (bs : List Nat) (w : World) (hr : Hid (Rd w A n bs)) (hok : Hid (okB bs N = false)) :
    Calls Tryz.prog 117 #[.agg #[.slice A n c, .int .i64 N], .int .i64 a, .int .i64 wd] w fun e w' => e = .returned (.tuple #[.int .u64 0, .int .i64 1]) ∧ Below w.heap.size w w' := by
  have HW := Lib.hid ((Below.refl w.heap.size w).alloc (Nat.le_refl _) (.cells #[.slice A n c, .int .i64 N] 49))
  go_enter Tryz.func117, Tryz.ntmps117
  go_wp2_with fail
  generalize w.alloc (.cells #[.slice A n c, .int .i64 N] 49) = w0 at HW ⊢
  have hcon := check_any A n c N bs w0 (hr.out.below HW.out)
  rw [hok.out] at hcon
  refine hcon.mono ?_
  clear hcon
  rintro e w1 ⟨rfl, hb1⟩
  have HW1 := Lib.hid (HW.out.trans (hb1.mono HW.out.size))
  clear hb1
  go_wp2
  go_ret2
  exact ⟨rfl, HW1.out⟩
def rdC (d : De) (A : Option Addr) (n c : Nat) (N : Int) : Array Value := #[.int .u32 (d.low : Int), .int .u32 (d.high : Int), .int .u32 (d.code : Int), .slice A n c, .int .i64 N, .int .i64 (d.at_ : Int)]
def RdS (w : World) (p : Nat) (d : De) (A : Option Addr) (n c : Nat) (N : Int) : Prop := Blk w p 159 (rdC d A n c N)
theorem RdS.six {w : World} {p : Nat} {d : De} {A : Option Addr} {n c : Nat} {N : Int} (h : RdS w p d A n c N) : w.cell? ⟨p, 0, none⟩ = some (.int .u32 (d.low : Int)) ∧ w.cell? ⟨p, 1, none⟩ = some (.int .u32 (d.high : Int)) ∧ w.cell? ⟨p, 2, none⟩ = some (.int .u32 (d.code : Int)) ∧ w.cell? ⟨p, 3, none⟩ = some (.slice A n c) ∧ w.cell? ⟨p, 4, none⟩ = some (.int .i64 N) ∧ w.cell? ⟨p, 5, none⟩ = some (.int .i64 (d.at_ : Int)) := blk6 h
theorem val_first (l : List Bool) (th : Nat) (h : th = min l.length 32) : val l 32 = num (l.take th) * 2 ^ (32 - th) := by
  have key : ∀ k, val l (th + k) = num (l.take th) * 2 ^ k ∨ th < l.length := by
    intro k
    by_cases hlt : th < l.length
    · exact .inr hlt
    · left
      have e : th = l.length := by omega
      induction k with
      | zero =>
        have := val_pre l [] th (by omega)
        rw [List.append_nil] at this
        rw [Nat.add_zero, this]; simp
      | succ k ih =>
        rw [← Nat.add_assoc, val_succ, ih, bitF_of_ge (by omega), Nat.pow_succ]
        simp
        rw [Nat.mul_comm 2, Nat.mul_assoc]
  rcases Nat.lt_or_ge l.length 32 with h32 | h32
  · rcases key (32 - th) with h1 | h1
    · rwa [show th + (32 - th) = 32 by omega] at h1
    · omega
  · have e : th = 32 := by omega
    subst e
    have := val_pre l [] 32 h32
    rw [List.append_nil] at this
    rw [this]; simp
def d0 (l : List Bool) : De := ⟨0, 4294967295, val l 32, 32⟩
def OpOk (w : World) (l : List Bool) (A : Option Addr) (n c : Nat) (N : Int) (e : Ending) (w' : World) : Prop :=
  ∃ p, e = .returned (.tuple #[.pointer (some ⟨p, 0, none⟩), .int .i64 0]) ∧ w.heap.size ≤ p ∧ RdS w' p (d0 l) A n c N ∧ Below w.heap.size w w'
def OpNo (w : World) (e : Ending) (w' : World) : Prop := e = .returned (.tuple #[.pointer none, .int .i64 1]) ∧ Below w.heap.size w w'
theorem open_no (A : Option Addr) (n c : Nat) (N : Int) (bs : List Nat) (w : World) (hr : Hid (Rd w A n bs)) (hok : Hid (okB bs N = false)) :
    Calls Tryz.prog 89 #[.agg #[.slice A n c, .int .i64 N]] w (OpNo w) := by
  have HW := Lib.hid ((Below.refl w.heap.size w).alloc (Nat.le_refl _) (.cells #[.slice A n c, .int .i64 N] 49))
  go_enter Tryz.func89, Tryz.ntmps89
  go_wp2_with fail
  generalize w.alloc (.cells #[.slice A n c, .int .i64 N] 49) = w0 at HW ⊢
  refine (get_bad A n c N _ _ bs w0 (Lib.hid (hr.out.below HW.out)) hok).mono ?_
  rintro e w1 ⟨rfl, hb1⟩
  have HW1 := Lib.hid (HW.out.trans (hb1.mono HW.out.size))
  clear hb1
  go_wp2
  go_ret2
  exact ⟨rfl, HW1.out⟩
theorem whole_lit (w : World) : Calls Tryz.prog 72 #[] w fun e w' => e = .returned (.agg #[.int .u32 0, .int .u32 4294967295]) ∧ Below w.heap.size w w' := whole_any w
set_option maxHeartbeats 2000000 in
theorem open_ok (A : Option Addr) (n c : Nat) (N : Int) (l : List Bool) (w : World) (h : Hid (IsB w (.agg #[.slice A n c, .int .i64 N]) l)) :
    Calls Tryz.prog 89 #[.agg #[.slice A n c, .int .i64 N]] w (OpOk w l A n c N) := by
  obtain ⟨-, hN, -, hl⟩ := isB_parts h.out
  obtain ⟨th, hth⟩ : ∃ th, th = min l.length 32 := ⟨_, rfl⟩
  obtain ⟨sh, hsh⟩ : ∃ sh, sh = 32 - th := ⟨_, rfl⟩
  obtain ⟨F, hF⟩ : ∃ F, F = num (l.take th) := ⟨_, rfl⟩
  obtain ⟨V, hV⟩ : ∃ V, V = val l 32 := ⟨_, rfl⟩
  have hVF : V = F * 2 ^ sh := by rw [hV, hF, hsh]; exact val_first l th hth
  have hV2 : V < 4294967296 := by rw [hV, ← pow32]; exact val_lt l 32
  have em : min N 32 = (th : Int) := by omega
  have es : (32 : Int) - (th : Int) = (sh : Int) := by omega
  have hF2 : F < 4294967296 := by
    refine Nat.lt_of_le_of_lt ?_ hV2
    rw [hVF]; exact Nat.le_mul_of_pos_right _ (Nat.pow_pos (by omega))
  have t1 : th ≤ 32 := by omega
  have HTH := Lib.hid hth
  have HV := Lib.hid hV
  have HF := Lib.hid (show F = num ((l.drop 0).take th) by rw [List.drop_zero]; exact hF)
  have eV : (F : Int) * 2 ^ sh = (V : Int) := by rw [hVF]; simp
  have s1 : sh ≤ 32 := by omega
  have s2 : decide ((sh : Int) < 0) = false := by simp
  have s3 : ¬ (sh : Int) < 0 := by omega
  have s4 : ((sh : Int)).toNat = sh := by omega
  clear hth hsh hF hV hVF hN hl
  have HK := Lib.hid (Blk.new w 49 #[.slice A n c, .int .i64 N])
  have HW := Lib.hid ((Below.refl w.heap.size w).alloc (Nat.le_refl _) (.cells #[.slice A n c, .int .i64 N] 49))
  have HES := Lib.hid es
  have HEV := Lib.hid eV
  clear es eV
  go_enter Tryz.func89, Tryz.ntmps89
  go_wp2_with fail
  generalize w.alloc (.cells #[.slice A n c, .int .i64 N] 49) = w0 at HK HW ⊢
  clear em
  refine (get_n _ l 0 _ 0 th F w0 (h.out.below HW.out) rfl rfl (by omega) (by have := HTH.out; omega) HF.out).mono ?_
  rintro e w1 ⟨rfl, hb1⟩
  have HK1 := Lib.hid (HK.out.below hb1 HK.out.lt)
  have HW1 := Lib.hid (HW.out.trans (hb1.mono HW.out.size))
  clear hb1 HK HW
  obtain ⟨x1, x2, -, -⟩ := blk2 HK1.out
  go_wp2_with fail
  have es := HES.out
  have eV := HEV.out
  have q1 : IntKind.i64.wrap (sh : Int) = (sh : Int) := IntWalk.i64_in _ (by omega)
  have q2 : IntKind.u64.wrap (V : Int) = (V : Int) := IntWalk.u64_in _ (by omega)
  have q3 : IntKind.u32.wrap (V : Int) = (V : Int) := IntWalk.u32_in _ (by omega)
  go_region_with (go_at_call 72; refine (whole_lit _).mono ?_; rintro e w2 ⟨rfl, hb2⟩; obtain ⟨x3, x4, -, -⟩ := blk2 ((HK1.out.drew).below hb2 HK1.out.lt))
  all_goals
    have HB2 := Lib.hid hb2
    clear hb2 x1 x2 x3 x4 q1 q2 q3 es eV
    have HW2 := Lib.hid (HW1.out.trans ((show Below w1.heap.size w1 w2 from ⟨HB2.out.os, HB2.out.tape, HB2.out.output, HB2.out.size, HB2.out.block⟩).mono HW1.out.size))
    go_wp2
    go_ret2
    refine ⟨w2.heap.size, rfl, HW2.out.size, ?_, HW2.out.alloc HW2.out.size _⟩
    unfold d0
    rw [← HV.out]
    exact Blk.new w2 _ _
end Go.Proofs.YtgpdgegelipboaaGreatDoor.Cd
namespace Go.Proofs.YtgpdgegelipboaaGreatDoor.Cd
open Go.RowKit
theorem grown_trans {a b c : World} {row : Option Nat} (h1 : a.grownBy b row) (h2 : b.grownBy c row) : a.grownBy c row :=
  ⟨h2.os.trans h1.os, h2.tape.trans h1.tape, h2.output.trans h1.output, Nat.le_trans h1.size h2.size, fun i hi hne => (h2.block i (Nat.lt_of_lt_of_le hi h1.size) hne).trans (h1.block i hi hne)⟩
theorem isB_only {w w' : World} {row : Nat} {A : Option Addr} {n c : Nat} {N : Int} {l : List Bool} (h : IsB w (.agg #[.slice A n c, .int .i64 N]) l) (hb : w.grownBy w' (some row)) (hA : ∀ ad, A = some ad → 0 < n → ad.block ≠ row) : IsB w' (.agg #[.slice A n c, .int .i64 N]) l := by
  obtain ⟨e1, e2, e3, e4⟩ := isB_parts h
  subst e1 e2
  exact ⟨A, c, rfl, e3.only hb hA, e4⟩
theorem bit_num (l : List Bool) (i : Nat) (h : i < l.length) : num ((l.drop i).take 1) = (bitF l i).toNat := by
  have := num_take_succ l i 0 (by omega)
  rw [this]
  simp [num_nil]
theorem get1_any (v : Value) (l : List Bool) (i t : Nat) (w : World) (h : IsB w v l) (ht : t = (bitF l i).toNat) :
    Calls Tryz.prog 117 #[v, .int .i64 (i : Int), .int .i64 1] w fun e w' => (∃ er, e = .returned (.tuple #[.int .u64 (t : Int), .int .i64 er])) ∧ Below w.heap.size w w' := by
  by_cases hi : i < l.length
  · exact (get_n v l (i : Int) 1 i 1 t w h rfl rfl (by omega) (by omega) (by rw [ht, bit_num l i hi])).mono fun e w' ⟨h1, h2⟩ => ⟨⟨0, h1⟩, h2⟩
  · have ht0 : t = 0 := by rw [ht, bitF_of_ge (by omega)]; rfl
    exact (get_short v l (i : Int) 1 w h (by omega) (by omega) (by omega) (by omega)).mono fun e w' ⟨h1, h2⟩ => ⟨⟨20, by rw [ht0]; exact h1⟩, h2⟩
set_option maxHeartbeats 1000000 in
theorem bit_any (p : Nat) (d : De) (A : Option Addr) (n c : Nat) (N : Int) (l : List Bool) (t : Nat) (w : World) (hs : Hid (RdS w p d A n c N)) (h : Hid (IsB w (.agg #[.slice A n c, .int .i64 N]) l)) (ht : Hid (t = (bitF l d.at_).toNat)) (ht2 : t < 2) :
    Calls Tryz.prog 138 #[.pointer (some ⟨p, 0, none⟩)] w fun e w' => e = .returned (.int .u32 (t : Int)) ∧ Below w.heap.size w w' := by
  obtain ⟨-, -, -, c3, c4, c5⟩ := hs.out.six
  have q1 : IntKind.u32.wrap (t : Int) = (t : Int) := IntWalk.u32_in _ (by omega)
  have HQ1 := Lib.hid q1
  clear q1
  have HD := Lib.hid (show IsB w.drew (.agg #[.slice A n c, .int .i64 N]) l from h.out)
  go_enter Tryz.func138, Tryz.ntmps138
  go_wp2_with fail
  go_region_with (go_at_call 117; refine (get1_any _ l d.at_ t w.drew HD.out ht.out).mono ?_; rintro e w2 ⟨⟨er, rfl⟩, hb2⟩)
  all_goals
    have HB2 := Lib.hid (show Below w.heap.size w w2 from ⟨hb2.os, hb2.tape, hb2.output, hb2.size, hb2.block⟩)
    clear hb2 c3 c4 c5
    have q1 := HQ1.out
    go_wp2
    go_ret
    exact ⟨rfl, HB2.out⟩
def WidS (w0 : World) (p : Nat) (A : Option Addr) (n c : Nat) (N : Int) (l : List Bool) (fin : De) (m : Nat) (wr : World) : Prop :=
  ∃ d : De, RdS wr p d A n c N ∧ widD m l d = fin ∧ Ok d.low d.high ∧ d.low ≤ d.code ∧ d.code ≤ d.high ∧ 4294967296 < (d.high - d.low + 1) * 2 ^ (m + 1) ∧ d.at_ + m ≤ 1000000 ∧ w0.grownBy wr (some p)
theorem stepD_facts {l : List Bool} {d : De} (hok : Ok d.low d.high) (hk : kind d.low d.high ≠ 3) (h1 : d.low ≤ d.code) (h2 : d.code ≤ d.high) : takeK (kind d.low d.high) ≤ d.low ∧ (stepD l d).low ≤ (stepD l d).code ∧ (stepD l d).code ≤ (stepD l d).high ∧ (stepD l d).high < 4294967296 ∧ (stepD l d).high - (stepD l d).low + 1 = 2 * (d.high - d.low + 1) ∧ (stepD l d).low ≤ (stepD l d).high := by
  have hb := toNat_le (bitF l d.at_)
  have hlow := stepE_low (e := ⟨d.low, d.high, 0, []⟩) hok hk
  obtain ⟨a1, a2, a3, a4⟩ := hlow
  dsimp only at a1 a2 a3 a4
  have ht : takeK (kind d.low d.high) ≤ d.low := by omega
  have e1 : (stepD l d).low = 2 * (d.low - takeK (kind d.low d.high)) := rfl
  have e2 : (stepD l d).high = 2 * (d.high - takeK (kind d.low d.high)) + 1 := rfl
  have e3 : (stepD l d).code = 2 * (d.code - takeK (kind d.low d.high)) + (bitF l d.at_).toNat := rfl
  have := hok.1
  refine ⟨ht, ?_, ?_, ?_, ?_, ?_⟩ <;> omega
theorem widS_zero {d : De} (hok : Ok d.low d.high) (h : 4294967296 < (d.high - d.low + 1) * 2 ^ (0 + 1)) : kind d.low d.high = 3 := widR_zero (e := ⟨d.low, d.high, 0, []⟩) hok h
theorem WidS.step {w0 wr : World} {p m : Nat} {A : Option Addr} {n c : Nat} {N : Int} {l : List Bool} {fin d : De} (hok : Ok d.low d.high) (hk : kind d.low d.high ≠ 3) (hf : widD (m + 1) l d = fin) (h1 : d.low ≤ d.code) (h2 : d.code ≤ d.high) (hw : 4294967296 < (d.high - d.low + 1) * 2 ^ (m + 1 + 1)) (ha : d.at_ + (m + 1) ≤ 1000000) (hs : RdS wr p (stepD l d) A n c N) (hg : w0.grownBy wr (some p)) : WidS w0 p A n c N l fin m wr := by
  obtain ⟨_, b1, b2, b3, b4, b5⟩ := stepD_facts (l := l) hok hk h1 h2
  refine ⟨stepD l d, hs, ?_, ⟨b5, b3⟩, b1, b2, ?_, ?_, hg⟩
  · unfold widD at hf; rwa [if_neg hk] at hf
  · rw [b4]
    rw [Nat.pow_succ 2 (m + 1)] at hw
    rw [Nat.mul_comm 2 (d.high - d.low + 1), Nat.mul_assoc, Nat.mul_comm 2]
    exact hw
  · show d.at_ + 1 + m ≤ 1000000; omega
theorem excess_t (low high k t : Nat) (w : World) (hk : kind low high = k) (ht : takeK k = t) (h3 : k ≠ 3) :
    Calls Tryz.prog 70 #[.agg #[.int .u32 (low : Int), .int .u32 (high : Int)]] w fun e w' => e = .returned (.tuple #[.int .u32 (t : Int), .bool true]) ∧ Below w.heap.size w w' := by
  have := excess_any low high k w hk
  unfold excT at this
  rw [ht, decide_eq_true h3] at this
  exact this
end Go.Proofs.YtgpdgegelipboaaGreatDoor.Cd
namespace Go.Proofs.YtgpdgegelipboaaGreatDoor.Cd
open Go.RowKit
theorem RdS.two {w : World} {p : Nat} {d : De} {A : Option Addr} {n c : Nat} {N : Int} (h : RdS w p d A n c N) : Two w p d.low d.high := ⟨h.cell 0, h.cell 1, h.frozen 0, h.frozen 1⟩
theorem RdS.next {w w' : World} {p : Nat} {d : De} {A : Option Addr} {n c : Nat} {N : Int} (h : RdS w p d A n c N) (hb : Below w.heap.size w w') : RdS w' p d A n c N := Blk.below h hb (Blk.lt h)
theorem RdS.iv {w : World} {p : Nat} {d : De} {A : Option Addr} {n c : Nat} {N : Int} (h : RdS w p d A n c N) (lo hi : Nat) : RdS ((w.setCell ⟨p, 0, none⟩ (.int .u32 (lo : Int))).setCell ⟨p, 1, none⟩ (.int .u32 (hi : Int))) p ⟨lo, hi, d.code, d.at_⟩ A n c N := (Blk.set_ (Blk.set_ h 0 _) 1 _)
theorem RdS.iv' {w : World} {p : Nat} {d : De} {A : Option Addr} {n c : Nat} {N : Int} (h : RdS w p d A n c N) (lo hi : Nat) : RdS ((w.setCell ⟨p, 1, none⟩ (.int .u32 (hi : Int))).setCell ⟨p, 0, none⟩ (.int .u32 (lo : Int))) p ⟨lo, hi, d.code, d.at_⟩ A n c N := (Blk.set_ (Blk.set_ h 1 _) 0 _)
theorem RdS.co {w : World} {p : Nat} {d : De} {A : Option Addr} {n c : Nat} {N : Int} (h : RdS w p d A n c N) (co : Nat) : RdS (w.setCell ⟨p, 2, none⟩ (.int .u32 (co : Int))) p ⟨d.low, d.high, co, d.at_⟩ A n c N := (Blk.set_ h 2 _)
theorem RdS.pl {w : World} {p : Nat} {d : De} {A : Option Addr} {n c : Nat} {N : Int} (h : RdS w p d A n c N) (a : Nat) : RdS (w.setCell ⟨p, 5, none⟩ (.int .i64 (a : Int))) p ⟨d.low, d.high, d.code, a⟩ A n c N := (Blk.set_ h 5 _)
set_option maxHeartbeats 2000000 in
theorem widen_r (w0 : World) (p m : Nat) (A : Option Addr) (n c : Nat) (N : Int) (l : List Bool) (fin : De) (w : World) (h : Hid (WidS w0 p A n c N l fin m w)) (hI : Hid (IsB w0 (.agg #[.slice A n c, .int .i64 N]) l)) (hA : Hid (∀ ad, A = some ad → 0 < n → ad.block ≠ p)) :
    Calls Tryz.prog 127 #[.pointer (some ⟨p, 0, none⟩)] w fun e w' => e = .returned (.tuple #[]) ∧ RdS w' p fin A n c N ∧ w0.grownBy w' (some p) := by
  go_enter Tryz.func127, Tryz.ntmps127
  go_wp2_with fail
  go_loopg [2] m (fun k _ wr => Hid (WidS w0 p A n c N l fin k wr))
  case atStart => exact h
  case round =>
    have HR := hrel
    clear hrel h
    obtain ⟨d, hs, hf, hok, hc1, hc2, hw, ha, hg⟩ := HR.out
    obtain ⟨c0, c1, -, -, -, -⟩ := hs.six
    have HS := Lib.hid hs
    have HF := Lib.hid hf
    have HOK := Lib.hid hok
    have HC1 := Lib.hid hc1
    have HC2 := Lib.hid hc2
    have HW := Lib.hid hw
    have HA := Lib.hid ha
    have HG := Lib.hid hg
    clear hs hf hok hc1 hc2 hw ha hg HR
    obtain ⟨kk, hkk⟩ : ∃ kk, kind d.low d.high = kk := ⟨_, rfl⟩
    by_cases h3 : kk = 3
    · subst h3
      have HE := Lib.hid (show d = fin from by
        have := HF.out
        cases gk with
        | zero => exact this
        | succ q => unfold widD at this; rwa [if_pos hkk] at this)
      go_wp2_with fail
      have hcon := excess_any d.low d.high 3 wr hkk
      rw [excT_3] at hcon
      refine hcon.mono ?_
      clear hcon hkk
      rintro ee w1 ⟨rfl, hb⟩
      have HS1 := Lib.hid (HS.out.next hb)
      have HG1 := Lib.hid (grown_trans HG.out (only_of_below hb (some p)))
      clear hb c0 c1
      go_wp2
      exact bodyPost_ret (v := .tuple #[]) (by simp [results, Tryz.results127, go_sem]) rfl ⟨rfl, by rw [← HE.out]; exact HS1.out, HG1.out⟩
    · cases gk with
      | zero => exact absurd (widS_zero HOK.out HW.out) (by omega)
      | succ q =>
        obtain ⟨tk, htk⟩ : ∃ tk, takeK kk = tk := ⟨_, rfl⟩
        have HKK := Lib.hid hkk
        have HTK := Lib.hid htk
        obtain ⟨g1, g2, g3, g4, g5, g6⟩ := stepD_facts (l := l) HOK.out (by omega) HC1.out HC2.out
        rw [hkk, htk] at g1
        go_wp2_with fail
        refine (excess_t d.low d.high kk tk wr hkk htk h3).mono ?_
        clear hkk htk
        rintro ee w1 ⟨rfl, hb⟩
        have HS1 := Lib.hid (HS.out.next hb)
        have HG1 := Lib.hid (grown_trans HG.out (only_of_below hb (some p)))
        clear hb HS HG c0 c1
        obtain ⟨lo, hlo⟩ : ∃ lo, lo = 2 * (d.low - tk) := ⟨_, rfl⟩
        obtain ⟨hi, hhi⟩ : ∃ hi, hi = 2 * (d.high - tk) + 1 := ⟨_, rfl⟩
        obtain ⟨b, hb⟩ : ∃ b, b = (bitF l d.at_).toNat := ⟨_, rfl⟩
        have b2 : b < 2 := by have := toNat_le (bitF l d.at_); omega
        obtain ⟨co, hco⟩ : ∃ co, co = 2 * (d.code - tk) + b := ⟨_, rfl⟩
        have HSD := Lib.hid (show stepD l d = ⟨lo, hi, co, d.at_ + 1⟩ by unfold stepD; rw [HKK.out, HTK.out, hlo, hhi, hco, hb])
        have l0 : lo ≤ co ∧ co ≤ hi ∧ hi < 4294967296 := by have e := HSD.out; rw [e] at g2 g3 g4; exact ⟨g2, g3, g4⟩
        obtain ⟨l1, l2, l3⟩ := l0
        have ok1 := HOK.out.1
        have ok2 := HOK.out.2
        have k1 := HC1.out
        have k2 := HC2.out
        have HLO := Lib.hid hlo
        have HHI := Lib.hid hhi
        have HCO := Lib.hid hco
        have HBT := Lib.hid hb
        clear g2 g3 g4 g5 g6 hlo hhi hco hb
        go_wp2_with fail
        with_reducible refine (double_n p d.low d.high tk lo hi (tk : Int) w1 rfl g1 (by omega) HLO.out HHI.out (by omega) l3 (by omega) ok2 (RdS.two HS1.out)).mono ?_
        rintro ee w2 ⟨rfl, rfl⟩
        have HS2 := Lib.hid (HS1.out.iv lo hi)
        have HG2 := Lib.hid (only_setCell (only_setCell HG1.out (p := ⟨p, 0, none⟩) (.inl rfl) (.int .u32 (lo : Int))) (p := ⟨p, 1, none⟩) (.inl rfl) (.int .u32 (hi : Int)))
        generalize ((w1.setCell ⟨p, 0, none⟩ (.int .u32 (lo : Int))).setCell ⟨p, 1, none⟩ (.int .u32 (hi : Int))) = w2 at HS2 HG2 ⊢
        clear HS1 HG1
        obtain ⟨co1, hco1⟩ : ∃ co1, co1 = d.code - tk := ⟨_, rfl⟩
        obtain ⟨co2, hco2⟩ : ∃ co2, co2 = co1 * 2 := ⟨_, rfl⟩
        have c1' : co2 < 4294967296 := by have := HCO.out; omega
        have c2' : co1 < 4294967296 := by omega
        have e1 : (d.code : Int) - (tk : Int) = (co1 : Int) := by omega
        have e2 : (co1 : Int) * 2 = (co2 : Int) := by omega
        have e3 : (co2 : Int) + (b : Int) = (co : Int) := by have := HCO.out; omega
        have v1 : IntKind.u32.wrap (co1 : Int) = (co1 : Int) := IntWalk.u32_in _ (by omega)
        have v2 : IntKind.u32.wrap (co2 : Int) = (co2 : Int) := IntWalk.u32_in _ (by omega)
        have v3 : IntKind.u32.wrap (co : Int) = (co : Int) := IntWalk.u32_in _ (by omega)
        clear hco1 hco2
        obtain ⟨-, -, x2, -, -, -⟩ := HS2.out.six
        have x3 := HS2.out.frozen 2
        have lp := HS2.out.lt
        have HI2 := Lib.hid (show IsB w2.drew (.agg #[.slice A n c, .int .i64 N]) l from isB_only hI.out (only_drew HG2.out) hA.out)
        have HS2d := Lib.hid (show RdS w2.drew p ⟨lo, hi, d.code, d.at_⟩ A n c N from HS2.out)
        dsimp only at x2
        go_wp2_with fail
        go_region_with (go_at_call 138; refine (bit_any p ⟨lo, hi, d.code, d.at_⟩ A n c N l b w2.drew HS2d HI2 HBT b2).mono ?_; rintro e w6 ⟨rfl, hb6⟩; have y2 : w6.cell? ⟨p, 2, none⟩ = some (.int .u32 (d.code : Int)) := (RdS.next HS2d.out hb6).cell 2; have y3 : w6.frozen? ⟨p, 2, none⟩ = false := (RdS.next HS2d.out hb6).frozen 2)
        all_goals
          have HS6 := Lib.hid (RdS.co (RdS.next HS2d.out hb6) co)
          have HG6 := Lib.hid (only_setCell (grown_trans (only_drew HG2.out) (only_of_below hb6 (some p))) (p := ⟨p, 2, none⟩) (.inl rfl) (.int .u32 (co : Int)))
          clear hb6 x2 x3 y2 y3 v1 v2 v3 e1 e2 e3
          generalize w6.setCell ⟨p, 2, none⟩ (.int .u32 (co : Int)) = w7 at HS6 HG6 ⊢
          obtain ⟨-, -, -, -, -, z5⟩ := HS6.out.six
          have z6 := HS6.out.frozen 5
          dsimp only at z5
          have a1 : d.at_ ≤ 1000000 := by have := HA.out; omega
          go_wp2
          have ea : (d.at_ : Int) + 1 = ((d.at_ + 1 : Nat) : Int) := by omega
          rw [ea]
          clear ea
          have HS8 := Lib.hid (RdS.pl HS6.out (d.at_ + 1))
          have HG8 := Lib.hid (only_setCell HG6.out (p := ⟨p, 5, none⟩) (.inl rfl) (.int .i64 ((d.at_ + 1 : Nat) : Int)))
          dsimp only at HS8
          generalize w7.setCell ⟨p, 5, none⟩ (.int .i64 ((d.at_ + 1 : Nat) : Int)) = w8 at HS8 HG8 ⊢
          go_roundg q
          case rel =>
            refine Lib.hid (WidS.step HOK.out (by rw [HKK.out]; exact h3) HF.out HC1.out HC2.out HW.out HA.out ?_ HG8.out)
            rw [HSD.out]
            exact HS8.out
          case measure => omega
end Go.Proofs.YtgpdgegelipboaaGreatDoor.Cd
namespace Go.Proofs.YtgpdgegelipboaaGreatDoor.Cd
open Go.RowKit
def symK (xs : List Int) (X : Nat) : Nat := (xs.drop 1).findIdx (fun y => decide ((X : Int) < y))
theorem symK_is {xs : List Int} (h : Fq.okF xs = true) {X k : Nat} (hk : Fq.IsSym xs (X : Int) k) : symK xs X = k := by
  obtain ⟨h1, h2, h3⟩ := hk
  unfold symK
  have hl : k < (xs.drop 1).length := by rw [List.length_drop]; omega
  have gd : ∀ j, (hj : j < (xs.drop 1).length) → (xs.drop 1)[j] = xs.getD (j + 1) 0 := by
    intro j hj
    rw [List.length_drop] at hj
    rw [List.getElem_drop]
    have : xs.getD (j + 1) 0 = xs[j + 1] := by simp [List.getD_eq_getElem?_getD, show j + 1 < xs.length by omega]
    rw [this]
    congr 1
    omega
  rw [List.findIdx_eq hl]
  refine ⟨by rw [gd k hl]; simpa using h3, fun j hj => ?_⟩
  rw [gd j (by omega)]
  have := Fq.mono_le h (i := j + 1) (j := k) (by omega) (by omega)
  exact decide_eq_false (by omega)
def FineD (d : De) : Prop := Ok d.low d.high ∧ kind d.low d.high = 3 ∧ d.low ≤ d.code ∧ d.code ≤ d.high
def narD (d : De) (a b T : Nat) : De := ⟨d.low + (d.high - d.low + 1) * a / T, d.low + (d.high - d.low + 1) * b / T - 1, d.code, d.at_⟩
def nxD (l : List Bool) (d : De) (a b T : Nat) : De := widD 40 l (narD d a b T)
theorem fineD_wid {d : De} (h : FineD d) : 1073741824 ≤ d.high - d.low + 1 ∧ d.high - d.low + 1 ≤ 4294967296 := wide_wid (e := ⟨d.low, d.high, 0, []⟩) h.1 h.2.1
theorem symX_lt {d : De} {T : Nat} (h : FineD d) (hT : 0 < T) : symX d T < T := by
  obtain ⟨w1, w2⟩ := fineD_wid h
  unfold symX
  rw [Nat.div_lt_iff_lt_mul (by omega)]
  have k1 : d.code - d.low + 1 ≤ d.high - d.low + 1 := by have := h.2.2.2; omega
  have k2 := Nat.mul_le_mul_right T k1
  have k3 : 0 < (d.code - d.low + 1) * T := Nat.mul_pos (by omega) hT
  rw [Nat.mul_comm T]
  omega
theorem narD_in {d : De} {a b T : Nat} (h : FineD d) (hS : Sp a b T) (h1 : a ≤ symX d T) (h2 : symX d T < b) :
    (narD d a b T).low ≤ d.code ∧ d.code ≤ (narD d a b T).high ∧ Ok (narD d a b T).low (narD d a b T).high ∧ 1 ≤ (d.high - d.low + 1) * b / T := by
  obtain ⟨w1, w2⟩ := fineD_wid h
  have hT : 0 < T := by have := hS.1; have := hS.2.1; omega
  obtain ⟨_, _, c1, c2⟩ := h
  have hn := nar_ok (e := ⟨d.low, d.high, 0, []⟩) (by assumption) (by assumption) hS
  have hb1 := (nar_parts hS (W := d.high - d.low + 1) (by omega)).1
  unfold symX at h1 h2
  rw [Nat.le_div_iff_mul_le (by omega)] at h1
  rw [Nat.div_lt_iff_lt_mul (by omega)] at h2
  have k3 : 0 < (d.code - d.low + 1) * T := Nat.mul_pos (by omega) hT
  have k1 : (d.high - d.low + 1) * a / T < d.code - d.low + 1 := by
    rw [Nat.div_lt_iff_lt_mul hT, Nat.mul_comm (d.high - d.low + 1) a]
    omega
  have k2 : d.code - d.low + 1 ≤ (d.high - d.low + 1) * b / T := by
    rw [Nat.le_div_iff_mul_le hT, Nat.mul_comm (d.high - d.low + 1) b]
    omega
  refine ⟨?_, ?_, hn.1, by omega⟩
  · show d.low + (d.high - d.low + 1) * a / T ≤ d.code; omega
  · show d.code ≤ d.low + (d.high - d.low + 1) * b / T - 1; omega
theorem widD_fine (m : Nat) {l : List Bool} : ∀ {d : De}, Ok d.low d.high → d.low ≤ d.code → d.code ≤ d.high → 4294967296 < (d.high - d.low + 1) * 2 ^ (m + 1) → FineD (widD m l d) ∧ (widD m l d).at_ ≤ d.at_ + m := by
  induction m with
  | zero =>
    intro d hok h1 h2 hw
    exact ⟨⟨hok, widS_zero hok hw, h1, h2⟩, by simp [widD]⟩
  | succ m ih =>
    intro d hok h1 h2 hw
    unfold widD
    by_cases hk : kind d.low d.high = 3
    · rw [if_pos hk]; exact ⟨⟨hok, hk, h1, h2⟩, by omega⟩
    · rw [if_neg hk]
      obtain ⟨_, b1, b2, b3, b4, b5⟩ := stepD_facts (l := l) hok hk h1 h2
      have := ih (d := stepD l d) ⟨b5, b3⟩ b1 b2 (by
        rw [b4]
        rw [Nat.pow_succ 2 (m + 1)] at hw
        rw [Nat.mul_comm 2 (d.high - d.low + 1), Nat.mul_assoc, Nat.mul_comm 2]
        exact hw)
      refine ⟨this.1, ?_⟩
      have e : (stepD l d).at_ = d.at_ + 1 := rfl
      have h3 := this.2
      omega
theorem nxD_fine {l : List Bool} {d : De} {a b T : Nat} (h : FineD d) (hS : Sp a b T) (h1 : a ≤ symX d T) (h2 : symX d T < b) : FineD (nxD l d a b T) ∧ (nxD l d a b T).at_ ≤ d.at_ + 40 := by
  obtain ⟨n1, n2, n3, _⟩ := narD_in h hS h1 h2
  refine widD_fine 40 n3 n1 n2 ?_
  rw [pow41]
  omega
theorem fineD0 (l : List Bool) : FineD (d0 l) := ⟨⟨by show (0 : Nat) ≤ 4294967295; omega, by show (4294967295 : Nat) < 4294967296; omega⟩, by show kind 0 4294967295 = 3; decide, Nat.zero_le _, by have := val_lt l 32; rw [pow32] at this; show val l 32 ≤ 4294967295; omega⟩
theorem okF_tot {xs : List Int} (h : Fq.okF xs = true) : 1 ≤ spT xs ∧ spT xs ≤ 16384 ∧ Fq.totF true xs = (spT xs : Int) := by
  have hp := Fq.okF_parts h
  have b3 := Fq.okF_bd h (i := xs.length - 1) (by omega)
  have m2 := Fq.okF_mono h (i := 0) (j := xs.length - 1) (by omega) (by omega)
  unfold spT Fq.totF
  simp only [if_true]
  omega
def nxK (d : De) (xs : List Int) : Nat := symK xs (symX d (spT xs))
def nxQ (d : De) (xs : List Int) : Pr := ((nxK d xs : Int), xs)
def nxE (l : List Bool) (d : De) (xs : List Int) : De := nxD l d (spA (nxQ d xs)) (spB (nxQ d xs)) (spT xs)
theorem next_sym {d : De} {xs : List Int} (h : FineD d) (ho : Fq.okF xs = true) : Fq.IsSym xs (symX d (spT xs) : Int) (nxK d xs) ∧ okP (nxQ d xs) = true ∧ spA (nxQ d xs) ≤ symX d (spT xs) ∧ symX d (spT xs) < spB (nxQ d xs) ∧ nxK d xs + 1 < xs.length := by
  obtain ⟨t1, t2, t3⟩ := okF_tot ho
  have hx := symX_lt h (T := spT xs) (by omega)
  have ht : xs.getD (xs.length - 1) 0 = (spT xs : Int) := t3
  obtain ⟨k, hk⟩ := Fq.isSym_some (x := (symX d (spT xs) : Int)) ho (by omega) (by rw [ht]; omega)
  have e : nxK d xs = k := symK_is ho hk
  rw [← e] at hk
  obtain ⟨h1, h2, h3⟩ := hk
  have e1 : (nxQ d xs).1 = (nxK d xs : Int) := rfl
  have e2 : (nxQ d xs).2 = xs := rfl
  have b1 := Fq.okF_bd ho (i := nxK d xs) (by omega)
  have b2 := Fq.okF_bd ho (i := nxK d xs + 1) h1
  refine ⟨⟨h1, h2, h3⟩, ?_, ?_, ?_, h1⟩
  · unfold okP Fq.symB
    rw [e1, e2, ho]
    simp only [Bool.true_and, decide_eq_true_eq]
    omega
  · unfold spA
    rw [e1, e2, Int.toNat_natCast]
    omega
  · unfold spB
    rw [e1, e2, Int.toNat_natCast]
    omega
theorem nxE_fine {l : List Bool} {d : De} {xs : List Int} (h : FineD d) (ho : Fq.okF xs = true) : FineD (nxE l d xs) ∧ (nxE l d xs).at_ ≤ d.at_ + 40 := by
  obtain ⟨_, h1, h2, h3, _⟩ := next_sym h ho
  exact nxD_fine h (symP_of h1).2.2.2 h2 h3
end Go.Proofs.YtgpdgegelipboaaGreatDoor.Cd
namespace Go.Proofs.YtgpdgegelipboaaGreatDoor.Cd
open Go.RowKit
def NxS (w : World) (p bf : Nat) (d : De) (A : Option Addr) (n c : Nat) (N : Int) (C : Option Addr) (m dd : Nat) (xs : List Int) (u : World) : Prop :=
  RdS u p d A n c N ∧ Blk u bf 40 #[.slice C m dd] ∧ Fq.RdI u C m xs ∧ Below w.heap.size w u
section
variable {w : World} {p bf : Nat} {d : De} {A : Option Addr} {n c : Nat} {N : Int} {C : Option Addr} {m dd : Nat} {xs : List Int} {u u' : World}
theorem NxS.next (h : NxS w p bf d A n c N C m dd xs u) (hb : Below u.heap.size u u') : NxS w p bf d A n c N C m dd xs u' :=
  ⟨h.1.next hb, h.2.1.below hb h.2.1.lt, h.2.2.1.below hb, h.2.2.2.trans (hb.mono h.2.2.2.size)⟩
theorem NxS.drew (h : NxS w p bf d A n c N C m dd xs u) : NxS w p bf d A n c N C m dd xs u.drew := ⟨h.1, h.2.1, h.2.2.1, Below.drew h.2.2.2⟩
theorem NxS.drewN (h : NxS w p bf d A n c N C m dd xs u) (k : Nat) : NxS w p bf d A n c N C m dd xs (u.drewN k) := ⟨h.1, h.2.1, h.2.2.1, below_drewN h.2.2.2 k⟩
theorem nxs_start (h : RdS w p d A n c N) (hx : Fq.RdI w C m xs) : NxS w p w.heap.size d A n c N C m dd xs (w.alloc (.cells #[.slice C m dd] 40)) :=
  ⟨Blk.alloc h _, Blk.new w _ _, hx.alloc _, (Below.refl w.heap.size w).alloc (Nat.le_refl _) _⟩
end
theorem next_bad (p : Nat) (d : De) (A : Option Addr) (n c : Nat) (N : Int) (C : Option Addr) (m dd : Nat) (xs : List Int) (w : World) (hs : Hid (RdS w p d A n c N)) (hx : Hid (Fq.RdI w C m xs)) (hm : Hid (m ≤ maxLen)) (hok : Hid (Fq.okF xs = false)) :
    Calls Tryz.prog 97 #[.pointer (some ⟨p, 0, none⟩), .agg #[.slice C m dd]] w fun e w' => e = .returned (.tuple #[.int .i64 0, .int .i64 1]) ∧ Below w.heap.size w w' := by
  have H0 := Lib.hid (nxs_start (dd := dd) hs.out hx.out)
  go_enter Tryz.func97, Tryz.ntmps97
  go_wp2_with fail
  generalize w.alloc (.cells #[.slice C m dd] 40) = w0 at H0 ⊢
  refine (Fq.check_any C m dd xs false w0 (Lib.hid H0.out.2.2.1) hm.out hok.out).mono ?_
  rintro e w1 ⟨rfl, hb1⟩
  have H1 := Lib.hid (H0.out.next hb1)
  clear hb1 H0
  rw [show Fq.errN false = 1 from rfl]
  go_wp2
  go_ret2
  exact ⟨rfl, H1.out.2.2.2⟩
set_option maxHeartbeats 1000000 in
theorem next_short (p : Nat) (d : De) (A : Option Addr) (n c L : Nat) (C : Option Addr) (m dd : Nat) (xs : List Int) (w : World) (hs : Hid (RdS w p d A n c (L : Int))) (hL : L ≤ 65536) (ha : L + 32 < d.at_) (_ha2 : d.at_ ≤ 1000000) (hx : Hid (Fq.RdI w C m xs)) (hm : Hid (m ≤ maxLen)) (hok : Hid (Fq.okF xs = true)) :
    Calls Tryz.prog 97 #[.pointer (some ⟨p, 0, none⟩), .agg #[.slice C m dd]] w fun e w' => e = .returned (.tuple #[.int .i64 0, .int .i64 20]) ∧ Below w.heap.size w w' := by
  have H0 := Lib.hid (nxs_start (dd := dd) hs.out hx.out)
  obtain ⟨L3, hL3⟩ : ∃ L3, L3 = L + 32 := ⟨_, rfl⟩
  have eL : (L : Int) + 32 = (L3 : Int) := by omega
  have v1 : IntKind.i64.wrap (L3 : Int) = (L3 : Int) := IntWalk.i64_in _ (by omega)
  have dd1 : decide (L3 < d.at_) = true := by simp; omega
  have dd2 : decide ((L3 : Int) < (d.at_ : Int)) = true := by simp; omega
  clear hL3
  have EL := Lib.hid eL
  have V1 := Lib.hid v1
  clear eL v1
  go_enter Tryz.func97, Tryz.ntmps97
  go_wp2_with fail
  generalize w.alloc (.cells #[.slice C m dd] 40) = w0 at H0 ⊢
  refine (Fq.check_any C m dd xs true w0 (Lib.hid H0.out.2.2.1) hm.out hok.out).mono ?_
  rintro e w1 ⟨rfl, hb1⟩
  have H1 := Lib.hid (H0.out.next hb1)
  clear hb1 H0
  rw [show Fq.errN true = 0 from rfl]
  obtain ⟨-, -, -, -, x4, x5⟩ := H1.out.1.six
  have eL := EL.out
  have v1 := V1.out
  go_wp2_with fail
  go_quiet (fail)
  go_wp2
  go_ret2
  exact ⟨rfl, below_drewN H1.out.2.2.2 _⟩
end Go.Proofs.YtgpdgegelipboaaGreatDoor.Cd
namespace Go.Proofs.YtgpdgegelipboaaGreatDoor.Cd
open Go.RowKit
def NxP (w : World) (p : Nat) (k : Nat) (fin : De) (A : Option Addr) (n c : Nat) (N : Int) (e : Ending) (w' : World) : Prop :=
  e = .returned (.tuple #[.int .i64 (k : Int), .int .i64 0]) ∧ RdS w' p fin A n c N ∧ w.grownBy w' (some p)
set_option maxHeartbeats 4000000 in
theorem next_ok (p : Nat) (d : De) (A : Option Addr) (n c L : Nat) (l : List Bool) (C : Option Addr) (m dd : Nat) (xs : List Int) (w : World) (hs : Hid (RdS w p d A n c (L : Int))) (hI : Hid (IsB w (.agg #[.slice A n c, .int .i64 (L : Int)]) l)) (hA : Hid (∀ ad, A = some ad → 0 < n → ad.block ≠ p)) (hL : L ≤ 65536) (hd : Hid (FineD d)) (ha : d.at_ ≤ L + 32) (hx : Hid (Fq.RdI w C m xs)) (hm : Hid (m ≤ maxLen)) (hok : Hid (Fq.okF xs = true)) :
    Calls Tryz.prog 97 #[.pointer (some ⟨p, 0, none⟩), .agg #[.slice C m dd]] w (NxP w p (nxK d xs) (nxE l d xs) A n c (L : Int)) := by
  obtain ⟨T, hT⟩ : ∃ T, T = spT xs := ⟨_, rfl⟩
  obtain ⟨X, hX⟩ : ∃ X, X = symX d T := ⟨_, rfl⟩
  obtain ⟨K, hK⟩ : ∃ K, K = nxK d xs := ⟨_, rfl⟩
  obtain ⟨t1, t2, t3⟩ := okF_tot hok.out
  obtain ⟨y1, y2, y3, y4, y5⟩ := next_sym hd.out hok.out
  have hxl := symX_lt hd.out (T := T) (by omega)
  rw [← hT] at t1 t2 t3 y1 y3 y4
  rw [← hX] at hxl y1 y3 y4
  obtain ⟨a, hav⟩ : ∃ a, a = spA (nxQ d xs) := ⟨_, rfl⟩
  obtain ⟨b, hbv⟩ : ∃ b, b = spB (nxQ d xs) := ⟨_, rfl⟩
  have HSY := Lib.hid (show symP xs (K : Int) a b T from by have := symP_of y2; rw [hav, hbv, hT, hK]; exact this)
  have HY1 := Lib.hid (show Fq.IsSym xs (X : Int) K by rw [hK]; exact y1)
  rw [← hav] at y3
  rw [← hbv] at y4
  obtain ⟨n1, n2, n3, n4⟩ := narD_in hd.out HSY.out.2.2.2 (show a ≤ symX d T by rw [← hX]; exact y3) (show symX d T < b by rw [← hX]; exact y4)
  have HFIN := Lib.hid (show nxE l d xs = nxD l d a b T by unfold nxE; rw [hav, hbv, hT])
  have HKK := Lib.hid hK
  obtain ⟨lo, hlo⟩ : ∃ lo, lo = d.low + (d.high - d.low + 1) * a / T := ⟨_, rfl⟩
  obtain ⟨hi, hhi⟩ : ∃ hi, hi = d.low + (d.high - d.low + 1) * b / T - 1 := ⟨_, rfl⟩
  have HN1 := Lib.hid (show lo ≤ d.code ∧ d.code ≤ hi ∧ lo ≤ hi ∧ hi < 4294967296 by rw [hlo, hhi]; exact ⟨n1, n2, n3.1, n3.2⟩)
  have HND := Lib.hid (show narD d a b T = ⟨lo, hi, d.code, d.at_⟩ by unfold narD; rw [hlo, hhi])
  have HLO := Lib.hid hlo
  have HHI := Lib.hid hhi
  have HB1 := Lib.hid n4
  obtain ⟨o1, o2⟩ := hd.out.1
  have k1 := hd.out.2.2.1
  have k2 := hd.out.2.2.2
  obtain ⟨w1', w2'⟩ := fineD_wid hd.out
  -- letters
  obtain ⟨W, hW⟩ : ∃ W, W = d.high - d.low + 1 := ⟨_, rfl⟩
  rw [← hW] at w1' w2'
  have HWW := Lib.hid hW
  obtain ⟨c1, hc1⟩ : ∃ c1, c1 = d.code - d.low := ⟨_, rfl⟩
  obtain ⟨c2, hc2⟩ : ∃ c2, c2 = c1 + 1 := ⟨_, rfl⟩
  obtain ⟨pr, hpr⟩ : ∃ pr, pr = c2 * T := ⟨_, rfl⟩
  obtain ⟨pq, hpq⟩ : ∃ pq, pq = pr - 1 := ⟨_, rfl⟩
  have c2b : c2 ≤ 4294967296 := by omega
  have prb : pr ≤ 70368744177664 := by rw [hpr]; exact Nat.le_trans (Nat.mul_le_mul c2b t2) (by omega)
  have pr1 : 1 ≤ pr := by rw [hpr]; exact Nat.mul_pos (by omega) (by omega)
  have hXq : X = pq / W := by rw [hX, hpq, hpr, hc2, hc1, hW]; rfl
  have E1 := Lib.hid (show (d.code : Int) - (d.low : Int) = (c1 : Int) by omega)
  have E2 := Lib.hid (show (c1 : Int) + 1 = (c2 : Int) by omega)
  have E3 := Lib.hid (show (c2 : Int) * (T : Int) = (pr : Int) by rw [hpr]; simp)
  have E4 := Lib.hid (show (pr : Int) - 1 = (pq : Int) by omega)
  have E5 := Lib.hid (show (pq : Int) / (W : Int) = (X : Int) by rw [hXq]; simp)
  have c1b : c1 < 4294967296 := by omega
  have X2 : X < 16384 := by omega
  have K2 : K ≤ 300 := by have := HY1.out.1; have := (Fq.okF_parts hok.out).2.1; omega
  have W0 : ¬ (W : Int) = 0 := by omega
  have W0' : ((W : Int) == 0) = false := by simp; omega
  have W1' : ¬ W = 0 := by omega
  have W2' : (W == 0) = false := by simp; omega
  obtain ⟨L3, hL3⟩ : ∃ L3, L3 = L + 32 := ⟨_, rfl⟩
  have EL := Lib.hid (show (L : Int) + 32 = (L3 : Int) by omega)
  have VL := Lib.hid (show IntKind.i64.wrap (L3 : Int) = (L3 : Int) from IntWalk.i64_in _ (by omega))
  have dd1 : decide (L3 < d.at_) = false := by simp; omega
  have dd2 : decide ((L3 : Int) < (d.at_ : Int)) = false := by simp; omega
  have pqb : pq ≤ 70368744177664 := by omega
  have HT := Lib.hid t3
  have XT : X < T := hxl
  clear hT hX hK y1 y2 y3 y4 y5 hav hbv hlo hhi n1 n2 n3 n4 hW hc1 hc2 hpr hpq hXq hL3 t3 hxl
  have H0 := Lib.hid (nxs_start (dd := dd) hs.out hx.out)
  go_enter Tryz.func97, Tryz.ntmps97
  go_wp2_with fail
  generalize w.alloc (.cells #[.slice C m dd] 40) = w0 at H0 ⊢
  obtain ⟨bf, hbf⟩ : ∃ bf, bf = w.heap.size := ⟨_, rfl⟩
  rw [← hbf] at H0 ⊢
  clear hbf
  refine (Fq.check_any C m dd xs true w0 (Lib.hid H0.out.2.2.1) hm.out hok.out).mono ?_
  rintro e w1 ⟨rfl, hb1⟩
  have H1 := Lib.hid (H0.out.next hb1)
  clear hb1 H0
  rw [show Fq.errN true = 0 from rfl]
  obtain ⟨-, -, -, -, x4, x5⟩ := H1.out.1.six
  have eL := EL.out
  have v1 := VL.out
  go_wp2_with fail
  go_quiet (fail)
  clear x4 x5 eL v1
  have H2 := Lib.hid (H1.out.drewN nq)
  generalize w1.drewN nq = w2 at H2 ⊢
  clear H1
  obtain ⟨x0, -, x2, -, -, -⟩ := H2.out.1.six
  have e1 := E1.out
  have e2 := E2.out
  have v1 : IntKind.u32.wrap (c1 : Int) = (c1 : Int) := IntWalk.u32_in _ (by omega)
  have v2 : IntKind.u64.wrap (c1 : Int) = (c1 : Int) := IntWalk.u64_in _ (by omega)
  have v3 : IntKind.u64.wrap (c2 : Int) = (c2 : Int) := IntWalk.u64_in _ (by omega)
  go_wp2_with fail
  go_quiet (fail)
  clear x0 x2 e1 e2 v1 v2 v3
  have H3 := Lib.hid (H2.out.drewN nq)
  generalize w2.drewN nq = w3 at H3 ⊢
  clear H2
  go_wp2_with fail
  obtain ⟨x0, x1, -, -, -, -⟩ := H3.out.1.six
  have x3 := Fq.blk0 H3.out.2.1
  have v1 : IntKind.u64.wrap (T : Int) = (T : Int) := IntWalk.u64_in _ (by omega)
  have v2 : IntKind.u64.wrap (pr : Int) = (pr : Int) := IntWalk.u64_in _ (by omega)
  have v3 : IntKind.u64.wrap (pq : Int) = (pq : Int) := IntWalk.u64_in _ (by omega)
  have v4 : IntKind.u64.wrap (X : Int) = (X : Int) := IntWalk.u64_in _ (by omega)
  have e3 := E3.out
  have e4 := E4.out
  have e5 := E5.out
  have e6 : Int.tdiv (pq : Int) (W : Int) = (X : Int) := by rw [Int.tdiv_eq_ediv_of_nonneg (by omega)]; exact e5
  have C1 := Lib.hid (show ∀ u, NxS w p bf d A n c (L : Int) C m dd xs u → Calls Tryz.prog 104 #[.agg #[.slice C m dd]] u (fun e w' => e = .returned (.int .i64 (T : Int)) ∧ NxS w p bf d A n c (L : Int) C m dd xs w') from fun u h =>
    (Fq.total_any C m dd xs true (T : Int) u (Lib.hid h.2.2.1) hm.out hok.out HT.out).mono fun e w' ⟨h1, h2⟩ => ⟨h1, h.next h2⟩)
  have C2 := Lib.hid (show ∀ u, NxS w p bf d A n c (L : Int) C m dd xs u → Calls Tryz.prog 103 #[.agg #[.int .u32 (d.low : Int), .int .u32 (d.high : Int)]] u (fun e w' => e = .returned (.int .u64 (W : Int)) ∧ NxS w p bf d A n c (L : Int) C m dd xs w') from fun u h =>
    (size_any d.low d.high W u o1 o2 HWW).mono fun e w' ⟨h1, h2⟩ => ⟨h1, h.next h2⟩)
  go_region_held3 (fun w' => w'.cell? ⟨p, 0, none⟩ = some (.int .u32 (d.low : Int)) ∧ w'.cell? ⟨p, 1, none⟩ = some (.int .u32 (d.high : Int)) ∧ w'.cell? ⟨bf, 0, none⟩ = some (.slice C m dd) ∧ NxS w p bf d A n c (L : Int) C m dd xs w') (first | exact ⟨hQ.1.six.1, hQ.1.six.2.1, Fq.blk0 hQ.2.1, hQ⟩ | exact ⟨x0, x1, x3, H3.out⟩ | exact ⟨x0, x1, x3, H3.out.drew⟩) (first
    | (go_at_call 104; refine (C1.out _ (by first | exact hQ | exact H3.out | exact H3.out.drew)).mono ?_; rintro e w6 ⟨rfl, hQ⟩)
    | (go_at_call 103; refine (C2.out _ (by first | exact hQ | exact H3.out | exact H3.out.drew)).mono ?_; rintro e w6 ⟨rfl, hQ⟩))
  all_goals
    have HQ := Lib.hid hQ
    clear hQ x0 x1 x3 v1 v2 v3 v4 e3 e4 e5 e6 C1 C2
    go_wp2_with fail
    refine (Fq.find_yes C m dd K xs (X : Int) (T : Int) w6 (Lib.hid HQ.out.2.2.1) hok HY1 (by omega) HT (by omega) (by omega)).mono ?_
    rintro e w7 ⟨rfl, hb7⟩
    have H7 := Lib.hid (HQ.out.next hb7)
    clear hb7 HQ H3
    unfold Fq.findT
    have x3 := Fq.blk0 H7.out.2.1
    go_wp2_with fail
    go_region_with (go_at_call 73; refine (narrow_ok p d.low d.high a b T lo hi C m dd xs (K : Int) w7.drew o1 o2 (Lib.hid H7.out.drew.2.2.1) hm HSY (Lib.hid (RdS.two H7.out.drew.1)) HLO HHI HB1 HN1.out.2.2.1 HN1.out.2.2.2).mono ?_; rintro e w8 ⟨rfl, w9, hb9, rfl⟩)
    have HS9 := Lib.hid (RdS.iv' (H7.out.drew.1.next hb9) lo hi)
    have HG9 := Lib.hid (only_setCell (only_setCell (only_of_below (H7.out.drew.2.2.2.trans (hb9.mono H7.out.drew.2.2.2.size)) (some p)) (p := ⟨p, 1, none⟩) (.inl rfl) (.int .u32 (hi : Int))) (p := ⟨p, 0, none⟩) (.inl rfl) (.int .u32 (lo : Int)))
    clear hb9 x3 H7
    generalize (w9.setCell ⟨p, 1, none⟩ (.int .u32 (hi : Int))).setCell ⟨p, 0, none⟩ (.int .u32 (lo : Int)) = w10 at HS9 HG9 ⊢
    have HWD := Lib.hid (show WidS w p A n c (L : Int) l (nxD l d a b T) 40 w10 from by
      refine ⟨⟨lo, hi, d.code, d.at_⟩, HS9.out, by unfold nxD; rw [HND.out], ⟨HN1.out.2.2.1, HN1.out.2.2.2⟩, HN1.out.1, HN1.out.2.1, ?_, ?_, HG9.out⟩
      · rw [pow41]; omega
      · show d.at_ + 40 ≤ 1000000; omega)
    clear HS9 HG9
    go_wp2_with fail
    with_reducible refine (widen_r w p 40 A n c (L : Int) l (nxD l d a b T) w10 HWD hI hA).mono ?_
    rintro e w11 ⟨rfl, hs11, hg11⟩
    have HS11 := Lib.hid hs11
    have HG11 := Lib.hid hg11
    clear hs11 hg11 HWD
    go_wp2
    go_ret2
    exact ⟨by rw [← HKK.out]; rfl, by rw [HFIN.out]; exact HS11.out, HG11.out⟩
end Go.Proofs.YtgpdgegelipboaaGreatDoor.Cd
namespace Go.Proofs.YtgpdgegelipboaaGreatDoor.Cd
open Go.RowKit
def stD (l : List Bool) (d : De) (fs : List (List Int)) : De := fs.foldl (nxE l) d
theorem stD_snoc (l : List Bool) (d : De) (fs : List (List Int)) (xs : List Int) : stD l d (fs ++ [xs]) = nxE l (stD l d fs) xs := by simp [stD]
def backErr (l : List Bool) (d : De) : List (List Int) → Int
  | [] => 0
  | xs :: r => if Fq.okF xs = true then (if l.length + 32 < d.at_ then 20 else backErr l (nxE l d xs) r) else 1
theorem backErr_no {l : List Bool} {d : De} {xs : List Int} {r : List (List Int)} (h : Fq.okF xs = false) : backErr l d (xs :: r) = 1 := by unfold backErr; rw [h]; rfl
theorem backErr_short {l : List Bool} {d : De} {xs : List Int} {r : List (List Int)} (h : Fq.okF xs = true) (h2 : l.length + 32 < d.at_) : backErr l d (xs :: r) = 20 := by unfold backErr; rw [if_pos h, if_pos h2]
theorem backErr_ok {l : List Bool} {d : De} {xs : List Int} {r : List (List Int)} (h : Fq.okF xs = true) (h2 : d.at_ ≤ l.length + 32) : backErr l d (xs :: r) = backErr l (nxE l d xs) r := by rw [backErr, if_pos h, if_neg (by omega)]
def symL (l : List Bool) (d : De) (fs : List (List Int)) : List Int := (List.range fs.length).map fun k => (nxK (stD l d (fs.take k)) (fs.getD k []) : Int)
theorem symL_length (l : List Bool) (d : De) (fs : List (List Int)) : (symL l d fs).length = fs.length := by simp [symL]
theorem symL_take (l : List Bool) (d : De) (fs : List (List Int)) (k : Nat) (xs : List Int) (h : fs[k]? = some xs) : (symL l d fs).take (k + 1) = (symL l d fs).take k ++ [(nxK (stD l d (fs.take k)) xs : Int)] := by
  obtain ⟨hk, e⟩ := List.getElem?_eq_some_iff.1 h
  have hl : k < (symL l d fs).length := by rw [symL_length]; exact hk
  rw [List.take_succ_eq_append_getElem hl]
  congr 2
  simp [symL, List.getD_eq_getElem?_getD, hk, e]
def tbs (ts : List Tb) : List (List Int) := ts.map (·.xs)
structure BkR (w : World) (l : List Bool) (p g n8 c N m k : Nat) (A : Option Addr) (fs : List (List Int)) (wr : World) : Prop where
  rd : RdS wr p (stD l (d0 l) (fs.take k)) A n8 c (N : Int)
  fine : FineD (stD l (d0 l) (fs.take k))
  far : (stD l (d0 l) (fs.take k)).at_ ≤ N + 72
  err : backErr l (d0 l) fs = backErr l (stD l (d0 l) (fs.take k)) (fs.drop k)
  zs : ∃ zs, zs.length = m ∧ zs.take k = (symL l (d0 l) fs).take k ∧ Blk wr g 3 (Fq.icells zs)
  hp : w.heap.size ≤ p
  hg : w.heap.size ≤ g
  ne : g ≠ p
  blw : Below w.heap.size w wr
end Go.Proofs.YtgpdgegelipboaaGreatDoor.Cd
namespace Go.Proofs.YtgpdgegelipboaaGreatDoor.Cd
open Go.RowKit
section
variable {w : World} {l : List Bool} {p g n8 c N m k : Nat} {A : Option Addr} {fs : List (List Int)} {wr w' : World}
theorem BkR.next (h : BkR w l p g n8 c N m k A fs wr) (hb : Below wr.heap.size wr w') : BkR w l p g n8 c N m k A fs w' := by
  obtain ⟨zs, z1, z2, z3⟩ := h.zs
  exact ⟨h.rd.next hb, h.fine, h.far, h.err, ⟨zs, z1, z2, z3.below hb z3.lt⟩, h.hp, h.hg, h.ne, h.blw.trans (hb.mono h.blw.size)⟩
theorem BkR.step {xs : List Int} {w2 : World} (h : BkR w l p g n8 c N m k A fs wr) (hN : N = l.length) (hx : fs[k]? = some xs) (hd : fs.drop k = xs :: fs.drop (k + 1)) (ht : fs.take (k + 1) = fs.take k ++ [xs]) (ho : Fq.okF xs = true) (ha : (stD l (d0 l) (fs.take k)).at_ ≤ N + 32) (hk : k < m)
    (hs : RdS w2 p (nxE l (stD l (d0 l) (fs.take k)) xs) A n8 c (N : Int)) (hg : wr.grownBy w2 (some p)) :
    BkR w l p g n8 c N m (k + 1) A fs (w2.setCell ⟨g, k, none⟩ (.int .i64 ((nxK (stD l (d0 l) (fs.take k)) xs : Nat) : Int))) := by
  obtain ⟨zs, z1, z2, z3⟩ := h.zs
  obtain ⟨f1, f2⟩ := nxE_fine (l := l) h.fine ho
  refine ⟨?_, ?_, ?_, ?_, ⟨zs.set k ((nxK (stD l (d0 l) (fs.take k)) xs : Nat) : Int), by simp [z1], ?_, Fq.blk_put (z3.only hg h.ne) _ _⟩, h.hp, h.hg, h.ne, ?_⟩
  · rw [ht, stD_snoc]
    exact Blk.far hs (fun e => h.ne e.symm) _
  · rw [ht, stD_snoc]; exact f1
  · rw [ht, stD_snoc]; omega
  · rw [h.err, hd, backErr_ok ho (by omega), ht, stD_snoc]
  · rw [symL_take l (d0 l) fs k xs hx, List.take_succ_eq_append_getElem (by simp [z1]; omega), List.take_set_of_le (Nat.le_refl _), z2]
    simp
  · exact (h.blw.grown hg h.blw.size (fun j hj => by injection hj with hj; rw [← hj]; exact h.hp)).setCell h.hg _
end
end Go.Proofs.YtgpdgegelipboaaGreatDoor.Cd
namespace Go.Proofs.YtgpdgegelipboaaGreatDoor.Cd
open Go.RowKit
theorem symL_cons (l : List Bool) (d : De) (xs : List Int) (r : List (List Int)) : symL l d (xs :: r) = (nxK d xs : Int) :: symL l (nxE l d xs) r := by
  unfold symL
  rw [List.length_cons, List.range_succ_eq_map, List.map_cons, List.map_map]
  rfl
theorem in_back {inp : List Bool} {ps : List Pr} : ∀ {e : En}, Fine e → allErr e ps = 0 → In inp (stE e ps) → In inp e := by
  induction ps with
  | nil => intro e _ _ h; exact h
  | cons q r ih =>
    intro e h h0 hi
    cases hq : okP q with
    | false => rw [allErr_no hq] at h0; cases h0
    | true =>
      rcases putC_cases (put1 e q) with ⟨c, _, _⟩ | c
      · rw [allErr_ok hq c] at h0
        rw [stE_cons] at hi
        exact (In.put h.1 h.2.1 (symP_of hq).2.2.2 (ih (h.put hq c) h0 hi)).2
      · rw [allErr_long hq c] at h0; cases h0
theorem len_mono {ps : List Pr} : ∀ {e : En}, Fine e → allErr e ps = 0 → len e ≤ len (stE e ps) := by
  induction ps with
  | nil => intro e _ _; exact Nat.le_refl _
  | cons q r ih =>
    intro e h h0
    cases hq : okP q with
    | false => rw [allErr_no hq] at h0; cases h0
    | true =>
      rcases putC_cases (put1 e q) with ⟨c, _, _⟩ | c
      · rw [allErr_ok hq c] at h0
        have h1 := ih (h.put hq c) h0
        obtain ⟨_, _, k, hk, _⟩ := put_facts h.1 h.2.1 (symP_of hq).2.2.2
        rw [stE_cons]
        have : len (put1 e q) = len e + k := hk
        omega
      · rw [allErr_long hq c] at h0; cases h0
theorem next_back {inp : List Bool} {e : En} {d : De} {q : Pr} (h : Fine e) (hq : okP q = true) (hs : Sync inp e d) (hi : In inp (put1 e q)) : (nxK d q.2 : Int) = q.1 ∧ Sync inp (put1 e q) (nxE inp d q.2) := by
  have hsp := symP_of hq
  obtain ⟨y1, y2, y3, y4, y5⟩ := next_sync h.1 h.2.1 hsp.2.2.2 hi hs
  have hq' := hq
  unfold okP Fq.symB at hq'
  simp only [Bool.and_eq_true, decide_eq_true_eq] at hq'
  obtain ⟨hok, h0, h1⟩ := hq'
  have b1 := Fq.okF_bd hok (i := q.1.toNat) (by omega)
  have b2 := Fq.okF_bd hok (i := q.1.toNat + 1) (by omega)
  have hk : nxK d q.2 = q.1.toNat := symK_is hok ⟨by omega, by unfold spA at y1; omega, by unfold spB at y2; omega⟩
  have hk2 : (nxK d q.2 : Int) = q.1 := by rw [hk]; omega
  refine ⟨hk2, ?_⟩
  have eq : nxQ d q.2 = q := by unfold nxQ; rw [hk2]
  have e1 : nxE inp d q.2 = widD 40 inp ⟨(nar e (spA q) (spB q) (spT q.2)).low, (nar e (spA q) (spB q) (spT q.2)).high, d.code, d.at_⟩ := by
    unfold nxE nxD narD
    rw [eq, hs.1, hs.2.1]
    rfl
  rw [e1]
  exact y5
theorem back_all {inp : List Bool} {ps : List Pr} : ∀ {e : En} {d : De}, Fine e → allErr e ps = 0 → Sync inp e d → In inp (stE e ps) → len (stE e ps) ≤ inp.length → backErr inp d (ps.map (·.2)) = 0 ∧ symL inp d (ps.map (·.2)) = ps.map (·.1) := by
  induction ps with
  | nil => intro e d _ _ _ _ _; exact ⟨rfl, rfl⟩
  | cons q r ih =>
    intro e d h h0 hs hi hl
    have hlm := len_mono h h0
    cases hq : okP q with
    | false => rw [allErr_no hq] at h0; cases h0
    | true =>
      rcases putC_cases (put1 e q) with ⟨c, _, _⟩ | c
      · rw [allErr_ok hq c] at h0
        rw [stE_cons] at hi hl hlm
        have hi1 := in_back (h.put hq c) h0 hi
        obtain ⟨n1, n2⟩ := next_back h hq hs hi1
        obtain ⟨r1, r2⟩ := ih (h.put hq c) h0 n2 hi hl
        have hok : Fq.okF q.2 = true := (symP_of hq).2.1
        have hat : d.at_ ≤ inp.length + 32 := by rw [hs.2.2.1]; omega
        rw [List.map_cons, List.map_cons, backErr_ok hok hat, symL_cons, n1, r2]
        exact ⟨r1, rfl⟩
      · rw [allErr_long hq c] at h0; cases h0
theorem all_back {ps : List Pr} (h0 : allErr e0 ps = 0) (tail : List Bool) :
    backErr (endBits (stE e0 ps) ++ tail) (d0 (endBits (stE e0 ps) ++ tail)) (ps.map (·.2)) = 0 ∧ symL (endBits (stE e0 ps) ++ tail) (d0 (endBits (stE e0 ps) ++ tail)) (ps.map (·.2)) = ps.map (·.1) := by
  have hf := (allErr_zero fine0 h0).1
  refine back_all fine0 h0 (e0_sync _) (end_in hf.1 hf.2.1 tail) ?_
  rw [List.length_append, endBits_length]
  omega
end Go.Proofs.YtgpdgegelipboaaGreatDoor.Cd
namespace Go.Proofs.YtgpdgegelipboaaGreatDoor.Cd
open Go.RowKit
structure LvS (w : World) (b1 g1 b3 gf : Nat) (u : World) : Prop where
  x1 : Blk u b1 49 #[.slice (some ⟨g1, 0, none⟩) 1 1, .int .i64 2]
  x2 : Blk u g1 5 #[.int .u8 64]
  x3 : Blk u b3 40 #[.slice (some ⟨gf, 0, none⟩) 3 3]
  x4 : Blk u gf 3 (Fq.icells [0, 1, 4])
  x5 : Below w.heap.size w u
theorem LvS.next {w : World} {b1 g1 b3 gf : Nat} {u u' : World} (h : LvS w b1 g1 b3 gf u) (hb : Below u.heap.size u u') : LvS w b1 g1 b3 gf u' :=
  ⟨h.x1.below hb h.x1.lt, h.x2.below hb h.x2.lt, h.x3.below hb h.x3.lt, h.x4.below hb h.x4.lt, h.x5.trans (hb.mono h.x5.size)⟩
theorem LvS.alloc {w : World} {b1 g1 b3 gf : Nat} {u : World} (h : LvS w b1 g1 b3 gf u) (o : Obj) : LvS w b1 g1 b3 gf (u.alloc o) := h.next ((Below.refl u.heap.size u).alloc (Nat.le_refl _) o)
def t3 (gf : Nat) : Tb := ⟨some ⟨gf, 0, none⟩, 3, 3, [0, 1, 4]⟩
end Go.Proofs.YtgpdgegelipboaaGreatDoor.Cd
namespace Go.Proofs.YtgpdgegelipboaaGreatDoor.Cd
open Go.RowKit
end Go.Proofs.YtgpdgegelipboaaGreatDoor.Cd
namespace Go.Proofs.YtgpdgegelipboaaGreatDoor.Cd
open Go.RowKit
end Go.Proofs.YtgpdgegelipboaaGreatDoor.Cd
namespace Go.Proofs.YtgpdgegelipboaaGreatDoor.Cd
open Go.RowKit
def LB (w : World) (b : Nat) (a v : Value) (u : World) : Prop := Blk u b 49 #[a, v] ∧ Below w.heap.size w u
theorem LB.next {w : World} {b : Nat} {a v : Value} {u u' : World} (h : LB w b a v u) (hb : Below u.heap.size u u') : LB w b a v u' := ⟨h.1.below hb h.1.lt, h.2.trans (hb.mono h.2.size)⟩
theorem LB.alloc {w : World} {b : Nat} {a v : Value} {u : World} (h : LB w b a v u) (o : Obj) : LB w b a v (u.alloc o) := h.next ((Below.refl u.heap.size u).alloc (Nat.le_refl _) o)
theorem isB_it {w : World} {A : Option Addr} {n c : Nat} {N : Int} {l : List Bool} (h : IsB w (.agg #[.slice A n c, .int .i64 N]) l) : It.ok ⟨A, n, c, N, pack l⟩ = true ∧ It.bits ⟨A, n, c, N, pack l⟩ = l := by
  obtain ⟨_, hN, _, hl⟩ := isB_parts h
  refine ⟨?_, ?_⟩
  · show okB (pack l) N = true
    rw [hN]; exact okB_pack l hl
  · show bitsIn (pack l) N.toNat = l
    rw [hN]; exact bitsIn_pack l
theorem join_two {w : World} {b : Nat} {A1 A2 : Option Addr} {n1 c1 n2 c2 : Nat} {N1 N2 : Int} {l1 l2 : List Bool} (h1 : IsB w (.agg #[.slice A1 n1 c1, .int .i64 N1]) l1) (h2 : IsB w (.agg #[.slice A2 n2 c2, .int .i64 N2]) l2) (hb : Blk w b 49 #[.slice A1 n1 c1, .int .i64 N1, .slice A2 n2 c2, .int .i64 N2]) :
    Calls Tryz.prog 76 #[.slice (some ⟨b, 0, none⟩) 2 2] w (BOut w (JQ w.heap.size (l1 ++ l2))) := by
  have hall : allBits [⟨A1, n1, c1, N1, pack l1⟩, ⟨A2, n2, c2, N2, pack l2⟩] = l1 ++ l2 := by
    show It.bits _ ++ (It.bits _ ++ []) = _
    rw [(isB_it h1).2, (isB_it h2).2, List.append_nil]
  rw [← hall]
  refine join_out (some ⟨b, 0, none⟩) 2 2 _ w (by omega) ?_ ?_
  · refine ⟨rfl, fun _ => ⟨_, rfl, fun j x hx => ?_⟩⟩
    rcases (show j = 0 ∨ j = 1 by
      obtain ⟨hk, _⟩ := List.getElem?_eq_some_iff.1 hx
      have hk' : j < 2 := hk
      omega) with rfl | rfl
    · injection hx with hx
      subst hx
      exact ⟨hb.cell 0, hb.cell 1, (isB_parts h1).2.2.1⟩
    · injection hx with hx
      subst hx
      exact ⟨hb.cell 2, hb.cell 3, (isB_parts h2).2.2.1⟩
  · intro x hx
    simp only [List.mem_cons, List.mem_nil_iff, or_false] at hx
    rcases hx with rfl | rfl
    · exact (isB_it h1).1
    · exact (isB_it h2).1
end Go.Proofs.YtgpdgegelipboaaGreatDoor.Cd
namespace Go.Proofs.YtgpdgegelipboaaGreatDoor.Cd
open Go.RowKit
def evT : List Int := Fq.acc (List.replicate 256 1)
theorem evT_ok : Fq.okF evT = true := Fq.okF_acc (Fq.okN_rep 256 (by omega) (by omega))
theorem evT_length : evT.length = 257 := by unfold evT; rw [Fq.acc_length, List.length_replicate]
theorem row_neC {w : World} {b1 b2 : Nat} {e1 e2 : TypeId} {s1 s2 n1 n2 : Nat} {v1 v2 : Value} {x1 x2 : List Value} (h1 : w.ownsRow b1 e1 s1 v1 n1 x1) (h2 : w.ownsRow b2 e2 s2 v2 n2 x2) (he : e1 ≠ e2) : v1.ownBlock = none ∨ v1.ownBlock ≠ v2.ownBlock := by
  rcases h1.2 with ⟨rfl, _⟩ | ⟨g, cap, cur, rfl, _, hh, _⟩
  · exact .inl rfl
  · refine .inr fun e => ?_
    rcases h2.2 with ⟨rfl, _⟩ | ⟨g', cap', cur', rfl, _, hh', _⟩
    · simp [Value.ownBlock] at e
    · simp only [Value.ownBlock, Option.some.injEq] at e
      subst e
      exact Blk.ne_ (t := e1) (t' := e2) hh hh' he rfl
structure EvS (w : World) (B b4 ge k k2 : Nat) (bs : List Nat) (v6 v7 : Value) (u : World) : Prop where
  syms : u.ownsRow B 3 1 v6 k ((bs.take k).map fun b : Nat => Value.int .i64 (b : Int))
  tabs : u.ownsRow B 40 1 v7 k2 (List.replicate k2 (.slice (some ⟨ge, 0, none⟩) 257 257))
  box : Blk u b4 40 #[.slice (some ⟨ge, 0, none⟩) 257 257]
  tab : Blk u ge 3 (Fq.icells evT)
  lt4 : b4 < B
  ltg : ge < B
  hB : w.heap.size ≤ B
  hBu : B ≤ u.heap.size
  blw : Below w.heap.size w u
theorem own_far {u : World} {B k g : Nat} {t : TypeId} {v : Value} {xs : List Value} (h : u.ownsRow B t 1 v k xs) (hg : g < B) : v.ownBlock ≠ some g := fun e => by
  have := (h.lt g e).1
  omega
section
variable {w : World} {B b4 ge k k2 : Nat} {bs : List Nat} {v6 v7 v' : Value} {u u' : World}
theorem EvS.alloc (h : EvS w B b4 ge k k2 bs v6 v7 u) (o : Obj) : EvS w B b4 ge k k2 bs v6 v7 (u.alloc o) :=
  ⟨h.syms.alloc o, h.tabs.alloc o, h.box.alloc o, h.tab.alloc o, h.lt4, h.ltg, h.hB, by have := h.hBu; simp; omega, h.blw.alloc h.blw.size o⟩
theorem EvS.push6 (h : EvS w B b4 ge k k2 bs v6 v7 u) (hk : k < bs.length) (ho : u'.ownsRow B 3 1 v' (k + 1) ((bs.take k).map (fun b : Nat => Value.int .i64 (b : Int)) ++ [.int .i64 ((bs.getD k 0 : Nat) : Int)])) (hg : u.grownBy u' v6.ownBlock) : EvS w B b4 ge (k + 1) k2 bs v' v7 u' := by
  have hB := fun j hj => (h.syms.lt j hj).1
  refine ⟨?_, World.ownsRow.kept h.tabs hg (row_neC h.tabs h.syms (by decide)), h.box.row hg (own_far h.syms h.lt4), h.tab.row hg (own_far h.syms h.ltg), h.lt4, h.ltg, h.hB, Nat.le_trans h.hBu hg.size, h.blw.grown hg h.blw.size (fun j hj => Nat.le_trans h.hB (hB j hj))⟩
  have e : (bs.take (k + 1)).map (fun b : Nat => Value.int .i64 (b : Int)) = (bs.take k).map (fun b : Nat => Value.int .i64 (b : Int)) ++ [.int .i64 ((bs.getD k 0 : Nat) : Int)] := by
    rw [List.take_succ_eq_append_getElem hk, List.map_append]
    simp [List.getD_eq_getElem?_getD, hk]
  rw [e]
  exact ho
theorem EvS.push7 (h : EvS w B b4 ge k k2 bs v6 v7 u) (ho : u'.ownsRow B 40 1 v' (k2 + 1) (List.replicate k2 (.slice (some ⟨ge, 0, none⟩) 257 257) ++ [.slice (some ⟨ge, 0, none⟩) 257 257])) (hg : u.grownBy u' v7.ownBlock) : EvS w B b4 ge k (k2 + 1) bs v6 v' u' := by
  have hB := fun j hj => (h.tabs.lt j hj).1
  refine ⟨World.ownsRow.kept h.syms hg (row_neC h.syms h.tabs (by decide)), ?_, h.box.row hg (own_far h.tabs h.lt4), h.tab.row hg (own_far h.tabs h.ltg), h.lt4, h.ltg, h.hB, Nat.le_trans h.hBu hg.size, h.blw.grown hg h.blw.size (fun j hj => Nat.le_trans h.hB (hB j hj))⟩
  rw [List.replicate_succ']
  exact ho
theorem EvS.rd6 (h : EvS w B b4 ge k k2 bs v6 v7 u) (hk : k = bs.length) : ∃ A c, v6 = .slice A k c ∧ Fq.RdI u A k (bs.map fun b : Nat => (b : Int)) := by
  have hl : (bs.map fun b : Nat => (b : Int)).length = k := by rw [List.length_map, hk]
  rcases h.syms.2 with ⟨rfl, h0⟩ | ⟨g, cap, cur, rfl, hb, _⟩
  · refine ⟨none, 0, by rw [h0], hl, fun hn => absurd hn (by omega)⟩
  · refine ⟨_, cap, rfl, hl, fun _ => ⟨_, rfl, fun j x hx => ?_⟩⟩
    refine World.ownsRow.cells h.syms (g := g) rfl j _ ?_
    rw [List.take_of_length_le (by omega)]
    rw [List.getElem?_map] at hx ⊢
    cases hb : bs[j]? with
    | none => rw [hb] at hx; cases hx
    | some y => rw [hb] at hx; injection hx with hx; rw [← hx]; rfl
def evTb (ge : Nat) : Tb := ⟨some ⟨ge, 0, none⟩, 257, 257, evT⟩
theorem evTb_C (ge : Nat) : (evTb ge).C = some ⟨ge, 0, none⟩ := by unfold evTb; with_reducible rfl
theorem evTb_m (ge : Nat) : (evTb ge).m = 257 := by unfold evTb; with_reducible rfl
theorem evTb_d (ge : Nat) : (evTb ge).d = 257 := by unfold evTb; with_reducible rfl
theorem evTb_x (ge : Nat) : (evTb ge).xs = evT := by unfold evTb; with_reducible rfl
theorem EvS.rd7 (h : EvS w B b4 ge k k2 bs v6 v7 u) : ∃ A c, v7 = .slice A k2 c ∧ RdT u A k2 (List.replicate k2 (evTb ge)) := by
  have hl : (List.replicate k2 (evTb ge)).length = k2 := List.length_replicate
  rcases h.tabs.2 with ⟨rfl, h0⟩ | ⟨g, cap, cur, rfl, hb, _⟩
  · refine ⟨none, 0, by rw [h0], hl, fun hn => absurd hn (by omega)⟩
  · refine ⟨_, cap, rfl, hl, fun _ => ⟨_, rfl, fun j x hx => ?_⟩⟩
    obtain ⟨hj, e⟩ := List.getElem?_eq_some_iff.1 hx
    rw [List.getElem_replicate] at e
    subst e
    rw [List.length_replicate] at hj
    refine ⟨World.ownsRow.cells h.tabs (g := g) rfl j _ (by rw [List.getElem?_replicate, if_pos hj, evTb_C, evTb_m, evTb_d]), by rw [evTb_C, evTb_m, evTb_x]; exact Fq.RdI.of_blk h.tab evT_length, by rw [evTb_m]; unfold maxLen; omega⟩
end
end Go.Proofs.YtgpdgegelipboaaGreatDoor.Cd
namespace Go.Proofs.YtgpdgegelipboaaGreatDoor.Cd
open Go.RowKit
theorem backErr_take {l : List Bool} {fs : List (List Int)} : ∀ {d : De} (k : Nat), backErr l d fs = 0 → backErr l d (fs.take k) = 0 := by
  induction fs with
  | nil => intro d k h; simpa using h
  | cons xs r ih =>
    intro d k h
    cases k with
    | zero => rfl
    | succ k =>
      rw [List.take_succ_cons]
      cases ho : Fq.okF xs with
      | false => rw [backErr_no ho] at h; cases h
      | true =>
        by_cases ha : l.length + 32 < d.at_
        · rw [backErr_short ho ha] at h; cases h
        · rw [backErr_ok ho (by omega)] at h ⊢
          exact ih k h
theorem symL_take_all (l : List Bool) (fs : List (List Int)) : ∀ (d : De) (k : Nat), symL l d (fs.take k) = (symL l d fs).take k := by
  induction fs with
  | nil => intro d k; simp [symL]
  | cons xs r ih =>
    intro d k
    cases k with
    | zero => simp [symL]
    | succ k => rw [List.take_succ_cons, symL_cons, symL_cons, List.take_succ_cons, ih]
theorem RdT.take {w : World} {L : Option Addr} {n : Nat} {ts : List Tb} (h : RdT w L n ts) (k : Nat) (hk : k ≤ n) : RdT w L k (ts.take k) := by
  refine ⟨by rw [List.length_take, h.1]; omega, fun h0 => ?_⟩
  obtain ⟨ad, e, hc⟩ := h.2 (by omega)
  refine ⟨ad, e, fun j t ht => hc j t ?_⟩
  rw [List.getElem?_take] at ht
  split at ht
  · exact ht
  · cases ht
end Go.Proofs.YtgpdgegelipboaaGreatDoor.Cd
namespace Go.Proofs.YtgpdgegelipboaaGreatDoor.Cd
open Go.RowKit
def LongR (e : En) (M : Nat) : Prop := 4294967296 * 2 ^ len e ≤ wid e * 2 ^ M
theorem long0 : LongR e0 0 := by unfold LongR; decide
theorem LongR.put {e : En} {q : Pr} {M n : Nat} (h : LongR e M) (hf : Fine e) (hq : okP q = true) (hn : spT q.2 ≤ (spB q - spA q) * 2 ^ n) : LongR (put1 e q) (M + (n + 1)) := put_long hf.1 hf.2.1 (symP_of hq).2.2.2 hn M h
end Go.Proofs.YtgpdgegelipboaaGreatDoor.Cd
namespace Go.Proofs.YtgpdgegelipboaaGreatDoor.Lp
open Go.RowKit Fx Fq Tb
end Go.Proofs.YtgpdgegelipboaaGreatDoor.Lp
namespace Go.Proofs.YtgpdgegelipboaaGreatDoor.Lp
open Go.RowKit Fx Fq Tb
end Go.Proofs.YtgpdgegelipboaaGreatDoor.Lp
namespace Go.Proofs.YtgpdgegelipboaaGreatDoor.Lp
open Go.RowKit Fx Fq Tb
end Go.Proofs.YtgpdgegelipboaaGreatDoor.Lp
namespace Go.Proofs.YtgpdgegelipboaaGreatDoor.Lp
open Go.RowKit Fx Fq Tb
theorem run_items_same (d : Nat) (xs : List Int) (u : World) : ∀ l : List Nat, (∀ i ∈ l, i < xs.length) → (Op.eqItems (d + 1) 3 1 (icells xs) (icells xs) l).run Tryz.prog u = .ok true u
  | [], _ => by simp [Op.eqItems]
  | i :: l, h => by
    have ih := run_items_same d xs u l fun j hj => h j (by simp [hj])
    have ha : (isAgg 3).run Tryz.prog u = .ok false u := by kernel_rfl
    have hu : Tryz.prog.underlying 3 = some (.int .i64) := by kernel_rfl
    have hc : (icells xs)[i]? = some (.int .i64 (xs.getD i 0)) := icells_get (h i (by simp))
    have hp : (part 3 (icells xs) (i * 1)).run Tryz.prog u = .ok (.int .i64 (xs.getD i 0)) u := by
      rw [Nat.mul_one]
      simp only [part, Sem.run_bind, ha, Result.andThen_ok, Bool.false_eq_true, if_false, hc, Sem.run_pure]
    have he := run_equalIn_int (P := Tryz.prog) u d 3 .i64 .i64 (xs.getD i 0) (xs.getD i 0) hu
    simp only [Op.eqItems, Sem.run_bind, hp, Result.andThen_ok, he, beq_self_eq_true]
    simpa using ih
theorem run_equalIn_same (T : TypeId) {n : Nat} (hT : Tryz.prog.underlying T = some (.array n 3)) (xs : List Int) (hl : xs.length = n) (w : World) :
    (Op.equalIn 10000 T (.agg (icells xs)) (.agg (icells xs))).run Tryz.prog w = .ok true w := by
  have hc : Tryz.prog.cellsOf 3 = 1 := by kernel_rfl
  obtain ⟨i, hi⟩ : ∃ i, Tryz.prog.info? 3 = some i := Option.isSome_iff_exists.1 (by kernel_rfl)
  rw [run_equalIn_array w 9999 (icells xs) (icells xs) hT hi, hc]
  exact run_items_same 9998 xs w _ fun j hj => by rw [hl]; exact List.mem_range.1 hj
theorem zr_getD (n k : Nat) : (zr n).getD k 0 = 0 := by
  unfold zr
  rw [List.getD_eq_getElem?_getD, List.getElem?_replicate]
  split <;> rfl
def p1 : List Int := 32768 :: List.replicate 15 0
def x1 : List Int := 3 :: -4 :: List.replicate 14 0
end Go.Proofs.YtgpdgegelipboaaGreatDoor.Lp
namespace Go.Proofs.YtgpdgegelipboaaGreatDoor.Lp
open Go.ChangeShapes Go.WideShapes Go.ChangeAt Go.RowKit Go.Joins Go.Deep Fq
theorem laidOut : laidOutB Tryz.prog = true := by kernel_rfl
theorem own : ownKnob Tryz.prog.godebug = none := by kernel_rfl
theorem cells_int : Tryz.prog.cellsOf 3 = 1 := by kernel_rfl
theorem ints_of : ∀ (n : Nat) (l : List Value), l.length = n → (∀ i, i < n → ∃ z : Int, (l.drop i).take 1 = [.int .i64 z]) → ∃ zs : List Int, zs.length = n ∧ l = zs.map fun x => Value.int .i64 x
  | 0, l, hl, _ => ⟨[], rfl, by simpa using hl⟩
  | n + 1, l, hl, h => by
    match l, hl, h with
    | v :: l, hl, h =>
      obtain ⟨z, hz⟩ := h 0 (by omega)
      simp only [List.drop_zero, List.take_succ_cons, List.take_zero, List.cons.injEq, and_true] at hz
      obtain ⟨zs, hzl, e⟩ := ints_of n l (by simpa using hl) fun i hi => by
        have := h (i + 1) (by omega)
        simpa using this
      exact ⟨z :: zs, by simp [hzl], by rw [hz, e]; rfl⟩
section
variable {H : Type} {enc : TypeId × Value → H} {W : World} {base : Nat} {spare : Nat → Bool} {held : Bool}
set_option maxRecDepth 20000 in
theorem open_arr {b0 : Nat} {r : Reach} {T : TypeId} {n : Nat} {v : Value} {d : DataW H} {p : List MemPlace} (hT : Tryz.prog.underlying T = some (.array n 3)) (hc : Tryz.prog.cellsOf T = n)
    (hv : Value.okWide Tryz.prog W r b0 T v) (h : DataW.Trod enc Tryz.prog W base spare held T v d p) : ∃ zs : List Int, v = .agg (icells zs) ∧ zs.length = n := by
  obtain ⟨cs, rfl, hsz⟩ : ∃ cs, v = .agg cs ∧ cs.size = n := by
    simp only [Value.okWide, hT] at hv
    obtain ⟨cs, h1, h2, _⟩ := hv
    exact ⟨cs, h1, by rw [h2, hc]⟩
  obtain ⟨fuel, hf⟩ := h
  obtain ⟨xs, m, rfl, _, hl, hn, hel⟩ := DataW.trod_array hT hf
  obtain ⟨zs, hz, e⟩ := ints_of n cs.toList (by simpa using hsz) fun i hi => by
    have hi' := hel i hi
    rw [cells_int, Nat.mul_one] at hi'
    have hx : xs[i]? = some xs[i] := List.getElem?_eq_getElem (by omega)
    rw [hx] at hi'
    obtain ⟨z, hz, _⟩ := DataW.trod_int Tryz.underlying3 hi'
    exact ⟨z, by simpa [Value.cells] using hz⟩
  refine ⟨zs, ?_, hz⟩
  unfold icells
  rw [← e]
end
end Go.Proofs.YtgpdgegelipboaaGreatDoor.Lp
namespace Go.Proofs.YtgpdgegelipboaaGreatDoor.Lp
open Go.RowKit Fx Fq Tb
theorem run_items_any (d : Nat) (xs ys : List Int) (u : World) : ∀ l : List Nat, (∀ i ∈ l, i < xs.length ∧ i < ys.length) → (Op.eqItems (d + 1) 3 1 (icells xs) (icells ys) l).run Tryz.prog u = .ok (l.all fun i => xs.getD i 0 == ys.getD i 0) u
  | [], _ => by simp [Op.eqItems]
  | i :: l, h => by
    have ih := run_items_any d xs ys u l fun j hj => h j (by simp [hj])
    have ha : (isAgg 3).run Tryz.prog u = .ok false u := by kernel_rfl
    have hu : Tryz.prog.underlying 3 = some (.int .i64) := by kernel_rfl
    have hp : ∀ zs : List Int, i < zs.length → (part 3 (icells zs) (i * 1)).run Tryz.prog u = .ok (.int .i64 (zs.getD i 0)) u := fun zs hz => by
      have hc : (icells zs)[i]? = some (.int .i64 (zs.getD i 0)) := icells_get hz
      rw [Nat.mul_one]
      simp only [part, Sem.run_bind, ha, Result.andThen_ok, Bool.false_eq_true, if_false, hc, Sem.run_pure]
    have he := run_equalIn_int (P := Tryz.prog) u d 3 .i64 .i64 (xs.getD i 0) (ys.getD i 0) hu
    have h1 := hp xs (h i (by simp)).1
    have h2 := hp ys (h i (by simp)).2
    simp only [Op.eqItems, Sem.run_bind, h1, h2, Result.andThen_ok, he]
    rw [List.all_cons]
    by_cases k : xs.getD i 0 = ys.getD i 0
    · have k2 : (xs.getD i 0 == ys.getD i 0) = true := by rw [k]; exact beq_self_eq_true _
      simp only [k2, Bool.true_and]
      simpa using ih
    · have k2 : (xs.getD i 0 == ys.getD i 0) = false := by simpa using k
      simp only [k2, Bool.false_and]
      simp
theorem run_equalIn_diff (T : TypeId) {n : Nat} (hT : Tryz.prog.underlying T = some (.array n 3)) (xs ys : List Int) (hl : xs.length = n) (hl' : ys.length = n) (hne : xs ≠ ys) (w : World) :
    (Op.equalIn 10000 T (.agg (icells xs)) (.agg (icells ys))).run Tryz.prog w = .ok false w := by
  have hc : Tryz.prog.cellsOf 3 = 1 := by kernel_rfl
  obtain ⟨i, hi⟩ : ∃ i, Tryz.prog.info? 3 = some i := Option.isSome_iff_exists.1 (by kernel_rfl)
  rw [run_equalIn_array w 9999 (icells xs) (icells ys) hT hi, hc, run_items_any 9998 xs ys w _ fun j hj => ⟨by rw [hl]; exact List.mem_range.1 hj, by rw [hl']; exact List.mem_range.1 hj⟩]
  congr 1
  rw [Bool.eq_false_iff]
  intro hall
  refine hne (getD_ext (by rw [hl, hl']) fun k hk => ?_)
  rw [List.all_eq_true] at hall
  simpa using hall k (List.mem_range.2 (by omega))
theorem arrLev : Arr 23 6 := ⟨⟨.array 6 3, by kernel_rfl, rfl⟩, by kernel_rfl⟩
theorem arrAll : Arr 84 6 := ⟨⟨.array 6 3, by kernel_rfl, rfl⟩, by kernel_rfl⟩
theorem grdLev : Tryz.prog.eqGuardType Tryz.prog.depth 23 = false := by kernel_rfl
def edgL : List Nat := [0, 1, 2, 4, 6, 10, 16]
def edg (b : Nat) : Nat := edgL.getD b 0
theorem edg_all : ∀ b, b < 6 → edg b < edg (b + 1) ∧ edg (b + 1) ≤ 16 ∧ edg b ≤ 15 := by decide
def Edg (w : World) : Prop := ∀ b, b < 7 → w.cell? ⟨0, b, none⟩ = some (.int .i64 (edg b : Int))
theorem Edg.below {w w' : World} (h : Edg w) (hb : Below w.heap.size w w') : Edg w' := fun b hlt => by
  have hc := h b hlt
  exact (hb.cell (p := ⟨_, b, none⟩) (World.block_lt_of_cell? _ _ hc)).trans hc
theorem Edg.drew {w : World} (h : Edg w) : Edg w.drew := h
theorem Edg.mem {w w' : World} {L : List (Nat × TypeId × List Int)} (h : Edg w) (hm : Mem w L w') : Edg w' := h.below hm.1
theorem Edg.cells {w : World} (h : Edg w) {b : Nat} (hb : b < 6) : w.cell? ⟨0, b, none⟩ = some (.int .i64 (edg b : Int)) ∧ w.cell? ⟨0, b + 1, none⟩ = some (.int .i64 (edg (b + 1) : Int)) := ⟨h b (by omega), h (b + 1) (by omega)⟩
theorem sumN_nonneg {f : Nat → Int} : ∀ n : Nat, (∀ i, i < n → 0 ≤ f i) → 0 ≤ sumN f n
  | 0, _ => Int.le_refl _
  | n + 1, h => by
    have h1 := sumN_nonneg n fun i hi => h i (by omega)
    have h2 := h n (by omega)
    rw [sumN_succ]; omega
end Go.Proofs.YtgpdgegelipboaaGreatDoor.Lp
namespace Go.Proofs.YtgpdgegelipboaaGreatDoor.Lp
open Go.RowKit Fx Fq Tb
end Go.Proofs.YtgpdgegelipboaaGreatDoor.Lp
namespace Go.Proofs.YtgpdgegelipboaaGreatDoor.Lp
open Go.RowKit Fx Fq Tb
def chkL (l : List Int) : Bool := inR 0 255 l
def heldL (l : List Int) : List Int := tab 6 (fun b => max 0 (min (l.getD b 0) 255))
theorem held_iff {l : List Int} (hl : l.length = 6) : heldL l = l ↔ chkL l = true := by
  unfold chkL
  rw [inR_iff hl]
  constructor
  · intro h k hk
    have e : (heldL l).getD k 0 = l.getD k 0 := by rw [h]
    rw [heldL, tab_getD _ hk] at e
    omega
  · intro h
    refine getD_ext (by rw [heldL, tab_length, hl]) fun k hk => ?_
    rw [heldL, tab_length] at hk
    rw [heldL, tab_getD _ hk]
    have := h k hk
    omega
def mkN (l : List Int) (b : Nat) : Nat → Int
  | 0 => 0
  | k + 1 => if k = b then mkN l b k else max (mkN l b k) (l.getD k 0 - 12 * max ((k : Int) - (b : Int)) ((b : Int) - (k : Int)) - 8)
theorem mkN_self (l : List Int) (k : Nat) : mkN l k (k + 1) = mkN l k k := by rw [mkN, if_pos rfl]
theorem mkN_other (l : List Int) {b k : Nat} (h : ¬ k = b) : mkN l b (k + 1) = max (mkN l b k) (l.getD k 0 - 12 * max ((k : Int) - (b : Int)) ((b : Int) - (k : Int)) - 8) := by rw [mkN, if_neg h]
def maskL (l : List Int) : List Int := tab 6 (fun b => mkN l b 6)
theorem maskL_length (l : List Int) : (maskL l).length = 6 := tab_length _ _
theorem mkN_bd {l : List Int} (h : chkL l = true) (b : Nat) : ∀ k, 0 ≤ mkN l b k ∧ mkN l b k ≤ 255
  | 0 => ⟨Int.le_refl _, by show (0 : Int) ≤ 255; omega⟩
  | k + 1 => by
    have ih := mkN_bd h b k
    have hv := inR_bd h (by omega) (by omega) k
    unfold mkN
    split <;> omega
theorem mask_bd {l : List Int} (h : chkL l = true) {b : Nat} (hb : b < 6) : 0 ≤ (maskL l).getD b 0 ∧ (maskL l).getD b 0 ≤ 255 := by
  rw [maskL, tab_getD _ hb]; exact mkN_bd h b 6
def wishI (v m : Int) : Int := if v ≤ m then 0 else min ((v - m + 7) / 8) 7
def wishL (l m : List Int) : List Int := tab 6 (fun b => wishI (l.getD b 0) (m.getD b 0))
theorem wishI_bd (v m : Int) : 0 ≤ wishI v m ∧ wishI v m ≤ 7 := by
  unfold wishI; split <;> omega
def costN (a : List Int) (k : Nat) : Int := sumN (fun b => a.getD b 0 * ((edg (b + 1) : Int) - (edg b : Int))) k
def costL (a : List Int) : Int := costN a 6
theorem costL_eq (a : List Int) : costL a = a.getD 0 0 + a.getD 1 0 + 2 * a.getD 2 0 + 2 * a.getD 3 0 + 4 * a.getD 4 0 + 6 * a.getD 5 0 := by
  have e : ∀ b, b < 7 → (edg b : Int) = [0, 1, 2, 4, 6, 10, 16].getD b 0 := by decide
  unfold costL costN
  simp only [sumN]
  rw [e 0 (by omega), e (0 + 1) (by omega), e (1 + 1) (by omega), e (2 + 1) (by omega), e (3 + 1) (by omega), e (4 + 1) (by omega), e (5 + 1) (by omega)]
  simp only [Nat.reduceAdd, List.getD_cons_zero, List.getD_cons_succ]
  omega
def lastM (a : List Int) : Nat → Nat
  | 0 => 0
  | k + 1 => if a.getD (lastM a k) 0 ≤ a.getD k 0 then k else lastM a k
theorem lastM_lt (a : List Int) : ∀ k, lastM a (k + 1) < k + 1
  | 0 => by unfold lastM; split <;> simp [lastM]
  | k + 1 => by
    have ih := lastM_lt a k
    rw [lastM]; split <;> omega
theorem lastM_lt6 (a : List Int) : lastM a 6 < 6 := lastM_lt a 5
theorem lastM_max (a : List Int) : ∀ k j, j < k → a.getD j 0 ≤ a.getD (lastM a k) 0
  | k + 1, j, hj => by
    have ih := lastM_max a k
    rw [lastM]
    split
    · rename_i h
      by_cases e : j = k
      · subst e; exact Int.le_refl _
      · exact Int.le_trans (ih j (by omega)) h
    · rename_i h
      by_cases e : j = k
      · subst e; omega
      · exact ih j (by omega)
theorem lastM_last (a : List Int) : ∀ k j, j < k → lastM a k < j → a.getD j 0 < a.getD (lastM a k) 0
  | k + 1, j, hj, hl => by
    have ih := lastM_last a k
    rw [lastM] at hl ⊢
    split
    · rename_i h
      rw [if_pos h] at hl; omega
    · rename_i h
      rw [if_neg h] at hl
      by_cases e : j = k
      · subst e; omega
      · exact ih j (by omega) hl
theorem lastM_is {a : List Int} {b : Nat} (hb : b < 6) (h1 : ∀ j, j < 6 → a.getD j 0 ≤ a.getD b 0) (h2 : ∀ j, j < 6 → b < j → a.getD j 0 < a.getD b 0) : lastM a 6 = b := by
  have k1 := lastM_lt6 a
  have k2 := lastM_max a 6 b hb
  have k3 := h1 _ k1
  rcases Nat.lt_trichotomy (lastM a 6) b with h | h | h
  · have := lastM_last a 6 b hb h; omega
  · exact h
  · have := h2 _ k1 h; omega
def stpL (a : List Int) : List Int := a.set (lastM a 6) (a.getD (lastM a 6) 0 - 1)
def OkA (a : List Int) : Prop := a.length = 6 ∧ ∀ b, b < 6 → 0 ≤ a.getD b 0 ∧ a.getD b 0 ≤ 7
def sumA (a : List Int) : Nat := (sumN (fun b => a.getD b 0) 6).toNat
theorem getD_set' (a : List Int) (i : Nat) (v : Int) (j : Nat) (hi : i < a.length) : (a.set i v).getD j 0 = if i = j then v else a.getD j 0 := by
  simp only [List.getD_eq_getElem?_getD, List.getElem?_set]
  by_cases h : i = j
  · subst h; simp [hi]
  · simp [h]
theorem costL_pos {a : List Int} {B : Int} (hB : 0 ≤ B) (hc : B < costL a) : 0 < a.getD (lastM a 6) 0 := by
  rw [costL_eq] at hc
  have m := lastM_max a 6
  have m0 := m 0 (by omega)
  have m1 := m 1 (by omega)
  have m2 := m 2 (by omega)
  have m3 := m 3 (by omega)
  have m4 := m 4 (by omega)
  have m5 := m 5 (by omega)
  omega
theorem stp_ok {a : List Int} (h : OkA a) (hp : 0 < a.getD (lastM a 6) 0) : OkA (stpL a) := by
  have hl := lastM_lt6 a
  refine ⟨by rw [stpL, List.length_set, h.1], fun b hb => ?_⟩
  rw [stpL, getD_set' _ _ _ _ (by rw [h.1]; exact hl)]
  have := h.2 b hb
  have := h.2 _ hl
  split <;> omega
theorem sum_set (a : List Int) (i : Nat) (v : Int) (hi : i < a.length) : ∀ k, sumN (fun b => (a.set i v).getD b 0) k = sumN (fun b => a.getD b 0) k + if i < k then v - a.getD i 0 else 0
  | 0 => by simp [sumN]
  | k + 1 => by
    rw [sumN_succ, sumN_succ, sum_set a i v hi k, getD_set' _ _ _ _ hi]
    by_cases h : i = k
    · subst h
      rw [if_pos rfl, if_neg (by omega), if_pos (by omega)]
      omega
    · rw [if_neg h]
      by_cases h2 : i < k
      · rw [if_pos h2, if_pos (by omega)]; omega
      · rw [if_neg h2, if_neg (by omega)]; omega
theorem sumA_le {a : List Int} (h : OkA a) : sumA a ≤ 42 := by
  have := sumN_bd (fun b => if b < 6 then a.getD b 0 else 0) 7 6 fun i hi => by
    have := h.2 i hi
    show -7 ≤ (if i < 6 then a.getD i 0 else 0) ∧ (if i < 6 then a.getD i 0 else 0) ≤ 7
    rw [if_pos hi]; omega
  have e : sumN (fun b => a.getD b 0) 6 = sumN (fun b => if b < 6 then a.getD b 0 else 0) 6 := sumN_congr _ _ _ fun i hi => (if_pos hi).symm
  unfold sumA; rw [e]; omega
theorem sum_nonneg {a : List Int} (h : OkA a) : 0 ≤ sumN (fun b => a.getD b 0) 6 := sumN_nonneg _ fun i hi => (h.2 i hi).1
theorem stp_sum {a : List Int} (h : OkA a) (hp : 0 < a.getD (lastM a 6) 0) : sumA (stpL a) + 1 = sumA a := by
  have hl := lastM_lt6 a
  have h1 := sum_set a (lastM a 6) (a.getD (lastM a 6) 0 - 1) (by rw [h.1]; exact hl) 6
  rw [if_pos hl] at h1
  have h2 := sum_nonneg (stp_ok h hp)
  unfold stpL at h2
  unfold sumA stpL
  omega
def narL : Nat → List Int → Int → List Int
  | 0, a, _ => a
  | n + 1, a, B => if costL a ≤ B then a else narL n (stpL a) B
theorem nar_done {n : Nat} {a : List Int} {B : Int} (h : costL a ≤ B) : narL n a B = a := by
  cases n with
  | zero => rfl
  | succ n => rw [narL, if_pos h]
theorem nar_fuel {B : Int} (hB : 0 ≤ B) : ∀ (n m : Nat) (a : List Int), OkA a → sumA a ≤ n → sumA a ≤ m → narL n a B = narL m a B
  | n, m, a, h, hn, hm => by
    by_cases hc : costL a ≤ B
    · rw [nar_done hc, nar_done hc]
    · have hp := costL_pos (a := a) hB (by omega)
      have hs := stp_sum h hp
      match n, m with
      | n + 1, m + 1 =>
        rw [narL, narL, if_neg hc, if_neg hc]
        exact nar_fuel hB n m _ (stp_ok h hp) (by omega) (by omega)
      | 0, _ => omega
      | _ + 1, 0 => omega
theorem nar_step {B : Int} (hB : 0 ≤ B) {a : List Int} (h : OkA a) (hc : ¬ costL a ≤ B) : narL 42 a B = narL 42 (stpL a) B ∧ OkA (stpL a) := by
  have hp := costL_pos (a := a) hB (by omega)
  have hs := stp_sum h hp
  have h42 := sumA_le h
  refine ⟨?_, stp_ok h hp⟩
  rw [show (42 : Nat) = 41 + 1 from rfl, narL, if_neg hc]
  exact nar_fuel hB 41 (41 + 1) _ (stp_ok h hp) (by omega) (by omega)
theorem nar_ok {B : Int} (hB : 0 ≤ B) : ∀ (n : Nat) (a : List Int), OkA a → sumA a ≤ n → OkA (narL n a B) ∧ costL (narL n a B) ≤ B ∧ ∀ b, b < 6 → (narL n a B).getD b 0 ≤ a.getD b 0
  | n, a, h, hn => by
    by_cases hc : costL a ≤ B
    · rw [nar_done hc]; exact ⟨h, hc, fun b _ => Int.le_refl _⟩
    · have hp := costL_pos (a := a) hB (by omega)
      have hs := stp_sum h hp
      match n with
      | 0 => omega
      | n + 1 =>
        rw [narL, if_neg hc]
        obtain ⟨h1, h2, h3⟩ := nar_ok hB n _ (stp_ok h hp) (by omega)
        refine ⟨h1, h2, fun b hb => Int.le_trans (h3 b hb) ?_⟩
        have hl := lastM_lt6 a
        rw [stpL, getD_set' _ _ _ _ (by rw [h.1]; exact hl)]
        split
        · rename_i e; rw [e]; omega
        · exact Int.le_refl _
def shareL (l : List Int) (B : Int) : List Int := narL 42 (wishL l (maskL l)) B
theorem wish_ok (l m : List Int) : OkA (wishL l m) := ⟨tab_length _ _, fun b hb => by rw [wishL, tab_getD _ hb]; exact wishI_bd _ _⟩
theorem share_ok (l : List Int) {B : Int} (hB : 0 ≤ B) : OkA (shareL l B) ∧ costL (shareL l B) ≤ B := by
  have h := nar_ok hB 42 _ (wish_ok l (maskL l)) (sumA_le (wish_ok _ _))
  exact ⟨h.1, h.2.1⟩
end Go.Proofs.YtgpdgegelipboaaGreatDoor.Lp
namespace Go.Proofs.YtgpdgegelipboaaGreatDoor.Lp
open Go.RowKit Fx Fq Tb
theorem ri {k : IntKind} {a b : Int} (h : a = b) : Ending.returned (.int k a) = .returned (.int k b) := by rw [h]
set_option maxHeartbeats 4000000 in
theorem held_any (l : List Int) (w : World) (ll : l.length = 6) :
    Calls Tryz.prog 50 #[.agg (icells l)] w (ValQ w (.agg (icells (heldL l)))) := by
  have LL := Lib.hid ll
  have HM := Lib.hid (Mem.start w)
  clear ll
  go_enter Tryz.func50, Tryz.ntmps50
  go_wp2_with (first | ((first | refine wl_box rfl _ _ rfl rfl HM ?_ | refine wl_alloc rfl _ rfl (by exact arrOf) HM ?_); first | (have q:dL HM = 0:=rfl;clear q HM;intro g1 u1 HM) | (have q:dL HM = 1:=rfl;clear q HM;intro g2 u2 HM) | (have q:dL HM = 2:=rfl;clear q HM;intro g3 u3 HM) | (have q:dL HM = 3:=rfl;clear q HM;intro g4 u4 HM)) | (refine wl_load rfl _ _ rfl rfl (by exact arrOf) HM (by exact memOf) (by exact lenOf) ?_) | (refine wl_storeM rfl _ _ _ rfl rfl rfl (by exact arrOf) HM (by exact idxOf) (by exact lenOf) (by exact lenOf) ?_; clear HM; intro us HM; dsimp only [List.set] at HM) | (refine wl_zero rfl _ rfl (by exact arrOf) (by kernel_rfl) ?_))
  go_loopw [6] (fun vi wr => ∃ k : Nat, k ≤ 6 ∧ vi = .int .i64 (k : Int) ∧ Hid (Mem w [(g2, 23, zr 6), (g1, 23, tab 6 (part2 k (fun b => max 0 (min (l.getD b 0) 255)) (fun b => l.getD b 0)))] wr)) (fun vi _ => 6 - (intOf vi).toNat)
  case atStart => exact ⟨0, by omega, rfl, Lib.hid (by rw [part2_none, tab_self LL.out]; exact HM.out)⟩
  case round =>
    clear HM
    obtain ⟨k, hk, rfl, HM⟩ := hrel
    by_cases hlt : k < 6
    · have k6 : (k : Int) < 6 := by omega
      have hix := run_index 23 (n := 6) (by kernel_rfl) l LL.out k hlt
      have S1 := Lib.hid (part2_set (n := 6) (k := k) (fun b => max 0 (min (l.getD b 0) 255)) (fun b => l.getD b 0))
      have c3 := HM.out.cell (.tail _ (.head _)) (k := k) (by rw [tab_length]; omega)
      have f3 := HM.out.free (.tail _ (.head _)) k
      generalize List.getD (tab 6 _) k 0 = o at c3
      generalize l.getD k 0 = v at hix S1
      go_wp2
      have HM3 := Lib.hid (HM.out.put 1 rfl k (max 0 (min v 255)))
      simp only [List.set_cons_zero, List.set_cons_succ] at HM3
      rw [S1.out] at HM3
      clear HM c3 f3
      go_roundw
      case rel => exact ⟨k + 1, by omega, by go_num, HM3⟩
      case measure => simp [intOf]; omega
    · obtain rfl : k = 6 := by omega
      rw [part2_all] at HM
      have LO := Lib.hid (show (heldL l).length = 6 from tab_length _ _)
      change Hid (Mem w [(g2, 23, zr 6), (g1, 23, heldL l)] wr) at HM
      go_wp2_with (first | ((first | refine wl_box rfl _ _ rfl rfl HM ?_ | refine wl_alloc rfl _ rfl (by exact arrOf) HM ?_); first | (have q:dL HM = 0:=rfl;clear q HM;intro g1 u1 HM) | (have q:dL HM = 1:=rfl;clear q HM;intro g2 u2 HM) | (have q:dL HM = 2:=rfl;clear q HM;intro g3 u3 HM) | (have q:dL HM = 3:=rfl;clear q HM;intro g4 u4 HM)) | (refine wl_load rfl _ _ rfl rfl (by exact arrOf) HM (by exact memOf) (by exact lenOf) ?_) | (refine wl_storeM rfl _ _ _ rfl rfl rfl (by exact arrOf) HM (by exact idxOf) (by exact lenOf) (by exact lenOf) ?_; clear HM; intro us HM; dsimp only [List.set] at HM) | (refine wl_zero rfl _ rfl (by exact arrOf) (by kernel_rfl) ?_))
      refine bodyPost_ret (v := .agg (icells (heldL l))) (res_one rfl _ rfl arrLev HM (by exact memOf) LO) rfl ⟨rfl, HM.out.1⟩
set_option maxHeartbeats 4000000 in
theorem bcheck_any (l : List Int) (c : Bool) (z : Int) (w : World) (ll : l.length = 6) (hc : chkL l = c) (hz : (if c = true then 0 else 1) = z) :
    Calls Tryz.prog 23 #[.agg (icells l)] w (ValQ w (.int .i64 z)) := by
  have LL := Lib.hid ll
  have HM := Lib.hid (Mem.start w)
  have HH := Lib.hid (fun u => held_any l u ll)
  have LH := Lib.hid (show (heldL l).length = 6 from tab_length _ _)
  have hgd := grdLev
  cases c with
  | true =>
    obtain rfl : z = 0 := by rw [← hz]; rfl
    have heq := fun u => run_equalIn_same 23 (n := 6) (by kernel_rfl) l ll u
    rw [(held_iff ll).2 hc] at HH LH
    clear ll hc hz
    go_enter Tryz.func23, Tryz.ntmps23
    go_wp2_with (first | ((first | refine wl_box rfl _ _ rfl rfl HM ?_ | refine wl_alloc rfl _ rfl (by exact arrOf) HM ?_); first | (have q:dL HM = 0:=rfl;clear q HM;intro g1 u1 HM) | (have q:dL HM = 1:=rfl;clear q HM;intro g2 u2 HM) | (have q:dL HM = 2:=rfl;clear q HM;intro g3 u3 HM) | (have q:dL HM = 3:=rfl;clear q HM;intro g4 u4 HM)) | (refine wl_load rfl _ _ rfl rfl (by exact arrOf) HM (by exact memOf) (by exact lenOf) ?_) | (refine wl_storeM rfl _ _ _ rfl rfl rfl (by exact arrOf) HM (by exact idxOf) (by exact lenOf) (by exact lenOf) ?_; clear HM; intro us HM; dsimp only [List.set] at HM) | (refine wl_zero rfl _ rfl (by exact arrOf) (by kernel_rfl) ?_))
    refine wp_region_held_drew (S := Mem w [(g1, 23, l)]) (by kernel_rfl) (HM.out.drew.sub (by exact subOf)) (fun hHeld => ?_)
    have HMd := Lib.hid HM.out.drew
    clear HM
    have HM := HMd
    clear HMd
    generalize World.drew _ = wd at HM hHeld ⊢
    (refine wa_take (i := 0) rfl (by kernel_rfl) (by kernel_rfl) (by kernel_rfl) (fun _ _ _ h => h) (yi_load rfl _ _ rfl rfl (by exact arrOf) (fun u hu => hu) (by exact memOf) (by exact lenOf)) hHeld rfl ?_; (try simp only [Act.put, qz1, qz2, qz3]))
    (refine wa_take (i := 2) rfl (by kernel_rfl) (by kernel_rfl) (by kernel_rfl) (fun _ _ _ h => h) (yi_load rfl _ _ rfl rfl (by exact arrOf) (fun u hu => hu) (by exact memOf) (by exact lenOf)) hHeld rfl ?_; (try simp only [Act.put, qz1, qz2, qz3]))
    refine wpAnyH_ready (rs := [1]) (by kernel_rfl) (by simp) ?_; refine AllReadyH.cons rfl (fun K hK => ?_) (AllReadyH.nil)
    rw [if_pos (by rfl)]; go_simp
    refine (HH.out _).mono ?_
    rintro e wb ⟨rfl, h1⟩
    have HM2 := Lib.hid (HM.out.below h1)
    clear h1 HM HH hHeld
    have HM := HM2
    clear HM2
    go_wp2_with fail; refine hK.out _ _ (HM.out.sub (by exact subOf)) (fun hHeld => ?_); clear hK K; (try simp only [Act.put, qz1, qz2, qz3])
    (refine wa_take (i := 3) (v := .bool false) rfl (by kernel_rfl) (by kernel_rfl) (by kernel_rfl) (fun _ _ _ h => h) (yi_free rfl (fun u => by go_simp)) hHeld rfl ?_; (try simp only [Act.put, qz1, qz2, qz3]))
    refine wpAnyH_done (by kernel_rfl) ?_ _
    go_wp2
    go_ret
    exact ⟨rfl, HM.out.1⟩
  | false =>
    obtain rfl : z = 1 := by rw [← hz]; rfl
    have heq := fun u => run_equalIn_diff 23 (n := 6) (by kernel_rfl) (heldL l) l LH.out ll (fun e => by rw [(held_iff ll).1 e] at hc; cases hc) u
    clear ll hc hz
    generalize heldL l = m at HH LH heq
    go_enter Tryz.func23, Tryz.ntmps23
    go_wp2_with (first | ((first | refine wl_box rfl _ _ rfl rfl HM ?_ | refine wl_alloc rfl _ rfl (by exact arrOf) HM ?_); first | (have q:dL HM = 0:=rfl;clear q HM;intro g1 u1 HM) | (have q:dL HM = 1:=rfl;clear q HM;intro g2 u2 HM) | (have q:dL HM = 2:=rfl;clear q HM;intro g3 u3 HM) | (have q:dL HM = 3:=rfl;clear q HM;intro g4 u4 HM)) | (refine wl_load rfl _ _ rfl rfl (by exact arrOf) HM (by exact memOf) (by exact lenOf) ?_) | (refine wl_storeM rfl _ _ _ rfl rfl rfl (by exact arrOf) HM (by exact idxOf) (by exact lenOf) (by exact lenOf) ?_; clear HM; intro us HM; dsimp only [List.set] at HM) | (refine wl_zero rfl _ rfl (by exact arrOf) (by kernel_rfl) ?_))
    refine wp_region_held_drew (S := Mem w [(g1, 23, l)]) (by kernel_rfl) (HM.out.drew.sub (by exact subOf)) (fun hHeld => ?_)
    have HMd := Lib.hid HM.out.drew
    clear HM
    have HM := HMd
    clear HMd
    generalize World.drew _ = wd at HM hHeld ⊢
    (refine wa_take (i := 0) rfl (by kernel_rfl) (by kernel_rfl) (by kernel_rfl) (fun _ _ _ h => h) (yi_load rfl _ _ rfl rfl (by exact arrOf) (fun u hu => hu) (by exact memOf) (by exact lenOf)) hHeld rfl ?_; (try simp only [Act.put, qz1, qz2, qz3]))
    (refine wa_take (i := 2) rfl (by kernel_rfl) (by kernel_rfl) (by kernel_rfl) (fun _ _ _ h => h) (yi_load rfl _ _ rfl rfl (by exact arrOf) (fun u hu => hu) (by exact memOf) (by exact lenOf)) hHeld rfl ?_; (try simp only [Act.put, qz1, qz2, qz3]))
    refine wpAnyH_ready (rs := [1]) (by kernel_rfl) (by simp) ?_; refine AllReadyH.cons rfl (fun K hK => ?_) (AllReadyH.nil)
    rw [if_pos (by rfl)]; go_simp
    refine (HH.out _).mono ?_
    rintro e wb ⟨rfl, h1⟩
    have HM2 := Lib.hid (HM.out.below h1)
    clear h1 HM HH hHeld
    have HM := HM2
    clear HM2
    go_wp2_with fail; refine hK.out _ _ (HM.out.sub (by exact subOf)) (fun hHeld => ?_); clear hK K; (try simp only [Act.put, qz1, qz2, qz3])
    (refine wa_take (i := 3) (v := .bool true) rfl (by kernel_rfl) (by kernel_rfl) (by kernel_rfl) (fun _ _ _ h => h) (yi_free rfl (fun u => by go_simp)) hHeld rfl ?_; (try simp only [Act.put, qz1, qz2, qz3]))
    refine wpAnyH_done (by kernel_rfl) ?_ _
    go_wp2
    go_ret
    exact ⟨rfl, HM.out.1⟩
set_option maxHeartbeats 4000000 in
theorem drowned_any (l : List Int) (b : Nat) (w : World) (ll : l.length = 6) (hc : chkL l = true) (hb : b < 6) :
    Calls Tryz.prog 113 #[.agg (icells l), .int .i64 (b : Int)] w (ValQ w (.int .i64 (mkN l b 6))) := by
  have LL := Lib.hid ll
  have HC := Lib.hid hc
  have HM := Lib.hid (Mem.start w)
  have b6 : (b : Int) < 6 := by omega
  clear ll hc
  go_enter Tryz.func113, Tryz.ntmps113
  go_wp2_with (first | ((first | refine wl_box rfl _ _ rfl rfl HM ?_ | refine wl_alloc rfl _ rfl (by exact arrOf) HM ?_); first | (have q:dL HM = 0:=rfl;clear q HM;intro g1 u1 HM) | (have q:dL HM = 1:=rfl;clear q HM;intro g2 u2 HM) | (have q:dL HM = 2:=rfl;clear q HM;intro g3 u3 HM) | (have q:dL HM = 3:=rfl;clear q HM;intro g4 u4 HM)) | (refine wl_load rfl _ _ rfl rfl (by exact arrOf) HM (by exact memOf) (by exact lenOf) ?_) | (refine wl_storeM rfl _ _ _ rfl rfl rfl (by exact arrOf) HM (by exact idxOf) (by exact lenOf) (by exact lenOf) ?_; clear HM; intro us HM; dsimp only [List.set] at HM) | (refine wl_zero rfl _ rfl (by exact arrOf) (by kernel_rfl) ?_))
  go_loop [5, 10] (fun vm vi => ∃ k : Nat, k ≤ 6 ∧ vi = .int .i64 (k : Int) ∧ vm = .int .i64 (mkN l b k)) (fun _ vi => 6 - (intOf vi).toNat)
  case atStart => exact ⟨0, by omega, rfl, rfl⟩
  case round =>
    obtain ⟨k, hk, rfl, rfl⟩ := hrel
    by_cases hlt : k < 6
    · have k6 : (k : Int) < 6 := by omega
      have hix := run_index 23 (n := 6) (by kernel_rfl) l LL.out k hlt
      have hv := inR_bd HC.out (by omega) (by omega) k
      have hm := mkN_bd HC.out b k
      by_cases hkb : k = b
      · subst hkb
        have HS := Lib.hid (mkN_self l k)
        have hd : ((k : Int) == (k : Int)) = true := by simp
        generalize mkN l k k = M at hm HS
        generalize l.getD k 0 = v at hix hv
        clear hv hm
        go_wp2
        go_round
        case rel => exact ⟨k + 1, by omega, by go_num, by rw [HS.out]⟩
        case measure => simp [intOf]; omega
      · obtain ⟨D, hD⟩ : ∃ D : Int, max ((k : Int) - (b : Int)) ((b : Int) - (k : Int)) = D := ⟨_, rfl⟩
        have HS := Lib.hid (show mkN l b (k + 1) = max (mkN l b k) (l.getD k 0 - 12 * D - 8) by rw [← hD]; exact mkN_other l hkb)
        have d1 : 0 ≤ D := by omega
        have d2 : D ≤ 5 := by omega
        have hd : ((k : Int) == (b : Int)) = false := by simpa using fun h => hkb (by omega)
        generalize mkN l b k = M at hm HS
        generalize l.getD k 0 = v at hix hv HS
        obtain ⟨hv1, hv2⟩ := hv
        obtain ⟨hm1, hm2⟩ := hm
        clear hkb
        go_wp2
        go_round
        case rel => exact ⟨k + 1, by omega, by go_num, by rw [HS.out]⟩
        case measure => simp [intOf]; omega
    · obtain rfl : k = 6 := by omega
      go_wp2
      go_ret
      exact ⟨rfl, HM.out.1⟩
set_option maxHeartbeats 4000000 in
theorem mask_bad (l : List Int) (w : World) (ll : l.length = 6) (hc : chkL l = false) :
    Calls Tryz.prog 84 #[.agg (icells l)] w (ValQ w (.tuple #[.agg (icells (zr 6)), .int .i64 1])) := by
  have LL := Lib.hid ll
  have LZ := Lib.hid (zr_length 6)
  have HM := Lib.hid (Mem.start w)
  have HC := Lib.hid (fun u => bcheck_any l false 1 u ll hc rfl)
  clear ll hc
  go_enter Tryz.func84, Tryz.ntmps84
  go_wp2_with (first | ((first | refine wl_box rfl _ _ rfl rfl HM ?_ | refine wl_alloc rfl _ rfl (by exact arrOf) HM ?_); first | (have q:dL HM = 0:=rfl;clear q HM;intro g1 u1 HM) | (have q:dL HM = 1:=rfl;clear q HM;intro g2 u2 HM) | (have q:dL HM = 2:=rfl;clear q HM;intro g3 u3 HM) | (have q:dL HM = 3:=rfl;clear q HM;intro g4 u4 HM)) | (refine wl_load rfl _ _ rfl rfl (by exact arrOf) HM (by exact memOf) (by exact lenOf) ?_) | (refine wl_storeM rfl _ _ _ rfl rfl rfl (by exact arrOf) HM (by exact idxOf) (by exact lenOf) (by exact lenOf) ?_; clear HM; intro us HM; dsimp only [List.set] at HM) | (refine wl_zero rfl _ rfl (by exact arrOf) (by kernel_rfl) ?_))
  refine (HC.out _).mono ?_
  rintro e w2 ⟨rfl, h1⟩
  have HM2 := Lib.hid (HM.out.below h1)
  clear h1 HM HC
  have HM := HM2
  clear HM2
  go_wp2_with (first | ((first | refine wl_box rfl _ _ rfl rfl HM ?_ | refine wl_alloc rfl _ rfl (by exact arrOf) HM ?_); first | (have q:dL HM = 0:=rfl;clear q HM;intro g1 u1 HM) | (have q:dL HM = 1:=rfl;clear q HM;intro g2 u2 HM) | (have q:dL HM = 2:=rfl;clear q HM;intro g3 u3 HM) | (have q:dL HM = 3:=rfl;clear q HM;intro g4 u4 HM)) | (refine wl_load rfl _ _ rfl rfl (by exact arrOf) HM (by exact memOf) (by exact lenOf) ?_) | (refine wl_storeM rfl _ _ _ rfl rfl rfl (by exact arrOf) HM (by exact idxOf) (by exact lenOf) (by exact lenOf) ?_; clear HM; intro us HM; dsimp only [List.set] at HM) | (refine wl_zero rfl _ rfl (by exact arrOf) (by kernel_rfl) ?_))
  refine bodyPost_ret (v := .tuple #[.agg (icells (zr 6)), .int .i64 1]) (res_two rfl _ rfl rfl arrLev HM (by exact memOf) LZ) rfl ⟨rfl, HM.out.1⟩
set_option maxHeartbeats 4000000 in
theorem mask_good (l : List Int) (w : World) (ll : l.length = 6) (hc : chkL l = true) :
    Calls Tryz.prog 84 #[.agg (icells l)] w (ValQ w (.tuple #[.agg (icells (maskL l)), .int .i64 0])) := by
  have LL := Lib.hid ll
  have LZ := Lib.hid (zr_length 6)
  have HM := Lib.hid (Mem.start w)
  have HC := Lib.hid (fun u => bcheck_any l true 0 u ll hc rfl)
  have HD := Lib.hid (fun b u hb => drowned_any l b u ll hc hb)
  clear ll hc
  go_enter Tryz.func84, Tryz.ntmps84
  go_wp2_with (first | ((first | refine wl_box rfl _ _ rfl rfl HM ?_ | refine wl_alloc rfl _ rfl (by exact arrOf) HM ?_); first | (have q:dL HM = 0:=rfl;clear q HM;intro g1 u1 HM) | (have q:dL HM = 1:=rfl;clear q HM;intro g2 u2 HM) | (have q:dL HM = 2:=rfl;clear q HM;intro g3 u3 HM) | (have q:dL HM = 3:=rfl;clear q HM;intro g4 u4 HM)) | (refine wl_load rfl _ _ rfl rfl (by exact arrOf) HM (by exact memOf) (by exact lenOf) ?_) | (refine wl_storeM rfl _ _ _ rfl rfl rfl (by exact arrOf) HM (by exact idxOf) (by exact lenOf) (by exact lenOf) ?_; clear HM; intro us HM; dsimp only [List.set] at HM) | (refine wl_zero rfl _ rfl (by exact arrOf) (by kernel_rfl) ?_))
  refine (HC.out _).mono ?_
  rintro e w2 ⟨rfl, h1⟩
  have HM2 := Lib.hid (HM.out.below h1)
  clear h1 HM HC
  have HM := HM2
  clear HM2
  go_wp2_with (first | ((first | refine wl_box rfl _ _ rfl rfl HM ?_ | refine wl_alloc rfl _ rfl (by exact arrOf) HM ?_); first | (have q:dL HM = 0:=rfl;clear q HM;intro g1 u1 HM) | (have q:dL HM = 1:=rfl;clear q HM;intro g2 u2 HM) | (have q:dL HM = 2:=rfl;clear q HM;intro g3 u3 HM) | (have q:dL HM = 3:=rfl;clear q HM;intro g4 u4 HM)) | (refine wl_load rfl _ _ rfl rfl (by exact arrOf) HM (by exact memOf) (by exact lenOf) ?_) | (refine wl_storeM rfl _ _ _ rfl rfl rfl (by exact arrOf) HM (by exact idxOf) (by exact lenOf) (by exact lenOf) ?_; clear HM; intro us HM; dsimp only [List.set] at HM) | (refine wl_zero rfl _ rfl (by exact arrOf) (by kernel_rfl) ?_))
  go_loopw [10] (fun vi wr => ∃ k : Nat, k ≤ 6 ∧ vi = .int .i64 (k : Int) ∧ Hid (Mem w [(g3, 23, tab 6 (part2 k (fun b => mkN l b 6) (fun _ => 0))), (g2, 23, zr 6), (g1, 23, l)] wr)) (fun vi _ => 6 - (intOf vi).toNat)
  case atStart => exact ⟨0, by omega, rfl, Lib.hid (by rw [part2_none, tab_zero]; exact HM.out)⟩
  case round =>
    clear HM
    obtain ⟨k, hk, rfl, HM⟩ := hrel
    by_cases hlt : k < 6
    · have k6 : (k : Int) < 6 := by omega
      go_wp2_with (first | ((first | refine wl_box rfl _ _ rfl rfl HM ?_ | refine wl_alloc rfl _ rfl (by exact arrOf) HM ?_); first | (have q:dL HM = 0:=rfl;clear q HM;intro g1 u1 HM) | (have q:dL HM = 1:=rfl;clear q HM;intro g2 u2 HM) | (have q:dL HM = 2:=rfl;clear q HM;intro g3 u3 HM) | (have q:dL HM = 3:=rfl;clear q HM;intro g4 u4 HM)) | (refine wl_load rfl _ _ rfl rfl (by exact arrOf) HM (by exact memOf) (by exact lenOf) ?_) | (refine wl_storeM rfl _ _ _ rfl rfl rfl (by exact arrOf) HM (by exact idxOf) (by exact lenOf) (by exact lenOf) ?_; clear HM; intro us HM; dsimp only [List.set] at HM) | (refine wl_zero rfl _ rfl (by exact arrOf) (by kernel_rfl) ?_))
      refine (HD.out k _ hlt).mono ?_
      rintro e wb ⟨rfl, h1⟩
      have HM2 := Lib.hid (HM.out.below h1)
      clear h1 HM
      have HM := HM2
      clear HM2
      have S1 := Lib.hid (part2_set (n := 6) (k := k) (fun b => mkN l b 6) (fun _ => 0))
      have c3 := HM.out.cell (.head _) (k := k) (by rw [tab_length]; omega)
      have f3 := HM.out.free (.head _) k
      generalize List.getD (tab 6 _) k 0 = o at c3
      generalize mkN l k 6 = q at S1
      go_wp2
      have HM3 := Lib.hid (HM.out.put 0 rfl k q)
      simp only [List.set_cons_zero] at HM3
      rw [S1.out] at HM3
      clear HM c3 f3
      go_roundw
      case rel => exact ⟨k + 1, by omega, by go_num, HM3⟩
      case measure => simp [intOf]; omega
    · obtain rfl : k = 6 := by omega
      rw [part2_all] at HM
      have LO := Lib.hid (maskL_length l)
      change Hid (Mem w [(g3, 23, maskL l), (g2, 23, zr 6), (g1, 23, l)] wr) at HM
      go_wp2_with (first | ((first | refine wl_box rfl _ _ rfl rfl HM ?_ | refine wl_alloc rfl _ rfl (by exact arrOf) HM ?_); first | (have q:dL HM = 0:=rfl;clear q HM;intro g1 u1 HM) | (have q:dL HM = 1:=rfl;clear q HM;intro g2 u2 HM) | (have q:dL HM = 2:=rfl;clear q HM;intro g3 u3 HM) | (have q:dL HM = 3:=rfl;clear q HM;intro g4 u4 HM)) | (refine wl_load rfl _ _ rfl rfl (by exact arrOf) HM (by exact memOf) (by exact lenOf) ?_) | (refine wl_storeM rfl _ _ _ rfl rfl rfl (by exact arrOf) HM (by exact idxOf) (by exact lenOf) (by exact lenOf) ?_; clear HM; intro us HM; dsimp only [List.set] at HM) | (refine wl_zero rfl _ rfl (by exact arrOf) (by kernel_rfl) ?_))
      refine bodyPost_ret (v := .tuple #[.agg (icells (maskL l)), .int .i64 0]) (res_two rfl _ rfl rfl arrLev HM (by exact memOf) LO) rfl ⟨rfl, HM.out.1⟩
end Go.Proofs.YtgpdgegelipboaaGreatDoor.Lp
namespace Go.Proofs.YtgpdgegelipboaaGreatDoor.Lp
open Go.RowKit Fx Fq Tb
theorem wished_any (v m : Int) (w : World) (h1 : 0 ≤ v) (h2 : v ≤ 255) (h3 : 0 ≤ m) (h4 : m ≤ 255) :
    Calls Tryz.prog 85 #[.int .i64 v, .int .i64 m] w fun e w' => e = .returned (.int .i64 (wishI v m)) ∧ w = w' := by
  by_cases h : v ≤ m
  · have HV := Lib.hid (show wishI v m = 0 from if_pos h)
    go_enter Tryz.func85, Tryz.ntmps85
    go_wp2
    go_ret
    exact ⟨ri HV.out.symm, rfl⟩
  · have HV := Lib.hid (show wishI v m = min ((v - m + 8 - 1) / 8) 7 by
      unfold wishI; rw [if_neg h]; omega)
    have h5 : m < v := by omega
    clear h
    go_enter Tryz.func85, Tryz.ntmps85
    go_wp2
    go_ret
    exact ⟨ri HV.out.symm, rfl⟩
theorem costN_bd {a : List Int} (h : OkA a) : ∀ k, k ≤ 6 → 0 ≤ costN a k ∧ costN a k ≤ 112 * (k : Int)
  | 0, _ => by simp [costN, sumN]
  | k + 1, hk => by
    have ih := costN_bd h k (by omega)
    have hv := h.2 k (by omega)
    have he := edg_all k (by omega)
    have hm := mul_bd (x := a.getD k 0) (y := (edg (k + 1) : Int) - (edg k : Int)) (A := 7) (B := 16) (by omega) (by omega) (by omega) (by omega)
    have hp := Int.mul_nonneg hv.1 (show 0 ≤ (edg (k + 1) : Int) - (edg k : Int) by omega)
    unfold costN at ih ⊢
    rw [sumN_succ]
    omega
set_option maxHeartbeats 4000000 in
theorem cost_any (a : List Int) (w : World) (ha : OkA a) (he : Edg w) :
    Calls Tryz.prog 115 #[.agg (icells a)] w (ValQ w (.int .i64 (costL a))) := by
  have HA := Lib.hid ha
  have LA := Lib.hid ha.1
  have HE := Lib.hid he
  have HM := Lib.hid (Mem.start w)
  clear ha he
  go_enter Tryz.func115, Tryz.ntmps115
  go_wp2_with (first | ((first | refine wl_box rfl _ _ rfl rfl HM ?_ | refine wl_alloc rfl _ rfl (by exact arrOf) HM ?_); first | (have q:dL HM = 0:=rfl;clear q HM;intro g1 u1 HM) | (have q:dL HM = 1:=rfl;clear q HM;intro g2 u2 HM) | (have q:dL HM = 2:=rfl;clear q HM;intro g3 u3 HM) | (have q:dL HM = 3:=rfl;clear q HM;intro g4 u4 HM)) | (refine wl_load rfl _ _ rfl rfl (by exact arrOf) HM (by exact memOf) (by exact lenOf) ?_) | (refine wl_storeM rfl _ _ _ rfl rfl rfl (by exact arrOf) HM (by exact idxOf) (by exact lenOf) (by exact lenOf) ?_; clear HM; intro us HM; dsimp only [List.set] at HM) | (refine wl_zero rfl _ rfl (by exact arrOf) (by kernel_rfl) ?_))
  go_loopw [3, 7] (fun vs vi wr => ∃ k : Nat, k ≤ 6 ∧ vi = .int .i64 (k : Int) ∧ vs = .int .i64 (costN a k) ∧ Hid (Mem w [(g1, 84, a)] wr)) (fun _ vi _ => 6 - (intOf vi).toNat)
  case atStart => exact ⟨0, by omega, rfl, rfl, HM⟩
  case round =>
    clear HM
    obtain ⟨k, hk, rfl, rfl, HM⟩ := hrel
    by_cases hlt : k < 6
    · have k6 : (k : Int) < 6 := by omega
      have hix := run_index 84 (n := 6) (by kernel_rfl) a LA.out k hlt
      obtain ⟨c1, c2⟩ := (HE.out.mem HM.out).cells hlt
      have hb := costN_bd HA.out k hk
      have hb2 := costN_bd HA.out (k + 1) (by omega)
      have hv := HA.out.2 k hlt
      have hed := edg_all k hlt
      have HS := Lib.hid (show costN a (k + 1) = costN a k + a.getD k 0 * ((edg (k + 1) : Int) - (edg k : Int)) from sumN_succ _ _)
      rw [HS.out] at hb2
      have hm := mul_bd (x := a.getD k 0) (y := (edg (k + 1) : Int) - (edg k : Int)) (A := 7) (B := 16) (by omega) (by omega) (by omega) (by omega)
      generalize costN a k = S at hb hb2 HS
      generalize a.getD k 0 = v at hix hv HS hb2 hm
      generalize edg k = lo at c1 hed HS hb2 hm
      generalize edg (k + 1) = hi at c2 hed HS hb2 hm
      obtain ⟨d, hd⟩ : ∃ d : Int, (hi : Int) - (lo : Int) = d := ⟨_, rfl⟩
      rw [hd] at HS hb2 hm
      have e1 : IntKind.i64.wrap ((k : Int) + 1) = (k : Int) + 1 := IntWalk.i64_in _ (by omega)
      have e2 : IntKind.i64.wrap ((hi : Int) - (lo : Int)) = d := by rw [hd]; exact IntWalk.i64_in _ (by omega)
      have e3 : IntKind.i64.wrap (v * d) = v * d := IntWalk.i64_in _ (by omega)
      have e4 : IntKind.i64.wrap (S + v * d) = S + v * d := IntWalk.i64_in _ (by omega)
      have e5 : ((k : Int) + 1).toNat = k + 1 := by omega
      have e6 : 0 ≤ (k : Int) + 1 := by omega
      have e7 : (k : Int) + 1 < 7 := by omega
      clear hd hb hb2 hv hm hed
      go_wp2_with fail
      go_quiet (fail)
      have HM2 := Lib.hid (HM.out.drewN nq)
      clear HM c1 c2 e1 e2 e3 e4 e5 e6 e7
      go_wp2
      go_roundw
      case rel => exact ⟨k + 1, by omega, by go_num, by rw [HS.out], HM2⟩
      case measure => simp [intOf]; omega
    · obtain rfl : k = 6 := by omega
      go_wp2
      go_ret
      exact ⟨rfl, HM.out.1⟩
def bnd (n : Nat) : Nat := if n < 1 then 0 else if n < 2 then 1 else if n < 4 then 2 else if n < 6 then 3 else if n < 10 then 4 else 5
theorem bnd_all : ∀ n, n < 16 → bnd n < 6 ∧ edg (bnd n) ≤ n ∧ n < edg (bnd n + 1) ∧ ∀ k, k < 6 → (k < bnd n → edg k ≤ n ∧ edg (k + 1) ≤ n) := by decide
set_option maxHeartbeats 4000000 in
theorem of_good (n : Nat) (w : World) (hn : n < 16) (he : Edg w) :
    Calls Tryz.prog 93 #[.int .i64 (n : Int)] w fun e w' => e = .returned (.tuple #[.int .i64 (bnd n : Int), .int .i64 0]) ∧ w = w' := by
  have HE := Lib.hid he
  obtain ⟨b1, b2, b3, b4⟩ := bnd_all n hn
  have B4 := Lib.hid b4
  obtain ⟨m, hm⟩ : ∃ m, bnd n = m := ⟨_, rfl⟩
  rw [hm] at b1 b2 b3 B4
  rw [hm]
  clear he b4 hm
  go_enter Tryz.func93, Tryz.ntmps93
  go_wp2_with fail
  go_loop [5] (fun vi => ∃ k : Nat, k ≤ m ∧ vi = .int .i64 (k : Int)) (fun vi => 6 - (intOf vi).toNat)
  case atStart => exact ⟨0, by omega, rfl⟩
  case round =>
    obtain ⟨k, hk, rfl⟩ := hrel
    have k6 : (k : Int) < 6 := by omega
    have k7 : (k : Int) + 1 < 7 := by omega
    obtain ⟨c1, c2⟩ := HE.out.cells (show k < 6 by omega)
    by_cases hlt : k < m
    · obtain ⟨l1, l2⟩ := B4.out k (by omega) hlt
      generalize edg k = lo at c1 l1
      generalize edg (k + 1) = hi at c2 l2
      have g1 : (lo : Int) ≤ (n : Int) := by omega
      have g2 : (hi : Int) ≤ (n : Int) := by omega
      go_wp2
      go_round
      case rel => exact ⟨k + 1, by omega, by go_num⟩
      case measure => simp [intOf]; omega
    · obtain rfl : k = m := by omega
      generalize edg k = lo at c1 b2
      generalize edg (k + 1) = hi at c2 b3
      have g1 : (lo : Int) ≤ (n : Int) := by omega
      have g2 : (n : Int) < (hi : Int) := by omega
      go_wp2
      go_ret2
      exact ⟨rfl, rfl⟩
end Go.Proofs.YtgpdgegelipboaaGreatDoor.Lp
namespace Go.Proofs.YtgpdgegelipboaaGreatDoor.Lp
open Go.RowKit Fx Fq Tb
theorem edg_int : ∀ b, b < 7 → ([0, 1, 2, 4, 6, 10, 16] : List Int).getD b 0 = (edg b : Int) := by decide
theorem rfirst_any (b : Nat) (z : Int) (w : World) (hb : b < 7) (hz : z = (b : Int)) :
    Calls Tryz.prog 110 #[.int .i64 z] w fun e w' => e = .returned (.int .i64 (edg b : Int)) ∧ w = w' := by
  have hix : ∀ u, (Instr.index 164 (.agg #[.int .i64 0, .int .i64 1, .int .i64 2, .int .i64 4, .int .i64 6, .int .i64 10, .int .i64 16]) (.int .i64 z)).run Tryz.prog u = .ok (.int .i64 (edg b : Int)) u := fun u => by
    rw [← edg_int b hb, hz]
    exact run_index 164 (n := 7) (by kernel_rfl) [0, 1, 2, 4, 6, 10, 16] rfl b hb u
  clear hz
  go_enter Tryz.func110, Tryz.ntmps110
  go_wp2
  go_ret
  exact ⟨rfl, rfl⟩
set_option maxHeartbeats 4000000 in
theorem rbcheck_any (l : List Int) (c : Bool) (z : Int) (w : World) (ll : l.length = 6) (hc : chkL l = c) (hz : (if c = true then 0 else 1) = z) :
    Calls Tryz.prog 26 #[.agg (icells l)] w (ValQ w (.int .i64 z)) := by
  have LL := Lib.hid ll
  have HI := Lib.hid (inR_iff (lo := 0) (hi := 255) ll)
  rw [show inR 0 255 l = c from hc] at HI
  have HZ := Lib.hid hz
  have HM := Lib.hid (Mem.start w)
  clear ll hc hz
  go_enter Tryz.func26, Tryz.ntmps26
  go_wp2_with (first | ((first | refine wl_box rfl _ _ rfl rfl HM ?_ | refine wl_alloc rfl _ rfl (by exact arrOf) HM ?_); first | (have q:dL HM = 0:=rfl;clear q HM;intro g1 u1 HM) | (have q:dL HM = 1:=rfl;clear q HM;intro g2 u2 HM) | (have q:dL HM = 2:=rfl;clear q HM;intro g3 u3 HM) | (have q:dL HM = 3:=rfl;clear q HM;intro g4 u4 HM)) | (refine wl_load rfl _ _ rfl rfl (by exact arrOf) HM (by exact memOf) (by exact lenOf) ?_) | (refine wl_storeM rfl _ _ _ rfl rfl rfl (by exact arrOf) HM (by exact idxOf) (by exact lenOf) (by exact lenOf) ?_; clear HM; intro us HM; dsimp only [List.set] at HM) | (refine wl_zero rfl _ rfl (by exact arrOf) (by kernel_rfl) ?_))
  go_loop [6] (fun vi => ∃ k : Nat, vi = .int .i64 (k : Int) ∧ k ≤ 6 ∧ Hid (∀ j, j < k → 0 ≤ l.getD j 0 ∧ l.getD j 0 ≤ 255)) (fun vi => 6 - (intOf vi).toNat)
  case atStart => exact ⟨0, rfl, by omega, Lib.hid (fun j hj => by omega)⟩
  case round =>
    obtain ⟨k, rfl, hk, HK⟩ := hrel
    by_cases hlt : k < 6
    · have hix := run_index 23 (n := 6) (by kernel_rfl) l LL.out k hlt
      obtain ⟨v, hv⟩ : ∃ v, l.getD k 0 = v := ⟨_, rfl⟩
      rw [hv] at hix
      have HX := Lib.hid hv
      have kn : (k : Int) < 6 := by omega
      clear hv
      by_cases h1 : 0 ≤ v
      · by_cases h2 : v ≤ 255
        · go_wp2
          go_round
          case rel =>
            refine ⟨k + 1, by go_num, by omega, Lib.hid fun j hj => ?_⟩
            by_cases hjk : j < k
            · exact HK.out j hjk
            · obtain rfl : j = k := by omega
              rw [HX.out]; exact ⟨h1, h2⟩
          case measure => simp [intOf]; omega
        · have h3 : 255 < v := by omega
          obtain rfl : c = false := by
            cases c with
            | false => rfl
            | true => have := HI.out.1 rfl k hlt; rw [HX.out] at this; omega
          go_wp2
          go_ret
          exact ⟨ri HZ.out, HM.out.1⟩
      · have h3 : v < 0 := by omega
        obtain rfl : c = false := by
          cases c with
          | false => rfl
          | true => have := HI.out.1 rfl k hlt; rw [HX.out] at this; omega
        go_wp2
        go_ret
        exact ⟨ri HZ.out, HM.out.1⟩
    · obtain rfl : k = 6 := by omega
      obtain rfl : c = true := HI.out.2 HK.out
      go_wp2
      go_ret
      exact ⟨ri HZ.out, HM.out.1⟩
set_option maxHeartbeats 4000000 in
theorem rcost_any (a : List Int) (w : World) (ha : OkA a) :
    Calls Tryz.prog 109 #[.agg (icells a)] w (ValQ w (.int .i64 (costL a))) := by
  have HA := Lib.hid ha
  have LA := Lib.hid ha.1
  have HM := Lib.hid (Mem.start w)
  clear ha
  go_enter Tryz.func109, Tryz.ntmps109
  go_wp2_with (first | ((first | refine wl_box rfl _ _ rfl rfl HM ?_ | refine wl_alloc rfl _ rfl (by exact arrOf) HM ?_); first | (have q:dL HM = 0:=rfl;clear q HM;intro g1 u1 HM) | (have q:dL HM = 1:=rfl;clear q HM;intro g2 u2 HM) | (have q:dL HM = 2:=rfl;clear q HM;intro g3 u3 HM) | (have q:dL HM = 3:=rfl;clear q HM;intro g4 u4 HM)) | (refine wl_load rfl _ _ rfl rfl (by exact arrOf) HM (by exact memOf) (by exact lenOf) ?_) | (refine wl_storeM rfl _ _ _ rfl rfl rfl (by exact arrOf) HM (by exact idxOf) (by exact lenOf) (by exact lenOf) ?_; clear HM; intro us HM; dsimp only [List.set] at HM) | (refine wl_zero rfl _ rfl (by exact arrOf) (by kernel_rfl) ?_))
  go_loop [3, 7] (fun vs vi => ∃ k : Nat, k ≤ 6 ∧ vi = .int .i64 (k : Int) ∧ vs = .int .i64 (costN a k)) (fun _ vi => 6 - (intOf vi).toNat)
  case atStart => exact ⟨0, by omega, rfl, rfl⟩
  case round =>
    obtain ⟨k, hk, rfl, rfl⟩ := hrel
    by_cases hlt : k < 6
    · have k6 : (k : Int) < 6 := by omega
      have hix := run_index 84 (n := 6) (by kernel_rfl) a LA.out k hlt
      have F1 := Lib.hid (fun u => rfirst_any k (k : Int) u (by omega) rfl)
      have F2 := Lib.hid (fun u => rfirst_any (k + 1) ((k : Int) + 1) u (by omega) (by omega))
      have hb := costN_bd HA.out k hk
      have hb2 := costN_bd HA.out (k + 1) (by omega)
      have hv := HA.out.2 k hlt
      have hed := edg_all k hlt
      have HS := Lib.hid (show costN a (k + 1) = costN a k + a.getD k 0 * ((edg (k + 1) : Int) - (edg k : Int)) from sumN_succ _ _)
      rw [HS.out] at hb2
      have hm := mul_bd (x := a.getD k 0) (y := (edg (k + 1) : Int) - (edg k : Int)) (A := 7) (B := 16) (by omega) (by omega) (by omega) (by omega)
      generalize costN a k = S at hb hb2 HS
      generalize a.getD k 0 = v at hix hv HS hb2 hm
      generalize edg k = lo at F1 hed HS hb2 hm
      generalize edg (k + 1) = hi at F2 hed HS hb2 hm
      obtain ⟨d, hd⟩ : ∃ d : Int, (hi : Int) - (lo : Int) = d := ⟨_, rfl⟩
      rw [hd] at HS hb2 hm
      obtain ⟨q, hq⟩ : ∃ q : Int, v * d = q := ⟨_, rfl⟩
      rw [hq] at HS hb2 hm
      clear hv
      go_wp2_with fail
      refine (F2.out _).mono ?_
      rintro e wb ⟨rfl, rfl⟩
      go_wp2_with fail
      refine (F1.out _).mono ?_
      rintro e wb ⟨rfl, rfl⟩
      go_wp2_with fail
      go_round
      case rel => exact ⟨k + 1, by omega, by go_num, by rw [HS.out]⟩
      case measure => simp [intOf]; omega
    · obtain rfl : k = 6 := by omega
      go_wp2
      go_ret
      exact ⟨rfl, HM.out.1⟩
end Go.Proofs.YtgpdgegelipboaaGreatDoor.Lp
namespace Go.Proofs.YtgpdgegelipboaaGreatDoor.Lp
open Go.RowKit Go.Shelf Fx Fq Tb
attribute [local go_sem] Oper.semAt_some
section
variable {P : Program} {l n : Nat} {a : Act} {w : World} {Q : Exit → Act → World → Prop} {ops : Array Oper}
theorem oper_in {o : Oper} {K : Act → World → Prop} (hnd : ∀ c, o.op ≠ .defer c) (h : o.wp P a w K Q) : o.wpIn (Fence.wide.inRound l) n P a w K Q := by
  refine ⟨fun _ _ => trivial, ?_⟩
  unfold Oper.wp at h
  rw [show (Fence.wide.inRound l).round = some l from rfl, Oper.semAt_some l _ _ hnd]
  generalize (execOp a.eval o).run P w = r at h ⊢
  cases r with
  | ok x w' =>
    cases x <;> first
      | exact h
      | exact h.elim
      | exact ⟨fun hd => (by cases hd), (callsIn_wide.2 h).inRound l⟩
      | exact ⟨fun hd => (by cases hd), fun c cs _ => let ⟨v, w'', r, s⟩ := h c cs; ⟨v, w'', r, stepsIn_wide.2 s⟩⟩
  | halt x w' => cases x <;> exact h
def undeferred (ops : Array Oper) : Bool := ops.toList.all fun o => match o.op with | .defer _ => false | _ => true
theorem undeferred_at (h : undeferred ops = true) {i : Nat} {o : Oper} (hi : ops[i]? = some o) (c) : o.op ≠ .defer c := fun e => by
  have hm : o ∈ ops.toList := by
    rw [← Array.getElem?_toList] at hi
    exact List.mem_of_getElem? hi
  have := List.all_eq_true.1 h o hm
  rw [e] at this
  cases this
theorem op_in (h : undeferred ops = true) (hno : ¬ LetsOut Q) {i : Nat} {K : Act → World → Prop} (hh : wpOp P ops Q i K a w) : wpOpIn (Fence.wide.inRound l) n P ops Q i K a w := by
  unfold wpOp at hh
  unfold wpOpIn
  cases ho : ops[i]? with
  | none => rw [ho] at hh; exact hh
  | some o =>
    rw [ho] at hh
    simp only at hh ⊢
    by_cases hw : Region.wanted o (yielded ops a.tmps) = true
    · rw [if_pos hw] at hh ⊢
      exact oper_in (undeferred_at h ho) (hh.resolve_right fun k => hno k.2)
    · rw [if_neg hw] at hh ⊢
      exact ⟨fun _ _ => trivial, hh⟩
theorem any_in {md : Region.Mode} (h : undeferred ops = true) (hno : ¬ LetsOut Q) : ∀ (fuel : Nat) (listed : Array Bool) (a : Act) (w : World), wpAny P md ops Q fuel listed a w → wpAnyIn (Fence.wide.inRound l) n P md ops Q fuel listed a w
  | 0, _, _, _, hh => hh
  | fuel + 1, _, _, _, hh => ⟨hh.1, fun i hi => wpOpIn_mono (fun a' w' h' => any_in h hno fuel _ a' w' h') (op_in h hno (hh.2 i hi))⟩
theorem round_held {S : World → Prop} {id : Nat} (hm : P.follows .mixedOrders = true) (h : undeferred ops = true) (hno : ¬ LetsOut Q) (hS : S w.drew)
    (hh : S w.drew → wpAnyH P .any ops Q S ops.size (Array.replicate ops.size false) a w.drew) : (Code.region id ops true).wpIn (Fence.wide.inRound l) n P Q a w :=
  wpIn_region_any hm (any_in h hno _ _ _ _ (wpAny_of_held _ _ _ _ (hh hS)))
end
def std (k : Nat) : List (Fin 6) := (List.range k).map fun i => (⟨5 - i, by omega⟩ : Fin 6)
theorem std_succ (k : Nat) : std (k + 1) = std k ++ [⟨5 - k, by omega⟩] := by
  unfold std; rw [List.range_succ, List.map_append]; rfl
theorem std_length (k : Nat) : (std k).length = k := by unfold std; rw [List.length_map, List.length_range]
set_option maxHeartbeats 2000000 in
theorem behind_stops (F : Fence) (n : Nat) (hF : F.fn 114) (hro : F.round = none) (hn : 1 ≤ n) (w : World) :
    SeqStopsK F n Tryz.prog 114 #[] (fun x : Fin 6 => #[.int .i64 ((x.val : Nat) : Int)]) KeepsWalks (fun xs => xs = std 6) (fun pre => ∃ k, k ≤ 6 ∧ pre = std k) 6 w := fun l J Jx W _ _ _ hY h0 => by
  refine callsIn_of_wp Tryz.func114 rfl hF ?_ hro
  simp only [Tryz.ntmps114, List.size_toArray, List.length_cons, List.length_nil, Nat.reduceAdd, Nat.reduceSub, Array.replicate_succ, Array.replicate_zero, List.push_toArray, List.append_toArray, List.nil_append, List.cons_append]
  gi_wp2
  gi_loopw [2] (fun p wr => ∃ (k : Nat) (z : Int), k ≤ 6 ∧ p = .int .i64 z ∧ Hid (z = 5 - (k : Int)) ∧ J (std k) wr) (fun p _ => (intOf p + 1).toNat)
  case atStart => exact ⟨0, 5, by omega, rfl, Lib.hid (by omega), h0⟩
  case round =>
    obtain ⟨k, z, hk, rfl, HZ, hJ⟩ := hrel
    have hz1 : -1 ≤ z := by have := HZ.out; omega
    have hz2 : z ≤ 5 := by have := HZ.out; omega
    by_cases hlt : k < 6
    · have hz3 : 0 ≤ z := by have := HZ.out; omega
      obtain ⟨fn, tmps, assign, body, hy, hR⟩ := hY (std k) ⟨5 - k, by omega⟩ wr hJ (by rw [std_length]; exact hlt)
      have e : (((5 - k : Nat)) : Int) = z := by have := HZ.out; omega
      rw [← std_succ] at hR
      simp only [e] at hy
      clear e
      gi_wp2
      refine hR.mono ?_
      rintro e W3 (⟨rfl, hJ3, -⟩ | ⟨rfl, hJx3⟩)
      · gi_wp2
        go_roundw
        case rel => exact ⟨k + 1, z - 1, by omega, rfl, Lib.hid (by have := HZ.out; omega), hJ3⟩
        case measure => simp [intOf]; omega
      · gi_wp2
        refine bodyPost_ret (results_none rfl _ _ _) rfl ?_
        exact ⟨⟨_, rfl⟩, .inr ⟨std (k + 1), ⟨k + 1, by omega, rfl⟩, hJx3⟩⟩
    · obtain rfl : k = 6 := by omega
      have hz3 : z < 0 := by have := HZ.out; omega
      gi_wp2
      go_end0
      exact ⟨⟨_, rfl⟩, .inl ⟨std 6, rfl, hJ⟩⟩
end Go.Proofs.YtgpdgegelipboaaGreatDoor.Lp
namespace Go.Proofs.YtgpdgegelipboaaGreatDoor.Lp
open Go.RowKit Go.Shelf Fx Fq Tb
attribute [local go_sem] Oper.semAt_some
section
variable {ops : Array Oper} {rest : List Oper} {o : Oper} {a : Act} {w w0 : World} {Q : Exit → Act → World → Prop} {L : List (Nat × TypeId × List Int)}
theorem wl_box1 (hgd : Region.wanted o (yielded ops a.tmps) = true) (x : Operand) (ho : o.op = .box 3 x) {v : Int} (hx : a.eval x = .int .i64 v) (hm : Hid (Mem w0 L w))
    (h : ∀ g w', Hid (Mem w0 ((g, 3, [v]) :: L) w') → wpList Tryz.prog ops Q rest (a.put o.dst (.pointer (some ⟨g, 0, none⟩))) w') : wpList Tryz.prog ops Q (o :: rest) a w :=
  wl_step hgd fun K hK => by
    have := hK _ _ (h w.heap.size _ (Lib.hid (hm.out.alloc 3 [v])))
    unfold Oper.wp execOp
    simp only [ho, Instr.box, newVar, newRow, Sem.run_bind, hx, Result.andThen, Value.cells, Sem.run_pure]
    exact this
theorem wl_alloc1 (hgd : Region.wanted o (yielded ops a.tmps) = true) (ho : o.op = .alloc 3) (hm : Hid (Mem w0 L w))
    (h : ∀ g w', Hid (Mem w0 ((g, 3, [0]) :: L) w') → wpList Tryz.prog ops Q rest (a.put o.dst (.pointer (some ⟨g, 0, none⟩))) w') : wpList Tryz.prog ops Q (o :: rest) a w :=
  wl_step hgd fun K hK => by
    have hz : (zeroValue 3).run Tryz.prog w = .ok (.int .i64 0) w := by kernel_rfl
    have := hK _ _ (h w.heap.size _ (Lib.hid (hm.out.alloc 3 [0])))
    unfold Oper.wp execOp
    simp only [ho, Instr.alloc, newVar, newRow, Sem.run_bind, hz, Result.andThen, Value.cells, Sem.run_pure]
    exact this
theorem Mem.one (h : Mem w0 L w) {g : Nat} {v : Int} (hm : (g, 3, [v]) ∈ L) : w.cell? ⟨g, 0, none⟩ = some (.int .i64 v) := h.cell hm (k := 0) (by simp)
theorem Mem.put1 (h : Mem w0 L w) (i : Nat) {g : Nat} {x : Int} (hi : L[i]? = some (g, 3, [x])) (v : Int) : Mem w0 (L.set i (g, 3, [v])) (w.setCell ⟨g, 0, none⟩ (.int .i64 v)) := h.put i hi 0 v
theorem Mem.grows {row : Option Nat} {u' : World} {B : Nat} (h : Mem w0 L w) (hB : w0.heap.size ≤ B) (hg : w.grownBy u' row) (hr : ∀ r, row = some r → B ≤ r ∧ ∃ o : Obj, w.heap[r]? = some o ∧ o.isCells = false) : Mem w0 L u' := by
  have hne : ∀ i, (∃ T cs, Blk w i T cs) → some i ≠ row := fun i ⟨T, cs, hb⟩ e => by
    obtain ⟨-, o, ho, hc⟩ := hr i e.symm
    have hb' : w.heap[i]? = some (.cells cs T (0, 0)) := hb
    rw [hb'] at ho
    injection ho with ho
    subst ho
    cases hc
  have hbl : Below w0.heap.size w0 u' := by
    refine ⟨hg.os.trans h.1.os, hg.tape.trans h.1.tape, hg.output.trans h.1.output, Nat.le_trans h.1.size hg.size, fun i hi => (hg.block i (Nat.lt_of_lt_of_le hi h.1.size) (fun e => ?_)).trans (h.1.block i hi)⟩
    have := (hr i e.symm).1
    omega
  exact ⟨hbl, fun e he => (hg.block e.1 (h.2.1 e he).lt (hne e.1 ⟨_, _, h.2.1 e he⟩)).trans (h.2.1 e he), h.2.2.1, h.2.2.2⟩
end
theorem KeepsOthers.below {W W' : World} (h : Below W.heap.size W W') : KeepsOthers W W' := ⟨h.size, fun k _ hk _ => (h.block k (Array.getElem?_eq_some_iff.1 hk).1).trans hk⟩
section
variable {ops : Array Oper} {rest : List Oper} {o : Oper} {a : Act} {w w0 : World} {Q : Exit → Act → World → Prop} {L : List (Nat × TypeId × List Int)}
theorem KeepsOthers.row {g : Nat} {T : TypeId} {cs ds : Array Value} (h : Blk w g T cs) : KeepsOthers w (w.setRow g ds) :=
  KeepsOthers.of_grownBy (grown_row w g ds) fun j o e ho => by
    injection e with e
    subst e
    have h' : w.heap[g]? = some (.cells cs T (0, 0)) := h
    rw [h'] at ho
    injection ho with ho
    rw [← ho]; rfl
theorem wl_storeK (hgd : Region.wanted o (yielded ops a.tmps) = true) (T : TypeId) (x y : Operand) (ho : o.op = .store T x y) {g n : Nat} (hx : a.eval x = .pointer (some ⟨g, 0, none⟩)) {ys : List Int} (hy : a.eval y = .agg (icells ys)) (ha : Arr T n) {xs : List Int}
    (hm : Hid (Mem w0 L w)) (i : Nat) (hi : L[i]? = some (g, T, xs)) (hl : Hid (xs.length = n)) (hl' : Hid (ys.length = n))
    (h : ∀ w', Hid (Mem w0 (L.set i (g, T, ys)) w') → KeepsOthers w w' → wpList Tryz.prog ops Q rest (a.put o.dst undef) w') : wpList Tryz.prog ops Q (o :: rest) a w :=
  wl_step hgd fun K hK => by
    have := hK _ _ (h _ (Lib.hid (hm.out.row i hi ys)) (KeepsOthers.row (hm.out.get (List.mem_of_getElem? hi))))
    unfold Oper.wp execOp
    simp only [ho, hx, hy, Instr.storeAt, Instr.sureAddr, Sem.run_bind, Sem.run_pure, Result.andThen_ok, run_store_mem ha hm.out (List.mem_of_getElem? hi) hl.out hl'.out]
    exact this
theorem wl_alloc1K (hgd : Region.wanted o (yielded ops a.tmps) = true) (ho : o.op = .alloc 3) (hm : Hid (Mem w0 L w))
    (h : ∀ g w', Hid (Mem w0 ((g, 3, [0]) :: L) w') → KeepsOthers w w' → wpList Tryz.prog ops Q rest (a.put o.dst (.pointer (some ⟨g, 0, none⟩))) w') : wpList Tryz.prog ops Q (o :: rest) a w :=
  wl_step hgd fun K hK => by
    have hz : (zeroValue 3).run Tryz.prog w = .ok (.int .i64 0) w := by kernel_rfl
    have := hK _ _ (h w.heap.size _ (Lib.hid (hm.out.alloc 3 [0])) (KeepsOthers.alloc _ _))
    unfold Oper.wp execOp
    simp only [ho, Instr.alloc, newVar, newRow, Sem.run_bind, hz, Result.andThen, Value.cells, Sem.run_pure]
    exact this
end
def mark (D : Nat) : Deferred := { target := .collected D, args := #[] }
def Marks (B : Nat) (Ds : List Nat) (W : World) : Prop := Ds.Nodup ∧ ∀ D ∈ Ds, B ≤ D ∧ W.heap[D]? = some (.deferred (some []))
theorem Marks.keeps {B : Nat} {Ds : List Nat} {W W' : World} (h : Marks B Ds W) (hk : KeepsOthers W W') : Marks B Ds W' := ⟨h.1, fun D hD => ⟨(h.2 D hD).1, hk.same D _ (h.2 D hD).2 rfl⟩⟩
theorem Marks.lt {B : Nat} {Ds : List Nat} {W : World} (h : Marks B Ds W) {D : Nat} (hD : D ∈ Ds) : D < W.heap.size := (Array.getElem?_eq_some_iff.1 (h.2 D hD).2).1
theorem Marks.cons {B : Nat} {Ds : List Nat} {W : World} (h : Marks B Ds W) {D : Nat} (hlt : ∀ E ∈ Ds, E < D) (hB : B ≤ D) (hD : W.heap[D]? = some (.deferred (some []))) : Marks B (D :: Ds) W :=
  ⟨List.nodup_cons.2 ⟨fun hm => Nat.lt_irrefl _ (hlt D hm), h.1⟩, fun E hE => by
    rcases List.mem_cons.1 hE with rfl | hE
    · exact ⟨hB, hD⟩
    · exact h.2 E hE⟩
theorem Marks.grows {A B : Nat} {Ds : List Nat} {W W' : World} {row : Option Nat} (h : Marks A Ds W) (hlt : ∀ D ∈ Ds, D < B) (hg : W.grownBy W' row) (hr : ∀ r, row = some r → B ≤ r ∧ ∃ o : Obj, W.heap[r]? = some o ∧ o.isCells = false) : Marks A Ds W' :=
  ⟨h.1, fun D hD => ⟨(h.2 D hD).1, (hg.block D (h.lt hD) (fun e => by have := (hr D e.symm).1; have := hlt D hD; omega)).trans (h.2 D hD).2⟩⟩
structure Shut (Ds : List Nat) (W W' : World) : Prop where
  os : W'.os = W.os
  tape : W'.tape = W.tape
  output : W'.output = W.output
  size : W'.heap.size = W.heap.size
  same : ∀ i, i ∉ Ds → W'.heap[i]? = W.heap[i]?
theorem Shut.mem {w0 W W' : World} {L : List (Nat × TypeId × List Int)} {Ds : List Nat} (h : Mem w0 L W) (hM : Marks w0.heap.size Ds W) (hs : Shut Ds W W') : Mem w0 L W' := by
  refine ⟨⟨hs.os.trans h.1.os, hs.tape.trans h.1.tape, hs.output.trans h.1.output, by rw [hs.size]; exact h.1.size, fun i hi => (hs.same i (fun hm => by have := (hM.2 i hm).1; omega)).trans (h.1.block i hi)⟩, fun e he => (hs.same e.1 (fun hm => ?_)).trans (h.2.1 e he), h.2.2⟩
  have h1 := (hM.2 _ hm).2
  have h2 : W.heap[e.1]? = some (.cells (icells e.2.2) e.2.1 (0, 0)) := h.2.1 e he
  rw [h2] at h1
  injection h1 with h1
  cases h1
theorem leaves_marks {F : Fence} {n : Nat} {P : Program} {fn : Func} {tmps : Array Value} {R : Ending → World → Prop} : ∀ (Ds : List Nat) (W : World), Ds.Nodup → (∀ D ∈ Ds, W.heap[D]? = some (.deferred (some []))) →
    (∀ W', Shut Ds W W' → ∃ v, (results fn tmps).run P W' = .ok v W' ∧ R (.returned v) W') → LeavesInM F n P fn tmps R (Ds.map mark) .returning W
  | [], W, _, _, h => h W ⟨rfl, rfl, rfl, rfl, fun _ _ => rfl⟩
  | D :: Ds, W, hn, hd, h => by
    have hn2 := List.nodup_cons.1 hn
    refine ⟨by simp, .inl ⟨D, W.putObj D (.deferred none), rfl, run_takeDeferred (hd D (.head _)), leaves_marks Ds _ hn2.2 (fun E hE => ?_) fun W' hs => h W' ?_⟩⟩
    · exact (World.putObj_heap_other (fun e => hn2.1 (by rw [← e]; exact hE))).trans (hd E (.tail _ hE))
    · have hg := grownBy_putObj' W D (.deferred none)
      refine ⟨hs.os.trans hg.os, hs.tape.trans hg.tape, hs.output.trans hg.output, by rw [hs.size]; simp, fun i hi => ?_⟩
      have h1 : i ∉ Ds := fun hm => hi (.tail _ hm)
      have h2 : i ≠ D := fun e => hi (by rw [e]; exact .head _)
      exact (hs.same i h1).trans (World.putObj_heap_other h2)
theorem std_snoc {pre : List (Fin 6)} {x : Fin 6} {k : Nat} (h : pre ++ [x] = std k) : ∃ j, k = j + 1 ∧ pre = std j ∧ x.val = 5 - j := by
  cases k with
  | zero => exact absurd (congrArg List.length h) (by rw [List.length_append, std_length]; simp)
  | succ j =>
    rw [std_succ] at h
    obtain ⟨h1, h2⟩ := List.append_inj' h rfl
    refine ⟨j, rfl, h1, ?_⟩
    injection h2 with h2
    rw [h2]
def FitM (w : World) (B : Int) (g1 g2 g3 gw n : Nat) (cur : List Int) (W : World) : Prop := Mem w [(gw, 3, [(n : Int)]), (g3, 84, zr 6), (g2, 3, [B]), (g1, 84, cur)] W
def FitI (w : World) (B : Int) (R : List Int) (g1 g2 g3 gw n : Nat) (Ds : List Nat) (W : World) : Prop :=
  ∃ cur, OkA cur ∧ narL 42 cur B = R ∧ (∀ b, b < 6 → cur.getD b 0 ≤ (n : Int)) ∧ n ≤ 7 ∧ FitM w B g1 g2 g3 gw n cur W ∧ Marks w.heap.size Ds W
def FitJ (w : World) (B : Int) (R : List Int) (g1 g2 g3 gw n : Nat) (Ds : List Nat) (pre : List (Fin 6)) (W : World) : Prop :=
  ∃ cur, OkA cur ∧ FitM w B g1 g2 g3 gw n cur W ∧ Marks w.heap.size Ds W ∧
    ∀ k, k ≤ 6 → pre = std k → narL 42 cur B = R ∧ ∀ b, b < 6 → cur.getD b 0 ≤ (n : Int) ∧ (6 ≤ b + k → cur.getD b 0 < (n : Int))
def FitX (w : World) (B : Int) (R : List Int) (g1 g2 g3 gw n : Nat) (Ds : List Nat) (c : Code) (pre : List (Fin 6)) (W : World) : Prop :=
  c = .exit 0 ∧ ∃ cur, OkA cur ∧ FitM w B g1 g2 g3 gw n cur W ∧ Marks w.heap.size Ds W ∧ ∀ k, k ≤ 6 → pre = std k → cur = R
section
variable {w : World} {B : Int} {R : List Int} {g1 g2 g3 gw n A : Nat} {Ds : List Nat}
theorem fitJ_own (hA : w.heap.size ≤ A) (hD : ∀ D ∈ Ds, D < A) : OwnFrom A (FitJ w B R g1 g2 g3 gw n Ds) := fun s W W' row h hg hr => by
  obtain ⟨cur, h1, h2, h3, h4⟩ := h
  exact ⟨cur, h1, Mem.grows h2 hA hg hr, h3.grows hD hg hr, h4⟩
theorem fitX_own (hA : w.heap.size ≤ A) (hD : ∀ D ∈ Ds, D < A) (c : Code) : OwnFrom A (FitX w B R g1 g2 g3 gw n Ds c) := fun s W W' row h hg hr => by
  obtain ⟨hc, cur, h1, h2, h3, h4⟩ := h
  exact ⟨hc, cur, h1, Mem.grows h2 hA hg hr, h3.grows hD hg hr, h4⟩
end
theorem fit_take {B : Int} {R cur : List Int} {n j : Nat} (hB : 0 ≤ B) (hok : OkA cur) (hj : j < 6) (hinv : narL 42 cur B = R ∧ ∀ b, b < 6 → cur.getD b 0 ≤ (n : Int) ∧ (6 ≤ b + j → cur.getD b 0 < (n : Int)))
    (hc : ¬ costL cur ≤ B) (hv : cur.getD (5 - j) 0 = (n : Int)) : narL 42 (cur.set (5 - j) ((n : Int) - 1)) B = R ∧ ∀ b, b < 6 → (cur.set (5 - j) ((n : Int) - 1)).getD b 0 ≤ (n : Int) ∧ (6 ≤ b + (j + 1) → (cur.set (5 - j) ((n : Int) - 1)).getD b 0 < (n : Int)) := by
  have hl : lastM cur 6 = 5 - j := lastM_is (by omega) (fun b hb => by rw [hv]; exact (hinv.2 b hb).1) fun b hb hlt => by rw [hv]; exact (hinv.2 b hb).2 (by omega)
  have hs : stpL cur = cur.set (5 - j) ((n : Int) - 1) := by unfold stpL; rw [hl, hv]
  refine ⟨by rw [← hs, ← (nar_step hB hok hc).1]; exact hinv.1, fun b hb => ?_⟩
  rw [getD_set' _ _ _ _ (by rw [hok.1]; omega)]
  by_cases e : 5 - j = b
  · rw [if_pos e]; omega
  · rw [if_neg e]
    exact ⟨(hinv.2 b hb).1, fun h => (hinv.2 b hb).2 (by omega)⟩
theorem fit_pass {B : Int} {R cur : List Int} {n j : Nat} (hj : j < 6) (hinv : narL 42 cur B = R ∧ ∀ b, b < 6 → cur.getD b 0 ≤ (n : Int) ∧ (6 ≤ b + j → cur.getD b 0 < (n : Int)))
    (hv : ¬ cur.getD (5 - j) 0 = (n : Int)) : narL 42 cur B = R ∧ ∀ b, b < 6 → cur.getD b 0 ≤ (n : Int) ∧ (6 ≤ b + (j + 1) → cur.getD b 0 < (n : Int)) :=
  ⟨hinv.1, fun b hb => ⟨(hinv.2 b hb).1, fun h => by
    by_cases e : b = 5 - j
    · have := (hinv.2 b hb).1
      rw [e] at this ⊢
      omega
    · exact (hinv.2 b hb).2 (by omega)⟩⟩
theorem ok_set {cur : List Int} (h : OkA cur) {b : Nat} {v : Int} (hb : b < 6) (h1 : 0 ≤ v) (h2 : v ≤ 7) : OkA (cur.set b v) :=
  ⟨by rw [List.length_set, h.1], fun k hk => by
    rw [getD_set' _ _ _ _ (by rw [h.1]; exact hb)]
    have := h.2 k hk
    split <;> omega⟩
set_option maxHeartbeats 8000000 in
theorem fit_any (a : List Int) (B : Int) (w : World) (ha : OkA a) (hB : 0 ≤ B) (he : Edg w) :
    Calls Tryz.prog 86 #[.agg (icells a), .int .i64 B] w (ValQ w (.agg (icells (narL 42 a B)))) := by
  have HA := Lib.hid ha
  have LA := Lib.hid ha.1
  have HE := Lib.hid he
  have HM := Lib.hid (Mem.start w)
  obtain ⟨R, hR0⟩ : ∃ R, narL 42 a B = R := ⟨_, rfl⟩
  rw [hR0]
  have HR := Lib.hid hR0
  have LR := Lib.hid (show R.length = 6 by rw [← hR0]; exact (nar_ok hB 42 a ha (sumA_le ha)).1.1)
  have HB := Lib.hid hB
  clear ha he hR0 hB
  refine (callsIn_wide (n := 3)).1 (callsIn_of_wp_marks Tryz.func86 rfl trivial ?_ rfl)
  refine wpIn_wide.2 ?_
  simp only [Tryz.ntmps86, List.size_toArray, List.length_cons, List.length_nil, Nat.reduceAdd, Nat.reduceSub, Array.replicate_succ, Array.replicate_zero, List.push_toArray, List.append_toArray, List.nil_append, List.cons_append]
  go_wp2_with (first | (first | ((first | refine wl_box rfl _ _ rfl rfl HM ?_ | refine wl_alloc rfl _ rfl (by exact arrOf) HM ?_); first | (have q:dL HM = 0:=rfl;clear q HM;intro g1 u1 HM) | (have q:dL HM = 1:=rfl;clear q HM;intro g2 u2 HM) | (have q:dL HM = 2:=rfl;clear q HM;intro g3 u3 HM) | (have q:dL HM = 3:=rfl;clear q HM;intro g4 u4 HM) | (have q:dL HM = 4:=rfl;clear q HM;intro g5 u5 HM) | (have q:dL HM = 5:=rfl;clear q HM;intro g6 u6 HM) | (have q:dL HM = 6:=rfl;clear q HM;intro g7 u7 HM) | (have q:dL HM = 7:=rfl;clear q HM;intro g8 u8 HM) | (have q:dL HM = 8:=rfl;clear q HM;intro g9 u9 HM) | (have q:dL HM = 9:=rfl;clear q HM;intro g10 u10 HM) | (have q:dL HM = 10:=rfl;clear q HM;intro g11 u11 HM) | (have q:dL HM = 11:=rfl;clear q HM;intro g12 u12 HM) | (have q:dL HM = 12:=rfl;clear q HM;intro g13 u13 HM) | (have q:dL HM = 13:=rfl;clear q HM;intro g14 u14 HM)) | (refine wl_load rfl _ _ rfl rfl (by exact arrOf) HM (by exact memOf) (by exact lenOf) ?_) | (refine wl_storeM rfl _ _ _ rfl rfl rfl (by exact arrOf) HM (by exact idxOf) (by exact lenOf) (by exact lenOf) ?_; clear HM; intro us HM; dsimp only [List.set] at HM) | (refine wl_zero rfl _ rfl (by exact arrOf) (by kernel_rfl) ?_)) | (refine wl_box1 rfl _ rfl rfl HM ?_; clear HM; intro g2 u2 HM))
  go_step3
  go_wp2
  go_step3
  go_wp2_with (first | (refine wl_alloc1 rfl rfl HM ?_; clear HM; intro g4 u4 HM; have c4 := HM.out.one (.head _); have f4 := HM.out.free (.head _) 0))
  have HI := Lib.hid (show FitI w B R g1 g2 g3 g4 7 [] (u4.setCell ⟨g4, 0, none⟩ (.int .i64 7)) from ⟨a, HA.out, HR.out, fun b hb => (HA.out.2 b hb).2, by omega, HM.out.put1 0 rfl 7, ⟨List.nodup_nil, fun D hD => (by cases hD)⟩⟩)
  clear HM c4 f4 HA LA HR
  generalize World.setCell _ _ _ = W0 at HI ⊢
  refine wp_loop_ghost (fun n act W => ∃ (gw : Nat) (Ds : List Nat) (u6 u7 u8 u9 u10 u11 u12 u13 u14 u15 u16 u17 u18 u19 u20 u21 u22 u23 u24 u25 u26 u27 : Value),
    act = { tmps := #[.agg (icells a), .int .i64 B, .pointer (some ⟨g1, 0, none⟩), .pointer (some ⟨g2, 0, none⟩), .pointer (some ⟨g3, 0, none⟩), .pointer (some ⟨gw, 0, none⟩), u6, u7, u8, u9, u10, u11, u12, u13, u14, u15, u16, u17, u18, u19, u20, u21, u22, u23, u24, u25, u26, u27], defers := Ds.map mark } ∧ Hid (FitI w B R g1 g2 g3 gw n Ds W)) 7 ⟨g4, [], _, _, _, _, _, _, _, _, _, _, _, _, _, _, _, _, _, _, _, _, _, _, rfl, HI⟩ ?_
  clear HI
  rintro n act W ⟨gw, Ds, u6, u7, u8, u9, u10, u11, u12, u13, u14, u15, u16, u17, u18, u19, u20, u21, u22, u23, u24, u25, u26, u27, rfl, HI⟩
  obtain ⟨cur, hok, hnar, hle, hn7, hM, hMk⟩ := HI.out
  clear HI
  have HM := Lib.hid hM
  have HK := Lib.hid hMk
  have HO := Lib.hid hok
  have c5 : W.cell? ⟨gw, 0, none⟩ = some (.int .i64 (n : Int)) := Mem.one hM (.head _)
  by_cases hn : n = 0
  · subst hn
    have hcur : cur = R := by
      rw [← hnar, nar_done]
      rw [costL_eq]
      have h0 := hle 0 (by omega)
      have h1 := hle 1 (by omega)
      have h2 := hle 2 (by omega)
      have h3 := hle 3 (by omega)
      have h4 := hle 4 (by omega)
      have h5 := hle 5 (by omega)
      have := HB.out
      omega
    have HQ := Lib.hid hcur
    clear hcur hnar hle hM hMk hok
    rw [HQ.out] at HM
    unfold FitM at HM
    clear HQ HO
    go_wp2_with (first | (refine wl_load rfl _ _ rfl rfl (by exact arrOf) HM (by exact memOf) (by exact lenOf) ?_) | (refine wl_storeK rfl _ _ _ rfl rfl rfl arrAll HM 1 rfl (by exact lenOf) LR ?_; clear HM; intro us HM hko; have HK2 := Lib.hid (HK.out.keeps hko); clear HK hko; simp only [List.set_cons_zero, List.set_cons_succ] at HM))
    refine leaves_marks Ds _ HK2.out.1 (fun D hD => (HK2.out.2 D hD).2) fun W' hs => ?_
    have hm := Shut.mem HM.out HK2.out hs
    exact ⟨_, res_one rfl _ rfl arrAll (Lib.hid hm) (by exact memOf) LR, rfl, hm.1⟩
  · have hn1 : 0 < (n : Int) := by omega
    have HN := Lib.hid hnar
    have HLE := Lib.hid hle
    clear hnar hle hM hMk hok
    have hn0 : 0 < n := by omega
    go_wp2_with fail
    clear c5 hn1
    have hD : ∀ D ∈ Ds, D < W.heap.size := fun D hD => HK.out.lt hD
    have HDL := Lib.hid hD
    refine (wpIn_wide (n := 3)).1 ?_
    refine wpIn_rangeFunc_ownF (F := Fence.wide) (n := 3) rfl (by omega) (gf := 114) (lb := #[]) rfl trivial (enters_of Tryz.func114 (by kernel_rfl) rfl) (behind_stops Fence.wide 2 trivial rfl (by omega) W) walksK_t walksK_b (Below.refl _ _) (fun _ => rfl)
      (FitJ w B R g1 g2 g3 gw n Ds) (FitX w B R g1 g2 g3 gw n Ds) (fitJ_own HM.out.1.size hD) (fitX_own HM.out.1.size hD)
      ⟨cur, HO.out, HM.out, HK.out, fun k hk e => by
        obtain rfl : k = 0 := by have := congrArg List.length e; rw [std_length] at this; simpa using this.symm
        exact ⟨HN.out, fun b hb => ⟨HLE.out b hb, fun h => by omega⟩⟩⟩
      (fun x => { tmps := #[.agg (icells a), .int .i64 B, .pointer (some ⟨g1, 0, none⟩), .pointer (some ⟨g2, 0, none⟩), .pointer (some ⟨g3, 0, none⟩), .pointer (some ⟨gw, 0, none⟩), (.int .i64 ((x.val : Nat) : Int)), .int .i64 (n : Int), .bool true, u9, u10, (.int .i64 ((x.val : Nat) : Int)), u12, u13, u14, u15, u16, u17, u18, u19, u20, u21, u22, u23, u24, u25, u26, u27], defers := [] }) ?assign ?body ?done ?stop
    case assign =>
      intro l x W' K hK
      gi_wp2
      exact hK
    case body =>
      clear HK HN HLE HO HM hD
      rintro l pre x W1 ⟨cur1, hok1, hM1, hK1, hinv⟩ -
      have HM := Lib.hid (show Mem w [(gw, 3, [(n : Int)]), (g3, 84, zr 6), (g2, 3, [B]), (g1, 84, cur1)] W1 from hM1)
      have HK := Lib.hid hK1
      have HO := Lib.hid hok1
      have LC := Lib.hid hok1.1
      have HV := Lib.hid hinv
      obtain ⟨b, hb⟩ := x
      have hb6 : (b : Int) < 6 := by omega
      clear hok1 hM1 hK1 hinv
      obtain ⟨C, hC⟩ : ∃ C, costL cur1 = C := ⟨_, rfl⟩
      have HC := Lib.hid hC
      have HCst := Lib.hid (fun u (hu : Edg u) => cost_any cur1 u HO.out hu)
      rw [hC] at HCst
      have HH2 := Lib.hid (fun (u : World) (hu : Mem w [(gw, 3, [(n : Int)]), (g2, 3, [B]), (g1, 84, cur1)] u) => hu.one (.tail _ (.head _)))
      have H1 := Lib.hid (fun (u : World) (hu : Mem w [(gw, 3, [(n : Int)]), (g1, 84, cur1)] u) => hu.cell (.tail _ (.head _)) (k := b) (by rw [LC.out]; omega))
      have H2 := Lib.hid (fun (u : World) (hu : Mem w [(gw, 3, [(n : Int)]), (g1, 84, cur1)] u) => hu.one (.head _))
      obtain ⟨v, hv⟩ : ∃ v, cur1.getD b 0 = v := ⟨_, rfl⟩
      rw [hv] at H1
      have HVV := Lib.hid hv
      clear hC hv
      gi_wp2
      refine round_held (S := Mem w [(gw, 3, [(n : Int)]), (g2, 3, [B]), (g1, 84, cur1)]) (by kernel_rfl) (by rfl) (fun ⟨_, _, h⟩ => h) (HM.out.drew.sub (by exact subOf)) (fun hHeld => ?_)
      have HMd := Lib.hid HM.out.drew
      have HKo := Lib.hid (KeepsOthers.drew W1)
      clear HM
      have HM := HMd
      clear HMd
      generalize World.drew _ = wd at HM HKo hHeld ⊢
      (refine wa_take (i := 0) rfl (by kernel_rfl) (by kernel_rfl) (by kernel_rfl) (fun _ _ _ h => h) (yi_load rfl _ _ rfl rfl (by exact arrOf) (fun u hu => hu) (by exact memOf) (by exact lenOf)) hHeld rfl ?_; (try simp only [Act.put, qz1, qz2, qz3]))
      (refine wa_take (i := 2) rfl (by kernel_rfl) (by kernel_rfl) (by kernel_rfl) (fun _ _ _ h => h) (yi_cell rfl _ rfl rfl (HH2).out) hHeld rfl ?_; (try simp only [Act.put, qz1, qz2, qz3]))
      refine wpAnyH_ready (rs := [1]) (by kernel_rfl) (by simp) ?_; refine AllReadyH.cons rfl (fun K hK => ?_) (AllReadyH.nil)
      rw [if_pos (by rfl)]; go_simp
      refine (HCst.out _ (HE.out.mem HM.out)).mono ?_
      rintro e wb ⟨rfl, h1⟩
      have HM2 := Lib.hid (HM.out.below h1)
      have HKo2 := Lib.hid (HKo.out.trans (KeepsOthers.below h1))
      clear h1 HM hHeld HKo HCst
      have HM := HM2
      have HKo := HKo2
      clear HM2 HKo2
      go_wp2_with fail; refine hK.out _ _ (HM.out.sub (by exact subOf)) (fun hHeld => ?_); clear hK K; (try simp only [Act.put, qz1, qz2, qz3])
      by_cases hc : C ≤ B
      · have hd : decide (C ≤ B) = true := decide_eq_true hc
        (refine wa_take (i := 3) (v := .bool true) rfl (by kernel_rfl) (by kernel_rfl) (by kernel_rfl) (fun _ _ _ h => h) (yi_free rfl (fun u => by go_simp)) hHeld rfl ?_; (try simp only [Act.put, qz1, qz2, qz3]))
        refine wpAnyH_done (by kernel_rfl) ?_ _
        clear hd
        gi_wp2
        exact ⟨HKo.out, rfl, cur1, HO.out, HM.out, HK.out.keeps HKo.out, fun k hk e => by
          obtain ⟨j, rfl, hj, -⟩ := std_snoc e
          have := (HV.out j (by omega) hj).1
          rw [nar_done (by rw [HC.out]; exact hc)] at this
          exact this⟩
      · have hd : decide (C ≤ B) = false := decide_eq_false hc
        (refine wa_take (i := 3) (v := .bool false) rfl (by kernel_rfl) (by kernel_rfl) (by kernel_rfl) (fun _ _ _ h => h) (yi_free rfl (fun u => by go_simp)) hHeld rfl ?_; (try simp only [Act.put, qz1, qz2, qz3]))
        refine wpAnyH_done (by kernel_rfl) ?_ _
        clear hd
        gi_wp2
        refine round_held (S := Mem w [(gw, 3, [(n : Int)]), (g1, 84, cur1)]) (by kernel_rfl) (by rfl) (fun ⟨_, _, h⟩ => h) (HM.out.drew.sub (by exact subOf)) (fun hHeld => ?_)
        have HMd := Lib.hid HM.out.drew
        have HKo2 := Lib.hid (HKo.out.trans (KeepsOthers.drew wb))
        clear HM HKo
        have HM := HMd
        have HKo := HKo2
        clear HMd HKo2
        generalize World.drew _ = wd2 at HM HKo hHeld ⊢
        (refine wa_take (i := 0) rfl (by kernel_rfl) (by kernel_rfl) (by kernel_rfl) (fun _ _ _ h => h) (yi_free rfl (fun u => rfl)) hHeld rfl ?_; (try simp only [Act.put, qz1, qz2, qz3]))
        (refine wa_take (i := 1) (v := .pointer (some ⟨g1, b, none⟩)) rfl (by kernel_rfl) (by kernel_rfl) (by kernel_rfl) (fun _ _ _ h => h) (yi_free rfl (fun u => by go_simp)) hHeld rfl ?_; (try simp only [Act.put, qz1, qz2, qz3]))
        (refine wa_take (i := 2) rfl (by kernel_rfl) (by kernel_rfl) (by kernel_rfl) (fun _ _ _ h => h) (yi_cell rfl _ rfl rfl (H1).out) hHeld rfl ?_; (try simp only [Act.put, qz1, qz2, qz3]))
        (refine wa_take (i := 3) rfl (by kernel_rfl) (by kernel_rfl) (by kernel_rfl) (fun _ _ _ h => h) (yi_cell rfl _ rfl rfl (H2).out) hHeld rfl ?_; (try simp only [Act.put, qz1, qz2, qz3]))
        by_cases hvn : v = (n : Int)
        · have hd : (v == (n : Int)) = true := by simpa using hvn
          (refine wa_take (i := 4) (v := .bool true) rfl (by kernel_rfl) (by kernel_rfl) (by kernel_rfl) (fun _ _ _ h => h) (yi_free rfl (fun u => by go_simp)) hHeld rfl ?_; (try simp only [Act.put, qz1, qz2, qz3]))
          refine wpAnyH_done (by kernel_rfl) ?_ _
          have c7 := HM.out.cell (.tail _ (.tail _ (.tail _ (.head _)))) (k := b) (by rw [LC.out]; omega)
          have f7 := HM.out.free (.tail _ (.tail _ (.tail _ (.head _)))) b
          rw [HVV.out, hvn] at c7
          clear hd H1 H2 HH2 hHeld
          have HVN := Lib.hid hvn
          clear hvn
          gi_wp2
          have HM2 := HM.out.put 3 rfl b ((n : Int) - 1)
          simp only [List.set_cons_zero, List.set_cons_succ] at HM2
          have hks := HKo.out.trans (KeepsOthers.setCell wd2 ⟨g1, b, none⟩ (.int .i64 ((n : Int) - 1)))
          refine ⟨hks, hks.walks, cur1.set b ((n : Int) - 1), ok_set HO.out hb (by omega) (by omega), HM2, HK.out.keeps hks, fun k hk e => ?_⟩
          obtain ⟨j, rfl, hj, hx⟩ := std_snoc e
          obtain rfl : b = 5 - j := hx
          exact fit_take HB.out HO.out (by omega) (HV.out j (by omega) hj) (by rw [HC.out]; omega) (by rw [HVV.out, HVN.out])
        · have hd : (v == (n : Int)) = false := by simpa using hvn
          (refine wa_take (i := 4) (v := .bool false) rfl (by kernel_rfl) (by kernel_rfl) (by kernel_rfl) (fun _ _ _ h => h) (yi_free rfl (fun u => by go_simp)) hHeld rfl ?_; (try simp only [Act.put, qz1, qz2, qz3]))
          refine wpAnyH_done (by kernel_rfl) ?_ _
          clear hd H1 H2 HH2 hHeld
          gi_wp2
          refine ⟨HKo.out, HKo.out.walks, cur1, HO.out, HM.out, HK.out.keeps HKo.out, fun k hk e => ?_⟩
          obtain ⟨j, rfl, hj, hx⟩ := std_snoc e
          obtain rfl : b = 5 - j := hx
          exact fit_pass (by omega) (HV.out j (by omega) hj) (by rw [HVV.out]; exact hvn)
    case done =>
      have HWS := Lib.hid HM.out.1.size
      clear HK HN HLE HO HM hD
      rintro D xs W1 hDW rfl ⟨cur1, hok1, hM1, hK1, hinv⟩ hDef
      obtain ⟨hnar1, hle1⟩ := hinv 6 (by omega) rfl
      have HN := Lib.hid hnar1
      have HLE := Lib.hid hle1
      have HO := Lib.hid hok1
      have HM := Lib.hid (show Mem w [(gw, 3, [(n : Int)]), (g3, 84, zr 6), (g2, 3, [B]), (g1, 84, cur1)] W1 from hM1)
      have HK := Lib.hid (hK1.cons (fun E hE => Nat.lt_of_lt_of_le (HDL.out E hE) hDW) (Nat.le_trans HWS.out hDW) hDef)
      have c5 : W1.cell? ⟨gw, 0, none⟩ = some (.int .i64 (n : Int)) := Mem.one HM.out (.head _)
      have hn1 : 0 < (n : Int) := by omega
      have hn8 : (n : Int) ≤ 7 := by omega
      clear hok1 hM1 hK1 hinv hnar1 hle1 hDef hDW
      go_wp2_with (first | (refine wl_alloc1K rfl rfl HM ?_; clear HM; intro g5 u5 HM hko; have HK2 := Lib.hid (HK.out.keeps hko); clear HK hko; have c6 := HM.out.one (.head _); have f6 := HM.out.free (.head _) 0))
      have HM2 := (HM.out.put1 0 rfl (n : Int)).put1 0 rfl ((n : Int) - 1)
      simp only [List.set_cons_zero] at HM2
      have hks := (KeepsOthers.setCell u5 ⟨g5, 0, none⟩ (.int .i64 (n : Int))).trans (KeepsOthers.setCell _ ⟨g5, 0, none⟩ (.int .i64 ((n : Int) - 1)))
      have e : ((n - 1 : Nat) : Int) = (n : Int) - 1 := by omega
      refine ⟨n - 1, by omega, g5, D :: Ds, _, _, _, _, _, _, _, _, _, _, _, _, _, _, _, _, _, _, _, _, _, _, rfl, Lib.hid ⟨cur1, HO.out, HN.out, fun b hb => by have := (HLE.out b hb).2 (by omega); omega, by omega, ?_, HK2.out.keeps hks⟩⟩
      unfold FitM
      rw [e]
      exact HM2.sub (by exact subOf)
    case stop =>
      have HWS := Lib.hid HM.out.1.size
      clear HK HN HLE HO HM hD
      rintro D c pre W1 hDW ⟨k, hk, rfl⟩ ⟨rfl, cur1, hok1, hM1, hK1, hinv⟩ hDef
      have hcur := hinv k hk rfl
      rw [hcur] at hM1
      have HM := Lib.hid (show Mem w [(gw, 3, [(n : Int)]), (g3, 84, zr 6), (g2, 3, [B]), (g1, 84, R)] W1 from hM1)
      have HK := Lib.hid (hK1.cons (fun E hE => Nat.lt_of_lt_of_le (HDL.out E hE) hDW) (Nat.le_trans HWS.out hDW) hDef)
      clear hok1 hM1 hK1 hinv hDef hDW hcur
      refine wpIn_wide.2 ?_
      go_wp2_with (first | (refine wl_load rfl _ _ rfl rfl (by exact arrOf) HM (by exact memOf) (by exact lenOf) ?_) | (refine wl_storeK rfl _ _ _ rfl rfl rfl arrAll HM 1 rfl (by exact lenOf) LR ?_; clear HM; intro us HM hko; have HK2 := Lib.hid (HK.out.keeps hko); clear HK hko; simp only [List.set_cons_zero, List.set_cons_succ] at HM))
      refine leaves_marks (D :: Ds) _ HK2.out.1 (fun D hD => (HK2.out.2 D hD).2) fun W' hs => ?_
      have hm := Shut.mem HM.out HK2.out hs
      exact ⟨_, res_one rfl _ rfl arrAll (Lib.hid hm) (by exact memOf) LR, rfl, hm.1⟩
end Go.Proofs.YtgpdgegelipboaaGreatDoor.Lp
namespace Go.Proofs.YtgpdgegelipboaaGreatDoor.Lp
open Go.RowKit Fx Fq Tb
def shareV (l : List Int) (B : Int) : Value := if chkL l = true ∧ 0 ≤ B then .tuple #[.agg (icells (shareL l B)), .int .i64 0] else .tuple #[.agg (icells (zr 6)), .int .i64 1]
set_option maxHeartbeats 4000000 in
theorem share_bad1 (l : List Int) (B : Int) (w : World) (ll : l.length = 6) (hc : chkL l = false) :
    Calls Tryz.prog 51 #[.agg (icells l), .int .i64 B] w (ValQ w (.tuple #[.agg (icells (zr 6)), .int .i64 1])) := by
  have LL := Lib.hid ll
  have LZ := Lib.hid (zr_length 6)
  have HM := Lib.hid (Mem.start w)
  have HC := Lib.hid (fun u => mask_bad l u ll hc)
  clear ll hc
  go_enter Tryz.func51, Tryz.ntmps51
  go_wp2_with (first | ((first | refine wl_box rfl _ _ rfl rfl HM ?_ | refine wl_alloc rfl _ rfl (by exact arrOf) HM ?_); first | (have q:dL HM = 0:=rfl;clear q HM;intro g1 u1 HM) | (have q:dL HM = 1:=rfl;clear q HM;intro g2 u2 HM) | (have q:dL HM = 2:=rfl;clear q HM;intro g3 u3 HM) | (have q:dL HM = 3:=rfl;clear q HM;intro g4 u4 HM)) | (refine wl_load rfl _ _ rfl rfl (by exact arrOf) HM (by exact memOf) (by exact lenOf) ?_) | (refine wl_storeM rfl _ _ _ rfl rfl rfl (by exact arrOf) HM (by exact idxOf) (by exact lenOf) (by exact lenOf) ?_; clear HM; intro us HM; dsimp only [List.set] at HM) | (refine wl_zero rfl _ rfl (by exact arrOf) (by kernel_rfl) ?_))
  refine (HC.out _).mono ?_
  rintro e w2 ⟨rfl, h1⟩
  have HM2 := Lib.hid (HM.out.below h1)
  clear h1 HM HC
  have HM := HM2
  clear HM2
  go_wp2_with (first | ((first | refine wl_box rfl _ _ rfl rfl HM ?_ | refine wl_alloc rfl _ rfl (by exact arrOf) HM ?_); first | (have q:dL HM = 0:=rfl;clear q HM;intro g1 u1 HM) | (have q:dL HM = 1:=rfl;clear q HM;intro g2 u2 HM) | (have q:dL HM = 2:=rfl;clear q HM;intro g3 u3 HM) | (have q:dL HM = 3:=rfl;clear q HM;intro g4 u4 HM)) | (refine wl_load rfl _ _ rfl rfl (by exact arrOf) HM (by exact memOf) (by exact lenOf) ?_) | (refine wl_storeM rfl _ _ _ rfl rfl rfl (by exact arrOf) HM (by exact idxOf) (by exact lenOf) (by exact lenOf) ?_; clear HM; intro us HM; dsimp only [List.set] at HM) | (refine wl_zero rfl _ rfl (by exact arrOf) (by kernel_rfl) ?_))
  refine bodyPost_ret (v := .tuple #[.agg (icells (zr 6)), .int .i64 1]) (res_two rfl _ rfl rfl arrAll HM (by exact memOf) LZ) rfl ⟨rfl, HM.out.1⟩
set_option maxHeartbeats 4000000 in
theorem share_bad2 (l : List Int) (B : Int) (w : World) (ll : l.length = 6) (hc : chkL l = true) (hB : B < 0) :
    Calls Tryz.prog 51 #[.agg (icells l), .int .i64 B] w (ValQ w (.tuple #[.agg (icells (zr 6)), .int .i64 1])) := by
  have LL := Lib.hid ll
  have LZ := Lib.hid (zr_length 6)
  have LM := Lib.hid (maskL_length l)
  have HM := Lib.hid (Mem.start w)
  have HC := Lib.hid (fun u => mask_good l u ll hc)
  generalize maskL l = m at HC LM
  clear ll hc
  go_enter Tryz.func51, Tryz.ntmps51
  go_wp2_with (first | ((first | refine wl_box rfl _ _ rfl rfl HM ?_ | refine wl_alloc rfl _ rfl (by exact arrOf) HM ?_); first | (have q:dL HM = 0:=rfl;clear q HM;intro g1 u1 HM) | (have q:dL HM = 1:=rfl;clear q HM;intro g2 u2 HM) | (have q:dL HM = 2:=rfl;clear q HM;intro g3 u3 HM) | (have q:dL HM = 3:=rfl;clear q HM;intro g4 u4 HM)) | (refine wl_load rfl _ _ rfl rfl (by exact arrOf) HM (by exact memOf) (by exact lenOf) ?_) | (refine wl_storeM rfl _ _ _ rfl rfl rfl (by exact arrOf) HM (by exact idxOf) (by exact lenOf) (by exact lenOf) ?_; clear HM; intro us HM; dsimp only [List.set] at HM) | (refine wl_zero rfl _ rfl (by exact arrOf) (by kernel_rfl) ?_))
  refine (HC.out _).mono ?_
  rintro e w2 ⟨rfl, h1⟩
  have HM2 := Lib.hid (HM.out.below h1)
  clear h1 HM HC
  have HM := HM2
  clear HM2
  go_wp2_with (first | ((first | refine wl_box rfl _ _ rfl rfl HM ?_ | refine wl_alloc rfl _ rfl (by exact arrOf) HM ?_); first | (have q:dL HM = 0:=rfl;clear q HM;intro g1 u1 HM) | (have q:dL HM = 1:=rfl;clear q HM;intro g2 u2 HM) | (have q:dL HM = 2:=rfl;clear q HM;intro g3 u3 HM) | (have q:dL HM = 3:=rfl;clear q HM;intro g4 u4 HM)) | (refine wl_load rfl _ _ rfl rfl (by exact arrOf) HM (by exact memOf) (by exact lenOf) ?_) | (refine wl_storeM rfl _ _ _ rfl rfl rfl (by exact arrOf) HM (by exact idxOf) (by exact lenOf) (by exact lenOf) ?_; clear HM; intro us HM; dsimp only [List.set] at HM) | (refine wl_zero rfl _ rfl (by exact arrOf) (by kernel_rfl) ?_))
  refine bodyPost_ret (v := .tuple #[.agg (icells (zr 6)), .int .i64 1]) (res_two rfl _ rfl rfl arrAll HM (by exact memOf) LZ) rfl ⟨rfl, HM.out.1⟩
set_option maxHeartbeats 8000000 in
theorem share_good (l : List Int) (B : Int) (w : World) (ll : l.length = 6) (hc : chkL l = true) (hB : 0 ≤ B) (he : Edg w) :
    Calls Tryz.prog 51 #[.agg (icells l), .int .i64 B] w (ValQ w (.tuple #[.agg (icells (shareL l B)), .int .i64 0])) := by
  have LL := Lib.hid ll
  have HE := Lib.hid he
  have LZ := Lib.hid (zr_length 6)
  have LM := Lib.hid (maskL_length l)
  have LS := Lib.hid (share_ok l hB).1.1
  have HM := Lib.hid (Mem.start w)
  have HC := Lib.hid (fun u => mask_good l u ll hc)
  have HF := Lib.hid (fun u (hu : Edg u) => fit_any (wishL l (maskL l)) B u (wish_ok _ _) hB hu)
  rw [show narL 42 (wishL l (maskL l)) B = shareL l B from rfl] at HF
  have HL := Lib.hid (fun k => inR_bd hc (by omega) (by omega) k)
  have HB := Lib.hid (fun (k : Nat) (hk : k < 6) => mask_bd hc hk)
  obtain ⟨m, hm⟩ : ∃ m, maskL l = m := ⟨_, rfl⟩
  rw [hm] at HC LM HB HF
  clear ll hc he hm
  go_enter Tryz.func51, Tryz.ntmps51
  go_wp2_with (first | ((first | refine wl_box rfl _ _ rfl rfl HM ?_ | refine wl_alloc rfl _ rfl (by exact arrOf) HM ?_); first | (have q:dL HM = 0:=rfl;clear q HM;intro g1 u1 HM) | (have q:dL HM = 1:=rfl;clear q HM;intro g2 u2 HM) | (have q:dL HM = 2:=rfl;clear q HM;intro g3 u3 HM) | (have q:dL HM = 3:=rfl;clear q HM;intro g4 u4 HM) | (have q:dL HM = 4:=rfl;clear q HM;intro g5 u5 HM)) | (refine wl_load rfl _ _ rfl rfl (by exact arrOf) HM (by exact memOf) (by exact lenOf) ?_) | (refine wl_storeM rfl _ _ _ rfl rfl rfl (by exact arrOf) HM (by exact idxOf) (by exact lenOf) (by exact lenOf) ?_; clear HM; intro us HM; dsimp only [List.set] at HM) | (refine wl_zero rfl _ rfl (by exact arrOf) (by kernel_rfl) ?_))
  refine (HC.out _).mono ?_
  rintro e w2 ⟨rfl, h1⟩
  have HM2 := Lib.hid (HM.out.below h1)
  clear h1 HM HC
  have HM := HM2
  clear HM2
  go_wp2_with (first | ((first | refine wl_box rfl _ _ rfl rfl HM ?_ | refine wl_alloc rfl _ rfl (by exact arrOf) HM ?_); first | (have q:dL HM = 0:=rfl;clear q HM;intro g1 u1 HM) | (have q:dL HM = 1:=rfl;clear q HM;intro g2 u2 HM) | (have q:dL HM = 2:=rfl;clear q HM;intro g3 u3 HM) | (have q:dL HM = 3:=rfl;clear q HM;intro g4 u4 HM) | (have q:dL HM = 4:=rfl;clear q HM;intro g5 u5 HM)) | (refine wl_load rfl _ _ rfl rfl (by exact arrOf) HM (by exact memOf) (by exact lenOf) ?_) | (refine wl_storeM rfl _ _ _ rfl rfl rfl (by exact arrOf) HM (by exact idxOf) (by exact lenOf) (by exact lenOf) ?_; clear HM; intro us HM; dsimp only [List.set] at HM) | (refine wl_zero rfl _ rfl (by exact arrOf) (by kernel_rfl) ?_))
  go_loopw [22] (fun vi wr => ∃ k : Nat, k ≤ 6 ∧ vi = .int .i64 (k : Int) ∧ Hid (Mem w [(g4, 84, tab 6 (part2 k (fun b => wishI (l.getD b 0) (m.getD b 0)) (fun _ => 0))), (g3, 23, m), (g2, 84, zr 6), (g1, 23, l)] wr)) (fun vi _ => 6 - (intOf vi).toNat)
  case atStart => exact ⟨0, by omega, rfl, Lib.hid (by rw [part2_none, tab_zero]; exact HM.out)⟩
  case round =>
    clear HM
    obtain ⟨k, hk, rfl, HM⟩ := hrel
    by_cases hlt : k < 6
    · have k6 : (k : Int) < 6 := by omega
      have S1 := Lib.hid (part2_set (n := 6) (k := k) (fun b => wishI (l.getD b 0) (m.getD b 0)) (fun _ => 0))
      have H1 := Lib.hid (fun (u : World) (hu : Mem w [(g3, 23, m), (g1, 23, l)] u) => hu.cell (.tail _ (.head _)) (k := k) (by rw [LL.out]; exact hlt))
      have H2 := Lib.hid (fun (u : World) (hu : Mem w [(g3, 23, m), (g1, 23, l)] u) => hu.cell (.head _) (k := k) (by rw [LM.out]; exact hlt))
      have HW := Lib.hid (fun u => wished_any (l.getD k 0) (m.getD k 0) u (HL.out k).1 (HL.out k).2 (HB.out k hlt).1 (HB.out k hlt).2)
      generalize l.getD k 0 = x at H1 HW S1
      generalize m.getD k 0 = y at H2 HW S1
      generalize wishI x y = z at HW S1
      go_wp2_with fail
      refine wp_region_held_drew (S := Mem w [(g3, 23, m), (g1, 23, l)]) (by kernel_rfl) (HM.out.drew.sub (by exact subOf)) (fun hHeld => ?_)
      have HMd := Lib.hid HM.out.drew
      clear HM
      have HM := HMd
      clear HMd
      generalize World.drew _ = wd at HM hHeld ⊢
      (refine wa_take (i := 0) rfl (by kernel_rfl) (by kernel_rfl) (by kernel_rfl) (fun _ _ _ h => h) (yi_free rfl (fun u => rfl)) hHeld rfl ?_; (try simp only [Act.put, qz1, qz2, qz3]))
      (refine wa_take (i := 1) rfl (by kernel_rfl) (by kernel_rfl) (by kernel_rfl) (fun _ _ _ h => h) (yi_free rfl (fun u => rfl)) hHeld rfl ?_; (try simp only [Act.put, qz1, qz2, qz3]))
      (refine wa_take (i := 2) (v := .pointer (some ⟨g1, k, none⟩)) rfl (by kernel_rfl) (by kernel_rfl) (by kernel_rfl) (fun _ _ _ h => h) (yi_free rfl (fun u => by go_simp)) hHeld rfl ?_; (try simp only [Act.put, qz1, qz2, qz3]))
      (refine wa_take (i := 3) rfl (by kernel_rfl) (by kernel_rfl) (by kernel_rfl) (fun _ _ _ h => h) (yi_cell rfl _ rfl rfl (H1).out) hHeld rfl ?_; (try simp only [Act.put, qz1, qz2, qz3]))
      (refine wa_take (i := 4) rfl (by kernel_rfl) (by kernel_rfl) (by kernel_rfl) (fun _ _ _ h => h) (yi_free rfl (fun u => rfl)) hHeld rfl ?_; (try simp only [Act.put, qz1, qz2, qz3]))
      (refine wa_take (i := 5) (v := .pointer (some ⟨g3, k, none⟩)) rfl (by kernel_rfl) (by kernel_rfl) (by kernel_rfl) (fun _ _ _ h => h) (yi_free rfl (fun u => by go_simp)) hHeld rfl ?_; (try simp only [Act.put, qz1, qz2, qz3]))
      (refine wa_take (i := 6) rfl (by kernel_rfl) (by kernel_rfl) (by kernel_rfl) (fun _ _ _ h => h) (yi_cell rfl _ rfl rfl (H2).out) hHeld rfl ?_; (try simp only [Act.put, qz1, qz2, qz3]))
      refine wpAnyH_ready (rs := [7]) (by kernel_rfl) (by simp) ?_; refine AllReadyH.cons rfl (fun K hK => ?_) (AllReadyH.nil)
      rw [if_pos (by rfl)]; go_simp
      refine (HW.out _).mono ?_
      rintro e wb ⟨rfl, rfl⟩
      clear hHeld
      go_wp2_with fail; refine hK.out _ _ (HM.out.sub (by exact subOf)) (fun hHeld => ?_); clear hK K; (try simp only [Act.put, qz1, qz2, qz3])
      (refine wa_take (i := 8) (v := .pointer (some ⟨g4, k, none⟩)) rfl (by kernel_rfl) (by kernel_rfl) (by kernel_rfl) (fun _ _ _ h => h) (yi_free rfl (fun u => by go_simp)) hHeld rfl ?_; (try simp only [Act.put, qz1, qz2, qz3]))
      have c1 := HM.out.cell (.head _) (k := k) (by rw [tab_length]; exact hlt)
      have f1 := HM.out.free (.head _) k
      generalize List.getD (tab 6 _) k 0 = o at c1
      refine wpAnyH_ready (rs := [9]) (by kernel_rfl) (by simp) ?_; refine AllReadyH.cons rfl (fun K hK => ?_) (AllReadyH.nil)
      rw [if_pos (by rfl)]; go_simp
      have HM3 := Lib.hid (HM.out.put 0 rfl k z)
      simp only [List.set_cons_zero] at HM3
      rw [S1.out] at HM3
      clear HM c1 f1 hHeld
      have HM := HM3
      clear HM3
      go_wp2_with fail; refine hK.out _ _ (HM.out.sub (by exact subOf)) (fun hHeld => ?_); clear hK K; (try simp only [Act.put, qz1, qz2, qz3])
      refine wpAnyH_done (by kernel_rfl) ?_ _
      clear H1 H2
      go_wp2
      go_roundw
      case rel => exact ⟨k + 1, by omega, by go_num, HM⟩
      case measure => simp [intOf]; omega
    · obtain rfl : k = 6 := by omega
      rw [part2_all] at HM
      change Hid (Mem w [(g4, 84, wishL l m), (g3, 23, m), (g2, 84, zr 6), (g1, 23, l)] wr) at HM
      have LW := Lib.hid (show (wishL l m).length = 6 from tab_length _ _)
      go_wp2_with (first | ((first | refine wl_box rfl _ _ rfl rfl HM ?_ | refine wl_alloc rfl _ rfl (by exact arrOf) HM ?_); first | (have q:dL HM = 0:=rfl;clear q HM;intro g1 u1 HM) | (have q:dL HM = 1:=rfl;clear q HM;intro g2 u2 HM) | (have q:dL HM = 2:=rfl;clear q HM;intro g3 u3 HM) | (have q:dL HM = 3:=rfl;clear q HM;intro g4 u4 HM) | (have q:dL HM = 4:=rfl;clear q HM;intro g5 u5 HM)) | (refine wl_load rfl _ _ rfl rfl (by exact arrOf) HM (by exact memOf) (by exact lenOf) ?_) | (refine wl_storeM rfl _ _ _ rfl rfl rfl (by exact arrOf) HM (by exact idxOf) (by exact lenOf) (by exact lenOf) ?_; clear HM; intro us HM; dsimp only [List.set] at HM) | (refine wl_zero rfl _ rfl (by exact arrOf) (by kernel_rfl) ?_))
      refine (HF.out _ (HE.out.mem HM.out)).mono ?_
      rintro e w2 ⟨rfl, h1⟩
      have HM2 := Lib.hid (HM.out.below h1)
      clear h1 HM HF
      have HM := HM2
      clear HM2
      go_wp2_with (first | ((first | refine wl_box rfl _ _ rfl rfl HM ?_ | refine wl_alloc rfl _ rfl (by exact arrOf) HM ?_); first | (have q:dL HM = 0:=rfl;clear q HM;intro g1 u1 HM) | (have q:dL HM = 1:=rfl;clear q HM;intro g2 u2 HM) | (have q:dL HM = 2:=rfl;clear q HM;intro g3 u3 HM) | (have q:dL HM = 3:=rfl;clear q HM;intro g4 u4 HM) | (have q:dL HM = 4:=rfl;clear q HM;intro g5 u5 HM)) | (refine wl_load rfl _ _ rfl rfl (by exact arrOf) HM (by exact memOf) (by exact lenOf) ?_) | (refine wl_storeM rfl _ _ _ rfl rfl rfl (by exact arrOf) HM (by exact idxOf) (by exact lenOf) (by exact lenOf) ?_; clear HM; intro us HM; dsimp only [List.set] at HM) | (refine wl_zero rfl _ rfl (by exact arrOf) (by kernel_rfl) ?_))
      refine bodyPost_ret (v := .tuple #[.agg (icells (shareL l B)), .int .i64 0]) (res_two rfl _ rfl rfl arrAll HM (by exact memOf) LS) rfl ⟨rfl, HM.out.1⟩
theorem bshare_any (l : List Int) (B : Int) (w : World) (ll : l.length = 6) (he : Edg w) : Calls Tryz.prog 51 #[.agg (icells l), .int .i64 B] w (ValQ w (shareV l B)) := by
  unfold shareV
  by_cases h : chkL l = true
  · by_cases hB : 0 ≤ B
    · rw [if_pos ⟨h, hB⟩]; exact share_good l B w ll h hB he
    · rw [if_neg (fun k => hB k.2)]; exact share_bad2 l B w ll h (by omega)
  · rw [if_neg (fun k => h k.1)]; exact share_bad1 l B w ll (by simpa using h)
end Go.Proofs.YtgpdgegelipboaaGreatDoor.Lp
namespace Go.Proofs.YtgpdgegelipboaaGreatDoor.Lp
open Go.RowKit Fx Fq Tb
def x2 : List Int := 0 :: 1048576 :: List.replicate 14 0
def m2 : List Int := [0, 161, 0, 0, 0, 0]
def a2 : List Int := [0, 7, 0, 0, 0, 0]
end Go.Proofs.YtgpdgegelipboaaGreatDoor.Lp
namespace Go.Proofs.YtgpdgegelipboaaGreatDoor.Lp
open Go.RowKit Fx Fq Tb
set_option maxHeartbeats 4000000 in
theorem rmask_bad (l : List Int) (w : World) (ll : l.length = 6) (hc : chkL l = false) :
    Calls Tryz.prog 108 #[.agg (icells l)] w (ValQ w (.tuple #[.agg (icells (zr 6)), .int .i64 1])) := by
  have LL := Lib.hid ll
  have LZ := Lib.hid (zr_length 6)
  have HM := Lib.hid (Mem.start w)
  have HC := Lib.hid (fun u => rbcheck_any l false 1 u ll hc rfl)
  clear ll hc
  go_enter Tryz.func108, Tryz.ntmps108
  go_wp2_with (first | ((first | refine wl_box rfl _ _ rfl rfl HM ?_ | refine wl_alloc rfl _ rfl (by exact arrOf) HM ?_); first | (have q:dL HM = 0:=rfl;clear q HM;intro g1 u1 HM) | (have q:dL HM = 1:=rfl;clear q HM;intro g2 u2 HM) | (have q:dL HM = 2:=rfl;clear q HM;intro g3 u3 HM) | (have q:dL HM = 3:=rfl;clear q HM;intro g4 u4 HM)) | (refine wl_load rfl _ _ rfl rfl (by exact arrOf) HM (by exact memOf) (by exact lenOf) ?_) | (refine wl_storeM rfl _ _ _ rfl rfl rfl (by exact arrOf) HM (by exact idxOf) (by exact lenOf) (by exact lenOf) ?_; clear HM; intro us HM; dsimp only [List.set] at HM) | (refine wl_zero rfl _ rfl (by exact arrOf) (by kernel_rfl) ?_))
  refine (HC.out _).mono ?_
  rintro e w2 ⟨rfl, h1⟩
  have HM2 := Lib.hid (HM.out.below h1)
  clear h1 HM HC
  have HM := HM2
  clear HM2
  go_wp2_with (first | ((first | refine wl_box rfl _ _ rfl rfl HM ?_ | refine wl_alloc rfl _ rfl (by exact arrOf) HM ?_); first | (have q:dL HM = 0:=rfl;clear q HM;intro g1 u1 HM) | (have q:dL HM = 1:=rfl;clear q HM;intro g2 u2 HM) | (have q:dL HM = 2:=rfl;clear q HM;intro g3 u3 HM) | (have q:dL HM = 3:=rfl;clear q HM;intro g4 u4 HM)) | (refine wl_load rfl _ _ rfl rfl (by exact arrOf) HM (by exact memOf) (by exact lenOf) ?_) | (refine wl_storeM rfl _ _ _ rfl rfl rfl (by exact arrOf) HM (by exact idxOf) (by exact lenOf) (by exact lenOf) ?_; clear HM; intro us HM; dsimp only [List.set] at HM) | (refine wl_zero rfl _ rfl (by exact arrOf) (by kernel_rfl) ?_))
  refine bodyPost_ret (v := .tuple #[.agg (icells (zr 6)), .int .i64 1]) (res_two rfl _ rfl rfl arrLev HM (by exact memOf) LZ) rfl ⟨rfl, HM.out.1⟩
set_option maxHeartbeats 8000000 in
theorem rmask_good (l : List Int) (w : World) (ll : l.length = 6) (hc : chkL l = true) :
    Calls Tryz.prog 108 #[.agg (icells l)] w (ValQ w (.tuple #[.agg (icells (maskL l)), .int .i64 0])) := by
  have LL := Lib.hid ll
  have LZ := Lib.hid (zr_length 6)
  have HCC := Lib.hid hc
  have HM := Lib.hid (Mem.start w)
  have HC := Lib.hid (fun u => rbcheck_any l true 0 u ll hc rfl)
  clear ll hc
  go_enter Tryz.func108, Tryz.ntmps108
  go_wp2_with (first | ((first | refine wl_box rfl _ _ rfl rfl HM ?_ | refine wl_alloc rfl _ rfl (by exact arrOf) HM ?_); first | (have q:dL HM = 0:=rfl;clear q HM;intro g1 u1 HM) | (have q:dL HM = 1:=rfl;clear q HM;intro g2 u2 HM) | (have q:dL HM = 2:=rfl;clear q HM;intro g3 u3 HM) | (have q:dL HM = 3:=rfl;clear q HM;intro g4 u4 HM)) | (refine wl_load rfl _ _ rfl rfl (by exact arrOf) HM (by exact memOf) (by exact lenOf) ?_) | (refine wl_storeM rfl _ _ _ rfl rfl rfl (by exact arrOf) HM (by exact idxOf) (by exact lenOf) (by exact lenOf) ?_; clear HM; intro us HM; dsimp only [List.set] at HM) | (refine wl_zero rfl _ rfl (by exact arrOf) (by kernel_rfl) ?_))
  refine (HC.out _).mono ?_
  rintro e w2 ⟨rfl, h1⟩
  have HM2 := Lib.hid (HM.out.below h1)
  clear h1 HM HC
  have HM := HM2
  clear HM2
  go_wp2_with (first | ((first | refine wl_box rfl _ _ rfl rfl HM ?_ | refine wl_alloc rfl _ rfl (by exact arrOf) HM ?_); first | (have q:dL HM = 0:=rfl;clear q HM;intro g1 u1 HM) | (have q:dL HM = 1:=rfl;clear q HM;intro g2 u2 HM) | (have q:dL HM = 2:=rfl;clear q HM;intro g3 u3 HM) | (have q:dL HM = 3:=rfl;clear q HM;intro g4 u4 HM)) | (refine wl_load rfl _ _ rfl rfl (by exact arrOf) HM (by exact memOf) (by exact lenOf) ?_) | (refine wl_storeM rfl _ _ _ rfl rfl rfl (by exact arrOf) HM (by exact idxOf) (by exact lenOf) (by exact lenOf) ?_; clear HM; intro us HM; dsimp only [List.set] at HM) | (refine wl_zero rfl _ rfl (by exact arrOf) (by kernel_rfl) ?_))
  go_loopw [13] (fun vi wr => ∃ b : Nat, b ≤ 6 ∧ vi = .int .i64 (b : Int) ∧ Hid (Mem w [(g3, 23, tab 6 (part2 b (fun b => mkN l b 6) (fun _ => 0))), (g2, 23, zr 6), (g1, 23, l)] wr)) (fun vi _ => 6 - (intOf vi).toNat)
  case atStart => exact ⟨0, by omega, rfl, Lib.hid (by rw [part2_none, tab_zero]; exact HM.out)⟩
  case round =>
    clear HM
    obtain ⟨b, hb, rfl, HM⟩ := hrel
    by_cases hlb : b < 6
    · have b6 : (b : Int) < 6 := by omega
      have S1 := Lib.hid (part2_set (n := 6) (k := b) (fun b => mkN l b 6) (fun _ => 0))
      have S0 := Lib.hid (show (tab 6 (part2 b (fun b => mkN l b 6) (fun _ => 0))).set b (mkN l b 0) = tab 6 (part2 b (fun b => mkN l b 6) (fun _ => 0)) from tab_set (by unfold part2; rw [if_neg (by omega)]; rfl) fun _ _ _ => rfl)
      have LX := Lib.hid (tab_length 6 (part2 b (fun b => mkN l b 6) (fun _ => 0)))
      generalize tab 6 (part2 b (fun b => mkN l b 6) (fun _ => 0)) = X at HM S1 S0 LX
      go_wp2_with (first | ((first | refine wl_box rfl _ _ rfl rfl HM ?_ | refine wl_alloc rfl _ rfl (by exact arrOf) HM ?_); first | (have q:dL HM = 0:=rfl;clear q HM;intro g1 u1 HM) | (have q:dL HM = 1:=rfl;clear q HM;intro g2 u2 HM) | (have q:dL HM = 2:=rfl;clear q HM;intro g3 u3 HM) | (have q:dL HM = 3:=rfl;clear q HM;intro g4 u4 HM)) | (refine wl_load rfl _ _ rfl rfl (by exact arrOf) HM (by exact memOf) (by exact lenOf) ?_) | (refine wl_storeM rfl _ _ _ rfl rfl rfl (by exact arrOf) HM (by exact idxOf) (by exact lenOf) (by exact lenOf) ?_; clear HM; intro us HM; dsimp only [List.set] at HM) | (refine wl_zero rfl _ rfl (by exact arrOf) (by kernel_rfl) ?_))
      go_loopw [17] (fun vi wr => ∃ k : Nat, k ≤ 6 ∧ vi = .int .i64 (k : Int) ∧ Hid (Mem w [(g3, 23, X.set b (mkN l b k)), (g2, 23, zr 6), (g1, 23, l)] wr)) (fun vi _ => 6 - (intOf vi).toNat)
      case atStart => exact ⟨0, by omega, rfl, Lib.hid (by rw [S0.out]; exact HM.out)⟩
      case round =>
        clear HM S0
        obtain ⟨k, hk, rfl, HM⟩ := hrel
        by_cases hlt : k < 6
        · have k6 : (k : Int) < 6 := by omega
          have hix := run_index 23 (n := 6) (by kernel_rfl) l LL.out k hlt
          have hv := inR_bd HCC.out (by omega) (by omega) k
          have hm := mkN_bd HCC.out b k
          obtain ⟨D, hD⟩ : ∃ D : Int, max ((b : Int) - (k : Int)) ((k : Int) - (b : Int)) = D := ⟨_, rfl⟩
          by_cases hkb : k = b
          · subst hkb
            have HS := Lib.hid (mkN_self l k)
            have hD0 : D = 0 := by omega
            subst hD0
            generalize mkN l k k = M at hm HS HM
            generalize l.getD k 0 = v at hix hv
            clear hv hm
            go_wp2
            clear hD
            go_roundw
            case rel => exact ⟨k + 1, by omega, by go_num, Lib.hid (by rw [HS.out]; exact HM.out)⟩
            case measure => simp [intOf]; omega
          · have HS := Lib.hid (show mkN l b (k + 1) = max (mkN l b k) (l.getD k 0 - 12 * D - 8) by rw [mkN_other l hkb, ← hD, Int.max_comm ((b : Int) - (k : Int))])
            have d1 : 0 < D := by omega
            have d2 : D ≤ 5 := by omega
            have c3 := HM.out.cell (.head _) (k := b) (by rw [List.length_set, LX.out]; omega)
            have f3 := HM.out.free (.head _) b
            rw [getD_set' _ _ _ _ (by rw [LX.out]; omega), if_pos rfl] at c3
            generalize mkN l b k = M at hm HS HM c3
            generalize l.getD k 0 = v at hix hv HS
            obtain ⟨hv1, hv2⟩ := hv
            obtain ⟨hm1, hm2⟩ := hm
            clear hkb
            go_wp2
            have HM3 := Lib.hid (HM.out.put 0 rfl b (max M (v - 12 * D - 8)))
            simp only [List.set_cons_zero, List.set_set] at HM3
            clear HM c3 f3 hD
            go_roundw
            case rel => exact ⟨k + 1, by omega, by go_num, Lib.hid (by rw [HS.out]; exact HM3.out)⟩
            case measure => simp [intOf]; omega
        · obtain rfl : k = 6 := by omega
          rw [S1.out] at HM
          go_wp2
          go_roundw
          case rel => exact ⟨b + 1, by omega, by go_num, HM⟩
          case measure => simp [intOf]; omega
    · obtain rfl : b = 6 := by omega
      rw [part2_all] at HM
      have LO := Lib.hid (maskL_length l)
      change Hid (Mem w [(g3, 23, maskL l), (g2, 23, zr 6), (g1, 23, l)] wr) at HM
      go_wp2_with (first | ((first | refine wl_box rfl _ _ rfl rfl HM ?_ | refine wl_alloc rfl _ rfl (by exact arrOf) HM ?_); first | (have q:dL HM = 0:=rfl;clear q HM;intro g1 u1 HM) | (have q:dL HM = 1:=rfl;clear q HM;intro g2 u2 HM) | (have q:dL HM = 2:=rfl;clear q HM;intro g3 u3 HM) | (have q:dL HM = 3:=rfl;clear q HM;intro g4 u4 HM)) | (refine wl_load rfl _ _ rfl rfl (by exact arrOf) HM (by exact memOf) (by exact lenOf) ?_) | (refine wl_storeM rfl _ _ _ rfl rfl rfl (by exact arrOf) HM (by exact idxOf) (by exact lenOf) (by exact lenOf) ?_; clear HM; intro us HM; dsimp only [List.set] at HM) | (refine wl_zero rfl _ rfl (by exact arrOf) (by kernel_rfl) ?_))
      refine bodyPost_ret (v := .tuple #[.agg (icells (maskL l)), .int .i64 0]) (res_two rfl _ rfl rfl arrLev HM (by exact memOf) LO) rfl ⟨rfl, HM.out.1⟩
end Go.Proofs.YtgpdgegelipboaaGreatDoor.Lp
namespace Go.Proofs.YtgpdgegelipboaaGreatDoor.Lp
open Go.RowKit Fx Fq Tb
set_option maxHeartbeats 4000000 in
theorem rshare_bad1 (l : List Int) (B : Int) (w : World) (ll : l.length = 6) (hc : chkL l = false) :
    Calls Tryz.prog 78 #[.agg (icells l), .int .i64 B] w (ValQ w (.tuple #[.agg (icells (zr 6)), .int .i64 1])) := by
  have LL := Lib.hid ll
  have LZ := Lib.hid (zr_length 6)
  have HM := Lib.hid (Mem.start w)
  have HC := Lib.hid (fun u => rmask_bad l u ll hc)
  clear ll hc
  go_enter Tryz.func78, Tryz.ntmps78
  go_wp2_with (first | ((first | refine wl_box rfl _ _ rfl rfl HM ?_ | refine wl_alloc rfl _ rfl (by exact arrOf) HM ?_); first | (have q:dL HM = 0:=rfl;clear q HM;intro g1 u1 HM) | (have q:dL HM = 1:=rfl;clear q HM;intro g2 u2 HM) | (have q:dL HM = 2:=rfl;clear q HM;intro g3 u3 HM) | (have q:dL HM = 3:=rfl;clear q HM;intro g4 u4 HM)) | (refine wl_load rfl _ _ rfl rfl (by exact arrOf) HM (by exact memOf) (by exact lenOf) ?_) | (refine wl_storeM rfl _ _ _ rfl rfl rfl (by exact arrOf) HM (by exact idxOf) (by exact lenOf) (by exact lenOf) ?_; clear HM; intro us HM; dsimp only [List.set] at HM) | (refine wl_zero rfl _ rfl (by exact arrOf) (by kernel_rfl) ?_))
  refine (HC.out _).mono ?_
  rintro e w2 ⟨rfl, h1⟩
  have HM2 := Lib.hid (HM.out.below h1)
  clear h1 HM HC
  have HM := HM2
  clear HM2
  go_wp2_with (first | ((first | refine wl_box rfl _ _ rfl rfl HM ?_ | refine wl_alloc rfl _ rfl (by exact arrOf) HM ?_); first | (have q:dL HM = 0:=rfl;clear q HM;intro g1 u1 HM) | (have q:dL HM = 1:=rfl;clear q HM;intro g2 u2 HM) | (have q:dL HM = 2:=rfl;clear q HM;intro g3 u3 HM) | (have q:dL HM = 3:=rfl;clear q HM;intro g4 u4 HM)) | (refine wl_load rfl _ _ rfl rfl (by exact arrOf) HM (by exact memOf) (by exact lenOf) ?_) | (refine wl_storeM rfl _ _ _ rfl rfl rfl (by exact arrOf) HM (by exact idxOf) (by exact lenOf) (by exact lenOf) ?_; clear HM; intro us HM; dsimp only [List.set] at HM) | (refine wl_zero rfl _ rfl (by exact arrOf) (by kernel_rfl) ?_))
  refine bodyPost_ret (v := .tuple #[.agg (icells (zr 6)), .int .i64 1]) (res_two rfl _ rfl rfl arrAll HM (by exact memOf) LZ) rfl ⟨rfl, HM.out.1⟩
set_option maxHeartbeats 4000000 in
theorem rshare_bad2 (l : List Int) (B : Int) (w : World) (ll : l.length = 6) (hc : chkL l = true) (hB : B < 0) :
    Calls Tryz.prog 78 #[.agg (icells l), .int .i64 B] w (ValQ w (.tuple #[.agg (icells (zr 6)), .int .i64 1])) := by
  have LL := Lib.hid ll
  have LZ := Lib.hid (zr_length 6)
  have LM := Lib.hid (maskL_length l)
  have HM := Lib.hid (Mem.start w)
  have HC := Lib.hid (fun u => rmask_good l u ll hc)
  generalize maskL l = m at HC LM
  clear ll hc
  go_enter Tryz.func78, Tryz.ntmps78
  go_wp2_with (first | ((first | refine wl_box rfl _ _ rfl rfl HM ?_ | refine wl_alloc rfl _ rfl (by exact arrOf) HM ?_); first | (have q:dL HM = 0:=rfl;clear q HM;intro g1 u1 HM) | (have q:dL HM = 1:=rfl;clear q HM;intro g2 u2 HM) | (have q:dL HM = 2:=rfl;clear q HM;intro g3 u3 HM) | (have q:dL HM = 3:=rfl;clear q HM;intro g4 u4 HM)) | (refine wl_load rfl _ _ rfl rfl (by exact arrOf) HM (by exact memOf) (by exact lenOf) ?_) | (refine wl_storeM rfl _ _ _ rfl rfl rfl (by exact arrOf) HM (by exact idxOf) (by exact lenOf) (by exact lenOf) ?_; clear HM; intro us HM; dsimp only [List.set] at HM) | (refine wl_zero rfl _ rfl (by exact arrOf) (by kernel_rfl) ?_))
  refine (HC.out _).mono ?_
  rintro e w2 ⟨rfl, h1⟩
  have HM2 := Lib.hid (HM.out.below h1)
  clear h1 HM HC
  have HM := HM2
  clear HM2
  go_wp2_with (first | ((first | refine wl_box rfl _ _ rfl rfl HM ?_ | refine wl_alloc rfl _ rfl (by exact arrOf) HM ?_); first | (have q:dL HM = 0:=rfl;clear q HM;intro g1 u1 HM) | (have q:dL HM = 1:=rfl;clear q HM;intro g2 u2 HM) | (have q:dL HM = 2:=rfl;clear q HM;intro g3 u3 HM) | (have q:dL HM = 3:=rfl;clear q HM;intro g4 u4 HM)) | (refine wl_load rfl _ _ rfl rfl (by exact arrOf) HM (by exact memOf) (by exact lenOf) ?_) | (refine wl_storeM rfl _ _ _ rfl rfl rfl (by exact arrOf) HM (by exact idxOf) (by exact lenOf) (by exact lenOf) ?_; clear HM; intro us HM; dsimp only [List.set] at HM) | (refine wl_zero rfl _ rfl (by exact arrOf) (by kernel_rfl) ?_))
  refine bodyPost_ret (v := .tuple #[.agg (icells (zr 6)), .int .i64 1]) (res_two rfl _ rfl rfl arrAll HM (by exact memOf) LZ) rfl ⟨rfl, HM.out.1⟩
theorem lastM_le (a : List Int) (k : Nat) (hk : k ≤ 6) : lastM a k < 6 := by
  cases k with
  | zero => show 0 < 6; omega
  | succ k => have := lastM_lt a k; omega
theorem lastM_yes {a : List Int} {k : Nat} (h : a.getD (lastM a k) 0 ≤ a.getD k 0) : lastM a (k + 1) = k := by rw [lastM, if_pos h]
theorem lastM_no {a : List Int} {k : Nat} (h : ¬ a.getD (lastM a k) 0 ≤ a.getD k 0) : lastM a (k + 1) = lastM a k := by rw [lastM, if_neg h]
set_option maxHeartbeats 8000000 in
theorem rshare_good (l : List Int) (B : Int) (w : World) (ll : l.length = 6) (hc : chkL l = true) (hB : 0 ≤ B) :
    Calls Tryz.prog 78 #[.agg (icells l), .int .i64 B] w (ValQ w (.tuple #[.agg (icells (shareL l B)), .int .i64 0])) := by
  have LL := Lib.hid ll
  have LZ := Lib.hid (zr_length 6)
  have LM := Lib.hid (maskL_length l)
  have LS := Lib.hid (share_ok l hB).1.1
  have HM := Lib.hid (Mem.start w)
  have HC := Lib.hid (fun u => rmask_good l u ll hc)
  have HL := Lib.hid (fun k => inR_bd hc (by omega) (by omega) k)
  have HB := Lib.hid (fun (k : Nat) (hk : k < 6) => mask_bd hc hk)
  have HBB := Lib.hid hB
  obtain ⟨R, hR⟩ : ∃ R, shareL l B = R := ⟨_, rfl⟩
  have HR := Lib.hid (show narL 42 (wishL l (maskL l)) B = R from hR)
  rw [hR] at LS
  rw [hR]
  have HW0 := Lib.hid (wish_ok l (maskL l))
  obtain ⟨m, hm⟩ : ∃ m, maskL l = m := ⟨_, rfl⟩
  rw [hm] at HC LM HB HR HW0
  clear ll hc hm hR
  go_enter Tryz.func78, Tryz.ntmps78
  go_wp2_with (first | ((first | refine wl_box rfl _ _ rfl rfl HM ?_ | refine wl_alloc rfl _ rfl (by exact arrOf) HM ?_); first | (have q:dL HM = 0:=rfl;clear q HM;intro g1 u1 HM) | (have q:dL HM = 1:=rfl;clear q HM;intro g2 u2 HM) | (have q:dL HM = 2:=rfl;clear q HM;intro g3 u3 HM) | (have q:dL HM = 3:=rfl;clear q HM;intro g4 u4 HM) | (have q:dL HM = 4:=rfl;clear q HM;intro g5 u5 HM)) | (refine wl_load rfl _ _ rfl rfl (by exact arrOf) HM (by exact memOf) (by exact lenOf) ?_) | (refine wl_storeM rfl _ _ _ rfl rfl rfl (by exact arrOf) HM (by exact idxOf) (by exact lenOf) (by exact lenOf) ?_; clear HM; intro us HM; dsimp only [List.set] at HM) | (refine wl_zero rfl _ rfl (by exact arrOf) (by kernel_rfl) ?_))
  refine (HC.out _).mono ?_
  rintro e w2 ⟨rfl, h1⟩
  have HM2 := Lib.hid (HM.out.below h1)
  clear h1 HM HC
  have HM := HM2
  clear HM2
  go_wp2_with (first | ((first | refine wl_box rfl _ _ rfl rfl HM ?_ | refine wl_alloc rfl _ rfl (by exact arrOf) HM ?_); first | (have q:dL HM = 0:=rfl;clear q HM;intro g1 u1 HM) | (have q:dL HM = 1:=rfl;clear q HM;intro g2 u2 HM) | (have q:dL HM = 2:=rfl;clear q HM;intro g3 u3 HM) | (have q:dL HM = 3:=rfl;clear q HM;intro g4 u4 HM) | (have q:dL HM = 4:=rfl;clear q HM;intro g5 u5 HM)) | (refine wl_load rfl _ _ rfl rfl (by exact arrOf) HM (by exact memOf) (by exact lenOf) ?_) | (refine wl_storeM rfl _ _ _ rfl rfl rfl (by exact arrOf) HM (by exact idxOf) (by exact lenOf) (by exact lenOf) ?_; clear HM; intro us HM; dsimp only [List.set] at HM) | (refine wl_zero rfl _ rfl (by exact arrOf) (by kernel_rfl) ?_))
  go_loopw [25] (fun vi wr => ∃ k : Nat, k ≤ 6 ∧ vi = .int .i64 (k : Int) ∧ Hid (Mem w [(g4, 23, m), (g3, 84, tab 6 (part2 k (fun b => wishI (l.getD b 0) (m.getD b 0)) (fun _ => 0))), (g2, 84, zr 6), (g1, 23, l)] wr)) (fun vi _ => 6 - (intOf vi).toNat)
  case atStart => exact ⟨0, by omega, rfl, Lib.hid (by rw [part2_none, tab_zero]; exact HM.out)⟩
  case round =>
    clear HM
    obtain ⟨k, hk, rfl, HM⟩ := hrel
    by_cases hlt : k < 6
    · have k6 : (k : Int) < 6 := by omega
      have S1 := Lib.hid (part2_set (n := 6) (k := k) (fun b => wishI (l.getD b 0) (m.getD b 0)) (fun _ => 0))
      have cl := HM.out.cell (.tail _ (.tail _ (.tail _ (.head _)))) (k := k) (by rw [LL.out]; exact hlt)
      have cm := HM.out.cell (.head _) (k := k) (by rw [LM.out]; exact hlt)
      have H1 := Lib.hid (fun (u : World) (hu : Mem w [(g4, 23, m), (g1, 23, l)] u) => hu.cell (.tail _ (.head _)) (k := k) (by rw [LL.out]; exact hlt))
      have H2 := Lib.hid (fun (u : World) (hu : Mem w [(g4, 23, m), (g1, 23, l)] u) => hu.cell (.head _) (k := k) (by rw [LM.out]; exact hlt))
      have hx := HL.out k
      have hy := HB.out k hlt
      have HP := Lib.hid (show tab 6 (part2 (k + 1) (fun b => wishI (l.getD b 0) (m.getD b 0)) (fun _ => 0)) = (tab 6 (part2 k (fun b => wishI (l.getD b 0) (m.getD b 0)) (fun _ => 0))).set k (wishI (l.getD k 0) (m.getD k 0)) from S1.out.symm)
      have HSM := Lib.hid (show (tab 6 (part2 k (fun b => wishI (l.getD b 0) (m.getD b 0)) (fun _ => 0))).set k 0 = tab 6 (part2 k (fun b => wishI (l.getD b 0) (m.getD b 0)) (fun _ => 0)) from tab_set (by unfold part2; rw [if_neg (by omega)]) fun _ _ _ => rfl)
      have LX := Lib.hid (tab_length 6 (part2 k (fun b => wishI (l.getD b 0) (m.getD b 0)) (fun _ => 0)))
      generalize tab 6 (part2 k _ _) = X at HP HSM LX HM
      clear S1
      generalize l.getD k 0 = x at cl H1 hx HP
      generalize m.getD k 0 = y at cm H2 hy HP
      obtain ⟨hx1, hx2⟩ := hx
      obtain ⟨hy1, hy2⟩ := hy
      by_cases hxy : y < x
      · have hd : decide (y < x) = true := decide_eq_true hxy
        have HZ := Lib.hid (show wishI x y = min ((x - y + 7) / 8) 7 by unfold wishI; rw [if_neg (by omega)])
        rw [HZ.out] at HP
        have w1 : IntKind.i64.wrap (x - y) = x - y := i64_w (by omega) (by omega)
        have w2 : IntKind.i64.wrap (x - y + 7) = x - y + 7 := i64_w (by omega) (by omega)
        have w3 : 0 ≤ x - y + 7 := by omega
        have w4 : IntKind.i64.wrap ((x - y + 7).tdiv 8) = (x - y + 7) / 8 := by rw [Int.tdiv_eq_ediv_of_nonneg w3]; exact i64_w (by omega) (by omega)
        clear hx1 hx2 hy1 hy2 HZ
        go_wp2_with fail
        go_quiet (fail)
        have HM2 := Lib.hid (HM.out.drewN nq)
        clear HM cl cm
        have HM := HM2
        clear HM2
        generalize World.drewN _ _ = wq at HM ⊢
        go_wp2_with fail
        refine wp_region_held_drew (S := Mem w [(g4, 23, m), (g1, 23, l)]) (by kernel_rfl) (HM.out.drew.sub (by exact subOf)) (fun hHeld => ?_)
        have HMd := Lib.hid HM.out.drew
        clear HM
        have HM := HMd
        clear HMd
        generalize World.drew _ = wd at HM hHeld ⊢
        (refine wa_take (i := 0) rfl (by kernel_rfl) (by kernel_rfl) (by kernel_rfl) (fun _ _ _ h => h) (yi_free rfl (fun u => rfl)) hHeld rfl ?_; (try simp only [Act.put, qz1, qz2, qz3]))
        (refine wa_take (i := 1) rfl (by kernel_rfl) (by kernel_rfl) (by kernel_rfl) (fun _ _ _ h => h) (yi_free rfl (fun u => rfl)) hHeld rfl ?_; (try simp only [Act.put, qz1, qz2, qz3]))
        (refine wa_take (i := 2) (v := .pointer (some ⟨g1, k, none⟩)) rfl (by kernel_rfl) (by kernel_rfl) (by kernel_rfl) (fun _ _ _ h => h) (yi_free rfl (fun u => by go_simp)) hHeld rfl ?_; (try simp only [Act.put, qz1, qz2, qz3]))
        (refine wa_take (i := 3) rfl (by kernel_rfl) (by kernel_rfl) (by kernel_rfl) (fun _ _ _ h => h) (yi_cell rfl _ rfl rfl (H1).out) hHeld rfl ?_; (try simp only [Act.put, qz1, qz2, qz3]))
        (refine wa_take (i := 4) rfl (by kernel_rfl) (by kernel_rfl) (by kernel_rfl) (fun _ _ _ h => h) (yi_free rfl (fun u => rfl)) hHeld rfl ?_; (try simp only [Act.put, qz1, qz2, qz3]))
        (refine wa_take (i := 5) (v := .pointer (some ⟨g4, k, none⟩)) rfl (by kernel_rfl) (by kernel_rfl) (by kernel_rfl) (fun _ _ _ h => h) (yi_free rfl (fun u => by go_simp)) hHeld rfl ?_; (try simp only [Act.put, qz1, qz2, qz3]))
        (refine wa_take (i := 6) rfl (by kernel_rfl) (by kernel_rfl) (by kernel_rfl) (fun _ _ _ h => h) (yi_cell rfl _ rfl rfl (H2).out) hHeld rfl ?_; (try simp only [Act.put, qz1, qz2, qz3]))
        (refine wa_take (i := 7) (v := .int .i64 (x - y)) rfl (by kernel_rfl) (by kernel_rfl) (by kernel_rfl) (fun _ _ _ h => h) (yi_free rfl (fun u => by go_simp)) hHeld rfl ?_; (try simp only [Act.put, qz1, qz2, qz3]))
        (refine wa_take (i := 8) (v := .int .i64 (x - y + 7)) rfl (by kernel_rfl) (by kernel_rfl) (by kernel_rfl) (fun _ _ _ h => h) (yi_free rfl (fun u => by go_simp)) hHeld rfl ?_; (try simp only [Act.put, qz1, qz2, qz3]))
        (refine wa_take (i := 9) (v := .int .i64 ((x - y + 7) / 8)) rfl (by kernel_rfl) (by kernel_rfl) (by kernel_rfl) (fun _ _ _ h => h) (yi_free rfl (fun u => by go_simp)) hHeld rfl ?_; (try simp only [Act.put, qz1, qz2, qz3]))
        (refine wa_take (i := 10) (v := .int .i64 (min ((x - y + 7) / 8) 7)) rfl (by kernel_rfl) (by kernel_rfl) (by kernel_rfl) (fun _ _ _ h => h) (yi_free rfl (fun u => by go_simp)) hHeld rfl ?_; (try simp only [Act.put, qz1, qz2, qz3]))
        (refine wa_take (i := 11) (v := .pointer (some ⟨g3, k, none⟩)) rfl (by kernel_rfl) (by kernel_rfl) (by kernel_rfl) (fun _ _ _ h => h) (yi_free rfl (fun u => by go_simp)) hHeld rfl ?_; (try simp only [Act.put, qz1, qz2, qz3]))
        have c1 := HM.out.cell (.tail _ (.head _)) (k := k) (by rw [LX.out]; exact hlt)
        have f1 := HM.out.free (.tail _ (.head _)) k
        generalize List.getD X k 0 = o at c1
        refine wpAnyH_ready (rs := [12]) (by kernel_rfl) (by simp) ?_; refine AllReadyH.cons rfl (fun K hK => ?_) (AllReadyH.nil)
        rw [if_pos (by rfl)]; go_simp
        have HM3 := Lib.hid (HM.out.put 1 rfl k (min ((x - y + 7) / 8) 7))
        simp only [List.set_cons_zero, List.set_cons_succ] at HM3
        rw [← HP.out] at HM3
        clear HM c1 f1 hHeld
        have HM := HM3
        clear HM3
        go_wp2_with fail; refine hK.out _ _ (HM.out.sub (by exact subOf)) (fun hHeld => ?_); clear hK K; (try simp only [Act.put, qz1, qz2, qz3])
        refine wpAnyH_done (by kernel_rfl) ?_ _
        clear H1 H2 w1 w2 w3 w4
        go_wp2
        go_roundw
        case rel => exact ⟨k + 1, by omega, by go_num, HM⟩
        case measure => simp [intOf]; omega
      · have hd : decide (y < x) = false := decide_eq_false hxy
        have HZ := Lib.hid (show wishI x y = 0 by unfold wishI; rw [if_pos (by omega)])
        rw [HZ.out, HSM.out] at HP
        clear hx1 hx2 hy1 hy2 HZ hxy
        go_wp2_with fail
        go_quiet (fail)
        have HM2 := Lib.hid (HM.out.drewN nq)
        rw [← HP.out] at HM2
        clear HM cl cm
        go_wp2
        go_roundw
        case rel => exact ⟨k + 1, by omega, by go_num, HM2⟩
        case measure => simp [intOf]; omega
    · obtain rfl : k = 6 := by omega
      rw [part2_all] at HM
      have HI := Lib.hid (show ∃ cur, OkA cur ∧ narL 42 cur B = R ∧ sumA cur ≤ 42 ∧ Mem w [(g4, 23, m), (g3, 84, cur), (g2, 84, zr 6), (g1, 23, l)] wr from ⟨wishL l m, HW0.out, HR.out, sumA_le HW0.out, HM.out⟩)
      clear HM HR HW0 hB
      go_wp2_with fail
      go_loopg [] 42 (fun gn wx => Hid (∃ cur, OkA cur ∧ narL 42 cur B = R ∧ sumA cur ≤ gn ∧ Mem w [(g4, 23, m), (g3, 84, cur), (g2, 84, zr 6), (g1, 23, l)] wx))
      case atStart => exact HI
      case round =>
        clear HI
        obtain ⟨cur, hok, hnar, hsum, hM⟩ := hrel.out
        clear hrel
        have HM := Lib.hid hM
        have HO := Lib.hid hok
        have HN := Lib.hid hnar
        have HS := Lib.hid hsum
        have LC := Lib.hid hok.1
        have HCst := Lib.hid (fun u => rcost_any cur u hok)
        obtain ⟨C, hC⟩ : ∃ C, costL cur = C := ⟨_, rfl⟩
        rw [hC] at HCst
        have HCC := Lib.hid hC
        clear hM hok hnar hsum hC
        by_cases hcb : C ≤ B
        · have hd : decide (B < C) = false := decide_eq_false (by omega)
          have hcur : cur = R := by rw [← HN.out]; exact (nar_done (by rw [HCC.out]; exact hcb)).symm
          rw [hcur] at HM HCst
          clear hcur LC HO HN HS HCC
          go_wp2_with (refine wl_load rfl _ _ rfl rfl (by exact arrOf) HM (by exact memOf) (by exact lenOf) ?_)
          refine (HCst.out _).mono ?_
          rintro e wb ⟨rfl, h1⟩
          have HM2 := Lib.hid (HM.out.below h1)
          clear h1 HM HCst
          have HM := HM2
          clear HM2
          go_wp2_with (first | ((first | refine wl_box rfl _ _ rfl rfl HM ?_ | refine wl_alloc rfl _ rfl (by exact arrOf) HM ?_); first | (have q:dL HM = 0:=rfl;clear q HM;intro g1 u1 HM) | (have q:dL HM = 1:=rfl;clear q HM;intro g2 u2 HM) | (have q:dL HM = 2:=rfl;clear q HM;intro g3 u3 HM) | (have q:dL HM = 3:=rfl;clear q HM;intro g4 u4 HM) | (have q:dL HM = 4:=rfl;clear q HM;intro g5 u5 HM)) | (refine wl_load rfl _ _ rfl rfl (by exact arrOf) HM (by exact memOf) (by exact lenOf) ?_) | (refine wl_storeM rfl _ _ _ rfl rfl rfl (by exact arrOf) HM (by exact idxOf) (by exact lenOf) (by exact lenOf) ?_; clear HM; intro us HM; dsimp only [List.set] at HM) | (refine wl_zero rfl _ rfl (by exact arrOf) (by kernel_rfl) ?_))
          refine bodyPost_ret (v := .tuple #[.agg (icells R), .int .i64 0]) (res_two rfl _ rfl rfl arrAll HM (by exact memOf) LS) rfl ⟨rfl, HM.out.1⟩
        · have hd : decide (B < C) = true := decide_eq_true (by omega)
          have hp := costL_pos (a := cur) HBB.out (by rw [HCC.out]; omega)
          have HST := Lib.hid (nar_step HBB.out HO.out (by rw [HCC.out]; exact hcb))
          have HSS := Lib.hid (stp_sum HO.out hp)
          have HP := Lib.hid hp
          clear hp
          go_wp2_with (refine wl_load rfl _ _ rfl rfl (by exact arrOf) HM (by exact memOf) (by exact lenOf) ?_)
          refine (HCst.out _).mono ?_
          rintro e wb ⟨rfl, h1⟩
          have HM2 := Lib.hid (HM.out.below h1)
          clear h1 HM HCst
          have HM := HM2
          clear HM2
          go_wp2_with (refine wl_load rfl _ _ rfl rfl (by exact arrOf) HM (by exact memOf) (by exact lenOf) ?_)
          clear hd
          go_loop [10, 53] (fun vm vi => ∃ k : Nat, k ≤ 6 ∧ vi = .int .i64 (k : Int) ∧ vm = .int .i64 ((lastM cur k : Nat) : Int)) (fun _ vi => 6 - (intOf vi).toNat)
          case atStart => exact ⟨0, by omega, rfl, rfl⟩
          case round =>
            obtain ⟨k, hk, rfl, rfl⟩ := hrel
            have HML := Lib.hid (lastM_le cur k hk)
            by_cases hlt : k < 6
            · have k6 : (k : Int) < 6 := by omega
              have hix := run_index 84 (n := 6) (by kernel_rfl) cur LC.out k hlt
              have HY := Lib.hid (lastM_yes (a := cur) (k := k))
              have HNo := Lib.hid (lastM_no (a := cur) (k := k))
              have cm := HM.out.cell (.tail _ (.head _)) (k := lastM cur k) (by rw [LC.out]; exact HML.out)
              generalize lastM cur k = M at cm HY HNo HML ⊢
              have m6 : (M : Int) < 6 := by have := HML.out; omega
              generalize cur.getD M 0 = x at cm HY HNo
              generalize cur.getD k 0 = y at hix HY HNo
              by_cases hxy : x ≤ y
              · have hd : decide (x ≤ y) = true := decide_eq_true hxy
                have HE1 := Lib.hid (HY.out hxy)
                clear HY HNo
                go_wp2
                clear hd
                go_round
                case rel => exact ⟨k + 1, by omega, by go_num, by rw [HE1.out]⟩
                case measure => simp [intOf]; omega
              · have hd : decide (x ≤ y) = false := decide_eq_false hxy
                have HE1 := Lib.hid (HNo.out hxy)
                clear HY HNo hxy
                go_wp2
                clear hd
                go_round
                case rel => exact ⟨k + 1, by omega, by go_num, by rw [HE1.out]⟩
                case measure => simp [intOf]; omega
            · obtain rfl : k = 6 := by omega
              have cm := HM.out.cell (.tail _ (.head _)) (k := lastM cur 6) (by rw [LC.out]; exact HML.out)
              have fm := HM.out.free (.tail _ (.head _)) (lastM cur 6)
              have HX := Lib.hid (show stpL cur = cur.set (lastM cur 6) (cur.getD (lastM cur 6) 0 - 1) from rfl)
              have hx7 := (HO.out.2 _ HML.out).2
              have hx0 := HP.out
              generalize lastM cur 6 = M at cm fm HML HX hx7 hx0 ⊢
              have m6 : (M : Int) < 6 := by have := HML.out; omega
              generalize cur.getD M 0 = x at cm HX hx7 hx0
              clear HP
              go_wp2
              have HM3 := HM.out.put 1 rfl M (x - 1)
              simp only [List.set_cons_zero, List.set_cons_succ] at HM3
              rw [← HX.out] at HM3
              have HQ := Lib.hid (show ∃ cur, OkA cur ∧ narL 42 cur B = R ∧ sumA cur ≤ gk - 1 ∧ Mem w [(g4, 23, m), (g3, 84, cur), (g2, 84, zr 6), (g1, 23, l)] _ from ⟨stpL cur, HST.out.2, by rw [← HST.out.1]; exact HN.out, by have := HS.out; have := HSS.out; omega, HM3⟩)
              have HG := Lib.hid (show gk - 1 < gk by have := HS.out; have := HSS.out; omega)
              clear HM3 cm fm HM
              go_roundg (gk - 1)
              case rel => exact HQ
              case measure => exact HG.out
theorem rshare_any' (l : List Int) (B : Int) (w : World) (ll : l.length = 6) : Calls Tryz.prog 78 #[.agg (icells l), .int .i64 B] w (ValQ w (shareV l B)) := by
  unfold shareV
  by_cases h : chkL l = true
  · by_cases hB : 0 ≤ B
    · rw [if_pos ⟨h, hB⟩]; exact rshare_good l B w ll h hB
    · rw [if_neg (fun k => hB k.2)]; exact rshare_bad2 l B w ll h (by omega)
  · rw [if_neg (fun k => h k.1)]; exact rshare_bad1 l B w ll (by simpa using h)
end Go.Proofs.YtgpdgegelipboaaGreatDoor.Lp
namespace Go.Proofs.YtgpdgegelipboaaGreatDoor.Lp
open Go.RowKit Fx Fq Tb
def mostN (k : Nat) : Nat := 2 ^ k - 1
def peakN (l : Nat) : Nat := (8 + l % 8) * 2 ^ (l / 8) / 8 + 1
def stepN (l k : Nat) : Nat := (peakN l + mostN k - 1) / mostN k
theorem mostN_pos {k : Nat} (h : 1 ≤ k) : 1 ≤ mostN k := by
  obtain ⟨j, rfl⟩ : ∃ j, k = j + 1 := ⟨k - 1, by omega⟩
  have := Nat.two_pow_pos j
  unfold mostN; rw [Nat.pow_succ]; omega
theorem mostN_bd : ∀ k, k ≤ 7 → mostN k ≤ 127 := by decide
theorem mostN_succ (k : Nat) : mostN (k + 1) = 2 * mostN k + 1 := by
  have := Nat.two_pow_pos k
  unfold mostN; rw [Nat.pow_succ]; omega
theorem peakN_bd : ∀ l, l < 256 → 2 ≤ peakN l ∧ peakN l ≤ 4026531841 := by decide +kernel
def clampI (v by' : Int) : Int := min (max v (-by')) by'
end Go.Proofs.YtgpdgegelipboaaGreatDoor.Lp
namespace Go.Proofs.YtgpdgegelipboaaGreatDoor.Lp
open Go.RowKit Fx Fq Tb
theorem bnd_below : ∀ n, n < 16 → ∀ k, k ≤ bnd n → (edg (k + 1) ≤ n ↔ k < bnd n) := by decide
set_option maxHeartbeats 4000000 in
theorem rof_good (n : Nat) (w : World) (hn : n < 16) :
    Calls Tryz.prog 79 #[.int .i64 (n : Int)] w fun e w' => e = .returned (.tuple #[.int .i64 (bnd n : Int), .int .i64 0]) ∧ w = w' := by
  have HB := Lib.hid (bnd_below n hn)
  have b1 := (bnd_all n hn).1
  obtain ⟨m, hm⟩ : ∃ m, bnd n = m := ⟨_, rfl⟩
  rw [hm] at b1 HB
  rw [hm]
  have n15 : (n : Int) ≤ 15 := by omega
  clear hm
  go_enter Tryz.func79, Tryz.ntmps79
  go_wp2_with fail
  go_loop [4] (fun vi => ∃ k : Nat, k ≤ m ∧ vi = .int .i64 (k : Int)) (fun vi => 6 - (intOf vi).toNat)
  case atStart => exact ⟨0, by omega, rfl⟩
  case round =>
    obtain ⟨k, hk, rfl⟩ := hrel
    have k6 : (k : Int) < 6 := by omega
    have F1 := Lib.hid (fun u => rfirst_any (k + 1) ((k : Int) + 1) u (by omega) (by omega))
    have hb := HB.out k hk
    generalize edg (k + 1) = z at F1 hb
    by_cases hlt : k < m
    · have hd : z ≤ n := hb.2 hlt
      have hd2 : decide (z ≤ n) = true := decide_eq_true hd
      clear hb
      go_wp2_with fail
      refine (F1.out _).mono ?_
      rintro e wb ⟨rfl, rfl⟩
      go_wp2_with fail
      clear hd2
      go_round
      case rel => exact ⟨k + 1, by omega, by go_num⟩
      case measure => simp [intOf]; omega
    · obtain rfl : k = m := by omega
      have hd : ¬ z ≤ n := fun h => hlt (hb.1 h)
      have hd2 : decide (z ≤ n) = false := decide_eq_false hd
      clear hb hd
      go_wp2_with fail
      refine (F1.out _).mono ?_
      rintro e wb ⟨rfl, rfl⟩
      go_wp2_with fail
      go_ret2
      exact ⟨rfl, rfl⟩
def mostV (v : Int) : Nat := mostN (min (max v 0) 7).toNat
theorem rmost_any (v : Int) (w : World) : Calls Tryz.prog 81 #[.int .i64 v] w fun e w' => e = .returned (.int .i64 (mostV v : Int)) ∧ w = w' := by
  obtain ⟨c, hc⟩ : ∃ c : Nat, min (max v 0) 7 = (c : Int) := ⟨(min (max v 0) 7).toNat, by omega⟩
  have c7 : c ≤ 7 := by omega
  have HV := Lib.hid (show mostV v = mostN c by unfold mostV; rw [hc]; rfl)
  go_enter Tryz.func81, Tryz.ntmps81
  go_wp2_with fail
  clear hc
  go_loop [3, 7] (fun vn vi => ∃ k : Nat, k ≤ c ∧ vi = .int .i64 (k : Int) ∧ vn = .int .i64 ((mostN k : Nat) : Int)) (fun _ vi => c - (intOf vi).toNat)
  case atStart => exact ⟨0, by omega, rfl, rfl⟩
  case round =>
    obtain ⟨k, hk, rfl, rfl⟩ := hrel
    by_cases hlt : k < c
    · have kc : (k : Int) < (c : Int) := by omega
      have HS := Lib.hid (mostN_succ k)
      have hb := mostN_bd k (by omega)
      generalize mostN k = z at hb HS
      go_wp2
      go_round
      case rel => exact ⟨k + 1, by omega, by go_num, by rw [HS.out]; go_num⟩
      case measure => simp [intOf]; omega
    · obtain rfl : k = c := by omega
      go_wp2
      go_ret
      exact ⟨ri (by rw [HV.out]), rfl⟩
theorem two_pow_le30 {i : Nat} (h : i ≤ 30) : 2 ^ i ≤ 1073741824 := Nat.pow_le_pow_right (n := 2) (i := i) (j := 30) (by omega) h
theorem two_pow_le31 {i : Nat} (h : i ≤ 31) : 2 ^ i ≤ 2147483648 := Nat.pow_le_pow_right (n := 2) (i := i) (j := 31) (by omega) h
theorem rpeak_good (l : Nat) (w : World) (hl : l < 256) : Calls Tryz.prog 111 #[.int .i64 (l : Int)] w fun e w' => e = .returned (.tuple #[.int .i64 (peakN l : Int), .int .i64 0]) ∧ w = w' := by
  have HP := Lib.hid (show peakN l = (8 + l % 8) * 2 ^ (l / 8) / 8 + 1 from rfl)
  obtain ⟨r, hr⟩ : ∃ r, l % 8 = r := ⟨_, rfl⟩
  obtain ⟨a, ha⟩ : ∃ a, l / 8 = a := ⟨_, rfl⟩
  rw [hr, ha] at HP
  have hri : (l : Int) % 8 = (r : Int) := by omega
  have hai : (l : Int) / 8 = (a : Int) := by omega
  have r8 : r < 8 := by omega
  have a31 : a ≤ 31 := by omega
  have l255 : (l : Int) ≤ 255 := by omega
  generalize peakN l = P at HP
  clear hr ha hl
  go_enter Tryz.func111, Tryz.ntmps111
  go_wp2_with fail
  clear hri hai
  go_loop [4, 16] (fun vp vi => ∃ k : Nat, k ≤ a ∧ vi = .int .i64 (k : Int) ∧ vp = .int .i64 (((8 + r) * 2 ^ k : Nat) : Int)) (fun _ vi => a - (intOf vi).toNat)
  case atStart => exact ⟨0, by omega, rfl, by rw [Nat.pow_zero, Nat.mul_one]; go_num⟩
  case round =>
    obtain ⟨k, hk, rfl, rfl⟩ := hrel
    by_cases hlt : k < a
    · have kc : (k : Int) < (a : Int) := by omega
      have HS := Lib.hid (show (8 + r) * 2 ^ (k + 1) = (8 + r) * 2 ^ k * 2 by rw [Nat.pow_succ, Nat.mul_assoc])
      have hb : (8 + r) * 2 ^ k ≤ 15 * 1073741824 := Nat.mul_le_mul (by omega) (two_pow_le30 (by omega))
      generalize (8 + r) * 2 ^ k = z at hb HS
      go_wp2
      go_round
      case rel => exact ⟨k + 1, by omega, by go_num, by rw [HS.out]; go_num⟩
      case measure => simp [intOf]; omega
    · obtain rfl : k = a := by omega
      have hb : (8 + r) * 2 ^ k ≤ 15 * 2147483648 := Nat.mul_le_mul (by omega) (two_pow_le31 (by omega))
      generalize (8 + r) * 2 ^ k = z at hb HP
      go_wp2
      go_ret2
      refine ⟨?_, rfl⟩
      have e : (P : Int) = (z : Int) / 8 + 1 := by have := HP.out; omega
      rw [e]; rfl
theorem rstep_good (l k : Nat) (w : World) (hl : l < 256) (h1 : 1 ≤ k) (h7 : k ≤ 7) : Calls Tryz.prog 80 #[.int .i64 (l : Int), .int .i64 (k : Int)] w fun e w' => e = .returned (.tuple #[.int .i64 (stepN l k : Int), .int .i64 0]) ∧ w = w' := by
  have HP := Lib.hid (fun u => rpeak_good l u hl)
  have HQ := Lib.hid (fun u => rmost_any (k : Int) u)
  rw [show mostV (k : Int) = mostN k by unfold mostV; congr 1; omega] at HQ
  have HS := Lib.hid (show stepN l k = (peakN l + mostN k - 1) / mostN k from rfl)
  have p1 := peakN_bd l hl
  have m1 := mostN_pos h1
  have m7 := mostN_bd k h7
  generalize peakN l = P at HP HS p1
  generalize mostN k = m at HQ HS m1 m7
  generalize stepN l k = s at HS
  have k1 : 1 ≤ (k : Int) := by omega
  have k7 : (k : Int) ≤ 7 := by omega
  have m1i : 1 ≤ (m : Int) := by omega
  have hs0 : ((P : Int) + (m : Int) - 1) / (m : Int) = (s : Int) := by
    rw [HS.out, Int.natCast_ediv]
    congr 1
    omega
  have hsb : s ≤ P + m := by rw [HS.out]; exact Nat.le_trans (Nat.div_le_self _ _) (by omega)
  have hd : IntKind.i64.wrap (((P : Int) + (m : Int) - 1).tdiv (m : Int)) = (s : Int) := by
    rw [Int.tdiv_eq_ediv_of_nonneg (by omega), hs0]
    exact i64_w (by omega) (by omega)
  have HD0 := Lib.hid hs0
  clear hl h1 h7 hs0
  go_enter Tryz.func80, Tryz.ntmps80
  go_wp2_with fail
  refine (HP.out _).mono ?_
  rintro e wb ⟨rfl, rfl⟩
  go_wp2_with fail
  refine (HQ.out _).mono ?_
  rintro e wb ⟨rfl, rfl⟩
  go_wp2_with fail
  go_ret2
  exact ⟨rfl, rfl⟩
end Go.Proofs.YtgpdgegelipboaaGreatDoor.Lp
namespace Go.Proofs.YtgpdgegelipboaaGreatDoor.Lp
open Go.RowKit Fx Fq Tb
theorem arrHop : Arr 24 16 := ⟨⟨.array 16 3, by kernel_rfl, rfl⟩, by kernel_rfl⟩
def stF (l a : List Int) (n : Nat) : Int := if 0 < a.getD (bnd n) 0 then (stepN (l.getD (bnd n) 0).toNat (a.getD (bnd n) 0).toNat : Int) else 0
def moF (a : List Int) (n : Nat) : Int := if 0 < a.getD (bnd n) 0 then (mostN (a.getD (bnd n) 0).toNat : Int) else 0
theorem stF_is (l a : List Int) (n : Nat) : stF l a n = if 0 < a.getD (bnd n) 0 then (stepN (l.getD (bnd n) 0).toNat (a.getD (bnd n) 0).toNat : Int) else 0 := rfl
theorem moF_is (a : List Int) (n : Nat) : moF a n = if 0 < a.getD (bnd n) 0 then (mostN (a.getD (bnd n) 0).toNat : Int) else 0 := rfl
def stL (l a : List Int) : List Int := tab 16 (stF l a)
def moL (a : List Int) : List Int := tab 16 (moF a)
def ssL (l : List Int) : List Int := if chkL l = true then stL l (shareL l 120) else zr 16
def msL (l : List Int) : List Int := if chkL l = true then moL (shareL l 120) else zr 16
def asL (l : List Int) : List Int := if chkL l = true then shareL l 120 else zr 6
def stepsV (l : List Int) : Value := .tuple #[.agg (icells (ssL l)), .agg (icells (msL l)), .agg (icells (asL l)), .bool (chkL l)]
theorem part2_skip {n k : Nat} {f g : Nat → Int} (h : f k = g k) : tab n (part2 k f g) = tab n (part2 (k + 1) f g) := tab_congr fun i _ => by
  unfold part2
  by_cases e : i = k
  · subst e; rw [if_neg (by omega), if_pos (by omega), h]
  · by_cases h1 : i < k
    · rw [if_pos h1, if_pos (by omega)]
    · rw [if_neg h1, if_neg (by omega)]
theorem res_four {fn : Func} {p q r u : Tmp} {ty tz tx : TypeId} (h : fn.results = #[.cell p ty, .cell q tz, .cell r tx, .tmp u]) (tmps : Array Value) {w w0 : World} {L : List (Nat × TypeId × List Int)} {g k j n m o : Nat} {xs ys zs : List Int} {v : Value}
    (hp : tmps.getD p undef = .pointer (some ⟨g, 0, none⟩)) (hq : tmps.getD q undef = .pointer (some ⟨k, 0, none⟩)) (hr : tmps.getD r undef = .pointer (some ⟨j, 0, none⟩)) (hv : tmps.getD u undef = v)
    (ha : Arr ty n) (hb : Arr tz m) (hc : Arr tx o) (hm : Hid (Mem w0 L w))
    (hin : (g, ty, xs) ∈ L) (hin' : (k, tz, ys) ∈ L) (hin'' : (j, tx, zs) ∈ L) (hl : Hid (xs.length = n)) (hl' : Hid (ys.length = m)) (hl'' : Hid (zs.length = o)) :
    (results fn tmps).run Tryz.prog w = .ok (.tuple #[.agg (icells xs), .agg (icells ys), .agg (icells zs), v]) w := by
  have hp' : tmps[p]?.getD undef = .pointer (some ⟨g, 0, none⟩) := by simpa using hp
  have hq' : tmps[q]?.getD undef = .pointer (some ⟨k, 0, none⟩) := by simpa using hq
  have hr' : tmps[r]?.getD undef = .pointer (some ⟨j, 0, none⟩) := by simpa using hr
  have hv' : tmps[u]?.getD undef = v := by simpa using hv
  simp [results, h, hp', hq', hr', hv', asAddr, Sem.run_bind, Result.andThen, run_load_mem ha hm.out hin hl.out, run_load_mem hb hm.out hin' hl'.out, run_load_mem hc hm.out hin'' hl''.out]
set_option maxHeartbeats 4000000 in
theorem rsteps_bad (l : List Int) (w : World) (ll : l.length = 6) (hc : chkL l = false) :
    Calls Tryz.prog 45 #[.agg (icells l)] w (ValQ w (.tuple #[.agg (icells (zr 16)), .agg (icells (zr 16)), .agg (icells (zr 6)), .bool false])) := by
  have LL := Lib.hid ll
  have LZ := Lib.hid (zr_length 6)
  have LY := Lib.hid (zr_length 16)
  have HM := Lib.hid (Mem.start w)
  have HC := Lib.hid (fun u => rshare_any' l 120 u ll)
  rw [show shareV l 120 = .tuple #[.agg (icells (zr 6)), .int .i64 1] by unfold shareV; rw [if_neg (fun k => by rw [hc] at k; exact Bool.false_ne_true k.1)]] at HC
  clear ll hc
  go_enter Tryz.func45, Tryz.ntmps45
  go_wp2_with (first | ((first | refine wl_box rfl _ _ rfl rfl HM ?_ | refine wl_alloc rfl _ rfl (by exact arrOf) HM ?_); first | (have q:dL HM = 0:=rfl;clear q HM;intro g1 u1 HM) | (have q:dL HM = 1:=rfl;clear q HM;intro g2 u2 HM) | (have q:dL HM = 2:=rfl;clear q HM;intro g3 u3 HM) | (have q:dL HM = 3:=rfl;clear q HM;intro g4 u4 HM) | (have q:dL HM = 4:=rfl;clear q HM;intro g5 u5 HM) | (have q:dL HM = 5:=rfl;clear q HM;intro g6 u6 HM) | (have q:dL HM = 6:=rfl;clear q HM;intro g7 u7 HM) | (have q:dL HM = 7:=rfl;clear q HM;intro g8 u8 HM)) | (refine wl_load rfl _ _ rfl rfl (by exact arrOf) HM (by exact memOf) (by exact lenOf) ?_) | (refine wl_storeM rfl _ _ _ rfl rfl rfl (by exact arrOf) HM (by exact idxOf) (by exact lenOf) (by exact lenOf) ?_; clear HM; intro us HM; dsimp only [List.set] at HM) | (refine wl_zero rfl _ rfl (by exact arrOf) (by kernel_rfl) ?_))
  refine (HC.out _).mono ?_
  rintro e w2 ⟨rfl, h1⟩
  have HM2 := Lib.hid (HM.out.below h1)
  clear h1 HM HC
  have HM := HM2
  clear HM2
  go_wp2_with (first | ((first | refine wl_box rfl _ _ rfl rfl HM ?_ | refine wl_alloc rfl _ rfl (by exact arrOf) HM ?_); first | (have q:dL HM = 0:=rfl;clear q HM;intro g1 u1 HM) | (have q:dL HM = 1:=rfl;clear q HM;intro g2 u2 HM) | (have q:dL HM = 2:=rfl;clear q HM;intro g3 u3 HM) | (have q:dL HM = 3:=rfl;clear q HM;intro g4 u4 HM) | (have q:dL HM = 4:=rfl;clear q HM;intro g5 u5 HM) | (have q:dL HM = 5:=rfl;clear q HM;intro g6 u6 HM) | (have q:dL HM = 6:=rfl;clear q HM;intro g7 u7 HM) | (have q:dL HM = 7:=rfl;clear q HM;intro g8 u8 HM)) | (refine wl_load rfl _ _ rfl rfl (by exact arrOf) HM (by exact memOf) (by exact lenOf) ?_) | (refine wl_storeM rfl _ _ _ rfl rfl rfl (by exact arrOf) HM (by exact idxOf) (by exact lenOf) (by exact lenOf) ?_; clear HM; intro us HM; dsimp only [List.set] at HM) | (refine wl_zero rfl _ rfl (by exact arrOf) (by kernel_rfl) ?_))
  refine wp_region_held_drew (S := Mem w [(g7, 84, zr 6), (g6, 24, zr 16), (g5, 24, zr 16)]) (by kernel_rfl) (HM.out.drew.sub (by exact subOf)) (fun hHeld => ?_)
  have HM2 := Lib.hid HM.out.drew
  clear HM
  have HM := HM2
  clear HM2
  (refine wa_take (i := 0) rfl (by kernel_rfl) (by kernel_rfl) (by kernel_rfl) (fun _ _ _ h => h) (yi_load rfl _ _ rfl rfl (by exact arrOf) (fun u hu => hu) (by exact memOf) (by exact lenOf)) hHeld rfl ?_; (try simp only [Act.put, qz1, qz2, qz3]))
  (refine wa_take (i := 1) rfl (by kernel_rfl) (by kernel_rfl) (by kernel_rfl) (fun _ _ _ h => h) (yi_load rfl _ _ rfl rfl (by exact arrOf) (fun u hu => hu) (by exact memOf) (by exact lenOf)) hHeld rfl ?_; (try simp only [Act.put, qz1, qz2, qz3]))
  (refine wa_take (i := 2) rfl (by kernel_rfl) (by kernel_rfl) (by kernel_rfl) (fun _ _ _ h => h) (yi_load rfl _ _ rfl rfl (by exact arrOf) (fun u hu => hu) (by exact memOf) (by exact lenOf)) hHeld rfl ?_; (try simp only [Act.put, qz1, qz2, qz3]))
  (refine wpAnyH_ready (rs := [3]) (by kernel_rfl) (by simp) ?_; refine AllReadyH.cons rfl (fun K hK => ?_) AllReadyH.nil; rw [if_pos (by rfl)]; refine ow_store _ _ _ rfl rfl rfl (by exact arrOf) HM 5 rfl (by exact lenOf) (by exact lenOf) rfl ?_; clear HM; intro us HM; simp only [List.set_cons_zero, List.set_cons_succ] at HM; refine hK.out _ _ (HM.out.sub (by exact subOf)) (fun hHeld => ?_); clear hK K; (try simp only [Act.put]))
  (refine wpAnyH_ready (rs := [4]) (by kernel_rfl) (by simp) ?_; refine AllReadyH.cons rfl (fun K hK => ?_) AllReadyH.nil; rw [if_pos (by rfl)]; refine ow_store _ _ _ rfl rfl rfl (by exact arrOf) HM 4 rfl (by exact lenOf) (by exact lenOf) rfl ?_; clear HM; intro us HM; simp only [List.set_cons_zero, List.set_cons_succ] at HM; refine hK.out _ _ (HM.out.sub (by exact subOf)) (fun hHeld => ?_); clear hK K; (try simp only [Act.put]))
  (refine wpAnyH_ready (rs := [5]) (by kernel_rfl) (by simp) ?_; refine AllReadyH.cons rfl (fun K hK => ?_) AllReadyH.nil; rw [if_pos (by rfl)]; refine ow_store _ _ _ rfl rfl rfl (by exact arrOf) HM 3 rfl (by exact lenOf) (by exact lenOf) rfl ?_; clear HM; intro us HM; simp only [List.set_cons_zero, List.set_cons_succ] at HM; refine hK.out _ _ (HM.out.sub (by exact subOf)) (fun hHeld => ?_); clear hK K; (try simp only [Act.put]))
  (refine wa_take (i := 6) rfl (by kernel_rfl) (by kernel_rfl) (by kernel_rfl) (fun _ _ _ h => h) (yi_free rfl (fun u => rfl)) hHeld rfl ?_; (try simp only [Act.put, qz1, qz2, qz3]))
  refine wpAnyH_done (by kernel_rfl) ?_ _
  go_wp2
  refine bodyPost_ret (v := .tuple #[.agg (icells (zr 16)), .agg (icells (zr 16)), .agg (icells (zr 6)), .bool false]) (res_four rfl _ rfl rfl rfl rfl arrHop arrHop arrAll HM (by exact memOf) (by exact memOf) (by exact memOf) LY LY LZ) rfl ⟨rfl, HM.out.1⟩
set_option maxHeartbeats 8000000 in
theorem rsteps_good (l : List Int) (w : World) (ll : l.length = 6) (hc : chkL l = true) :
    Calls Tryz.prog 45 #[.agg (icells l)] w (ValQ w (.tuple #[.agg (icells (stL l (shareL l 120))), .agg (icells (moL (shareL l 120))), .agg (icells (shareL l 120)), .bool true])) := by
  have LL := Lib.hid ll
  have LZ := Lib.hid (zr_length 6)
  have LY := Lib.hid (zr_length 16)
  have HM := Lib.hid (Mem.start w)
  have HC := Lib.hid (fun u => rshare_any' l 120 u ll)
  rw [show shareV l 120 = .tuple #[.agg (icells (shareL l 120)), .int .i64 0] by unfold shareV; rw [if_pos ⟨hc, by decide⟩]] at HC
  have hok := (share_ok l (B := 120) (by decide)).1
  obtain ⟨A, hA⟩ : ∃ A, shareL l 120 = A := ⟨_, rfl⟩
  rw [hA] at HC hok
  rw [hA]
  have LA := Lib.hid hok.1
  have HA := Lib.hid hok.2
  have HL := Lib.hid (fun k => inR_bd hc (by omega) (by omega) k)
  clear ll hc hA hok
  go_enter Tryz.func45, Tryz.ntmps45
  go_wp2_with (first | ((first | refine wl_box rfl _ _ rfl rfl HM ?_ | refine wl_alloc rfl _ rfl (by exact arrOf) HM ?_); first | (have q:dL HM = 0:=rfl;clear q HM;intro g1 u1 HM) | (have q:dL HM = 1:=rfl;clear q HM;intro g2 u2 HM) | (have q:dL HM = 2:=rfl;clear q HM;intro g3 u3 HM) | (have q:dL HM = 3:=rfl;clear q HM;intro g4 u4 HM) | (have q:dL HM = 4:=rfl;clear q HM;intro g5 u5 HM) | (have q:dL HM = 5:=rfl;clear q HM;intro g6 u6 HM) | (have q:dL HM = 6:=rfl;clear q HM;intro g7 u7 HM) | (have q:dL HM = 7:=rfl;clear q HM;intro g8 u8 HM)) | (refine wl_load rfl _ _ rfl rfl (by exact arrOf) HM (by exact memOf) (by exact lenOf) ?_) | (refine wl_storeM rfl _ _ _ rfl rfl rfl (by exact arrOf) HM (by exact idxOf) (by exact lenOf) (by exact lenOf) ?_; clear HM; intro us HM; dsimp only [List.set] at HM) | (refine wl_zero rfl _ rfl (by exact arrOf) (by kernel_rfl) ?_))
  refine (HC.out _).mono ?_
  rintro e w2 ⟨rfl, h1⟩
  have HM2 := Lib.hid (HM.out.below h1)
  clear h1 HM HC
  have HM := HM2
  clear HM2
  go_wp2_with (first | ((first | refine wl_box rfl _ _ rfl rfl HM ?_ | refine wl_alloc rfl _ rfl (by exact arrOf) HM ?_); first | (have q:dL HM = 0:=rfl;clear q HM;intro g1 u1 HM) | (have q:dL HM = 1:=rfl;clear q HM;intro g2 u2 HM) | (have q:dL HM = 2:=rfl;clear q HM;intro g3 u3 HM) | (have q:dL HM = 3:=rfl;clear q HM;intro g4 u4 HM) | (have q:dL HM = 4:=rfl;clear q HM;intro g5 u5 HM) | (have q:dL HM = 5:=rfl;clear q HM;intro g6 u6 HM) | (have q:dL HM = 6:=rfl;clear q HM;intro g7 u7 HM) | (have q:dL HM = 7:=rfl;clear q HM;intro g8 u8 HM)) | (refine wl_load rfl _ _ rfl rfl (by exact arrOf) HM (by exact memOf) (by exact lenOf) ?_) | (refine wl_storeM rfl _ _ _ rfl rfl rfl (by exact arrOf) HM (by exact idxOf) (by exact lenOf) (by exact lenOf) ?_; clear HM; intro us HM; dsimp only [List.set] at HM) | (refine wl_zero rfl _ rfl (by exact arrOf) (by kernel_rfl) ?_))
  go_loopw [23] (fun vi wr => ∃ k : Nat, k ≤ 16 ∧ vi = .int .i64 (k : Int) ∧ Hid (Mem w [(g7, 84, A), (g6, 24, tab 16 (part2 k (moF A) (fun _ => 0))), (g5, 24, tab 16 (part2 k (stF l A) (fun _ => 0))), (g4, 84, zr 6), (g3, 24, zr 16), (g2, 24, zr 16), (g1, 23, l)] wr)) (fun vi _ => 16 - (intOf vi).toNat)
  case atStart => exact ⟨0, by omega, rfl, Lib.hid (by rw [part2_none, part2_none, tab_zero]; exact HM.out)⟩
  case round =>
    clear HM
    obtain ⟨k, hk, rfl, HM⟩ := hrel
    by_cases hlt : k < 16
    · have k16 : (k : Int) < 16 := by omega
      have SM := Lib.hid (part2_set (n := 16) (k := k) (moF A) (fun _ => 0))
      have SS := Lib.hid (part2_set (n := 16) (k := k) (stF l A) (fun _ => 0))
      have KM := Lib.hid (fun h => part2_skip (n := 16) (k := k) (f := moF A) (g := fun _ => 0) h)
      have KS := Lib.hid (fun h => part2_skip (n := 16) (k := k) (f := stF l A) (g := fun _ => 0) h)
      have HO := Lib.hid (fun u => rof_good k u hlt)
      have hb6 := (bnd_all k hlt).1
      have HF := Lib.hid (moF_is A k)
      have HG := Lib.hid (stF_is l A k)
      obtain ⟨b, hb⟩ : ∃ b, bnd k = b := ⟨_, rfl⟩
      rw [hb] at HO hb6 HF HG
      clear hb
      have hl := HL.out b
      have ha := HA.out b hb6
      have c7 := HM.out.cell (.head _) (k := b) (by rw [LA.out]; exact hb6)
      have b6 : (b : Int) < 6 := by omega
      have H1 := Lib.hid (fun (u : World) (hu : Mem w [(g7, 84, A), (g1, 23, l)] u) => hu.cell (.tail _ (.head _)) (k := b) (by rw [LL.out]; exact hb6))
      have H2 := Lib.hid (fun (u : World) (hu : Mem w [(g7, 84, A), (g1, 23, l)] u) => hu.cell (.head _) (k := b) (by rw [LA.out]; exact hb6))
      obtain ⟨y, hy⟩ : ∃ y : Nat, l.getD b 0 = (y : Int) := ⟨(l.getD b 0).toNat, by omega⟩
      obtain ⟨z, hz⟩ : ∃ z : Nat, A.getD b 0 = (z : Int) := ⟨(A.getD b 0).toNat, by omega⟩
      rw [hy] at H1 hl
      rw [hz] at H2 ha c7
      have HZ := Lib.hid hz
      have hy2 : y < 256 := by omega
      have hz2 : z ≤ 7 := by omega
      clear hl ha
      by_cases hpos : 1 ≤ z
      · have hz0 : 0 < (z : Int) := by omega
        have HP := Lib.hid (fun u => rstep_good y z u hy2 hpos hz2)
        have HQ := Lib.hid (fun u => rmost_any (z : Int) u)
        rw [show mostV (z : Int) = mostN z by unfold mostV; congr 1; omega] at HQ
        rw [hz, if_pos hz0] at HF
        rw [hy, hz, if_pos hz0] at HG
        rw [show ((z : Int)).toNat = z from rfl] at HF
        rw [show ((z : Int)).toNat = z from rfl, show ((y : Int)).toNat = y from rfl] at HG
        rw [HF.out] at SM
        rw [HG.out] at SS
        clear HF HG KM KS hy2 hz2 hpos hy hz
        generalize stepN y z = s at HP SS
        generalize mostN z = m at HQ SM
        go_wp2_with fail
        refine (HO.out _).mono ?_
        rintro e wb ⟨rfl, rfl⟩
        go_wp2_with fail
        clear c7
        refine wp_region_held_drew (S := Mem w [(g7, 84, A), (g1, 23, l)]) (by kernel_rfl) (HM.out.drew.sub (by exact subOf)) (fun hHeld => ?_)
        have HM2 := Lib.hid HM.out.drew
        clear HM
        have HM := HM2
        clear HM2
        generalize World.drew _ = wd at HM hHeld ⊢
        (refine wa_take (i := 0) rfl (by kernel_rfl) (by kernel_rfl) (by kernel_rfl) (fun _ _ _ h => h) (yi_free rfl (fun u => rfl)) hHeld rfl ?_; (try simp only [Act.put, qz1, qz2, qz3]))
        (refine wa_take (i := 1) rfl (by kernel_rfl) (by kernel_rfl) (by kernel_rfl) (fun _ _ _ h => h) (yi_free rfl (fun u => rfl)) hHeld rfl ?_; (try simp only [Act.put, qz1, qz2, qz3]))
        (refine wa_take (i := 2) (v := .pointer (some ⟨g1, b, none⟩)) rfl (by kernel_rfl) (by kernel_rfl) (by kernel_rfl) (fun _ _ _ h => h) (yi_free rfl (fun u => by go_simp)) hHeld rfl ?_; (try simp only [Act.put, qz1, qz2, qz3]))
        (refine wa_take (i := 3) rfl (by kernel_rfl) (by kernel_rfl) (by kernel_rfl) (fun _ _ _ h => h) (yi_cell rfl _ rfl rfl (H1).out) hHeld rfl ?_; (try simp only [Act.put, qz1, qz2, qz3]))
        (refine wa_take (i := 4) rfl (by kernel_rfl) (by kernel_rfl) (by kernel_rfl) (fun _ _ _ h => h) (yi_free rfl (fun u => rfl)) hHeld rfl ?_; (try simp only [Act.put, qz1, qz2, qz3]))
        (refine wa_take (i := 5) (v := .pointer (some ⟨g7, b, none⟩)) rfl (by kernel_rfl) (by kernel_rfl) (by kernel_rfl) (fun _ _ _ h => h) (yi_free rfl (fun u => by go_simp)) hHeld rfl ?_; (try simp only [Act.put, qz1, qz2, qz3]))
        (refine wa_take (i := 6) rfl (by kernel_rfl) (by kernel_rfl) (by kernel_rfl) (fun _ _ _ h => h) (yi_cell rfl _ rfl rfl (H2).out) hHeld rfl ?_; (try simp only [Act.put, qz1, qz2, qz3]))
        refine wpAnyH_ready (rs := [7]) (by kernel_rfl) (by simp) ?_; refine AllReadyH.cons rfl (fun K hK => ?_) (AllReadyH.nil)
        rw [if_pos (by rfl)]; go_simp
        refine (HP.out _).mono ?_
        rintro e wb ⟨rfl, rfl⟩
        clear hHeld
        go_wp2_with fail; refine hK.out _ _ (HM.out.sub (by exact subOf)) (fun hHeld => ?_); clear hK K; (try simp only [Act.put, qz1, qz2, qz3])
        (refine wa_take (i := 8) rfl (by kernel_rfl) (by kernel_rfl) (by kernel_rfl) (fun _ _ _ h => h) (yi_free rfl (fun u => rfl)) hHeld rfl ?_; (try simp only [Act.put, qz1, qz2, qz3]))
        (refine wa_take (i := 9) rfl (by kernel_rfl) (by kernel_rfl) (by kernel_rfl) (fun _ _ _ h => h) (yi_free rfl (fun u => rfl)) hHeld rfl ?_; (try simp only [Act.put, qz1, qz2, qz3]))
        (refine wa_take (i := 10) rfl (by kernel_rfl) (by kernel_rfl) (by kernel_rfl) (fun _ _ _ h => h) (yi_free rfl (fun u => rfl)) hHeld rfl ?_; (try simp only [Act.put, qz1, qz2, qz3]))
        (refine wa_take (i := 11) (v := .pointer (some ⟨g5, k, none⟩)) rfl (by kernel_rfl) (by kernel_rfl) (by kernel_rfl) (fun _ _ _ h => h) (yi_free rfl (fun u => by go_simp)) hHeld rfl ?_; (try simp only [Act.put, qz1, qz2, qz3]))
        have c1 := HM.out.cell (.tail _ (.tail _ (.head _))) (k := k) (by rw [tab_length]; exact hlt)
        have f1 := HM.out.free (.tail _ (.tail _ (.head _))) k
        generalize List.getD (tab 16 (part2 k (stF l A) _)) k 0 = o at c1
        refine wpAnyH_ready (rs := [12]) (by kernel_rfl) (by simp) ?_; refine AllReadyH.cons rfl (fun K hK => ?_) (AllReadyH.nil)
        rw [if_pos (by rfl)]; go_simp
        have HM3 := Lib.hid (HM.out.put 2 rfl k s)
        simp only [List.set_cons_zero, List.set_cons_succ] at HM3
        rw [SS.out] at HM3
        clear HM c1 f1 hHeld
        have HM := HM3
        clear HM3
        go_wp2_with fail; refine hK.out _ _ (HM.out.sub (by exact subOf)) (fun hHeld => ?_); clear hK K; (try simp only [Act.put, qz1, qz2, qz3])
        refine wpAnyH_done (by kernel_rfl) ?_ _
        clear H1 H2
        have c7 := HM.out.cell (.head _) (k := b) (by rw [LA.out]; exact hb6)
        rw [HZ.out] at c7
        go_wp2_with fail
        refine (HQ.out _).mono ?_
        rintro e wb ⟨rfl, rfl⟩
        have c1 := HM.out.cell (.tail _ (.head _)) (k := k) (by rw [tab_length]; exact hlt)
        have f1 := HM.out.free (.tail _ (.head _)) k
        generalize List.getD (tab 16 (part2 k (moF A) _)) k 0 = o at c1
        go_wp2_with fail
        have HM3 := Lib.hid (HM.out.put 1 rfl k m)
        simp only [List.set_cons_zero, List.set_cons_succ] at HM3
        rw [SM.out] at HM3
        clear HM c1 f1 c7
        go_roundw
        case rel => exact ⟨k + 1, by omega, by go_num, HM3⟩
        case measure => simp [intOf]; omega
      · obtain rfl : z = 0 := by omega
        rw [hz, if_neg (by omega)] at HF
        rw [hz, if_neg (by omega)] at HG
        rw [KM.out HF.out, KS.out HG.out] at HM
        clear HF HG KM KS SM SS hpos hy hz H1 H2
        go_wp2_with fail
        refine (HO.out _).mono ?_
        rintro e wb ⟨rfl, rfl⟩
        go_wp2_with fail
        clear c7
        go_roundw
        case rel => exact ⟨k + 1, by omega, by go_num, HM⟩
        case measure => simp [intOf]; omega
    · obtain rfl : k = 16 := by omega
      rw [part2_all, part2_all] at HM
      have L1 := Lib.hid (tab_length 16 (stF l A))
      have L2 := Lib.hid (tab_length 16 (moF A))
      go_wp2_with (first | ((first | refine wl_box rfl _ _ rfl rfl HM ?_ | refine wl_alloc rfl _ rfl (by exact arrOf) HM ?_); first | (have q:dL HM = 0:=rfl;clear q HM;intro g1 u1 HM) | (have q:dL HM = 1:=rfl;clear q HM;intro g2 u2 HM) | (have q:dL HM = 2:=rfl;clear q HM;intro g3 u3 HM) | (have q:dL HM = 3:=rfl;clear q HM;intro g4 u4 HM) | (have q:dL HM = 4:=rfl;clear q HM;intro g5 u5 HM) | (have q:dL HM = 5:=rfl;clear q HM;intro g6 u6 HM) | (have q:dL HM = 6:=rfl;clear q HM;intro g7 u7 HM) | (have q:dL HM = 7:=rfl;clear q HM;intro g8 u8 HM)) | (refine wl_load rfl _ _ rfl rfl (by exact arrOf) HM (by exact memOf) (by exact lenOf) ?_) | (refine wl_storeM rfl _ _ _ rfl rfl rfl (by exact arrOf) HM (by exact idxOf) (by exact lenOf) (by exact lenOf) ?_; clear HM; intro us HM; dsimp only [List.set] at HM) | (refine wl_zero rfl _ rfl (by exact arrOf) (by kernel_rfl) ?_))
      refine wp_region_held_drew (S := Mem w [(g7, 84, A), (g6, 24, tab 16 (moF A)), (g5, 24, tab 16 (stF l A))]) (by kernel_rfl) (HM.out.drew.sub (by exact subOf)) (fun hHeld => ?_)
      have HM2 := Lib.hid HM.out.drew
      clear HM
      have HM := HM2
      clear HM2
      (refine wa_take (i := 0) rfl (by kernel_rfl) (by kernel_rfl) (by kernel_rfl) (fun _ _ _ h => h) (yi_load rfl _ _ rfl rfl (by exact arrOf) (fun u hu => hu) (by exact memOf) (by exact lenOf)) hHeld rfl ?_; (try simp only [Act.put, qz1, qz2, qz3]))
      (refine wa_take (i := 1) rfl (by kernel_rfl) (by kernel_rfl) (by kernel_rfl) (fun _ _ _ h => h) (yi_load rfl _ _ rfl rfl (by exact arrOf) (fun u hu => hu) (by exact memOf) (by exact lenOf)) hHeld rfl ?_; (try simp only [Act.put, qz1, qz2, qz3]))
      (refine wa_take (i := 2) rfl (by kernel_rfl) (by kernel_rfl) (by kernel_rfl) (fun _ _ _ h => h) (yi_load rfl _ _ rfl rfl (by exact arrOf) (fun u hu => hu) (by exact memOf) (by exact lenOf)) hHeld rfl ?_; (try simp only [Act.put, qz1, qz2, qz3]))
      (refine wpAnyH_ready (rs := [3]) (by kernel_rfl) (by simp) ?_; refine AllReadyH.cons rfl (fun K hK => ?_) AllReadyH.nil; rw [if_pos (by rfl)]; refine ow_store _ _ _ rfl rfl rfl (by exact arrOf) HM 5 rfl (by exact lenOf) (by exact lenOf) rfl ?_; clear HM; intro us HM; simp only [List.set_cons_zero, List.set_cons_succ] at HM; refine hK.out _ _ (HM.out.sub (by exact subOf)) (fun hHeld => ?_); clear hK K; (try simp only [Act.put]))
      (refine wpAnyH_ready (rs := [4]) (by kernel_rfl) (by simp) ?_; refine AllReadyH.cons rfl (fun K hK => ?_) AllReadyH.nil; rw [if_pos (by rfl)]; refine ow_store _ _ _ rfl rfl rfl (by exact arrOf) HM 4 rfl (by exact lenOf) (by exact lenOf) rfl ?_; clear HM; intro us HM; simp only [List.set_cons_zero, List.set_cons_succ] at HM; refine hK.out _ _ (HM.out.sub (by exact subOf)) (fun hHeld => ?_); clear hK K; (try simp only [Act.put]))
      (refine wpAnyH_ready (rs := [5]) (by kernel_rfl) (by simp) ?_; refine AllReadyH.cons rfl (fun K hK => ?_) AllReadyH.nil; rw [if_pos (by rfl)]; refine ow_store _ _ _ rfl rfl rfl (by exact arrOf) HM 3 rfl (by exact lenOf) (by exact lenOf) rfl ?_; clear HM; intro us HM; simp only [List.set_cons_zero, List.set_cons_succ] at HM; refine hK.out _ _ (HM.out.sub (by exact subOf)) (fun hHeld => ?_); clear hK K; (try simp only [Act.put]))
      (refine wa_take (i := 6) rfl (by kernel_rfl) (by kernel_rfl) (by kernel_rfl) (fun _ _ _ h => h) (yi_free rfl (fun u => rfl)) hHeld rfl ?_; (try simp only [Act.put, qz1, qz2, qz3]))
      refine wpAnyH_done (by kernel_rfl) ?_ _
      go_wp2
      refine bodyPost_ret (v := .tuple #[.agg (icells (stL l A)), .agg (icells (moL A)), .agg (icells A), .bool true]) (res_four rfl _ rfl rfl rfl rfl arrHop arrHop arrAll HM (by exact memOf) (by exact memOf) (by exact memOf) L1 L2 LA) rfl ⟨rfl, HM.out.1⟩
theorem rsteps_any (l : List Int) (w : World) (ll : l.length = 6) : Calls Tryz.prog 45 #[.agg (icells l)] w (ValQ w (stepsV l)) := by
  unfold stepsV ssL msL asL
  cases h : chkL l with
  | true => rw [if_pos rfl, if_pos rfl, if_pos rfl]; exact rsteps_good l w ll h
  | false => rw [if_neg Bool.false_ne_true, if_neg Bool.false_ne_true, if_neg Bool.false_ne_true]; exact rsteps_bad l w ll h
theorem ssL_length (l : List Int) : (ssL l).length = 16 := by unfold ssL; split; exact tab_length _ _; exact zr_length _
theorem msL_length (l : List Int) : (msL l).length = 16 := by unfold msL; split; exact tab_length _ _; exact zr_length _
theorem asL_length (l : List Int) : (asL l).length = 6 := by unfold asL; split; exact (share_ok l (B := 120) (by decide)).1.1; exact zr_length _
theorem msL_bd (l : List Int) {k : Nat} (hk : k < 16) : 0 ≤ (msL l).getD k 0 ∧ (msL l).getD k 0 ≤ 127 := by
  unfold msL
  split
  · unfold moL
    rw [tab_getD _ hk]
    unfold moF
    have h := (share_ok l (B := 120) (by decide)).1.2 (bnd k) (bnd_all k hk).1
    split
    · have := mostN_bd ((shareL l 120).getD (bnd k) 0).toNat (by omega)
      omega
    · omega
  · rw [zr_getD]; omega
end Go.Proofs.YtgpdgegelipboaaGreatDoor.Lp
namespace Go.Proofs.YtgpdgegelipboaaGreatDoor.Lp
open Go.RowKit Fx Fq Tb
def mayN (q m : List Int) : Nat → Bool
  | 0 => true
  | k + 1 => mayN q m k && (decide (-(m.getD k 0) ≤ q.getD k 0) && decide (q.getD k 0 ≤ m.getD k 0))
theorem mayN_succ (q m : List Int) (k : Nat) : mayN q m (k + 1) = (mayN q m k && (decide (-(m.getD k 0) ≤ q.getD k 0) && decide (q.getD k 0 ≤ m.getD k 0))) := rfl
def mayB (q l : List Int) : Bool := chkL l && mayN q (msL l) 16
theorem mayN_at {q m : List Int} : ∀ n k, k < n → mayN q m n = true → -(m.getD k 0) ≤ q.getD k 0 ∧ q.getD k 0 ≤ m.getD k 0
  | n + 1, k, hk, h => by
    rw [mayN_succ, Bool.and_eq_true, Bool.and_eq_true, decide_eq_true_eq, decide_eq_true_eq] at h
    by_cases e : k = n
    · subst e; exact h.2
    · exact mayN_at n k (by omega) h.1
set_option maxHeartbeats 8000000 in
theorem rmay_any (q l : List Int) (w : World) (lq : q.length = 16) (ll : l.length = 6) :
    Calls Tryz.prog 27 #[.agg (icells q), .agg (icells l)] w (ValQ w (.bool (mayB q l))) := by
  have LQ := Lib.hid lq
  have LL := Lib.hid ll
  have L1 := Lib.hid (ssL_length l)
  have L2 := Lib.hid (msL_length l)
  have L3 := Lib.hid (asL_length l)
  have LZ := Lib.hid (zr_length 6)
  have LY := Lib.hid (zr_length 16)
  have HM := Lib.hid (Mem.start w)
  have HC := Lib.hid (fun u => rsteps_any l u ll)
  have HB := Lib.hid (fun (k : Nat) (hk : k < 16) => msL_bd l hk)
  have HV := Lib.hid (show mayB q l = (chkL l && mayN q (msL l) 16) from rfl)
  unfold stepsV at HC
  generalize mayB q l = V at HV
  generalize ssL l = S at HC L1
  generalize msL l = M at HC L2 HB HV
  generalize asL l = A at HC L3
  generalize chkL l = c at HC HV
  clear lq ll
  go_enter Tryz.func27, Tryz.ntmps27
  go_wp2_with (first | ((first | refine wl_box rfl _ _ rfl rfl HM ?_ | refine wl_alloc rfl _ rfl (by exact arrOf) HM ?_); first | (have q:dL HM = 0:=rfl;clear q HM;intro g1 u1 HM) | (have q:dL HM = 1:=rfl;clear q HM;intro g2 u2 HM) | (have q:dL HM = 2:=rfl;clear q HM;intro g3 u3 HM) | (have q:dL HM = 3:=rfl;clear q HM;intro g4 u4 HM) | (have q:dL HM = 4:=rfl;clear q HM;intro g5 u5 HM) | (have q:dL HM = 5:=rfl;clear q HM;intro g6 u6 HM)) | (refine wl_load rfl _ _ rfl rfl (by exact arrOf) HM (by exact memOf) (by exact lenOf) ?_) | (refine wl_storeM rfl _ _ _ rfl rfl rfl (by exact arrOf) HM (by exact idxOf) (by exact lenOf) (by exact lenOf) ?_; clear HM; intro us HM; dsimp only [List.set] at HM) | (refine wl_zero rfl _ rfl (by exact arrOf) (by kernel_rfl) ?_))
  refine (HC.out _).mono ?_
  rintro e w2 ⟨rfl, h1⟩
  have HM2 := Lib.hid (HM.out.below h1)
  clear h1 HM HC
  have HM := HM2
  clear HM2
  go_wp2_with (first | ((first | refine wl_box rfl _ _ rfl rfl HM ?_ | refine wl_alloc rfl _ rfl (by exact arrOf) HM ?_); first | (have q:dL HM = 0:=rfl;clear q HM;intro g1 u1 HM) | (have q:dL HM = 1:=rfl;clear q HM;intro g2 u2 HM) | (have q:dL HM = 2:=rfl;clear q HM;intro g3 u3 HM) | (have q:dL HM = 3:=rfl;clear q HM;intro g4 u4 HM) | (have q:dL HM = 4:=rfl;clear q HM;intro g5 u5 HM) | (have q:dL HM = 5:=rfl;clear q HM;intro g6 u6 HM)) | (refine wl_load rfl _ _ rfl rfl (by exact arrOf) HM (by exact memOf) (by exact lenOf) ?_) | (refine wl_storeM rfl _ _ _ rfl rfl rfl (by exact arrOf) HM (by exact idxOf) (by exact lenOf) (by exact lenOf) ?_; clear HM; intro us HM; dsimp only [List.set] at HM) | (refine wl_zero rfl _ rfl (by exact arrOf) (by kernel_rfl) ?_))
  go_loopw [8, 17] (fun vb vi wr => ∃ k : Nat, k ≤ 16 ∧ vi = .int .i64 (k : Int) ∧ vb = .bool (c && mayN q M k) ∧ Hid (Mem w [(g5, 84, A), (g4, 24, M), (g3, 24, S), (g2, 23, l), (g1, 24, q)] wr)) (fun _ vi _ => 16 - (intOf vi).toNat)
  case atStart => exact ⟨0, by omega, rfl, by rw [show mayN q M 0 = true from rfl, Bool.and_true], HM⟩
  case round =>
    clear HM
    obtain ⟨k, hk, rfl, rfl, HM⟩ := hrel
    by_cases hlt : k < 16
    · have k16 : (k : Int) < 16 := by omega
      have HS := Lib.hid (mayN_succ q M k)
      have hm := HB.out k hlt
      have c1 := HM.out.cell (.tail _ (.tail _ (.tail _ (.tail _ (.head _))))) (k := k) (by rw [LQ.out]; exact hlt)
      have c2 := HM.out.cell (.tail _ (.head _)) (k := k) (by rw [L2.out]; exact hlt)
      generalize q.getD k 0 = x at c1 HS
      generalize M.getD k 0 = m at c2 HS hm
      obtain ⟨B, hB⟩ : ∃ B, (c && mayN q M k) = B := ⟨_, rfl⟩
      have HR := Lib.hid (show (c && mayN q M (k + 1)) = (B && (decide (-m ≤ x) && decide (x ≤ m))) by rw [HS.out, ← hB, Bool.and_assoc])
      rw [hB]
      clear hB HS
      obtain ⟨m1, m2⟩ := hm
      cases B with
      | false =>
        go_wp2
        go_quiet (fail)
        go_wp2
        go_roundw
        case rel => exact ⟨k + 1, by omega, by go_num, by rw [HR.out]; rfl, Lib.hid (HM.out.drewN nq)⟩
        case measure => simp [intOf]; omega
      | true =>
        by_cases h1 : -m ≤ x
        · have d1 : decide (-m ≤ x) = true := decide_eq_true h1
          by_cases h2 : x ≤ m
          · have d2 : decide (x ≤ m) = true := decide_eq_true h2
            rw [d1, d2] at HR
            go_wp2
            go_quiet (fail)
            go_wp2
            go_roundw
            case rel => exact ⟨k + 1, by omega, by go_num, by rw [HR.out]; rfl, Lib.hid (HM.out.drewN nq)⟩
            case measure => simp [intOf]; omega
          · have d2 : decide (x ≤ m) = false := decide_eq_false h2
            rw [d1, d2] at HR
            go_wp2
            go_quiet (fail)
            go_wp2
            go_roundw
            case rel => exact ⟨k + 1, by omega, by go_num, by rw [HR.out]; rfl, Lib.hid (HM.out.drewN nq)⟩
            case measure => simp [intOf]; omega
        · have d1 : decide (-m ≤ x) = false := decide_eq_false h1
          rw [d1] at HR
          go_wp2
          go_quiet (fail)
          go_wp2
          go_roundw
          case rel => exact ⟨k + 1, by omega, by go_num, by rw [HR.out]; rfl, Lib.hid (HM.out.drewN nq)⟩
          case measure => simp [intOf]; omega
    · obtain rfl : k = 16 := by omega
      rw [← HV.out]
      go_wp2
      go_ret
      exact ⟨rfl, HM.out.1⟩
end Go.Proofs.YtgpdgegelipboaaGreatDoor.Lp
namespace Go.Proofs.YtgpdgegelipboaaGreatDoor.Lp
open Go.RowKit Fx Fq Tb
end Go.Proofs.YtgpdgegelipboaaGreatDoor.Lp
namespace Go.Proofs.YtgpdgegelipboaaGreatDoor.Lp
open Go.RowKit Fx Fq Tb
end Go.Proofs.YtgpdgegelipboaaGreatDoor.Lp
