/-
  Own texts, laid together: Gl.
-/
import Derived.Test.YtgelgbfnioagbaaGk
/- Gl -/
namespace Go.Proofs.Ytgelgbfnioagbaa.Cd
open Go.RowKit
theorem grown_trans {a b c : World} {row : Option Nat} (h1 : a.grownBy b row) (h2 : b.grownBy c row) : a.grownBy c row :=
  ⟨h2.os.trans h1.os, h2.tape.trans h1.tape, h2.output.trans h1.output, Nat.le_trans h1.size h2.size, fun i hi hne => (h2.block i (Nat.lt_of_lt_of_le hi h1.size) hne).trans (h1.block i hi hne)⟩
theorem isB_only {w w' : World} {row : Nat} {A : Option Addr} {n c : Nat} {N : Int} {l : List Bool} (h : IsB w (.agg #[.slice A n c, .int .i64 N]) l) (hb : w.grownBy w' (some row)) (hA : ∀ ad, A = some ad → 0 < n → ad.block ≠ row) : IsB w' (.agg #[.slice A n c, .int .i64 N]) l := by
  obtain ⟨e1, e2, e3, e4⟩ := isB_parts h
  subst e1 e2
  exact ⟨A, c, rfl, e3.only hb hA, e4⟩
theorem bit_num (l : List Bool) (i : Nat) (h : i < l.length) : num ((l.drop i).take 1) = (bitF l i).toNat := by
  have := num_take_succ l i 0 (by omega)
  rw [this]
  simp [num_nil]
theorem get1_any (v : Value) (l : List Bool) (i t : Nat) (w : World) (h : IsB w v l) (ht : t = (bitF l i).toNat) :
    Calls Try.prog 75 #[v, .int .i64 (i : Int), .int .i64 1] w fun e w' => (∃ er, e = .returned (.tuple #[.int .u64 (t : Int), .int .i64 er])) ∧ Below w.heap.size w w' := by
  by_cases hi : i < l.length
  · exact (get_n v l (i : Int) 1 i 1 t w h rfl rfl (by omega) (by omega) (by rw [ht, bit_num l i hi])).mono fun e w' ⟨h1, h2⟩ => ⟨⟨0, h1⟩, h2⟩
  · have ht0 : t = 0 := by rw [ht, bitF_of_ge (by omega)]; rfl
    exact (get_short v l (i : Int) 1 w h (by omega) (by omega) (by omega) (by omega)).mono fun e w' ⟨h1, h2⟩ => ⟨⟨20, by rw [ht0]; exact h1⟩, h2⟩
set_option maxRecDepth 100000 in
set_option maxHeartbeats 1000000 in
theorem bit_any (p : Nat) (d : De) (A : Option Addr) (n c : Nat) (N : Int) (l : List Bool) (t : Nat) (w : World) (hs : Hid (RdS w p d A n c N)) (h : Hid (IsB w (.agg #[.slice A n c, .int .i64 N]) l)) (ht : Hid (t = (bitF l d.at_).toNat)) (ht2 : t < 2) :
    Calls Try.prog 84 #[.pointer (some ⟨p, 0, none⟩)] w fun e w' => e = .returned (.int .u32 (t : Int)) ∧ Below w.heap.size w w' := by
  obtain ⟨-, -, -, c3, c4, c5⟩ := hs.out.six
  have q1 : IntKind.u32.wrap (t : Int) = (t : Int) := IntWalk.u32_in _ (by omega)
  have HQ1 := Lib.hid q1
  clear q1
  have HD := Lib.hid (show IsB w.drew (.agg #[.slice A n c, .int .i64 N]) l from h.out)
  go_enter Try.func84, Try.ntmps84
  go_wp2_with fail
  go_region_with (go_at_call 75; refine (get1_any _ l d.at_ t w.drew HD.out ht.out).mono ?_; rintro e w2 ⟨⟨er, rfl⟩, hb2⟩)
  all_goals
    have HB2 := Lib.hid (show Below w.heap.size w w2 from ⟨hb2.os, hb2.tape, hb2.output, hb2.size, hb2.block⟩)
    clear hb2 c3 c4 c5
    have q1 := HQ1.out
    go_wp2
    go_ret
    exact ⟨rfl, HB2.out⟩
/-- a reader, while the interval is widened: so many steps are left -/
def WidS (w0 : World) (p : Nat) (A : Option Addr) (n c : Nat) (N : Int) (l : List Bool) (fin : De) (m : Nat) (wr : World) : Prop :=
  ∃ d : De, RdS wr p d A n c N ∧ widD m l d = fin ∧ Ok d.low d.high ∧ d.low ≤ d.code ∧ d.code ≤ d.high ∧ 4294967296 < (d.high - d.low + 1) * 2 ^ (m + 1) ∧ d.at_ + m ≤ 1000000 ∧ w0.grownBy wr (some p)
theorem stepD_facts {l : List Bool} {d : De} (hok : Ok d.low d.high) (hk : kind d.low d.high ≠ 3) (h1 : d.low ≤ d.code) (h2 : d.code ≤ d.high) : takeK (kind d.low d.high) ≤ d.low ∧ (stepD l d).low ≤ (stepD l d).code ∧ (stepD l d).code ≤ (stepD l d).high ∧ (stepD l d).high < 4294967296 ∧ (stepD l d).high - (stepD l d).low + 1 = 2 * (d.high - d.low + 1) ∧ (stepD l d).low ≤ (stepD l d).high := by
  have hb := toNat_le (bitF l d.at_)
  have hlow := stepE_low (e := ⟨d.low, d.high, 0, []⟩) hok hk
  obtain ⟨a1, a2, a3, a4⟩ := hlow
  dsimp only at a1 a2 a3 a4
  have ht : takeK (kind d.low d.high) ≤ d.low := by omega
  have e1 : (stepD l d).low = 2 * (d.low - takeK (kind d.low d.high)) := rfl
  have e2 : (stepD l d).high = 2 * (d.high - takeK (kind d.low d.high)) + 1 := rfl
  have e3 : (stepD l d).code = 2 * (d.code - takeK (kind d.low d.high)) + (bitF l d.at_).toNat := rfl
  have := hok.1
  refine ⟨ht, ?_, ?_, ?_, ?_, ?_⟩ <;> omega
theorem widS_zero {d : De} (hok : Ok d.low d.high) (h : 4294967296 < (d.high - d.low + 1) * 2 ^ (0 + 1)) : kind d.low d.high = 3 := widR_zero (e := ⟨d.low, d.high, 0, []⟩) hok h
theorem WidS.step {w0 wr : World} {p m : Nat} {A : Option Addr} {n c : Nat} {N : Int} {l : List Bool} {fin d : De} (hok : Ok d.low d.high) (hk : kind d.low d.high ≠ 3) (hf : widD (m + 1) l d = fin) (h1 : d.low ≤ d.code) (h2 : d.code ≤ d.high) (hw : 4294967296 < (d.high - d.low + 1) * 2 ^ (m + 1 + 1)) (ha : d.at_ + (m + 1) ≤ 1000000) (hs : RdS wr p (stepD l d) A n c N) (hg : w0.grownBy wr (some p)) : WidS w0 p A n c N l fin m wr := by
  obtain ⟨_, b1, b2, b3, b4, b5⟩ := stepD_facts (l := l) hok hk h1 h2
  refine ⟨stepD l d, hs, ?_, ⟨b5, b3⟩, b1, b2, ?_, ?_, hg⟩
  · unfold widD at hf; rwa [if_neg hk] at hf
  · rw [b4]
    rw [Nat.pow_succ 2 (m + 1)] at hw
    rw [Nat.mul_comm 2 (d.high - d.low + 1), Nat.mul_assoc, Nat.mul_comm 2]
    exact hw
  · show d.at_ + 1 + m ≤ 1000000; omega
theorem excess_t (low high k t : Nat) (w : World) (hk : kind low high = k) (ht : takeK k = t) (h3 : k ≠ 3) :
    Calls Try.prog 65 #[.agg #[.int .u32 (low : Int), .int .u32 (high : Int)]] w fun e w' => e = .returned (.tuple #[.int .u32 (t : Int), .bool true]) ∧ Below w.heap.size w w' := by
  have := excess_any low high k w hk
  unfold excT at this
  rw [ht, decide_eq_true h3] at this
  exact this
/-- one step of the reader's, as it is stored -/
theorem rdS_step {w : World} {p : Nat} {d : De} {A : Option Addr} {n c : Nat} {N : Int} (h : RdS w p d A n c N) (lo hi co at' : Nat) :
    RdS (((((w.setCell ⟨p, 0, none⟩ (.int .u32 (lo : Int))).setCell ⟨p, 1, none⟩ (.int .u32 (hi : Int)))).setCell ⟨p, 2, none⟩ (.int .u32 (co : Int))).setCell ⟨p, 5, none⟩ (.int .i64 (at' : Int))) p ⟨lo, hi, co, at'⟩ A n c N := by
  unfold RdS at h ⊢
  have := (((h.set_ 0 (.int .u32 (lo : Int))).set_ 1 (.int .u32 (hi : Int))).set_ 2 (.int .u32 (co : Int))).set_ 5 (.int .i64 (at' : Int))
  exact this
end Go.Proofs.Ytgelgbfnioagbaa.Cd
