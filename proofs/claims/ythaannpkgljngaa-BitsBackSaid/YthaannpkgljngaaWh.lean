/-
  Codes are read as what they were; the chapter's examples hold.
-/
import Derived.Test.YthaannpkgljngaaWg
namespace Go.Proofs.Ythaannpkgljngaa
open Go.RowKit

theorem bitLen_lt (v : Nat) (hv : v < 2 ^ 64) : v < 2 ^ Lib.bitLen v := (bitLen_le_iff v _ hv (Lib.bitLen_le v 64 (by omega) hv)).1 (Nat.le_refl _)
theorem bitLen_ge (v : Nat) (hv : v < 2 ^ 64) (h0 : 0 < v) : 2 ^ (Lib.bitLen v - 1) ≤ v := by
  have hp := bitLen_pos v h0
  rcases Nat.lt_or_ge v (2 ^ (Lib.bitLen v - 1)) with h | h
  · have h64 := Lib.bitLen_le v 64 (by omega) hv
    have := (bitLen_le_iff v (Lib.bitLen v - 1) hv (by omega)).2 h
    omega
  · exact h
theorem bitLen_top (v : Nat) (hv : v < 2 ^ 64) (h0 : 0 < v) : v.testBit (Lib.bitLen v - 1) = true := by
  have h1 := bitLen_ge v hv h0
  have h2 := bitLen_lt v hv
  have hp := bitLen_pos v h0
  have e : Lib.bitLen v - 1 + 1 = Lib.bitLen v := by omega
  rw [← e, Nat.pow_succ] at h2
  rw [Nat.testBit_eq_decide_div_mod_eq]
  have : v / 2 ^ (Lib.bitLen v - 1) = 1 := by
    have hpos : 0 < 2 ^ (Lib.bitLen v - 1) := Nat.pow_pos (by omega)
    exact Nat.div_eq_of_lt_le (by omega) (by omega)
  rw [this]
  decide
theorem codeOf_length (v : Nat) : (codeOf v).length = Lib.bitLen (v + 1) - 1 + Lib.bitLen (v + 1) := by
  unfold codeOf
  rw [List.length_append, bitsOf_length, bitsOf_length]
theorem codeOf_len_le (v : Nat) (hv : v < 2 ^ 32) : (codeOf v).length ≤ 65 ∧ 1 ≤ (codeOf v).length := by
  have h1 := bitLen_pos (v + 1) (by omega)
  have h2 := Lib.bitLen_le (v + 1) 33 (by omega) (by omega)
  rw [codeOf_length]
  omega
theorem codeOf_low (v i : Nat) (hi : i < Lib.bitLen (v + 1) - 1) : bitF (codeOf v) i = false := by
  unfold codeOf
  rw [bitF_append, bitsOf_length, if_pos hi, bitF_bitsOf]
  simp
theorem codeOf_top (v : Nat) (hv : v < 2 ^ 32) : bitF (codeOf v) (Lib.bitLen (v + 1) - 1) = true := by
  unfold codeOf
  have h1 := bitLen_pos (v + 1) (by omega)
  rw [bitF_append, bitsOf_length, if_neg (by omega), bitF_bitsOf, Nat.sub_self]
  have h := bitLen_top (v + 1) (by omega) (by omega)
  simp only [Nat.sub_zero, h, Bool.and_true]
  exact decide_eq_true (by omega)
/-- how many zeros a code has ahead, whatever stands behind -/
theorem zr_code (v : Nat) (t : List Bool) (hv : v < 2 ^ 32) : zr (codeOf v ++ t) = Lib.bitLen (v + 1) - 1 := by
  have h1 := bitLen_pos (v + 1) (by omega)
  have h2 := Lib.bitLen_le (v + 1) 33 (by omega) (by omega)
  have hl := codeOf_length v
  refine zr_of _ _ (by omega) (fun j hj => ?_) (fun _ => ?_)
  · rw [List.length_append, bitF_append, if_pos (by omega)]
    exact ⟨by omega, codeOf_low v j hj⟩
  · rw [bitF_append, if_pos (by omega)]
    exact codeOf_top v hv
theorem gc_code (p t : List Bool) (v : Nat) (hv : v < 2 ^ 32) : gc (p ++ (codeOf v ++ t)) p.length = (v, p.length + (codeOf v).length, 0) := by
  have h1 := bitLen_pos (v + 1) (by omega)
  have h2 := Lib.bitLen_le (v + 1) 33 (by omega) (by omega)
  have hl := codeOf_length v
  have hd : (p ++ (codeOf v ++ t)).drop p.length = codeOf v ++ t := by simp
  have hz := zr_code v t hv
  have hn : ((p ++ (codeOf v ++ t)).drop (p.length + (Lib.bitLen (v + 1) - 1))).take (Lib.bitLen (v + 1) - 1 + 1) = bitsOf (Lib.bitLen (v + 1)) (v + 1) := by
    rw [← List.drop_drop, hd]
    unfold codeOf
    rw [List.append_assoc, List.drop_append_of_le_length (by rw [bitsOf_length]; omega), List.drop_of_length_le (by rw [bitsOf_length]; omega), List.nil_append, List.take_append_of_le_length (by rw [bitsOf_length]; omega), List.take_of_length_le (by rw [bitsOf_length]; omega)]
  have hnum : num (bitsOf (Lib.bitLen (v + 1)) (v + 1)) = v + 1 := by rw [num_bitsOf, Nat.mod_eq_of_lt (bitLen_lt (v + 1) (by omega))]
  unfold gc
  rw [hd, hz, hn, hnum, if_neg (by omega), if_neg (by rw [List.length_append, List.length_append]; omega), if_neg (by omega)]
  have e1 : v + 1 - 1 = v := by omega
  have e2 : p.length + 2 * (Lib.bitLen (v + 1) - 1) + 1 = p.length + (codeOf v).length := by omega
  rw [e1, e2]

/-- an answer that is just these bits -/
def BGood (w : World) (l : List Bool) (n N : Nat) (e : Ending) (w' : World) : Prop :=
  ∃ A c, e = .returned (.tuple #[.agg #[.slice A n c, .int .i64 (N : Int)], .int .i64 0]) ∧ IsB w' (.agg #[.slice A n c, .int .i64 (N : Int)]) l ∧ Below w.heap.size w w'
theorem BOut.good {w w' : World} {B : Nat} {l : List Bool} {n N : Nat} {e : Ending} (h : BOut w (JQ B l) e w') (hl : l.length ≤ 65536) (hn : n = (pack l).length) (hN : N = l.length) : BGood w l n N e w' := by
  obtain ⟨A, n', c, N', er, rfl, hb, ⟨_, rfl, hNw⟩ | ⟨h2, _⟩⟩ := h
  · have hB := hNw.isB
    have hB' := hB
    obtain ⟨A1, c1, e1, _, _⟩ := hB'
    simp only [Value.agg.injEq, Array.mk.injEq, List.cons.injEq, Value.slice.injEq, Value.int.injEq, and_true, true_and] at e1
    obtain ⟨⟨rfl, rfl, rfl⟩, rfl⟩ := e1
    subst hn hN
    exact ⟨_, _, rfl, hB, hb⟩
  · omega
theorem putCode_good (v : Value) (l l' : List Bool) (xi : Int) (x n N : Nat) (w : World) (h : IsB w v l) (hxi : xi = (x : Int)) (hx : x < 2 ^ 32) (hl' : l' = l ++ codeOf x) (hl : l'.length ≤ 65536) (hn : n = (pack l').length) (hN : N = l'.length) :
    Calls Try.prog 15 #[v, .int .u64 xi] w (BGood w l' n N) := by
  subst hxi hl'
  exact (putCode_any v l x w h hx).mono fun _ _ h => h.good hl hn hN
theorem put_good (v : Value) (l l' : List Bool) (xi wi : Int) (x width n N : Nat) (w : World) (h : IsB w v l) (hxi : xi = (x : Int)) (hwi : wi = (width : Int)) (hw : width ≤ 64) (hx : x < 2 ^ width) (hl' : l' = l ++ bitsOf width x) (hl : l'.length ≤ 65536) (hn : n = (pack l').length) (hN : N = l'.length) :
    Calls Try.prog 12 #[v, .int .u64 xi, .int .i64 wi] w (BGood w l' n N) := by
  subst hxi hwi hl'
  exact (put_any v l x width w h hw hx).mono fun _ _ h => h.good hl hn hN
theorem getCode_n (v : Value) (l : List Bool) (ai : Int) (a x y z : Nat) (w : World) (h : IsB w v l) (ha : a ≤ l.length) (hai : ai = (a : Int)) (hg : gc l a = (x, y, z)) :
    Calls Try.prog 26 #[v, .int .i64 ai] w fun e w' => e = .returned (.tuple #[.int .u64 (x : Int), .int .i64 (y : Int), .int .i64 (z : Int)]) ∧ Below w.heap.size w w' := by
  subst hai
  have := getCode_any v l a w h ha
  rw [hg] at this
  exact this

def liveC : List Bool := [true, false, false, true, false, true, false, true, false, true]
theorem live1 : [true] = [] ++ codeOf 0 := by decide +kernel
theorem live2 : [true, false, false, true, false, true] = [true] ++ codeOf 4 := by decide +kernel
theorem live3 : liveC = [true, false, false, true, false, true] ++ bitsOf 4 5 := by decide +kernel
theorem live4 : gc liveC 1 = (4, 6, 0) := by decide +kernel
theorem live5 : pack liveC = [149, 64] := by decide +kernel

theorem live_ad {w : World} {A : Option Addr} {c : Nat} {N : Int} (h : IsB w (.agg #[.slice A 2 c, .int .i64 N]) liveC) : ∃ ad, A = some ad ∧ w.cell? (ad.add 0) = some (.int .u8 149) ∧ w.cell? (ad.add 1) = some (.int .u8 64) := by
  obtain ⟨A5, c5, e5, hr5, _⟩ := h
  simp only [Value.agg.injEq, Array.mk.injEq, List.cons.injEq, Value.slice.injEq, Value.int.injEq, and_true, true_and] at e5
  obtain ⟨⟨rfl, _, _⟩, _⟩ := e5
  rw [live5] at hr5
  obtain ⟨ad, rfl, hc⟩ := hr5.2.2 (by simp)
  exact ⟨ad, rfl, hc 0 149 rfl, hc 1 64 rfl⟩

set_option maxHeartbeats 1000000 in
theorem live_any (w : World) : Calls Try.prog 9 #[] w fun e w' => e = .returned (.bool true) ∧ Below w.heap.size w w' := by
  go_enter Try.func9, Try.ntmps9
  go_wp2_with fail
  refine (putCode_good _ [] [true] 0 0 1 1 _ (IsB.nil_ _) rfl (by omega) live1 (by simp) rfl rfl).mono ?_
  rintro e w1 ⟨A1, c1, rfl, hB1, hb1⟩
  have HB1 := Lib.hid hB1
  have HW1 := Lib.hid hb1
  clear hB1 hb1
  go_wp2_with fail
  refine (putCode_good _ [true] [true, false, false, true, false, true] 4 4 1 6 _ (HB1.out.alloc _) rfl (by omega) live2 (by simp) rfl rfl).mono ?_
  rintro e w2 ⟨A2, c2, rfl, hB2, hb2⟩
  have K1 := Lib.hid ((Blk.new w1 24 #[.slice A1 1 c1, .int .i64 1]).below hb2 (Blk.new _ _ _).lt)
  have HW2 := Lib.hid (HW1.out.trans (((Below.refl _ _).alloc HW1.out.size _).trans (hb2.mono (by have := HW1.out.size; simp; omega))))
  have HB2 := Lib.hid hB2
  clear hb2 hB2
  go_wp2_with fail
  refine (put_good _ [true, false, false, true, false, true] liveC 5 4 5 4 2 10 _ (HB2.out.alloc _) rfl rfl (by omega) (by omega) live3 (by decide) (by rw [live5]; rfl) rfl).mono ?_
  rintro e w3 ⟨A3, c3, rfl, hB3, hb3⟩
  have K1' := Lib.hid ((K1.out.alloc (.cells #[.slice A2 1 c2, .int .i64 6] 24)).below hb3 (K1.out.alloc _).lt)
  have K2 := Lib.hid ((Blk.new w2 24 #[.slice A2 1 c2, .int .i64 6]).below hb3 (Blk.new _ _ _).lt)
  have HW3 := Lib.hid (HW2.out.trans (((Below.refl _ _).alloc HW2.out.size _).trans (hb3.mono (by have := HW2.out.size; simp; omega))))
  have HB3 := Lib.hid hB3
  clear hb3 hB3 K1
  go_wp2_with fail
  refine (getCode_n _ liveC 1 1 4 6 0 _ (HB3.out.alloc _) (by decide) rfl live4).mono ?_
  rintro e w4 ⟨rfl, hb4⟩
  have x1 : w4.cell? ⟨w1.heap.size, 1, none⟩ = some (.int .i64 1) := ((K1'.out.alloc (.cells #[.slice A3 2 c3, .int .i64 10] 24)).below hb4 (K1'.out.alloc _).lt).cell 1
  have x2 : w4.cell? ⟨w2.heap.size, 1, none⟩ = some (.int .i64 6) := ((K2.out.alloc (.cells #[.slice A3 2 c3, .int .i64 10] 24)).below hb4 (K2.out.alloc _).lt).cell 1
  have K3 := (Blk.new w3 24 #[.slice A3 2 c3, .int .i64 10]).below hb4 (Blk.new _ _ _).lt
  have x3 : w4.cell? ⟨w3.heap.size, 0, none⟩ = some (.slice A3 2 c3) := K3.cell 0
  have x4 : w4.cell? ⟨w3.heap.size, 1, none⟩ = some (.int .i64 10) := K3.cell 1
  have HW4 := Lib.hid (HW3.out.trans (((Below.refl _ _).alloc HW3.out.size _).trans (hb4.mono (by have := HW3.out.size; simp; omega))))
  have hB4 := (HB3.out.alloc (.cells #[.slice A3 2 c3, .int .i64 10] 24)).below hb4
  clear hb4 K3
  obtain ⟨ad, rfl, y0, y1⟩ := live_ad hB4
  have y0' : w4.cell? ad = some (.int .u8 149) := y0
  have y1' : w4.cell? ⟨ad.block, ad.off + 1, none⟩ = some (.int .u8 64) := y1
  clear hB4 y0 y1
  go_wp2
  go_ret
  exact ⟨rfl, HW4.out⟩

end Go.Proofs.Ythaannpkgljngaa
