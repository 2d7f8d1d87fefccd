/-
  Own texts, laid together: Cd.
-/
import Derived.Test.YtgelgbfnioagbaaCb
/- Cd -/
namespace Go.Proofs.Ytgelgbfnioagbaa.Cd
open Go.RowKit
theorem or_bit (t : Nat) (h : t < 2) : bits BinOp.or IntKind.u64 0 (t : Int) = (t : Int) := by
  have := get_or 0 t (by omega) h
  simpa using this
/-- bits by value that may be: where they lie -/
theorem isB_parts {w : World} {A : Option Addr} {n c : Nat} {N : Int} {l : List Bool} (h : IsB w (.agg #[.slice A n c, .int .i64 N]) l) : n = (pack l).length ∧ N = (l.length : Int) ∧ Rd w A n (pack l) ∧ l.length ≤ 65536 := by
  obtain ⟨A', c', e, hr, hl⟩ := h
  simp only [Value.agg.injEq, Array.mk.injEq, List.cons.injEq, Value.slice.injEq, Value.int.injEq, and_true, true_and] at e
  obtain ⟨⟨rfl, rfl, rfl⟩, rfl⟩ := e
  exact ⟨rfl, rfl, hr, hl⟩
def G1 (t : Nat) (v j : Value) : Prop := (j = .int .i64 0 ∧ v = .int .u64 0) ∨ (j = .int .i64 1 ∧ v = .int .u64 (t : Int))
set_option maxRecDepth 100000 in
set_option maxHeartbeats 2000000 in
theorem rget1_in (A : Option Addr) (n c i t : Nat) (N : Int) (l : List Bool) (w : World) (h : Hid (IsB w (.agg #[.slice A n c, .int .i64 N]) l)) (hi : Hid (i < l.length)) (ht : Hid (t = (bitF l i).toNat)) (ht2 : t < 2) (hi2 : i ≤ 65536) :
    Calls Try.prog 74 #[.agg #[.slice A n c, .int .i64 N], .int .i64 (i : Int), .int .i64 1] w fun e w' => e = .returned (.tuple #[.int .u64 (t : Int), .int .i64 0]) ∧ Below w.heap.size w w' := by
  obtain ⟨hn, hN, hr, hl⟩ := isB_parts h.out
  have HR := Lib.hid hr
  have HN := Lib.hid hn
  have HOK := Lib.hid (show okB (pack l) N = true by rw [hN]; exact okB_pack l hl)
  obtain ⟨L, hL⟩ : ∃ L, L = l.length := ⟨_, rfl⟩
  rw [← hL] at hN hl
  subst hN
  have hiL : i < L := by rw [hL]; exact hi.out
  have HL := Lib.hid hL
  clear hn hr hL
  have d1 : decide ((i : Int) < 0) = false := by simp
  have d2 : decide ((L : Int) < (i : Int)) = false := by simp; omega
  have d4 : decide (L < i) = false := by simp; omega
  have d3 : decide ((L : Int) - (i : Int) < 1) = false := by simp; omega
  have o1 := or_bit t ht2
  have HK := Lib.hid (Blk.new w 25 #[.slice A n c, .int .i64 (L : Int)])
  have HW := Lib.hid ((Below.refl w.heap.size w).alloc (Nat.le_refl _) (.cells #[.slice A n c, .int .i64 (L : Int)] 25))
  go_enter Try.func74, Try.ntmps74
  go_wp2_with fail
  generalize w.alloc (.cells #[.slice A n c, .int .i64 (L : Int)] 25) = w0 at HK HW ⊢
  have hcon := rcheck_any A n c (L : Int) (pack l) w0 (HR.out.below HW.out)
  rw [HOK.out] at hcon
  refine hcon.mono ?_
  clear hcon
  rintro e w1 ⟨rfl, hb1⟩
  have HK1 := Lib.hid (HK.out.below hb1 HK.out.lt)
  have HW1 := Lib.hid (HW.out.trans (hb1.mono HW.out.size))
  clear hb1
  obtain ⟨x1, x2, -, -⟩ := blk2 HK1.out
  go_wp2
  go_loopw [8, 9, 38] (fun v _ j wr => G1 t v j ∧ Hid (Blk wr w.heap.size 25 #[.slice A n c, .int .i64 (L : Int)] ∧ Below w.heap.size w wr)) (fun _ _ j _ => 1 - (intOf j).toNat)
  case atStart => exact ⟨.inl ⟨rfl, rfl⟩, Lib.hid ⟨HK1.out, HW1.out⟩⟩
  case round =>
    clear x1 x2
    obtain ⟨⟨rfl, rfl⟩ | ⟨rfl, rfl⟩, HZ⟩ := hrel
    · obtain ⟨x1, x2, -, -⟩ := blk2 HZ.out.1
      go_wp2_with fail
      refine (rbit_any A n c (L : Int) _ (pack l) i t _ (HR.out.below HZ.out.2) (by have := HN.out; have := pack_length l; have := HL.out; omega) (by omega) (by simp) (by rw [ht.out, bitR_pack l i (by have := pack_length l; have := HL.out; omega)])).mono ?_
      rintro e w3 ⟨rfl, hb3⟩
      have HZ3 := Lib.hid (show Blk w3 w.heap.size 25 #[.slice A n c, .int .i64 (L : Int)] ∧ Below w.heap.size w w3 from ⟨HZ.out.1.below hb3 HZ.out.1.lt, HZ.out.2.trans (hb3.mono HZ.out.2.size)⟩)
      clear hb3 x1 x2
      go_wp2
      go_roundw
      case rel => first | exact ⟨Or.inr ⟨rfl, rfl⟩, HZ3⟩ | ((repeat apply Exists.intro); exact ⟨⟨Or.inr ⟨rfl, rfl⟩, HZ3⟩, rfl⟩)
      case measure => simp [intOf]
    · go_wp2
      exact bodyPost_ret (v := .tuple #[.int .u64 (t : Int), .int .i64 0]) (by simp [results, Try.results74, go_sem]) rfl ⟨rfl, HZ.out.2⟩
set_option maxRecDepth 100000 in
set_option maxHeartbeats 2000000 in
theorem rget1_out (A : Option Addr) (n c i : Nat) (N : Int) (l : List Bool) (w : World) (h : Hid (IsB w (.agg #[.slice A n c, .int .i64 N]) l)) (hi : Hid (l.length ≤ i)) (_hi2 : i ≤ 1000000) :
    Calls Try.prog 74 #[.agg #[.slice A n c, .int .i64 N], .int .i64 (i : Int), .int .i64 1] w fun e w' => e = .returned (.tuple #[.int .u64 0, .int .i64 20]) ∧ Below w.heap.size w w' := by
  obtain ⟨hn, hN, hr, hl⟩ := isB_parts h.out
  have HR := Lib.hid hr
  have HOK := Lib.hid (show okB (pack l) N = true by rw [hN]; exact okB_pack l hl)
  obtain ⟨L, hL⟩ : ∃ L, L = l.length := ⟨_, rfl⟩
  rw [← hL] at hN hl
  subst hN
  have hiL : L ≤ i := by rw [hL]; exact hi.out
  clear hn hr hL
  have d1 : decide ((i : Int) < 0) = false := by simp
  have HK := Lib.hid (Blk.new w 25 #[.slice A n c, .int .i64 (L : Int)])
  have HW := Lib.hid ((Below.refl w.heap.size w).alloc (Nat.le_refl _) (.cells #[.slice A n c, .int .i64 (L : Int)] 25))
  go_enter Try.func74, Try.ntmps74
  go_wp2_with fail
  generalize w.alloc (.cells #[.slice A n c, .int .i64 (L : Int)] 25) = w0 at HK HW ⊢
  have hcon := rcheck_any A n c (L : Int) (pack l) w0 (HR.out.below HW.out)
  rw [HOK.out] at hcon
  refine hcon.mono ?_
  clear hcon
  rintro e w1 ⟨rfl, hb1⟩
  have HK1 := Lib.hid (HK.out.below hb1 HK.out.lt)
  have HW1 := Lib.hid (HW.out.trans (hb1.mono HW.out.size))
  clear hb1
  obtain ⟨x1, x2, -, -⟩ := blk2 HK1.out
  by_cases hg : L < i
  · have d2 : decide ((L : Int) < (i : Int)) = true := by simp; omega
    go_wp2
    exact bodyPost_ret (v := .tuple #[.int .u64 0, .int .i64 20]) (by simp [results, Try.results74, go_sem]) rfl ⟨rfl, HW1.out⟩
  · have d2 : decide ((L : Int) < (i : Int)) = false := by simp; omega
    have d3 : decide ((L : Int) - (i : Int) < 1) = true := by simp; omega
    go_wp2
    exact bodyPost_ret (v := .tuple #[.int .u64 0, .int .i64 20]) (by simp [results, Try.results74, go_sem]) rfl ⟨rfl, HW1.out⟩
theorem rbitAt_any (A : Option Addr) (n c i t : Nat) (N : Int) (l : List Bool) (w : World) (h : Hid (IsB w (.agg #[.slice A n c, .int .i64 N]) l)) (ht : Hid (t = (bitF l i).toNat)) (ht2 : t < 2) (hi2 : i ≤ 1000000) :
    Calls Try.prog 54 #[.agg #[.slice A n c, .int .i64 N], .int .i64 (i : Int)] w fun e w' => e = .returned (.int .u64 (t : Int)) ∧ Below w.heap.size w w' := by
  have HW := Lib.hid ((Below.refl w.heap.size w).alloc (Nat.le_refl _) (.cells #[.slice A n c, .int .i64 N] 25))
  have HI := Lib.hid (h.out.alloc (.cells #[.slice A n c, .int .i64 N] 25))
  by_cases hi : i < l.length
  · have HI2 := Lib.hid hi
    have hi3 : i ≤ 65536 := by have := (isB_parts h.out).2.2.2; omega
    clear hi
    go_enter Try.func54, Try.ntmps54
    go_wp2_with fail
    generalize w.alloc (.cells #[.slice A n c, .int .i64 N] 25) = w0 at HW HI ⊢
    refine (rget1_in A n c i t N l w0 HI HI2 ht ht2 hi3).mono ?_
    rintro e w1 ⟨rfl, hb1⟩
    have HW1 := Lib.hid (HW.out.trans (hb1.mono HW.out.size))
    clear hb1
    go_wp2
    go_ret
    exact ⟨rfl, HW1.out⟩
  · have HI2 := Lib.hid (show l.length ≤ i by omega)
    have HT0 := Lib.hid (show t = 0 by rw [ht.out, bitF_of_ge HI2.out]; rfl)
    clear hi
    go_enter Try.func54, Try.ntmps54
    go_wp2_with fail
    generalize w.alloc (.cells #[.slice A n c, .int .i64 N] 25) = w0 at HW HI ⊢
    refine (rget1_out A n c i N l w0 HI HI2 hi2).mono ?_
    rintro e w1 ⟨rfl, hb1⟩
    have HW1 := Lib.hid (HW.out.trans (hb1.mono HW.out.size))
    clear hb1
    go_wp2
    go_ret
    exact ⟨by rw [HT0.out]; rfl, HW1.out⟩
end Go.Proofs.Ytgelgbfnioagbaa.Cd
