/-
  Own texts, laid together: Ce.
-/
import Derived.Test.YtgelgbfnioagbaaCd
/- Ce -/
namespace Go.Proofs.Ytgelgbfnioagbaa.Cd
open Go.RowKit
/-- a decoder's state by value -/
def decV (low high code : Nat) (A : Option Addr) (n c : Nat) (N At : Int) : Value := .agg #[.int .u32 (low : Int), .int .u32 (high : Int), .int .u32 (code : Int), .slice A n c, .int .i64 N, .int .i64 At]
theorem blk6 {w : World} {t : TypeId} {a b c d e f : Value} {g : Nat} (h : Blk w g t #[a, b, c, d, e, f]) : w.cell? ⟨g, 0, none⟩ = some a ∧ w.cell? ⟨g, 1, none⟩ = some b ∧ w.cell? ⟨g, 2, none⟩ = some c ∧ w.cell? ⟨g, 3, none⟩ = some d ∧ w.cell? ⟨g, 4, none⟩ = some e ∧ w.cell? ⟨g, 5, none⟩ = some f := ⟨h.cell 0, h.cell 1, h.cell 2, h.cell 3, h.cell 4, h.cell 5⟩
theorem frz6 {w : World} {t : TypeId} {cs : Array Value} {g : Nat} (h : Blk w g t cs) : w.frozen? ⟨g, 0, none⟩ = false ∧ w.frozen? ⟨g, 1, none⟩ = false ∧ w.frozen? ⟨g, 2, none⟩ = false ∧ w.frozen? ⟨g, 3, none⟩ = false ∧ w.frozen? ⟨g, 4, none⟩ = false ∧ w.frozen? ⟨g, 5, none⟩ = false := ⟨h.frozen 0, h.frozen 1, h.frozen 2, h.frozen 3, h.frozen 4, h.frozen 5⟩
/-- whether it may be -/
def okD (low high code : Nat) (bs : List Nat) (N At : Int) : Bool := wideB low high && (decide (low ≤ code) && (decide (code ≤ high) && (okB bs N && (decide (32 ≤ At) && decide (At ≤ 65600)))))
set_option maxRecDepth 100000 in
set_option maxHeartbeats 2000000 in
theorem rcheckDec_any (low high code : Nat) (A : Option Addr) (n c : Nat) (N At : Int) (bs : List Nat) (r : Bool) (w : World) (hl : low < 4294967296) (hh : high < 4294967296) (_hc : code < 4294967296) (hr : Hid (Rd w A n bs)) (hok : Hid (okD low high code bs N At = r)) :
    Calls Try.prog 51 #[decV low high code A n c N At] w fun e w' => e = .returned (.bool r) ∧ Below w.heap.size w w' := by
  have HK := Lib.hid (Blk.new w 45 #[.int .u32 (low : Int), .int .u32 (high : Int), .int .u32 (code : Int), .slice A n c, .int .i64 N, .int .i64 At])
  have HW := Lib.hid ((Below.refl w.heap.size w).alloc (Nat.le_refl _) (.cells #[.int .u32 (low : Int), .int .u32 (high : Int), .int .u32 (code : Int), .slice A n c, .int .i64 N, .int .i64 At] 45))
  have HR := Lib.hid (hr.out.alloc (.cells #[.int .u32 (low : Int), .int .u32 (high : Int), .int .u32 (code : Int), .slice A n c, .int .i64 N, .int .i64 At] 45))
  unfold decV
  go_enter Try.func51, Try.ntmps51
  go_wp2_with fail
  generalize w.alloc (.cells #[.int .u32 (low : Int), .int .u32 (high : Int), .int .u32 (code : Int), .slice A n c, .int .i64 N, .int .i64 At] 45) = w0 at HK HW HR ⊢
  obtain ⟨wd, hwd⟩ : ∃ wd, wideB low high = wd := ⟨_, rfl⟩
  have HWD := Lib.hid hwd
  clear hwd
  refine (rwide_any low high wd _ HWD.out).mono ?_
  rintro e w' ⟨rfl, rfl⟩
  obtain ⟨x1, x2, x3, x4, x5, x6⟩ := blk6 HK.out
  cases wd with
  | false =>
    have HE := Lib.hid (show r = false by rw [← hok.out]; unfold okD; rw [HWD.out]; rfl)
    go_wp2
    go_ret
    exact ⟨by rw [HE.out]; rfl, HW.out⟩
  | true =>
    by_cases h1 : low ≤ code
    · have d1 : decide (low ≤ code) = true := by simpa using h1
      by_cases h2 : code ≤ high
      · have d2 : decide (code ≤ high) = true := by simpa using h2
        obtain ⟨ok, hokB⟩ : ∃ ok, okB bs N = ok := ⟨_, rfl⟩
        have HOK := Lib.hid hokB
        clear hokB
        go_wp2_with fail
        have hcon := rcheck_any A n c N bs w0 HR.out
        rw [HOK.out] at hcon
        refine hcon.mono ?_
        clear hcon
        rintro e w2 ⟨rfl, hb2⟩
        have HW2 := Lib.hid (HW.out.trans (hb2.mono HW.out.size))
        have HK2 := Lib.hid (HK.out.below hb2 HK.out.lt)
        clear hb2 x1 x2 x3 x4 x5 x6
        obtain ⟨x1, x2, x3, x4, x5, x6⟩ := blk6 HK2.out
        cases ok with
        | false =>
          have HE := Lib.hid (show r = false by rw [← hok.out]; unfold okD; rw [HWD.out, d1, d2, HOK.out]; rfl)
          go_wp2
          go_ret
          exact ⟨by rw [HE.out]; rfl, HW2.out⟩
        | true =>
          by_cases h3 : 32 ≤ At
          · have d3 : decide (32 ≤ At) = true := by simpa using h3
            by_cases h4 : At ≤ 65600
            · have d4 : decide (At ≤ 65600) = true := by simpa using h4
              have HE := Lib.hid (show r = true by rw [← hok.out]; unfold okD; rw [HWD.out, d1, d2, HOK.out, d3, d4]; rfl)
              go_wp2
              go_ret
              exact ⟨by rw [HE.out]; rfl, HW2.out⟩
            · have d4 : decide (At ≤ 65600) = false := by simpa using h4
              have HE := Lib.hid (show r = false by rw [← hok.out]; unfold okD; rw [HWD.out, d1, d2, HOK.out, d3, d4]; rfl)
              go_wp2
              go_ret
              exact ⟨by rw [HE.out]; rfl, HW2.out⟩
          · have d3 : decide (32 ≤ At) = false := by simpa using h3
            have HE := Lib.hid (show r = false by rw [← hok.out]; unfold okD; rw [HWD.out, d1, d2, HOK.out, d3]; rfl)
            go_wp2
            go_ret
            exact ⟨by rw [HE.out]; rfl, HW2.out⟩
      · have d2 : decide (code ≤ high) = false := by simpa using h2
        have HE := Lib.hid (show r = false by rw [← hok.out]; unfold okD; rw [HWD.out, d1, d2]; rfl)
        go_wp2
        go_ret
        exact ⟨by rw [HE.out]; rfl, HW.out⟩
    · have d1 : decide (low ≤ code) = false := by simpa using h1
      have HE := Lib.hid (show r = false by rw [← hok.out]; unfold okD; rw [HWD.out, d1]; rfl)
      go_wp2
      go_ret
      exact ⟨by rw [HE.out]; rfl, HW.out⟩
/-- a copy that was made of bits that may be -/
theorem copy_isB {w' : World} {base n3 c3 : Nat} {A3 : Option Addr} {l : List Bool} (hl : l.length ≤ 65536) (h : w'.ownsRow base 5 1 (.slice A3 n3 c3) n3 ((pack l).map byteV)) : IsB w' (.agg #[.slice A3 n3 c3, .int .i64 (l.length : Int)]) l := by
  rcases h.2 with ⟨e, h0⟩ | ⟨g, cap, cur, e, hb, hh, hnc, hcm, hcs, ht⟩
  · injection e with e1 e2 e3
    subst e1 e2 e3
    have h1 := h.1
    have hp : pack l = [] := List.eq_nil_of_length_eq_zero (by simpa using h1)
    refine ⟨none, 0, by rw [hp]; rfl, ?_, hl⟩
    rw [hp]
    exact Rd.none_
  · injection e with e1 e2 e3
    subst e1
    have hn3 : n3 = (pack l).length := by have := h.1; simp at this; omega
    refine ⟨some ⟨g, 0, none⟩, c3, by rw [← hn3], ?_, hl⟩
    refine ⟨rfl, pack_lt l, fun _ => ⟨_, rfl, fun j x hx => ?_⟩⟩
    exact World.ownsRow.cells h (g := g) rfl j (byteV x) (by rw [List.getElem?_map, hx]; rfl)
theorem own_block {w' : World} {base n3 c3 : Nat} {A3 : Option Addr} {t : TypeId} {cs : List Value} (h : w'.ownsRow base t 1 (.slice A3 n3 c3) n3 cs) : ∀ ad, A3 = some ad → base ≤ ad.block := by
  intro ad ha
  rcases h.2 with ⟨e, h0⟩ | ⟨g, cap, cur, e, hb, _⟩
  · injection e with e1
    rw [ha] at e1
    cases e1
  · injection e with e1
    rw [ha] at e1
    injection e1 with e1
    rw [e1]
    exact hb
theorem rd_far {w : World} {A : Option Addr} {n g : Nat} {bs : List Nat} (h : Rd w A n bs) (hA : ∀ ad, A = some ad → 0 < n → ad.block ≠ g) (o : Nat) (u : Value) : Rd (w.setCell ⟨g, o, none⟩ u) A n bs :=
  ⟨h.1, h.2.1, fun hn => by
    obtain ⟨ad, e, hc⟩ := h.2.2 hn
    refine ⟨ad, e, fun j x hx => ?_⟩
    have := hc j x hx
    rw [← this]
    exact World.cell?_of_block (Below.heap_setCell w ⟨g, o, none⟩ u (ad.add j).block (by rw [block_of_add]; exact hA ad e hn))⟩
theorem val_lt (inp : List Bool) (m : Nat) : val inp m < 2 ^ m := by
  have := (val_add inp 0 m).2
  simpa [val] using this
/-- a decoder's state, and an error -/
def DOut (w : World) (lo hi co : Nat) (At N E : Int) (bs : List Nat) (e : Ending) (w' : World) : Prop :=
  ∃ A n c, e = .returned (.tuple #[decV lo hi co A n c N At, .int .i64 E]) ∧ Below w.heap.size w w' ∧ Rd w' A n bs
theorem below6 {B g : Nat} {w u : World} (h : Below B w u) (hg : B ≤ g) (a b c d e f : Value) : Below B w ((((((u.setCell ⟨g, 0, none⟩ a).setCell ⟨g, 1, none⟩ b).setCell ⟨g, 2, none⟩ c).setCell ⟨g, 3, none⟩ d).setCell ⟨g, 4, none⟩ e).setCell ⟨g, 5, none⟩ f) :=
  (((((h.setCell hg a).setCell hg b).setCell hg c).setCell hg d).setCell hg e).setCell hg f
set_option maxRecDepth 100000 in
set_option maxHeartbeats 2000000 in
theorem rstart_ok (A : Option Addr) (n c : Nat) (N : Int) (l : List Bool) (w : World) (h : Hid (IsB w (.agg #[.slice A n c, .int .i64 N]) l)) :
    Calls Try.prog 24 #[.agg #[.slice A n c, .int .i64 N]] w (DOut w 0 4294967295 (val l 32) 32 N 0 (pack l)) := by
  obtain ⟨hn, hN, hr, hl⟩ := isB_parts h.out
  have HR := Lib.hid hr
  have HOK := Lib.hid (show okB (pack l) N = true by rw [hN]; exact okB_pack l hl)
  have hn2 : n ≤ 8192 := by rw [hn, pack_length]; omega
  clear hn hN hr hl
  have HK := Lib.hid (show Blk ((w.alloc (.cells #[.slice A n c, .int .i64 N] 25)).alloc (.cells #[.int .u32 0, .int .u32 0, .int .u32 0, .slice none 0 0, .int .i64 0, .int .i64 0] 45)) w.heap.size 25 #[.slice A n c, .int .i64 N] from (Blk.new w _ _).alloc _)
  have HK2 := Lib.hid (show Blk ((w.alloc (.cells #[.slice A n c, .int .i64 N] 25)).alloc (.cells #[.int .u32 0, .int .u32 0, .int .u32 0, .slice none 0 0, .int .i64 0, .int .i64 0] 45)) (w.heap.size + 1) 45 #[.int .u32 0, .int .u32 0, .int .u32 0, .slice none 0 0, .int .i64 0, .int .i64 0] from Blk.newAt (by simp))
  have HW := Lib.hid (show Below w.heap.size w ((w.alloc (.cells #[.slice A n c, .int .i64 N] 25)).alloc (.cells #[.int .u32 0, .int .u32 0, .int .u32 0, .slice none 0 0, .int .i64 0, .int .i64 0] 45)) from ((Below.refl w.heap.size w).alloc (Nat.le_refl _) _).alloc (by simp) _)
  go_enter Try.func24, Try.ntmps24
  go_wp2_with fail
  generalize (w.alloc (.cells #[.slice A n c, .int .i64 N] 25)).alloc (.cells #[.int .u32 0, .int .u32 0, .int .u32 0, .slice none 0 0, .int .i64 0, .int .i64 0] 45) = w0 at HK HK2 HW ⊢
  have hcon := rcheck_any A n c N (pack l) w0 (HR.out.below HW.out)
  rw [HOK.out] at hcon
  refine hcon.mono ?_
  clear hcon
  rintro e w1 ⟨rfl, hb1⟩
  have HK1 := Lib.hid (HK.out.below hb1 HK.out.lt)
  have HJ1 := Lib.hid (HK2.out.below hb1 HK2.out.lt)
  have HW1 := Lib.hid (HW.out.trans (hb1.mono HW.out.size))
  clear hb1 HK HK2 HW
  go_wp2
  go_loopw [4, 5, 10] (fun v _ j wr => ∃ i : Nat, i ≤ 32 ∧ j = .int .i64 (i : Int) ∧ v = .int .u64 ((val l i : Nat) : Int) ∧ Hid (Blk wr w.heap.size 25 #[.slice A n c, .int .i64 N] ∧ Blk wr (w.heap.size + 1) 45 #[.int .u32 0, .int .u32 0, .int .u32 0, .slice none 0 0, .int .i64 0, .int .i64 0] ∧ Below w.heap.size w wr)) (fun _ _ j _ => 32 - (intOf j).toNat)
  case atStart => exact ⟨0, by omega, rfl, rfl, Lib.hid ⟨HK1.out, HJ1.out, HW1.out⟩⟩
  case round =>
    obtain ⟨i, hi, rfl, rfl, HZ⟩ := hrel
    clear HK1 HJ1 HW1
    have HVS := Lib.hid (val_succ l i)
    have hv : val l i < 4294967296 := Nat.lt_of_lt_of_le (val_lt l i) (Nat.le_trans (Nat.pow_le_pow_right (by omega) hi) (by rw [pow32]; exact Nat.le_refl _))
    by_cases hlt : i < 32
    · have hlt' : (i : Int) < 32 := by omega
      obtain ⟨t, ht⟩ : ∃ t, t = (bitF l i).toNat := ⟨_, rfl⟩
      have ht2 : t < 2 := by have := toNat_le (bitF l i); omega
      have HT := Lib.hid ht
      clear ht
      generalize val l i = V at hv HVS
      obtain ⟨x1, x2, -, -⟩ := blk2 HZ.out.1
      go_wp2_with fail
      refine (rbitAt_any A n c i t N l _ (Lib.hid (h.out.below HZ.out.2.2)) HT ht2 (by omega)).mono ?_
      rintro e w3 ⟨rfl, hb3⟩
      have HZ3 := Lib.hid (show Blk w3 w.heap.size 25 #[.slice A n c, .int .i64 N] ∧ Blk w3 (w.heap.size + 1) 45 #[.int .u32 0, .int .u32 0, .int .u32 0, .slice none 0 0, .int .i64 0, .int .i64 0] ∧ Below w.heap.size w w3 from ⟨HZ.out.1.below hb3 HZ.out.1.lt, HZ.out.2.1.below hb3 HZ.out.2.1.lt, HZ.out.2.2.trans (hb3.mono HZ.out.2.2.size)⟩)
      clear hb3 x1 x2
      go_wp2
      go_roundw
      case rel => exact ⟨i + 1, by omega, by go_num, by rw [HVS.out, ← HT.out]; go_num, HZ3⟩
      case measure => simp [intOf]; omega
    · have hlt' : ¬ (i : Int) < 32 := by omega
      obtain rfl : i = 32 := by omega
      obtain ⟨V, hV⟩ : ∃ V, V = val l 32 := ⟨_, rfl⟩
      rw [← hV] at hv ⊢
      have HV := Lib.hid hV
      clear hV HVS
      obtain ⟨x1, x2, -, -⟩ := blk2 HZ.out.1
      have hv' : (V : Int) < 4294967296 := by omega
      go_wp2_with fail
      refine (rcopy_any A n c N (pack l) _ (HR.out.below HZ.out.2.2) (by omega)).mono ?_
      rintro e w3 ⟨A3, n3, c3, rfl, ho3, hb3⟩
      have HI3 := Lib.hid (copy_isB (isB_parts h.out).2.2.2 ho3)
      have HJ3 := Lib.hid (HZ.out.2.1.below hb3 HZ.out.2.1.lt)
      have HW3 := Lib.hid (HZ.out.2.2.trans (hb3.mono HZ.out.2.2.size))
      have HOW := Lib.hid ho3
      clear hb3 ho3 x1 x2
      obtain ⟨y1, y2, y3, y4, y5, y6⟩ := blk6 HJ3.out
      obtain ⟨z1, z2, z3, z4, z5, z6⟩ := frz6 HJ3.out
      go_wp2
      have hfar : ∀ ad, A3 = some ad → 0 < n3 → ad.block ≠ w.heap.size + 1 := fun ad ha _ => by
        have h1 := own_block HOW.out ad ha
        have h2 := HZ.out.2.1.lt
        omega
      obtain ⟨q1, q2, q3, q4⟩ := isB_parts HI3.out
      have hN : N = (l.length : Int) := (isB_parts h.out).2.1
      refine bodyPost_ret (v := .tuple #[decV 0 4294967295 V A3 n3 c3 N 32, .int .i64 0]) (by simp [results, Try.results24, go_sem, decV, y1, y2, y3, y4, y5, y6]) rfl ⟨A3, n3, c3, by rw [HV.out], below6 HW3.out (by omega) _ _ _ _ _ _, ?_⟩
      exact rd_far (rd_far (rd_far (rd_far (rd_far (rd_far q3 hfar _ _) hfar _ _) hfar _ _) hfar _ _) hfar _ _) hfar _ _
end Go.Proofs.Ytgelgbfnioagbaa.Cd
