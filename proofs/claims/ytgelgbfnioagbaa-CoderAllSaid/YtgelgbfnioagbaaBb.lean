/-
  Own texts, laid together: Wh, Wi, Split, Ra, Rb, Rc, Joins, Rd, Re.
-/
import Derived.Test.YtgelgbfnioagbaaBa
import Derived.Laws.BytesString
import Derived.Deep.DeepCutAuto
import Derived.Maps.AppendAt
import Derived.OneCell
import Derived.Deep.RegionLaw
import Derived.Deep.AppendLies
/- Wh -/
namespace Go.Proofs.Ytgelgbfnioagbaa
open Go.RowKit
theorem bitLen_lt (v : Nat) (hv : v < 2 ^ 64) : v < 2 ^ Lib.bitLen v := (bitLen_le_iff v _ hv (Lib.bitLen_le v 64 (by omega) hv)).1 (Nat.le_refl _)
theorem bitLen_ge (v : Nat) (hv : v < 2 ^ 64) (h0 : 0 < v) : 2 ^ (Lib.bitLen v - 1) ≤ v := by
  have hp := bitLen_pos v h0
  rcases Nat.lt_or_ge v (2 ^ (Lib.bitLen v - 1)) with h | h
  · have h64 := Lib.bitLen_le v 64 (by omega) hv
    have := (bitLen_le_iff v (Lib.bitLen v - 1) hv (by omega)).2 h
    omega
  · exact h
theorem bitLen_top (v : Nat) (hv : v < 2 ^ 64) (h0 : 0 < v) : v.testBit (Lib.bitLen v - 1) = true := by
  have h1 := bitLen_ge v hv h0
  have h2 := bitLen_lt v hv
  have hp := bitLen_pos v h0
  have e : Lib.bitLen v - 1 + 1 = Lib.bitLen v := by omega
  rw [← e, Nat.pow_succ] at h2
  rw [Nat.testBit_eq_decide_div_mod_eq]
  have : v / 2 ^ (Lib.bitLen v - 1) = 1 := by
    have hpos : 0 < 2 ^ (Lib.bitLen v - 1) := Nat.pow_pos (by omega)
    exact Nat.div_eq_of_lt_le (by omega) (by omega)
  rw [this]
  decide
theorem codeOf_length (v : Nat) : (codeOf v).length = Lib.bitLen (v + 1) - 1 + Lib.bitLen (v + 1) := by
  unfold codeOf
  rw [List.length_append, bitsOf_length, bitsOf_length]
theorem codeOf_len_le (v : Nat) (hv : v < 2 ^ 32) : (codeOf v).length ≤ 65 ∧ 1 ≤ (codeOf v).length := by
  have h1 := bitLen_pos (v + 1) (by omega)
  have h2 := Lib.bitLen_le (v + 1) 33 (by omega) (by omega)
  rw [codeOf_length]
  omega
theorem codeOf_low (v i : Nat) (hi : i < Lib.bitLen (v + 1) - 1) : bitF (codeOf v) i = false := by
  unfold codeOf
  rw [bitF_append, bitsOf_length, if_pos hi, bitF_bitsOf]
  simp
theorem codeOf_top (v : Nat) (hv : v < 2 ^ 32) : bitF (codeOf v) (Lib.bitLen (v + 1) - 1) = true := by
  unfold codeOf
  have h1 := bitLen_pos (v + 1) (by omega)
  rw [bitF_append, bitsOf_length, if_neg (by omega), bitF_bitsOf, Nat.sub_self]
  have h := bitLen_top (v + 1) (by omega) (by omega)
  simp only [Nat.sub_zero, h, Bool.and_true]
  exact decide_eq_true (by omega)
/-- how many zeros a code has ahead, whatever stands behind -/
theorem zr_code (v : Nat) (t : List Bool) (hv : v < 2 ^ 32) : zr (codeOf v ++ t) = Lib.bitLen (v + 1) - 1 := by
  have h1 := bitLen_pos (v + 1) (by omega)
  have h2 := Lib.bitLen_le (v + 1) 33 (by omega) (by omega)
  have hl := codeOf_length v
  refine zr_of _ _ (by omega) (fun j hj => ?_) (fun _ => ?_)
  · rw [List.length_append, bitF_append, if_pos (by omega)]
    exact ⟨by omega, codeOf_low v j hj⟩
  · rw [bitF_append, if_pos (by omega)]
    exact codeOf_top v hv
theorem gc_code (p t : List Bool) (v : Nat) (hv : v < 2 ^ 32) : gc (p ++ (codeOf v ++ t)) p.length = (v, p.length + (codeOf v).length, 0) := by
  have h1 := bitLen_pos (v + 1) (by omega)
  have h2 := Lib.bitLen_le (v + 1) 33 (by omega) (by omega)
  have hl := codeOf_length v
  have hd : (p ++ (codeOf v ++ t)).drop p.length = codeOf v ++ t := by simp
  have hz := zr_code v t hv
  have hn : ((p ++ (codeOf v ++ t)).drop (p.length + (Lib.bitLen (v + 1) - 1))).take (Lib.bitLen (v + 1) - 1 + 1) = bitsOf (Lib.bitLen (v + 1)) (v + 1) := by
    rw [← List.drop_drop, hd]
    unfold codeOf
    rw [List.append_assoc, List.drop_append_of_le_length (by rw [bitsOf_length]; omega), List.drop_of_length_le (by rw [bitsOf_length]; omega), List.nil_append, List.take_append_of_le_length (by rw [bitsOf_length]; omega), List.take_of_length_le (by rw [bitsOf_length]; omega)]
  have hnum : num (bitsOf (Lib.bitLen (v + 1)) (v + 1)) = v + 1 := by rw [num_bitsOf, Nat.mod_eq_of_lt (bitLen_lt (v + 1) (by omega))]
  unfold gc
  rw [hd, hz, hn, hnum, if_neg (by omega), if_neg (by rw [List.length_append, List.length_append]; omega), if_neg (by omega)]
  have e1 : v + 1 - 1 = v := by omega
  have e2 : p.length + 2 * (Lib.bitLen (v + 1) - 1) + 1 = p.length + (codeOf v).length := by omega
  rw [e1, e2]
/-- an answer that is just these bits -/
def BGood (w : World) (l : List Bool) (n N : Nat) (e : Ending) (w' : World) : Prop :=
  ∃ A c, e = .returned (.tuple #[.agg #[.slice A n c, .int .i64 (N : Int)], .int .i64 0]) ∧ IsB w' (.agg #[.slice A n c, .int .i64 (N : Int)]) l ∧ Below w.heap.size w w'
theorem BOut.good {w w' : World} {B : Nat} {l : List Bool} {n N : Nat} {e : Ending} (h : BOut w (JQ B l) e w') (hl : l.length ≤ 65536) (hn : n = (pack l).length) (hN : N = l.length) : BGood w l n N e w' := by
  obtain ⟨A, n', c, N', er, rfl, hb, ⟨_, rfl, hNw⟩ | ⟨h2, _⟩⟩ := h
  · have hB := hNw.isB
    have hB' := hB
    obtain ⟨A1, c1, e1, _, _⟩ := hB'
    simp only [Value.agg.injEq, Array.mk.injEq, List.cons.injEq, Value.slice.injEq, Value.int.injEq, and_true, true_and] at e1
    obtain ⟨⟨rfl, rfl, rfl⟩, rfl⟩ := e1
    subst hn hN
    exact ⟨_, _, rfl, hB, hb⟩
  · omega
theorem put_good (v : Value) (l l' : List Bool) (xi wi : Int) (x width n N : Nat) (w : World) (h : IsB w v l) (hxi : xi = (x : Int)) (hwi : wi = (width : Int)) (hw : width ≤ 64) (hx : x < 2 ^ width) (hl' : l' = l ++ bitsOf width x) (hl : l'.length ≤ 65536) (hn : n = (pack l').length) (hN : N = l'.length) :
    Calls Try.prog 89 #[v, .int .u64 xi, .int .i64 wi] w (BGood w l' n N) := by
  subst hxi hwi hl'
  exact (put_any v l x width w h hw hx).mono fun _ _ h => h.good hl hn hN
def liveC : List Bool := [true, false, false, true, false, true, false, true, false, true]
theorem live1 : [true] = [] ++ codeOf 0 := by decide +kernel
theorem live2 : [true, false, false, true, false, true] = [true] ++ codeOf 4 := by decide +kernel
theorem live3 : liveC = [true, false, false, true, false, true] ++ bitsOf 4 5 := by decide +kernel
theorem live4 : gc liveC 1 = (4, 6, 0) := by decide +kernel
theorem live5 : pack liveC = [149, 64] := by decide +kernel
theorem live_ad {w : World} {A : Option Addr} {c : Nat} {N : Int} (h : IsB w (.agg #[.slice A 2 c, .int .i64 N]) liveC) : ∃ ad, A = some ad ∧ w.cell? (ad.add 0) = some (.int .u8 149) ∧ w.cell? (ad.add 1) = some (.int .u8 64) := by
  obtain ⟨A5, c5, e5, hr5, _⟩ := h
  simp only [Value.agg.injEq, Array.mk.injEq, List.cons.injEq, Value.slice.injEq, Value.int.injEq, and_true, true_and] at e5
  obtain ⟨⟨rfl, _, _⟩, _⟩ := e5
  rw [live5] at hr5
  obtain ⟨ad, rfl, hc⟩ := hr5.2.2 (by simp)
  exact ⟨ad, rfl, hc 0 149 rfl, hc 1 64 rfl⟩
end Go.Proofs.Ytgelgbfnioagbaa
/- Wi -/
namespace Go.Proofs.Ytgelgbfnioagbaa
open Go.RowKit
/-- an answer that is no bits, and an error -/
def BBad (w : World) (er : Int) (e : Ending) (w' : World) : Prop := e = .returned (.tuple #[zeroB, .int .i64 er]) ∧ Below w.heap.size w w'
theorem bad_below {w w1 : World} {v0 v1 : Value} (h : Two w w.heap.size v0 v1 w1) (a b : Value) : Below w.heap.size w ((w1.setCell ⟨w.heap.size + 1, 0, none⟩ a).setCell ⟨w.heap.size + 1, 1, none⟩ b) :=
  (h.2.2.setCell (by simp) _).setCell (by simp) _
set_option maxHeartbeats 400000 in
theorem put_bad1 (A : Option Addr) (n c : Nat) (N v width : Int) (bs : List Nat) (w : World) (hr : Hid (Rd w A n bs)) (hok : Hid (okB bs N = false)) :
    Calls Try.prog 89 #[.agg #[.slice A n c, .int .i64 N], .int .u64 v, .int .i64 width] w (BBad w 1) := by
  go_enter Try.func89, Try.ntmps89
  go_wp2_with fail
  refine (check_no _ _ _ _ bs _ ((hr.out.alloc _).alloc _) hok.out).mono ?_
  rintro e w1 ⟨rfl, hb1⟩
  have H1 := Lib.hid ((Two.start w (.slice A n c) (.int .i64 N)).next hb1)
  obtain ⟨y0, y1, y2, y3⟩ := H1.out.res
  clear hb1
  go_wp2
  exact bodyPost_ret (v := .tuple #[zeroB, .int .i64 1]) (by simp [results, Try.results89, go_sem, y0, y1, zeroB]) rfl ⟨rfl, bad_below H1.out _ _⟩
set_option maxHeartbeats 400000 in
theorem put_bad2 (A : Option Addr) (n c : Nat) (N v width : Int) (bs : List Nat) (w : World) (hr : Hid (Rd w A n bs)) (hok : Hid (okB bs N = true)) (hw : Hid (¬ (0 ≤ width ∧ width ≤ 64))) :
    Calls Try.prog 89 #[.agg #[.slice A n c, .int .i64 N], .int .u64 v, .int .i64 width] w (BBad w 1) := by
  go_enter Try.func89, Try.ntmps89
  go_wp2_with fail
  refine (check_yes _ _ _ _ bs _ ((hr.out.alloc _).alloc _) hok.out).mono ?_
  rintro e w1 ⟨rfl, hb1⟩
  have H1 := Lib.hid ((Two.start w (.slice A n c) (.int .i64 N)).next hb1)
  obtain ⟨y0, y1, y2, y3⟩ := H1.out.res
  clear hb1
  go_wp2_with (go_at_call 85; refine (isWidth_no _ _ hw.out).mono ?_; rintro e w' ⟨rfl, rfl⟩)
  exact bodyPost_ret (v := .tuple #[zeroB, .int .i64 1]) (by simp [results, Try.results89, go_sem, y0, y1, zeroB]) rfl ⟨rfl, bad_below H1.out _ _⟩
set_option maxHeartbeats 400000 in
theorem put_bad3 (A : Option Addr) (n c : Nat) (N : Int) (v k : Nat) (width : Int) (bs : List Nat) (w : World) (hr : Hid (Rd w A n bs)) (hok : Hid (okB bs N = true)) (h0 : 0 ≤ width) (h64 : width ≤ 64) (hv : Hid (v < 2 ^ 64)) (hk : Hid (k = Lib.bitLen v)) (hkw : width < (k : Int)) :
    Calls Try.prog 89 #[.agg #[.slice A n c, .int .i64 N], .int .u64 (v : Int), .int .i64 width] w (BBad w 1) := by
  go_enter Try.func89, Try.ntmps89
  go_wp2_with fail
  refine (check_yes _ _ _ _ bs _ ((hr.out.alloc _).alloc _) hok.out).mono ?_
  rintro e w1 ⟨rfl, hb1⟩
  have H1 := Lib.hid ((Two.start w (.slice A n c) (.int .i64 N)).next hb1)
  obtain ⟨y0, y1, y2, y3⟩ := H1.out.res
  clear hb1
  go_wp2_with (first
    | (go_at_call 85; refine (isWidth_yes _ _ h0 h64).mono ?_; rintro e w' ⟨rfl, rfl⟩)
    | (go_at_call 92; refine (len64_nat v k _ hv.out hk.out).mono ?_; rintro e w' ⟨rfl, rfl⟩))
  exact bodyPost_ret (v := .tuple #[zeroB, .int .i64 1]) (by simp [results, Try.results89, go_sem, y0, y1, zeroB]) rfl ⟨rfl, bad_below H1.out _ _⟩
/-- the text of bytes -/
def strOf (bs : List Nat) : ByteArray := (bs.map fun n => ((n : Nat) : Int)).foldl (fun r n => r.push (UInt8.ofNat n.toNat)) ByteArray.empty
theorem run_str {w : World} {A : Option Addr} {n : Nat} {bs : List Nat} (c : Nat) (h : Rd w A n bs) : (convert 23 9 (.slice A n c)).run Try.prog w = .ok (.string (strOf bs)) w := by
  rw [run_convert_bytes_string w 23 9 5 A n c Try.underlying23 Try.underlying5 Try.underlying9]
  obtain ⟨rfl, hlt, hc⟩ := h
  cases A with
  | none =>
    have h0 : bs = [] := by
      cases bs with
      | nil => rfl
      | cons b bs =>
        obtain ⟨ad, e, _⟩ := hc (by simp)
        cases e
    subst h0
    rfl
  | some ad =>
    have hload : (loadCells ad bs.length).run Try.prog w = .ok ((bs.map fun n => ((n : Nat) : Int)).map (Value.int .u8)).toArray w := by
      have := run_loadCells_list (P := Try.prog) w ad (bs.map byteV) (fun j v hv => by
        rw [List.getElem?_map] at hv
        obtain ⟨x, hx, rfl⟩ := Option.map_eq_some_iff.1 hv
        have hpos : 0 < bs.length := by
          have := (List.getElem?_eq_some_iff.1 hx).1
          omega
        obtain ⟨ad', e, hc'⟩ := hc hpos
        injection e with e
        subst e
        exact hc' j x hx)
      rw [List.length_map] at this
      rw [this, List.map_map]
      rfl
    exact run_bytesToString w ad _ c _ hload
set_option maxHeartbeats 400000 in
theorem same_yes (A1 A2 : Option Addr) (n1 n2 c1 c2 : Nat) (N : Int) (bs : List Nat) (w : World) (h1 : Hid (Rd w A1 n1 bs)) (h2 : Hid (Rd w A2 n2 bs)) :
    Calls Try.prog 18 #[.agg #[.slice A1 n1 c1, .int .i64 N], .agg #[.slice A2 n2 c2, .int .i64 N]] w fun e w' => e = .returned (.bool true) ∧ Below w.heap.size w w' := by
  have e1 := run_str c1 ((h1.out.alloc (.cells #[.slice A1 n1 c1, .int .i64 N] 25)).alloc (.cells #[.slice A2 n2 c2, .int .i64 N] 25))
  have e2 := run_str c2 ((h2.out.alloc (.cells #[.slice A1 n1 c1, .int .i64 N] 25)).alloc (.cells #[.slice A2 n2 c2, .int .i64 N] 25))
  go_enter Try.func18, Try.ntmps18
  go_wp2
  go_ret
  exact ⟨rfl, ((Below.refl _ _).alloc (Nat.le_refl _) _).alloc (by simp) _⟩
/-- the sum of the lengths, as the program reckons it -/
def lenW (xs : List It) : Int := xs.foldl (fun a x => wrap64 (a + (x.n : Int))) 0
theorem lenW_snoc (xs : List It) (x : It) : lenW (xs ++ [x]) = wrap64 (lenW xs + (x.n : Int)) := by simp [lenW]
end Go.Proofs.Ytgelgbfnioagbaa
/- Split -/
namespace Go.Proofs.Ytgelgbfnioagbaa
open Go.RowKit
theorem RdL.one {w : World} {g : Nat} {A : Option Addr} {n c : Nat} {N : Int} {bs : List Nat} {t : TypeId} (h : Rd w A n bs) (hb : Blk w g t #[.slice A n c, .int .i64 N]) :
    RdL w (some ⟨g, 0, none⟩) 1 [⟨A, n, c, N, bs⟩] := by
  refine ⟨rfl, fun _ => ⟨_, rfl, fun j x hx => ?_⟩⟩
  match j, hx with
  | 0, hx =>
    simp only [List.getElem?_cons_zero, Option.some.injEq] at hx
    subst hx
    refine ⟨?_, ?_, h⟩
    · rw [add_own, hb.cell]; rfl
    · rw [add_own]; exact (hb.cell 1).trans rfl
theorem wrap64_nat (n : Nat) (hn : n ≤ maxLen) : wrap64 (0 + (n : Int)) = (n : Int) := by unfold maxLen at hn; unfold wrap64; omega
theorem lenW_nil : lenW [] = 0 := rfl
theorem lenW_one (x : It) (hn : x.n ≤ maxLen) : lenW [x] = (x.n : Int) := by
  have h := lenW_snoc [] x
  rw [List.nil_append, lenW_nil, wrap64_nat x.n hn] at h
  exact h
theorem mod_is (x : Int) (m : Nat) (h1 : 1 ≤ m) (h65 : m ≤ 65) : ∃ K : Nat, K < m ∧ (wrap64 (x.tmod (m : Int) + (m : Int))).tmod (m : Int) = (K : Int) := by
  have a1 := Int.tmod_lt_of_pos x (show (0 : Int) < m by omega)
  have a2 : -(m : Int) < x.tmod (m : Int) := by
    have := Int.lt_tmod_of_pos x (show (0 : Int) < m by omega)
    omega
  generalize x.tmod (m : Int) = t at a1 a2
  have e : wrap64 (t + (m : Int)) = t + m := by unfold wrap64; omega
  rw [e, Int.tmod_eq_emod_of_nonneg (by omega)]
  have b1 := Int.emod_nonneg (t + m) (show (m : Int) ≠ 0 by omega)
  have b2 := Int.emod_lt_of_pos (t + m) (show (0 : Int) < m by omega)
  exact ⟨((t + m) % (m : Int)).toNat, by omega, by omega⟩
theorem mod65 (x : Int) : ∃ W : Nat, W ≤ 64 ∧ (wrap64 (x.tmod 65 + 65)).tmod 65 = (W : Int) := by
  obtain ⟨K, h, e⟩ := mod_is x 65 (by omega) (by omega)
  exact ⟨K, by omega, e⟩
theorem modW (x : Int) (W : Nat) (h : W ≤ 64) : ∃ C : Nat, C ≤ W ∧ (wrap64 (wrap64 (x.tmod ((W : Int) + 1) + (W : Int)) + 1)).tmod ((W : Int) + 1) = (C : Int) := by
  have a1 := Int.tmod_lt_of_pos x (show (0 : Int) < (W : Int) + 1 by omega)
  have a2 := Int.lt_tmod_of_pos x (show (0 : Int) < (W : Int) + 1 by omega)
  generalize x.tmod ((W : Int) + 1) = t at a1 a2
  have e : wrap64 (wrap64 (t + (W : Int)) + 1) = t + W + 1 := by unfold wrap64; omega
  rw [e, Int.tmod_eq_emod_of_nonneg (by omega)]
  have b1 := Int.emod_nonneg (t + W + 1) (show (W : Int) + 1 ≠ 0 by omega)
  have b2 := Int.emod_lt_of_pos (t + W + 1) (show (0 : Int) < (W : Int) + 1 by omega)
  exact ⟨((t + W + 1) % ((W : Int) + 1)).toNat, by omega, by omega⟩
theorem mask_is (v : Int) (W : Nat) (h0 : 0 ≤ v) (h1 : v ≤ 18446744073709551615) (hW : W < 64) :
    ∃ V : Nat, bits BinOp.and IntKind.u64 v (IntKind.u64.wrap (IntKind.u64.wrap (2 ^ W) - 1)) = (V : Int) ∧ V < 2 ^ W := by
  obtain ⟨x, rfl⟩ : ∃ x : Nat, v = (x : Int) := ⟨v.toNat, by omega⟩
  have hp : 2 ^ W ≤ 2 ^ 63 := Nat.pow_le_pow_right (by omega) (by omega)
  have hp1 : 0 < 2 ^ W := Nat.pow_pos (by omega)
  have e1 : ((2 : Int) ^ W) = ((2 ^ W : Nat) : Int) := by simp
  have e2 : IntKind.u64.wrap (IntKind.u64.wrap (2 ^ W) - 1) = ((2 ^ W - 1 : Nat) : Int) := by
    rw [e1]
    generalize 2 ^ W = q at hp hp1
    rw [IntKind.wrap_u64, IntKind.wrap_u64]
    omega
  refine ⟨x &&& (2 ^ W - 1), ?_, ?_⟩
  · rw [e2, u64_and_nat x _ (by omega) (by omega)]
  · rw [Nat.and_two_pow_sub_one_eq_mod]
    exact Nat.mod_lt _ hp1
theorem split_set {w w4 : World} {b g : Nat} {v0 v1 : Value} (h : One w b v0 v1 w4) (hg : b < g) (x y : Value) : One w b v0 v1 ((w4.setCell ⟨g, 0, none⟩ x).setCell ⟨g, 1, none⟩ y) :=
  ⟨(h.1.far (by simp; omega) _).far (by simp; omega) _, (h.2.setCell (by simp; omega) _).setCell (by simp; omega) _⟩
theorem IsB.rd {w : World} {A : Option Addr} {n c : Nat} {N : Int} {l : List Bool} (h : IsB w (.agg #[.slice A n c, .int .i64 N]) l) : Rd w A n (pack l) := by
  obtain ⟨A1, c1, e1, hr, _⟩ := h
  simp only [Value.agg.injEq, Array.mk.injEq, List.cons.injEq, Value.slice.injEq, Value.int.injEq, and_true, true_and] at e1
  obtain ⟨⟨rfl, rfl, rfl⟩, rfl⟩ := e1
  exact hr
theorem low_is (V C : Nat) (h0 : 1 ≤ C) (h64 : C ≤ 64) : IntKind.u64.wrap ((V : Int) * 2 ^ (64 - C)) / 2 ^ (64 - C) = ((V % 2 ^ C : Nat) : Int) := by
  have e1 : (V : Int) * 2 ^ (64 - C) = ((V * 2 ^ (64 - C) : Nat) : Int) := by simp
  have e2 : IntKind.u64.wrap ((V * 2 ^ (64 - C) : Nat) : Int) = ((V * 2 ^ (64 - C) % 2 ^ 64 : Nat) : Int) := by
    generalize V * 2 ^ (64 - C) = q
    rw [IntKind.wrap_u64]
    omega
  rw [e1, e2]
  have e3 : ((V * 2 ^ (64 - C) % 2 ^ 64 : Nat) : Int) / 2 ^ (64 - C) = ((V * 2 ^ (64 - C) % 2 ^ 64 / 2 ^ (64 - C) : Nat) : Int) := by simp
  rw [e3]
  congr 1
  have e4 : (2 : Nat) ^ 64 = 2 ^ C * 2 ^ (64 - C) := by rw [← Nat.pow_add, show C + (64 - C) = 64 by omega]
  rw [e4, Nat.mul_mod_mul_right, Nat.mul_div_cancel _ (Nat.pow_pos (by omega))]
end Go.Proofs.Ytgelgbfnioagbaa
/- Ra -/
namespace Go.Proofs.Ytgelgbfnioagbaa
open Go.RowKit
/-- the bit at a place of bytes -/
def bitR (bs : List Nat) (i : Nat) : Nat := bs.getD (i / 8) 0 / 2 ^ (7 - i % 8) % 2
theorem bitR_lt (bs : List Nat) (i : Nat) : bitR bs i < 2 := Nat.mod_lt _ (by omega)
theorem bitR_pack (l : List Bool) (i : Nat) (hi : i < 8 * (pack l).length) : bitR (pack l) i = (bitF l i).toNat := by
  unfold bitR
  have hp := pack_length l
  have hg : (pack l).getD (i / 8) 0 = byteF (bitF l) (i / 8) := packF_getD _ _ _ (by omega)
  rw [hg, byteF_bit]
theorem okB_bits (bs : List Nat) (M : Nat) (hlt : ∀ x ∈ bs, x < 256) (hM : M ≤ 65536) (hlen : bs.length = (M + 7) / 8) :
    okB bs (M : Int) = true ↔ ∀ i, M ≤ i → i < 8 * bs.length → bitR bs i = 0 := by
  constructor
  · intro h i h1 h2
    obtain ⟨l, _, rfl, e⟩ := okB_some h hlt
    rw [bitR_pack l i h2, bitF_of_ge (by omega)]
    rfl
  · intro h
    refine decide_eq_true ⟨by omega, by omega, by omega, fun h8 => ?_⟩
    have e8 : ((M : Int) % 8).toNat = M % 8 := by omega
    rw [e8]
    have hz : bs.getD (bs.length - 1) 0 % 2 ^ (8 - M % 8) = 0 := by
      refine Nat.eq_of_testBit_eq fun b => ?_
      rw [Nat.testBit_mod_two_pow, Nat.zero_testBit]
      by_cases hb : b < 8 - M % 8
      · have hi := h (8 * (bs.length - 1) + (7 - b)) (by omega) (by omega)
        unfold bitR at hi
        have e1 : (8 * (bs.length - 1) + (7 - b)) / 8 = bs.length - 1 := by omega
        have e2 : 7 - (8 * (bs.length - 1) + (7 - b)) % 8 = b := by omega
        rw [e1, e2] at hi
        rw [Nat.testBit_eq_decide_div_mod_eq, hi]
        simp
      · simp [hb]
    have e : (256 : Nat) = 2 ^ (8 - M % 8) * 2 ^ (M % 8) := by rw [← Nat.pow_add, show 8 - M % 8 + M % 8 = 8 by omega]
    rw [e, Nat.mul_mod_mul_right, hz, Nat.zero_mul]
set_option maxHeartbeats 400000 in
theorem rbit_core (A : Addr) (len cap : Nat) (N : Int) (c : Int) (i : Nat) (w : World) (_hi : i / 8 < len) (_hi2 : i ≤ 600000) (_h0 : 0 ≤ c) (_h1 : c ≤ 255)
    (hlt : (A.add (i / 8)).block < w.heap.size)
    (hc : w.cell? (A.add (i / 8)) = some (.int .u8 c)) :
    Calls Try.prog 76 #[.agg #[.slice (some A) len cap, .int .i64 N], .int .i64 (i : Int)] w fun e w' => e = .returned (.int .u64 (bits BinOp.and IntKind.u64 (IntKind.u64.wrap (c / 2 ^ (7 - i % 8))) 1)) ∧ Below w.heap.size w w' := by
  go_enter Try.func76, Try.ntmps76
  go_wp2
  go_ret
  exact ⟨rfl, (Below.refl _ _).alloc (Nat.le_refl _) _⟩
theorem rbit_any (A : Option Addr) (n c : Nat) (N x : Int) (bs : List Nat) (i t : Nat) (w : World) (hr : Rd w A n bs) (hi : i < 8 * n) (hi2 : i ≤ 600000) (hx : x = (i : Int)) (ht : t = bitR bs i) :
    Calls Try.prog 76 #[.agg #[.slice A n c, .int .i64 N], .int .i64 x] w fun e w' => e = .returned (.int .u64 (t : Int)) ∧ Below w.heap.size w w' := by
  subst hx ht
  obtain ⟨ad, rfl, hb, h256, hc⟩ := hr.at_ (k := i / 8) (by omega)
  refine (rbit_core ad _ c _ _ i w (by omega) hi2 (by omega) (by omega) (by rw [block_of_add]; exact hb) hc).mono ?_
  rintro e w' ⟨rfl, hbl⟩
  refine ⟨?_, hbl⟩
  rw [shr_byte _ _ h256]
  rfl
set_option maxHeartbeats 400000 in
theorem rcheck_low (A : Option Addr) (len cap : Nat) (N : Int) (w : World) (h0 : N < 0 ∨ 65536 < N) :
    Calls Try.prog 56 #[.agg #[.slice A len cap, .int .i64 N]] w fun e w' => e = .returned (.int .i64 1) ∧ Below w.heap.size w w' := by
  rcases h0 with h0 | h0
  · have d1 : decide (N < 0) = true := by simpa using h0
    go_enter Try.func56, Try.ntmps56
    go_wp2
    go_ret
    exact ⟨rfl, (Below.refl _ _).alloc (Nat.le_refl _) _⟩
  · have d1 : decide (N < 0) = false := by simp; omega
    have d2 : decide (65536 < N) = true := by simpa using h0
    go_enter Try.func56, Try.ntmps56
    go_wp2
    go_ret
    exact ⟨rfl, (Below.refl _ _).alloc (Nat.le_refl _) _⟩
set_option maxHeartbeats 400000 in
theorem rcheck_len (A : Option Addr) (len cap : Nat) (N : Int) (w : World)
    (h0 : 0 ≤ N) (h1 : N ≤ 65536) (h2 : ((len : Int) != (N + 7) / 8) = true) :
    Calls Try.prog 56 #[.agg #[.slice A len cap, .int .i64 N]] w fun e w' => e = .returned (.int .i64 1) ∧ Below w.heap.size w w' := by
  have d1 : decide (N < 0) = false := by simpa using h0
  have d2 : decide (65536 < N) = false := by simpa using h1
  go_enter Try.func56, Try.ntmps56
  go_wp2
  go_ret
  exact ⟨rfl, (Below.refl _ _).alloc (Nat.le_refl _) _⟩
/-- Check's loop tells ErrArg at a bit that is not 0 -/
def RC (w : World) (bs : List Nat) (M : Nat) (e : Ending) (w' : World) : Prop := e = .returned (.int .i64 (if okB bs (M : Int) then 0 else 1)) ∧ Below w.heap.size w w'
set_option maxHeartbeats 1000000 in
theorem rcheck_loop (A : Option Addr) (len cap M : Nat) (bs : List Nat) (w : World) (hr : Hid (Rd w A len bs))
    (h1 : M ≤ 65536) (h2 : ((len : Int) != ((M : Int) + 7) / 8) = false) (hlen : len ≤ 8192) (hM8 : M ≤ 8 * len) (hl : Hid (len = (M + 7) / 8)) :
    Calls Try.prog 56 #[.agg #[.slice A len cap, .int .i64 (M : Int)]] w (RC w bs M) := by
  have d1 : decide ((M : Int) < 0) = false := by simp
  have d2 : decide (65536 < (M : Int)) = false := by simp; omega
  have hiff := okB_bits bs M hr.out.2.1 h1 (by rw [hr.out.1]; exact hl.out)
  rw [hr.out.1] at hiff
  have HI := Lib.hid hiff
  clear hiff
  go_enter Try.func56, Try.ntmps56
  go_wp2
  go_loopw [3] (fun i wr => ∃ p : Nat, M ≤ p ∧ p ≤ 8 * len ∧ i = .int .i64 (p : Int) ∧ (∀ i, M ≤ i → i < p → bitR bs i = 0) ∧ One w w.heap.size (.slice A len cap) (.int .i64 (M : Int)) wr)
    (fun i _ => 8 * len - (intOf i).toNat)
  case atStart => exact ⟨M, Nat.le_refl _, hM8, rfl, fun i h1 h2 => by omega, One.start _ _ _⟩
  case round =>
    obtain ⟨p, hp0, hp1, rfl, hz, hone⟩ := hrel
    obtain ⟨c0, c1⟩ := hone.cells
    have HO := Lib.hid hone
    have HZ := Lib.hid hz
    clear hone hz
    by_cases hlt : p < 8 * len
    · have hrd := (hr.out.below (HO.out.2))
      have HRD := Lib.hid hrd
      clear hrd
      obtain ⟨t, ht⟩ : ∃ t, t = bitR bs p := ⟨_, rfl⟩
      have ht2 : t < 2 := by rw [ht]; exact bitR_lt _ _
      have HT := Lib.hid ht
      clear ht
      by_cases ht0 : t = 0
      · subst ht0
        go_wp2_with fail
        refine (rbit_any _ _ _ _ _ bs p 0 _ HRD.out hlt (by omega) rfl HT.out).mono ?_
        rintro e w2 ⟨rfl, hb2⟩
        have HO2 := Lib.hid (HO.out.next hb2)
        clear hb2
        go_wp2
        go_roundw
        case rel =>
          refine ⟨p + 1, by omega, by omega, by go_num, fun i h1 h2 => ?_, HO2.out⟩
          by_cases e : i = p
          · rw [e, ← HT.out]
          · exact HZ.out i h1 (by omega)
        case measure => simp [intOf]; omega
      · obtain rfl : t = 1 := by omega
        go_wp2_with fail
        refine (rbit_any _ _ _ _ _ bs p 1 _ HRD.out hlt (by omega) rfl HT.out).mono ?_
        rintro e w2 ⟨rfl, hb2⟩
        have HO2 := Lib.hid (HO.out.next hb2)
        clear hb2
        go_wp2
        go_ret
        refine ⟨?_, HO2.out.2⟩
        have hno : okB bs (M : Int) = false := by
          cases h : okB bs (M : Int)
          · rfl
          · have := HI.out.1 h p hp0 hlt
            rw [← HT.out] at this
            cases this
        rw [hno]
        rfl
    · go_wp2
      go_ret
      refine ⟨?_, HO.out.2⟩
      have hyes : okB bs (M : Int) = true := HI.out.2 fun i h1 h2 => HZ.out i h1 (by omega)
      rw [hyes]
      rfl
theorem rcheck_any (A : Option Addr) (len cap : Nat) (N : Int) (bs : List Nat) (w : World) (hr : Rd w A len bs) :
    Calls Try.prog 56 #[.agg #[.slice A len cap, .int .i64 N]] w fun e w' => e = .returned (.int .i64 (if okB bs N then 0 else 1)) ∧ Below w.heap.size w w' := by
  have hbs := hr.1
  by_cases h0 : N < 0 ∨ 65536 < N
  · have : okB bs N = false := decide_eq_false (by omega)
    rw [this]
    exact rcheck_low A len cap N w h0
  · by_cases h2 : ((len : Int) = (N + 7) / 8)
    · obtain ⟨M, rfl⟩ : ∃ M : Nat, N = (M : Int) := ⟨N.toNat, by omega⟩
      exact rcheck_loop A len cap M bs w (Lib.hid hr) (by omega) (by simpa using h2) (by omega) (by omega) (Lib.hid (by omega))
    · have : okB bs N = false := decide_eq_false (by omega)
      rw [this]
      exact rcheck_len A len cap N w (by omega) (by omega) (by simpa using h2)
theorem rcheck_yes (A : Option Addr) (len cap : Nat) (N : Int) (bs : List Nat) (w : World) (hr : Rd w A len bs) (h : okB bs N = true) :
    Calls Try.prog 56 #[.agg #[.slice A len cap, .int .i64 N]] w fun e w' => e = .returned (.int .i64 0) ∧ Below w.heap.size w w' := by
  have := rcheck_any A len cap N bs w hr
  rw [h] at this
  exact this
theorem rcheck_no (A : Option Addr) (len cap : Nat) (N : Int) (bs : List Nat) (w : World) (hr : Rd w A len bs) (h : okB bs N = false) :
    Calls Try.prog 56 #[.agg #[.slice A len cap, .int .i64 N]] w fun e w' => e = .returned (.int .i64 1) ∧ Below w.heap.size w w' := by
  have := rcheck_any A len cap N bs w hr
  rw [h] at this
  exact this
end Go.Proofs.Ytgelgbfnioagbaa
/- Rb -/
namespace Go.Proofs.Ytgelgbfnioagbaa
open Go.RowKit
/-- the slice v owns the bytes of l -/
def OwnB (w : World) (base : Nat) (v : Value) (l : List Bool) : Prop := w.ownsRow base 5 1 v (pack l).length ((pack l).map byteV)
theorem OwnB.nil_ (w : World) (base : Nat) : OwnB w base (.slice none 0 0) [] := World.ownsRow_nil w base 5 1
theorem OwnB.alloc {w : World} {base : Nat} {v : Value} {l : List Bool} (h : OwnB w base v l) (o : Obj) : OwnB (w.alloc o) base v l := World.ownsRow.alloc h o
theorem OwnB.rd {w : World} {base n c : Nat} {A : Option Addr} {l : List Bool} (h : OwnB w base (.slice A n c) l) : Rd w A n (pack l) ∧ n = (pack l).length := by
  have hf := h.2
  have hl := h.1
  rcases hf with ⟨e, h0⟩ | ⟨g, cap, cur, e, hb, hh, hnc, hcm, hcs, ht⟩
  · injection e with e1 e2 e3
    subst e1 e2
    refine ⟨⟨by omega, pack_lt _, fun h => by omega⟩, h0.symm⟩
  · injection e with e1 e2 e3
    subst e1
    refine ⟨⟨e2.symm, pack_lt _, fun _ => ⟨_, rfl, fun j x hx => ?_⟩⟩, e2⟩
    have := World.ownsRow.cells h (g := g) rfl j (byteV x) (by rw [List.getElem?_map, hx]; rfl)
    exact this
/-- the last byte, with one bit more -/
theorem push_byte (l : List Bool) (b : Bool) :
    byteF (bitF l) (l.length / 8) ||| b.toNat * 2 ^ (7 - l.length % 8) = byteF (bitF (l ++ [b])) (l.length / 8) := by
  have hb : b.toNat * 2 ^ (7 - l.length % 8) < 2 ^ 8 := by
    have h1 : b.toNat ≤ 1 := by cases b <;> decide
    have h2 : 2 ^ (7 - l.length % 8) ≤ 2 ^ 7 := Nat.pow_le_pow_right (by omega) (by omega)
    have h3 : b.toNat * 2 ^ (7 - l.length % 8) ≤ 1 * 2 ^ 7 := Nat.mul_le_mul h1 h2
    omega
  refine byteF_of_bits (Nat.or_lt_two_pow (n := 8) (byteF_lt _ _) hb) fun k hk => ?_
  rw [Nat.testBit_or, byteF_testBit, Nat.testBit_mul_two_pow, bitF_append]
  simp only [hk, decide_true, Bool.true_and]
  by_cases h1 : 8 * (l.length / 8) + (7 - k) < l.length
  · have h5 : b.toNat.testBit (k - (7 - l.length % 8)) = false := by
      refine Nat.testBit_lt_two_pow (Nat.lt_of_lt_of_le (m := 2) (by cases b <;> decide) ?_)
      exact Nat.pow_le_pow_right (n := 2) (i := 1) (by omega) (by omega)
    simp [h1, h5]
  · by_cases h2 : k = 7 - l.length % 8
    · have e : 8 * (l.length / 8) + (7 - k) - l.length = 0 := by omega
      have e2 : k - (7 - l.length % 8) = 0 := by omega
      have h3 : 7 - l.length % 8 ≤ k := by omega
      rw [bitF_of_ge (by omega), if_neg h1, e, e2]
      cases b <;> simp [bitF, h3]
    · have h3 : bitF [b] (8 * (l.length / 8) + (7 - k) - l.length) = false := bitF_of_ge (by show 1 ≤ _; omega)
      rw [bitF_of_ge (by omega), if_neg h1, h3]
      by_cases h4 : 7 - l.length % 8 ≤ k
      · have h5 : b.toNat.testBit (k - (7 - l.length % 8)) = false := by
          refine Nat.testBit_lt_two_pow (Nat.lt_of_lt_of_le (m := 2) (by cases b <;> decide) ?_)
          exact Nat.pow_le_pow_right (n := 2) (i := 1) (by omega) (by omega)
        simp [h5]
      · simp [h4]
theorem push_old (l : List Bool) (b : Bool) (j : Nat) (h : j < l.length / 8) : byteF (bitF l) j = byteF (bitF (l ++ [b])) j :=
  byteF_eq fun i _ hi => by rw [bitF_append, if_pos (by omega)]
/-- the bytes behind a push into the last byte -/
theorem push_same (l : List Bool) (b : Bool) (h : l.length % 8 ≠ 0) :
    (pack l).set (l.length / 8) (byteF (bitF l) (l.length / 8) ||| b.toNat * 2 ^ (7 - l.length % 8)) = pack (l ++ [b]) := by
  rw [push_byte]
  have e : ((l ++ [b]).length + 7) / 8 = (l.length + 7) / 8 := by rw [List.length_append]; simp; omega
  refine List.ext_getElem (by rw [List.length_set, pack_length, pack_length, e]) fun j h1 h2 => ?_
  rw [List.getElem_set]
  have hj : j < (l.length + 7) / 8 := by rw [pack_length, e] at h2; exact h2
  split
  · rename_i e'; subst e'; simp [pack, packF]
  · simp only [pack, packF, List.getElem_map, List.getElem_range]
    exact push_old l b j (by omega)
/-- .. and behind one into a new byte -/
theorem push_more (l : List Bool) (b : Bool) (h : l.length % 8 = 0) :
    (pack l ++ [0]).set (l.length / 8) (0 ||| b.toNat * 2 ^ (7 - l.length % 8)) = pack (l ++ [b]) := by
  have hz : byteF (bitF l) (l.length / 8) = 0 := by
    symm
    refine byteF_of_bits (by omega) fun k _ => ?_
    rw [bitF_of_ge (by omega)]
    simp
  have hb := push_byte l b
  rw [hz] at hb
  rw [hb]
  have e : ((l ++ [b]).length + 7) / 8 = (l.length + 7) / 8 + 1 := by rw [List.length_append]; simp; omega
  refine List.ext_getElem (by rw [List.length_set, List.length_append, pack_length, pack_length, e]; rfl) fun j h1 h2 => ?_
  have hj : j < (l.length + 7) / 8 + 1 := by rw [pack_length, e] at h2; exact h2
  rw [List.getElem_set]
  split
  · rename_i e'; subst e'; simp [pack, packF]
  · rename_i e'
    rw [List.getElem_append_left (by rw [pack_length]; omega)]
    simp only [pack, packF, List.getElem_map, List.getElem_range]
    exact push_old l b j (by omega)
/-- what push leaves -/
def PushPost (w : World) (base : Nat) (v : Value) (l : List Bool) (e : Ending) (w' : World) : Prop :=
  ∃ g n cap, e = .returned (.agg #[.slice (some ⟨g, 0, none⟩) n cap, .int .i64 ((l.length : Nat) : Int)]) ∧ OwnB w' base (.slice (some ⟨g, 0, none⟩) n cap) l ∧ w.grownBy w' v.ownBlock ∧ (v.ownBlock = some g ∨ w.heap.size ≤ g)
theorem push_or (x y k : Nat) (hx : x < 2) (hy : y < 256) (hk : k ≤ 7) : bits BinOp.or IntKind.u8 (y : Int) (IntKind.u64.wrap ((x : Int) * 2 ^ k) % 256) = ((y ||| x * 2 ^ k : Nat) : Int) := by
  have h2 : 2 ^ k ≤ 2 ^ 7 := Nat.pow_le_pow_right (by omega) hk
  have h3 : x * 2 ^ k ≤ 1 * 2 ^ 7 := Nat.mul_le_mul (by omega) h2
  have e : (x : Int) * 2 ^ k = ((x * 2 ^ k : Nat) : Int) := by simp
  rw [e]
  generalize x * 2 ^ k = q at h3
  rw [IntKind.wrap_u64]
  have e2 : ((q : Int) % 18446744073709551616 % 256) = (q : Int) := by omega
  rw [e2, u8_or_nat _ _ hy (by omega)]
set_option maxHeartbeats 1000000 in
theorem push_in (g n cap x y : Nat) (l : List Bool) (w : World) (hl : l.length ≤ 70000) (h8 : (((l.length : Int) % 8) == 0) = false) (hx : Hid (x < 2)) (hy : Hid (y < 256)) (hn : l.length / 8 < n) (hglt : g < w.heap.size)
    (hc : w.cell? ⟨g, l.length / 8, none⟩ = some (.int .u8 (y : Int))) (hf : w.frozen? ⟨g, l.length / 8, none⟩ = false) :
    Calls Try.prog 81 #[.agg #[.slice (some ⟨g, 0, none⟩) n cap, .int .i64 (l.length : Int)], .int .u64 (x : Int)] w fun e w' => e = .returned (.agg #[.slice (some ⟨g, 0, none⟩) n cap, .int .i64 ((l.length : Int) + 1)]) ∧
      ∃ o1 o2, (((w.setCell ⟨g, l.length / 8, none⟩ (.int .u8 ((y ||| x * 2 ^ (7 - l.length % 8) : Nat) : Int))).alloc o1).alloc o2).drew = w' := by
  go_enter Try.func81, Try.ntmps81
  go_wp2
  go_region
  all_goals go_wp2
  rw [push_or x y (7 - l.length % 8) hx.out hy.out (by omega)]
  exact bodyPost_ret (v := .agg #[.slice (some ⟨g, 0, none⟩) n cap, .int .i64 ((l.length : Int) + 1)]) (by simp [results, Try.results81, go_sem]) rfl ⟨rfl, _, _, rfl⟩
theorem ownB_set {w : World} {base g n cap : Nat} {l : List Bool} (h : OwnB w base (.slice (some ⟨g, 0, none⟩) n cap) l) (k x : Nat) (l' : List Bool) (hl : (pack l).set k x = pack l') (hlen : (pack l').length = n) :
    OwnB (w.setCell ⟨g, k, none⟩ (.int .u8 (x : Int))) base (.slice (some ⟨g, 0, none⟩) n cap) l' := by
  obtain ⟨h1, h2⟩ := h
  rcases h2 with ⟨e, _⟩ | ⟨g', cap', cur, e, hb, hh, hnc, hcm, hcs, ht⟩
  · cases e
  · simp only [Value.slice.injEq, Option.some.injEq, Addr.mk.injEq, and_true] at e
    obtain ⟨rfl, en, rfl⟩ := e
    rw [← en] at hnc ht
    refine ⟨by rw [List.length_map]; omega, .inr ⟨g, cap, cur.setIfInBounds k (.int .u8 (x : Int)), by rw [hlen], hb, Blk.set_ hh k _, by omega, hcm, by simpa using hcs, ?_⟩⟩
    rw [hlen, Array.toList_setIfInBounds, List.take_set, ht]
    have : ((pack l).map byteV).set k (.int .u8 (x : Int)) = (pack l').map byteV := by rw [← hl, List.map_set]; rfl
    exact this
theorem own_alloc2 {w : World} {base : Nat} {v : Value} {l : List Bool} (h : OwnB w base v l) (o1 o2 : Obj) : OwnB ((w.alloc o1).alloc o2).drew base v l := World.ownsRow.drew ((h.alloc o1).alloc o2)
theorem push_same_any (A : Option Addr) (n c : Nat) (l : List Bool) (b : Bool) (base : Nat) (w : World) (h : OwnB w base (.slice A n c) l) (hl : l.length ≤ 70000) (h8 : l.length % 8 ≠ 0) :
    Calls Try.prog 81 #[.agg #[.slice A n c, .int .i64 (l.length : Int)], .int .u64 ((b.toNat : Nat) : Int)] w (PushPost w base (.slice A n c) (l ++ [b])) := by
  obtain ⟨hr, hn⟩ := h.rd
  have hp := pack_length l
  obtain ⟨g, cap, hv, _, hlt⟩ := World.ownsRow.form h (by omega)
  simp only [Value.slice.injEq] at hv
  obtain ⟨rfl, _, _⟩ := hv
  obtain ⟨ad, e, hb, h256, hc⟩ := hr.at_ (k := l.length / 8) (by omega)
  injection e with e
  subst e
  rw [add_own] at hc
  have hg : (pack l).getD (l.length / 8) 0 = byteF (bitF l) (l.length / 8) := packF_getD _ _ _ (by omega)
  rw [hg] at hc h256
  have hfr : w.frozen? ⟨g, l.length / 8, none⟩ = false := by
    rcases h.2 with ⟨e, _⟩ | ⟨g', cap', cur, e, _, hh, _⟩
    · cases e
    · simp only [Value.slice.injEq, Option.some.injEq, Addr.mk.injEq, and_true] at e
      obtain ⟨rfl, _, _⟩ := e
      exact Blk.frozen hh _
  refine (push_in g n c b.toNat _ l w hl (by simp only [beq_eq_false_iff_ne]; omega) (Lib.hid (by cases b <;> decide)) (Lib.hid h256) (by omega) hb hc hfr).mono ?_
  rintro e w' ⟨rfl, o1, o2, rfl⟩
  have e1 : ((l ++ [b]).length : Int) = (l.length : Int) + 1 := by simp
  have hlen : (pack (l ++ [b])).length = n := by rw [pack_length, List.length_append]; simp; omega
  refine ⟨g, n, c, by rw [e1], own_alloc2 (ownB_set h _ _ _ (push_same l b h8) hlen) _ _, ?_, .inl rfl⟩
  exact only_drew (only_alloc (only_alloc (only_setCell (World.grownBy.refl _ _) (.inl rfl) _) _) _)
theorem Blk.ne_ {w : World} {g g' : Nat} {t t' : TypeId} {cs cs' : Array Value} (h : Blk w g t cs) (h' : Blk w g' t' cs') (hne : t ≠ t') : g ≠ g' := by
  rintro rfl
  unfold Blk at h h'
  rw [h] at h'
  injection h' with h'
  injection h' with _ ht
  exact hne ht
/-- what an append of one byte leaves, over two boxes -/
theorem push_form {w w1 : World} {base n c : Nat} {A : Option Addr} {v1 a1 r0 r1 : Value} {o : Obj} {bs : List Nat} (hn : bs.length = n) (hv : ∀ ad, A = some ad → ad.block < w.heap.size)
    (hown : w1.ownsRow base 5 1 v1 (n + 1) (bs.map byteV ++ [.int .u8 0]))
    (hg : (((w.alloc (.cells #[.slice A n c, a1] 25)).alloc (.cells #[r0, r1] 25)).alloc o).grownBy w1 (Value.slice A n c).ownBlock)
    (hat : v1.ownBlock = (Value.slice A n c).ownBlock ∨ v1.ownBlock = some (((w.alloc (.cells #[.slice A n c, a1] 25)).alloc (.cells #[r0, r1] 25)).alloc o).heap.size) :
    ∃ g cap, v1 = .slice (some ⟨g, 0, none⟩) (n + 1) cap ∧ w1.cell? ⟨g, n, none⟩ = some (.int .u8 0) ∧ w1.frozen? ⟨g, n, none⟩ = false ∧
      (w1.cell? ⟨w.heap.size, 0, none⟩ = some (.slice A n c) ∧ w1.cell? ⟨w.heap.size, 1, none⟩ = some a1 ∧ w1.frozen? ⟨w.heap.size, 0, none⟩ = false ∧ w1.frozen? ⟨w.heap.size, 1, none⟩ = false) ∧
      (w1.cell? ⟨w.heap.size + 1, 0, none⟩ = some r0 ∧ w1.cell? ⟨w.heap.size + 1, 1, none⟩ = some r1 ∧ w1.frozen? ⟨w.heap.size + 1, 0, none⟩ = false ∧ w1.frozen? ⟨w.heap.size + 1, 1, none⟩ = false) ∧
      (¬ g = w.heap.size ∧ ¬ g = w.heap.size + 1) ∧ ((Value.slice A n c).ownBlock = some g ∨ w.heap.size ≤ g) ∧ w.grownBy w1 (Value.slice A n c).ownBlock := by
  have hob : ∀ k, (Value.slice A n c).ownBlock = some k → k < w.heap.size := by
    intro k hk
    cases A with
    | none => simp [Value.ownBlock] at hk
    | some ad => simp only [Value.ownBlock, Option.some.injEq] at hk; have := hv ad rfl; omega
  obtain ⟨g, cap, hv1, hb1, hlt1⟩ := World.ownsRow.form hown (by omega)
  subst hv1
  have B0 := ((Blk.new w 25 #[.slice A n c, a1]).alloc (.cells #[r0, r1] 25)).alloc o
  have B1 := (Blk.newAt (w := w.alloc (.cells #[.slice A n c, a1] 25)) (g := w.heap.size + 1) (t := 25) (cs := #[r0, r1]) (by simp)).alloc o
  have C0 : Blk w1 w.heap.size 25 #[.slice A n c, a1] := (hg.block _ B0.lt (fun e => by have := hob _ e.symm; omega)).trans B0
  have C1 : Blk w1 (w.heap.size + 1) 25 #[r0, r1] := (hg.block _ B1.lt (fun e => by have := hob _ e.symm; omega)).trans B1
  have hcell := World.ownsRow.cells hown (g := g) rfl n (.int .u8 0) (by rw [List.getElem?_append_right (by rw [List.length_map]; omega), List.length_map, hn, Nat.sub_self]; rfl)
  rw [add_own] at hcell
  obtain ⟨cur, hblk⟩ : ∃ cur, Blk w1 g 5 cur := by
    rcases hown.2 with ⟨e, _⟩ | ⟨g', cap', cur, e, _, hh, _⟩
    · cases e
    · simp only [Value.slice.injEq, Option.some.injEq, Addr.mk.injEq, and_true] at e
      obtain ⟨rfl, _⟩ := e
      exact ⟨cur, hh⟩
  refine ⟨g, cap, rfl, hcell, hblk.frozen n, ⟨C0.cell 0, C0.cell 1, C0.frozen 0, C0.frozen 1⟩, ⟨C1.cell 0, C1.cell 1, C1.frozen 0, C1.frozen 1⟩, ⟨hblk.ne_ C0 (by decide), hblk.ne_ C1 (by decide)⟩, ?_, ?_⟩
  · rcases hat with e | e
    · exact .inl (by rw [← e]; rfl)
    · refine .inr ?_
      simp only [Value.ownBlock, Option.some.injEq] at e
      rw [e]
      simp
      omega
  · exact (only_alloc (only_alloc (only_alloc (World.grownBy.refl w _) _) _) _).trans hg
theorem push_news (w : World) (a0 a1 r0 r1 : Value) : ∀ j u, [Value.int .u8 0][j]? = some u → (((w.alloc (.cells #[a0, a1] 25)).alloc (.cells #[r0, r1] 25)).alloc (.cells #[.int .u8 0] 5)).cell? ((⟨w.heap.size + 1 + 1, 0, none⟩ : Addr).add j) = some u := by
  intro j u hj
  have := cell_one_new ((w.alloc (.cells #[a0, a1] 25)).alloc (.cells #[r0, r1] 25)) (.int .u8 0) 5 j u hj
  simpa using this
theorem new_setCell {a w : World} {row : Option Nat} (h : a.grownBy w row) {p : Addr} (hp : a.heap.size ≤ p.block) (u : Value) : a.grownBy (w.setCell p u) row :=
  ⟨h.os, h.tape, h.output, by simpa [World.setCell] using h.size, fun i hi hne => (Below.heap_setCell w p u i (by omega)).trans (h.block i hi hne)⟩
theorem row_set {w : World} {base g n cap : Nat} {bs : List Nat} (h : w.ownsRow base 5 1 (.slice (some ⟨g, 0, none⟩) n cap) n (bs.map byteV)) (k x : Nat) :
    (w.setCell ⟨g, k, none⟩ (.int .u8 (x : Int))).ownsRow base 5 1 (.slice (some ⟨g, 0, none⟩) n cap) n ((bs.set k x).map byteV) := by
  obtain ⟨h1, h2⟩ := h
  rcases h2 with ⟨e, _⟩ | ⟨g', cap', cur, e, hb, hh, hnc, hcm, hcs, ht⟩
  · cases e
  · simp only [Value.slice.injEq, Option.some.injEq, Addr.mk.injEq, and_true] at e
    obtain ⟨rfl, _, rfl⟩ := e
    refine ⟨by rw [List.length_map, List.length_set]; rw [List.length_map] at h1; exact h1, .inr ⟨g, cap, cur.setIfInBounds k (.int .u8 (x : Int)), rfl, hb, Blk.set_ hh k _, hnc, hcm, by simpa using hcs, ?_⟩⟩
    rw [Array.toList_setIfInBounds, List.take_set, ht, List.map_set]
    rfl
/-- what a push leaves that made a new byte -/
def PushNew (w : World) (base n : Nat) (bs : List Nat) (v : Value) (N x : Nat) (e : Ending) (w' : World) : Prop :=
  ∃ g cap, e = .returned (.agg #[.slice (some ⟨g, 0, none⟩) (n + 1) cap, .int .i64 ((N : Int) + 1)]) ∧ w'.ownsRow base 5 1 (.slice (some ⟨g, 0, none⟩) (n + 1) cap) (n + 1) ((bs.set (N / 8) x).map byteV) ∧ w.grownBy w' v.ownBlock ∧ (v.ownBlock = some g ∨ w.heap.size ≤ g)
set_option maxHeartbeats 1000000 in
theorem push_new (A : Option Addr) (n c x base : Nat) (bs : List Nat) (l : List Bool) (w : World) (hl : l.length ≤ 70000) (h8 : (((l.length : Int) % 8) == 0) = true) (hx : Hid (x < 2)) (hn : Hid (l.length / 8 = n)) (hbn : Hid (bs.length = n))
    (hown : Hid (w.ownsRow base 5 1 (.slice A n c) n (bs.map byteV))) (hbase : Hid (base ≤ w.heap.size)) (hv : Hid (∀ ad, A = some ad → ad.block < w.heap.size)) :
    Calls Try.prog 81 #[.agg #[.slice A n c, .int .i64 (l.length : Int)], .int .u64 (x : Int)] w (PushNew w base n (bs ++ [0]) (.slice A n c) l.length (x * 2 ^ (7 - l.length % 8))) := by
  have HN := Lib.hid (push_news w (.slice A n c) (.int .i64 (l.length : Int)) (.slice none 0 0) (.int .i64 0))
  obtain ⟨i0, hi0, hz0, hz1, hz2⟩ := info_parts info_u8
  go_enter Try.func81, Try.ntmps81
  go_wp2_with (at_builtin; refine wpList_append_own_at _ rfl (.tmp 10) (.tmp 11) 23 rfl base 5 i0 _ 1 1 Try.underlying23 hi0 hz0 hz1 hz2 rfl (by omega) (.slice A n c) n (bs.map byteV) rfl (((hown.out.alloc _).alloc _).alloc _) ⟨w.heap.size + 1 + 1, 0, none⟩ 1 1 [.int .u8 0] rfl rfl HN.out (by intro u hu; simp at hu; subst hu; rfl) (by have := hn.out; unfold maxLen; omega) (by have := hn.out; omega) (by have := hbase.out; simp; omega) ?_; intro v1 w1 hown1 hg1 _ hat1; obtain ⟨g, cap, rfl, hc, hf, ⟨b0, b1, b2, b3⟩, ⟨y0, y1, y2, y3⟩, ⟨n1, n2⟩, hat, hgr⟩ := push_form hbn.out hv.out hown1 hg1 hat1; have hc' : w1.cell? ⟨g, l.length / 8, none⟩ = some (.int .u8 0) := (by rw [hn.out]; exact hc); have hf' : w1.frozen? ⟨g, l.length / 8, none⟩ = false := (by rw [hn.out]; exact hf); have hln : l.length / 8 < n + 1 := (by have := hn.out; omega); clear hc hf; have HOWN := Lib.hid hown1; have HGR := Lib.hid hgr; have HAT := Lib.hid hat; clear hown1 hg1 hat1 hgr hat)
  go_region
  all_goals go_wp2
  have e0 : bits BinOp.or IntKind.u8 0 (IntKind.u64.wrap ((x : Int) * 2 ^ (7 - l.length % 8)) % 256) = ((x * 2 ^ (7 - l.length % 8) : Nat) : Int) := by
    have := push_or x 0 (7 - l.length % 8) hx.out (by omega) (by omega)
    rw [Nat.zero_or] at this
    exact this
  rw [e0]
  refine bodyPost_ret (v := .agg #[.slice (some ⟨g, 0, none⟩) (n + 1) cap, .int .i64 ((l.length : Int) + 1)]) (by simp [results, Try.results81, go_sem, y0, y1]) rfl ⟨g, cap, rfl, ?_, ?_, HAT.out⟩
  · have hbs : bs.map byteV ++ [.int .u8 0] = (bs ++ [0]).map byteV := by rw [List.map_append]; rfl
    have h1 := HOWN.out
    rw [hbs] at h1
    have h2 := row_set (ownsRow_setCell_other h1 (a := ⟨w.heap.size, 0, none⟩) (by simp [Value.ownBlock]; exact n1) (.slice (some ⟨g, 0, none⟩) (n + 1) cap)) (l.length / 8) (x * 2 ^ (7 - l.length % 8))
    have h3 := ownsRow_setCell_other h2 (a := ⟨w.heap.size, 1, none⟩) (by simp [Value.ownBlock]; exact n1) (.int .i64 ((l.length : Int) + 1))
    have h4 := ownsRow_setCell_other (ownsRow_setCell_other h3 (a := ⟨w.heap.size + 1, 0, none⟩) (by simp [Value.ownBlock]; exact n2) (.slice (some ⟨g, 0, none⟩) (n + 1) cap)) (a := ⟨w.heap.size + 1, 1, none⟩) (by simp [Value.ownBlock]; exact n2) (.int .i64 ((l.length : Int) + 1))
    exact World.ownsRow.drew h4
  · rcases HAT.out with e | e
    · have hg := HGR.out
      rw [e] at hg ⊢
      exact only_drew (only_setCell (only_setCell (only_setCell (only_setCell (only_setCell hg (.inr (by simp)) _) (.inl rfl) _) (.inr (by simp)) _) (.inr (by simp)) _) (.inr (by simp)) _)
    · exact only_drew (new_setCell (new_setCell (new_setCell (new_setCell (new_setCell HGR.out (by simp) _) (by simpa using e) _) (by simp) _) (by simp) _) (by simp) _)
theorem OwnB.lt {w : World} {base n c : Nat} {A : Option Addr} {l : List Bool} (h : OwnB w base (.slice A n c) l) : ∀ ad, A = some ad → ad.block < w.heap.size := by
  intro ad e
  subst e
  exact (World.ownsRow.lt h ad.block rfl).2
theorem push_any (A : Option Addr) (n c : Nat) (l : List Bool) (N : Int) (b : Bool) (t base : Nat) (w : World) (h : OwnB w base (.slice A n c) l) (hN : N = (l.length : Int)) (ht : t = b.toNat) (hl : l.length ≤ 70000) (hbase : base ≤ w.heap.size) :
    Calls Try.prog 81 #[.agg #[.slice A n c, .int .i64 N], .int .u64 (t : Int)] w (PushPost w base (.slice A n c) (l ++ [b])) := by
  subst hN ht
  by_cases h8 : l.length % 8 = 0
  · have hn := h.rd.2
    have hp := pack_length l
    have hown := h
    unfold OwnB at hown
    rw [← hn] at hown
    refine (push_new A n c b.toNat base (pack l) l w hl (by simp only [beq_iff_eq]; omega) (Lib.hid (by cases b <;> decide)) (Lib.hid (by omega)) (Lib.hid hn.symm) (Lib.hid hown) (Lib.hid hbase) (Lib.hid h.lt)).mono ?_
    rintro e w' ⟨g, cap, rfl, ho, hg, hat⟩
    have e1 : ((l ++ [b]).length : Int) = (l.length : Int) + 1 := by simp
    have e2 := push_more l b h8
    rw [Nat.zero_or] at e2
    rw [e2] at ho
    have hlen : n + 1 = (pack (l ++ [b])).length := by rw [pack_length, List.length_append]; simp; omega
    refine ⟨g, n + 1, cap, by rw [e1], ?_, hg, hat⟩
    unfold OwnB
    rw [← hlen]
    exact ho
  · exact push_same_any A n c l b base w h hl h8
end Go.Proofs.Ytgelgbfnioagbaa
/- Rc -/
namespace Go.Proofs.Ytgelgbfnioagbaa
open Go.RowKit
theorem own_ne {w : World} {base g : Nat} {v : Value} {l : List Bool} {t : TypeId} {cs : Array Value} (h : OwnB w base v l) (hb : Blk w g t cs) (ht : 5 ≠ t) : v.ownBlock ≠ some g := by
  rcases h.2 with ⟨rfl, _⟩ | ⟨g', cap, cur, rfl, _, hh, _⟩
  · simp [Value.ownBlock]
  · intro e
    simp only [Value.ownBlock, Option.some.injEq] at e
    subst e
    exact Blk.ne_ (t := 5) hh hb ht rfl
theorem Blk.row {w w' : World} {g : Nat} {t : TypeId} {cs : Array Value} {row : Option Nat} (h : Blk w g t cs) (hb : w.grownBy w' row) (hg : row ≠ some g) : Blk w' g t cs := (hb.block g h.lt (fun e => hg e.symm)).trans h
theorem OwnB.keep {w w' : World} {base : Nat} {v : Value} {l : List Bool} (h : OwnB w base v l) (hb : Below w.heap.size w w') : OwnB w' base v l :=
  World.ownsRow.kept h (only_of_below hb none) (by cases hv : v.ownBlock with | none => exact .inl rfl | some k => exact .inr (by simp))
/-- what the outer loop knows -/
def RO (w : World) (g7 : Nat) (l : List Bool) (wr : World) : Prop :=
  Blk wr w.heap.size 25 #[.slice none 0 0, .int .i64 0] ∧ Below w.heap.size w wr ∧
  ∃ A n c, Blk wr g7 25 #[.slice A n c, .int .i64 ((l.length : Nat) : Int)] ∧ OwnB wr w.heap.size (.slice A n c) l
theorem RO.alloc {w wr : World} {g7 : Nat} {l : List Bool} (h : RO w g7 l wr) (o : Obj) : RO w g7 l (wr.alloc o) := by
  obtain ⟨h1, h2, A, n, c, h3, h4⟩ := h
  exact ⟨h1.alloc o, h2.alloc h2.size o, A, n, c, h3.alloc o, h4.alloc o⟩
theorem ro_below {w wr w2 : World} {g7 : Nat} {l : List Bool} (h : RO w g7 l wr) (hb : Below wr.heap.size wr w2) : RO w g7 l w2 := by
  obtain ⟨h1, h2, A, n, c, h3, h4⟩ := h
  exact ⟨h1.below hb h1.lt, h2.trans (hb.mono h2.size), A, n, c, h3.below hb h3.lt, h4.keep hb⟩
/-- behind a push -/
theorem ro_push {w w2 w3 : World} {g7 g9 n c : Nat} {A : Option Addr} {l : List Bool} {N a b : Value} (h1 : Blk w2 w.heap.size 25 #[.slice none 0 0, .int .i64 0]) (h2 : Below w.heap.size w w2) (h3 : Blk w2 g7 25 #[.slice A n c, N]) (h4 : OwnB w2 w.heap.size (.slice A n c) l)
    (h9 : Blk w2 g9 25 #[a, b]) (hg : w2.grownBy w3 (Value.slice A n c).ownBlock) :
    Blk w3 w.heap.size 25 #[.slice none 0 0, .int .i64 0] ∧ Below w.heap.size w w3 ∧ Blk w3 g7 25 #[.slice A n c, N] ∧ Blk w3 g9 25 #[a, b] :=
  ⟨h1.row hg (own_ne h4 h1 (by decide)), h2.grown hg h2.size (fun k hk => (World.ownsRow.lt h4 k hk).1), h3.row hg (own_ne h4 h3 (by decide)), h9.row hg (own_ne h4 h9 (by decide))⟩
theorem ro_store {w w3 : World} {g7 g9 n c : Nat} {A : Option Addr} {l : List Bool} {v0 N a b : Value} {N' : Int} (h1 : Blk w3 w.heap.size 25 #[.slice none 0 0, .int .i64 0]) (h2 : Below w.heap.size w w3) (h3 : Blk w3 g7 25 #[v0, N]) (h4 : OwnB w3 w.heap.size (.slice A n c) l)
    (h9 : Blk w3 g9 25 #[a, b]) (e7 : w.heap.size < g7) (e9 : g7 < g9) (hN : N' = ((l.length : Nat) : Int)) :
    RO w g7 l ((w3.setCell ⟨g7, 0, none⟩ (.slice A n c)).setCell ⟨g7, 1, none⟩ (.int .i64 N')) ∧ Blk ((w3.setCell ⟨g7, 0, none⟩ (.slice A n c)).setCell ⟨g7, 1, none⟩ (.int .i64 N')) g9 25 #[a, b] := by
  subst hN
  refine ⟨⟨(h1.far (by simp; omega) _).far (by simp; omega) _, (h2.setCell (by simp; omega) _).setCell (by simp; omega) _, A, n, c, ?_, ?_⟩, (h9.far (by simp; omega) _).far (by simp; omega) _⟩
  · have := (h3.set_ 0 (.slice A n c)).set_ 1 (.int .i64 ((l.length : Nat) : Int))
    simpa using this
  · exact ownsRow_setCell_other (ownsRow_setCell_other h4 (own_ne h4 h3 (by decide)) _) (own_ne h4 h3 (by decide)) _
end Go.Proofs.Ytgelgbfnioagbaa
/- Joins -/
namespace Go.Proofs.Ytgelgbfnioagbaa
open Go.RowKit
/-- what is joined: the number of bits, the error, the bytes -/
def jWhat (xs : List It) : Int × Int × List Nat :=
  if xs.all It.ok then (if sumN xs ≤ 65536 then (((allBits xs).length : Int), 0, pack (allBits xs)) else (0, 2, [])) else (0, 1, [])
def JOut (w : World) (N E : Int) (bs : List Nat) (e : Ending) (w' : World) : Prop :=
  ∃ A n c, e = .returned (.tuple #[.agg #[.slice A n c, .int .i64 N], .int .i64 E]) ∧ Below w.heap.size w w' ∧ Rd w' A n bs
theorem JoinPost.out {w w' : World} {xs : List It} {e : Ending} {N E : Int} {bs : List Nat} (h : JoinPost w xs e w') (hj : jWhat xs = (N, E, bs)) : JOut w N E bs e w' := by
  obtain ⟨hb, h⟩ := h
  unfold jWhat at hj
  rcases h with ⟨⟨x, hx, hf⟩, rfl⟩ | ⟨hok, hs, rfl⟩ | ⟨hok, hs, v, rfl, hv⟩
  · have hall : xs.all It.ok = false := by
      cases h : xs.all It.ok
      · rfl
      · rw [List.all_eq_true.1 h x hx] at hf; cases hf
    rw [hall] at hj
    simp only [Bool.false_eq_true, if_false, Prod.mk.injEq] at hj
    obtain ⟨rfl, rfl, rfl⟩ := hj
    exact ⟨none, 0, 0, rfl, hb, Rd.none_⟩
  · rw [List.all_eq_true.2 hok, if_pos rfl, if_neg (by omega)] at hj
    simp only [Prod.mk.injEq] at hj
    obtain ⟨rfl, rfl, rfl⟩ := hj
    exact ⟨none, 0, 0, rfl, hb, Rd.none_⟩
  · rw [List.all_eq_true.2 hok, if_pos rfl, if_pos hs] at hj
    simp only [Prod.mk.injEq] at hj
    obtain ⟨rfl, rfl, rfl⟩ := hj
    obtain ⟨A, c, rfl, hr, _⟩ := hv
    exact ⟨A, _, c, rfl, hb, hr⟩
end Go.Proofs.Ytgelgbfnioagbaa
/- Rd -/
namespace Go.Proofs.Ytgelgbfnioagbaa
open Go.RowKit
/-- a copy of bits, in memory of its own -/
def CopyPost (w : World) (bs : List Nat) (N : Int) (e : Ending) (w' : World) : Prop :=
  ∃ A n c, e = .returned (.agg #[.slice A n c, .int .i64 N]) ∧ w'.ownsRow w.heap.size 5 1 (.slice A n c) n (bs.map byteV) ∧ Below w.heap.size w w'
theorem copy_form {w w1 : World} {a1 a2 r1 r2 : Value} (hg : (((w.alloc (.cells #[a1, a2] 25)).alloc (.cells #[r1, r2] 25)).drew).grownBy w1 none) :
    (w1.cell? ⟨w.heap.size, 0, none⟩ = some a1 ∧ w1.cell? ⟨w.heap.size, 1, none⟩ = some a2) ∧ (w1.cell? ⟨w.heap.size + 1, 0, none⟩ = some r1 ∧ w1.cell? ⟨w.heap.size + 1, 1, none⟩ = some r2 ∧ w1.frozen? ⟨w.heap.size + 1, 0, none⟩ = false ∧ w1.frozen? ⟨w.heap.size + 1, 1, none⟩ = false) ∧ Below w.heap.size w w1 := by
  have B0 : Blk ((w.alloc (.cells #[a1, a2] 25)).alloc (.cells #[r1, r2] 25)).drew w.heap.size 25 #[a1, a2] := (Blk.new w 25 #[a1, a2]).alloc _
  have B1 : Blk ((w.alloc (.cells #[a1, a2] 25)).alloc (.cells #[r1, r2] 25)).drew (w.heap.size + 1) 25 #[r1, r2] := Blk.newAt (w := w.alloc (.cells #[a1, a2] 25)) (by simp)
  have C0 : Blk w1 w.heap.size 25 #[a1, a2] := (hg.block _ B0.lt (by simp)).trans B0
  have C1 : Blk w1 (w.heap.size + 1) 25 #[r1, r2] := (hg.block _ B1.lt (by simp)).trans B1
  refine ⟨⟨C0.cell 0, C0.cell 1⟩, ⟨C1.cell 0, C1.cell 1, C1.frozen 0, C1.frozen 1⟩, ?_⟩
  exact (Below.drew (((Below.refl w.heap.size w).alloc (Nat.le_refl _) (.cells #[a1, a2] 25)).alloc (by simp) (.cells #[r1, r2] 25))).grown hg (by have h : w.heap.size ≤ ((w.alloc (.cells #[a1, a2] 25)).alloc (.cells #[r1, r2] 25)).heap.size := (by simp; omega); exact h) (by simp)
set_option maxRecDepth 100000 in
set_option maxHeartbeats 1000000 in
theorem rcopy_pos (ad : Addr) (n c : Nat) (N : Int) (bs : List Nat) (w : World) (hr : Hid (Rd w (some ad) n bs)) (hn0 : Hid (0 < n)) (hn : Hid (n ≤ 20000)) (_hlt : ad.block < w.heap.size) :
    Calls Try.prog 12 #[.agg #[.slice (some ad) n c, .int .i64 N]] w (CopyPost w bs N) := by
  obtain ⟨i0, hi0, hz0, hz1, hz2⟩ := info_parts info_u8
  have HN := Lib.hid (show ∀ j u, (bs.map byteV)[j]? = some u → (((w.alloc (.cells #[.slice (some ad) n c, .int .i64 N] 25)).alloc (.cells #[.slice none 0 0, .int .i64 0] 25)).drew).cell? (ad.add j) = some u from by
    intro j u hu
    have hrd := (((hr.out.alloc (.cells #[.slice (some ad) n c, .int .i64 N] 25)).alloc (.cells #[.slice none 0 0, .int .i64 0] 25)).drew)
    obtain ⟨ad', e, hc⟩ := hrd.2.2 hn0.out
    injection e with e
    subst e
    rw [List.getElem?_map] at hu
    obtain ⟨x, hx, rfl⟩ := Option.map_eq_some_iff.1 hu
    exact hc j x hx)
  have HLN := Lib.hid (show (bs.map byteV).length = n * 1 by rw [List.length_map, hr.out.1, Nat.mul_one])
  have HONE := Lib.hid (show ∀ u ∈ bs.map byteV, u.oneCell' = true from by
    intro u hu
    obtain ⟨x, _, rfl⟩ := List.mem_map.1 hu
    rfl)
  go_enter Try.func12, Try.ntmps12
  go_wp2
  go_region_law (first
    | (refine step_append_lies _ rfl (.const (.slice none 0 0)) (.tmp 4) 23 rfl w.heap.size 5 i0 _ 1 1 Try.underlying23 hi0 hz0 hz1 hz2 rfl (by omega) (.slice none 0 0) 0 [] rfl (World.ownsRow_nil _ _ _ _) ad n c (bs.map byteV) rfl HLN.out HN.out HONE.out hn0.out (by have := hn.out; unfold maxLen; omega) (by have := hn.out; omega) (by simp; omega) _ rfl ?_
       intro g cap w1 hown1 hg1 hat1 hlt1
       obtain ⟨⟨b10, b11⟩, ⟨y0, y1, y2, y3⟩, hbl⟩ := copy_form hg1
       have HOWN := Lib.hid hown1
       have HBL := Lib.hid hbl
       have HG := Lib.hid hat1
       clear hown1 hg1 hat1 hbl))
  all_goals
    go_wp2
    refine bodyPost_ret (v := .agg #[.slice (some ⟨g, 0, none⟩) n cap, .int .i64 N]) (by simp [results, Try.results12, go_sem, y0, y1]) rfl ⟨_, _, _, rfl, ?_, ?_⟩
    · have ho := HOWN.out
      rw [Nat.zero_add, List.nil_append] at ho
      have hne : ¬ g = w.heap.size + 1 := by
        have hg : g = ((w.alloc (.cells #[.slice (some ad) n c, .int .i64 N] 25)).alloc (.cells #[.slice none 0 0, .int .i64 0] 25)).heap.size := by
          rcases HG.out with h | h
          · simp [Value.ownBlock] at h
          · exact h
        rw [hg]
        simp
      exact ownsRow_setCell_other (ownsRow_setCell_other ho (by simp [Value.ownBlock]; exact hne) _) (by simp [Value.ownBlock]; exact hne) _
    · exact (HBL.out.setCell (by simp) _).setCell (by simp) _
set_option maxHeartbeats 1000000 in
theorem rcopy_zero (A : Option Addr) (c : Nat) (N : Int) (w : World) :
    Calls Try.prog 12 #[.agg #[.slice A 0 c, .int .i64 N]] w (CopyPost w [] N) := by
  cases A
  all_goals
    go_enter Try.func12, Try.ntmps12
    go_wp2
    go_region
    all_goals
      go_wp2
      refine bodyPost_ret (v := .agg #[.slice none 0 0, .int .i64 N]) (by simp [results, Try.results12, go_sem]) rfl ⟨_, _, _, rfl, World.ownsRow_nil _ _ _ _, ?_⟩
      exact Below.drew (((Below.refl _ _).alloc (Nat.le_refl _) _).alloc (by simp) _)
theorem rcopy_any (A : Option Addr) (n c : Nat) (N : Int) (bs : List Nat) (w : World) (hr : Rd w A n bs) (hn : n ≤ 20000) :
    Calls Try.prog 12 #[.agg #[.slice A n c, .int .i64 N]] w (CopyPost w bs N) := by
  by_cases h0 : 0 < n
  · obtain ⟨ad, rfl, hb, _, _⟩ := hr.at_ h0
    exact rcopy_pos ad n c N bs w (Lib.hid hr) (Lib.hid h0) (Lib.hid hn) hb
  · obtain rfl : n = 0 := by omega
    obtain rfl : bs = [] := List.eq_nil_of_length_eq_zero hr.1
    exact rcopy_zero A c N w
end Go.Proofs.Ytgelgbfnioagbaa
/- Re -/
namespace Go.Proofs.Ytgelgbfnioagbaa
open Go.RowKit
/-- what is answered where bits l come to be -/
def pWhat (l : List Bool) : Int × Int × List Nat := if l.length ≤ 65536 then ((l.length : Int), 0, pack l) else (0, 2, [])
theorem BBad.out {w w' : World} {e : Ending} {E : Int} (h : BBad w E e w') : JOut w 0 E [] e w' := by
  obtain ⟨rfl, hb⟩ := h
  exact ⟨none, 0, 0, rfl, hb, Rd.none_⟩
theorem BOut.out {w w' : World} {B : Nat} {l : List Bool} {e : Ending} {N E : Int} {bs : List Nat} (h : BOut w (JQ B l) e w') (hp : pWhat l = (N, E, bs)) : JOut w N E bs e w' := by
  obtain ⟨A, n, c, N', er, rfl, hb, hq⟩ := h
  unfold pWhat at hp
  rcases hq with ⟨h1, rfl, g, e1, _, hblk, _⟩ | ⟨h1, rfl, e1⟩
  · rw [if_pos h1] at hp
    simp only [Prod.mk.injEq] at hp
    obtain ⟨rfl, rfl, rfl⟩ := hp
    rw [e1]
    exact ⟨_, _, _, rfl, hb, Rd.of_blk hblk (pack_lt _)⟩
  · rw [if_neg (by omega)] at hp
    simp only [Prod.mk.injEq] at hp
    obtain ⟨rfl, rfl, rfl⟩ := hp
    rw [e1]
    exact ⟨none, 0, 0, rfl, hb, Rd.none_⟩
/-- the boxes of Put, and the bits that are made -/
def RP (w : World) (v0 v1 : Value) (g8 : Nat) (l : List Bool) (wr : World) : Prop :=
  Two w w.heap.size v0 v1 wr ∧ ∃ A n c, Blk wr g8 25 #[.slice A n c, .int .i64 ((l.length : Nat) : Int)] ∧ OwnB wr w.heap.size (.slice A n c) l
theorem rp_push {w w2 w3 : World} {g8 n c : Nat} {A : Option Addr} {l : List Bool} {v0 v1 N : Value} (h1 : Two w w.heap.size v0 v1 w2) (h3 : Blk w2 g8 25 #[.slice A n c, N]) (h4 : OwnB w2 w.heap.size (.slice A n c) l) (hg : w2.grownBy w3 (Value.slice A n c).ownBlock) :
    Two w w.heap.size v0 v1 w3 ∧ Blk w3 g8 25 #[.slice A n c, N] :=
  ⟨⟨h1.1.row hg (own_ne h4 h1.1 (by decide)), h1.2.1.row hg (own_ne h4 h1.2.1 (by decide)), h1.2.2.grown hg (Nat.le_of_lt h1.1.lt) (fun k hk => (World.ownsRow.lt h4 k hk).1)⟩, h3.row hg (own_ne h4 h3 (by decide))⟩
theorem rp_store {w w3 : World} {g8 n c : Nat} {A : Option Addr} {l : List Bool} {v0 v1 a N : Value} {N' : Int} (h1 : Two w w.heap.size v0 v1 w3) (h3 : Blk w3 g8 25 #[a, N]) (h4 : OwnB w3 w.heap.size (.slice A n c) l) (e8 : w.heap.size + 1 < g8) (hN : N' = ((l.length : Nat) : Int)) :
    RP w v0 v1 g8 l ((w3.setCell ⟨g8, 0, none⟩ (.slice A n c)).setCell ⟨g8, 1, none⟩ (.int .i64 N')) := by
  subst hN
  refine ⟨⟨(h1.1.far (by simp; omega) _).far (by simp; omega) _, (h1.2.1.far (by simp; omega) _).far (by simp; omega) _, (h1.2.2.setCell (by simp; omega) _).setCell (by simp; omega) _⟩, A, n, c, ?_, ?_⟩
  · have := (h3.set_ 0 (.slice A n c)).set_ 1 (.int .i64 ((l.length : Nat) : Int))
    simpa using this
  · exact ownsRow_setCell_other (ownsRow_setCell_other h4 (own_ne h4 h3 (by decide)) _) (own_ne h4 h3 (by decide)) _
theorem own_base {w : World} {base base' : Nat} {v : Value} {n : Nat} {xs : List Value} (h : w.ownsRow base 5 1 v n xs) (hb : base' ≤ base) : w.ownsRow base' 5 1 v n xs := by
  obtain ⟨h1, h2⟩ := h
  rcases h2 with h2 | ⟨g, cap, cur, e, hg, rest⟩
  · exact ⟨h1, .inl h2⟩
  · exact ⟨h1, .inr ⟨g, cap, cur, e, by omega, rest⟩⟩
theorem and_bit (v i : Nat) (h : v < 2 ^ 64) : bits BinOp.and IntKind.u64 ((v : Int) / 2 ^ i) 1 = (((v.testBit i).toNat : Nat) : Int) := by
  have e : ((v : Int) / 2 ^ i) = ((v / 2 ^ i : Nat) : Int) := by simp
  have hl : v / 2 ^ i ≤ v := Nat.div_le_self _ _
  rw [e, show (1 : Int) = ((1 : Nat) : Int) from rfl, u64_and_nat _ _ (by omega) (by omega), nat_mask1, Nat.toNat_testBit]
set_option maxHeartbeats 1000000 in
theorem rput_core (A : Option Addr) (n c : Nat) (l : List Bool) (v width : Nat) (w : World) (hr : Hid (Rd w A n (pack l))) (hn : Hid (n = (pack l).length)) (hl : l.length ≤ 65536)
    (hw : width ≤ 64) (hv : Hid (v < 2 ^ 64)) (hvw : (decide ((width : Int) < 64) = true ∧ ((v : Int) / 2 ^ width != 0) = false) ∨ decide ((width : Int) < 64) = false) (hlen : l.length + width ≤ 65536) :
    Calls Try.prog 69 #[.agg #[.slice A n c, .int .i64 (l.length : Int)], .int .u64 (v : Int), .int .i64 (width : Int)] w (JOut w ((l ++ bitsOf width v).length : Int) 0 (pack (l ++ bitsOf width v))) := by
  have hd1 : decide ((width : Int) < 0) = false := by simp
  have hd2 : decide ((64 : Int) < (width : Int)) = false := by simp; omega
  have hn2 : n ≤ 20000 := by have := hn.out; have := pack_length l; omega
  have hd4 : decide ((65536 : Int) < (l.length : Int) + (width : Int)) = false := by simp; omega
  have HLL := Lib.hid hl
  rcases hvw with ⟨hd3, hs⟩ | hd3
  all_goals
    go_enter Try.func69, Try.ntmps69
    go_wp2_with fail
    refine (rcheck_yes _ _ _ _ (pack l) _ ((hr.out.alloc _).alloc _) (okB_pack l HLL.out)).mono ?_
    rintro e w1 ⟨rfl, hb1⟩
    have H1 := Lib.hid ((Two.start w (.slice A n c) (.int .i64 (l.length : Int))).next hb1)
    have HR1 := Lib.hid (((hr.out.alloc _).alloc _).below hb1)
    obtain ⟨b0, b1⟩ := H1.out.cells
    clear hb1
    go_wp2_with fail
    refine (rcopy_any A n c _ (pack l) _ HR1.out hn2).mono ?_
    rintro e w2 ⟨A2, n2, c2, rfl, hown2, hb2⟩
    have hn22 : n2 = (pack l).length := by have := hown2.1; rw [List.length_map] at this; omega
    have H2 := Lib.hid (H1.out.next hb2)
    have HO2 := Lib.hid (show OwnB w2 w.heap.size (.slice A2 n2 c2) l from by unfold OwnB; rw [← hn22]; exact own_base hown2 (Nat.le_of_lt H1.out.1.lt))
    have hg8 : w.heap.size + 1 < w2.heap.size := H2.out.2.1.lt
    clear hb2 hown2 hn22 b0 b1
    go_wp2
    have hst : Blk (w2.alloc (.cells #[.slice A2 n2 c2, .int .i64 (l.length : Int)] 25)) w2.heap.size 25 #[.slice A2 n2 c2, .int .i64 (l.length : Int)] := Blk.new _ _ _
    generalize w2.heap.size = g8 at hg8 hst ⊢
    have HST := Lib.hid hst
    clear hst
    go_loopw [9] (fun i wr => ∃ k : Nat, k ≤ width ∧ i = .int .i64 ((width : Int) - 1 - (k : Int)) ∧ RP w (.slice A n c) (.int .i64 (l.length : Int)) g8 (l ++ (bitsOf width v).take k) wr)
      (fun i _ => (intOf i + 1).toNat)
    case atStart =>
      refine ⟨0, Nat.zero_le _, by go_num, H2.out.alloc _, A2, n2, c2, ?_, ?_⟩
      · rw [List.take_zero, List.append_nil]; exact HST.out
      · rw [List.take_zero, List.append_nil]; exact HO2.out.alloc _
    case round =>
      obtain ⟨k, hk, rfl, r1, A3, n3, c3, r3, r4⟩ := hrel
      by_cases hlt : k < width
      · obtain ⟨NL, hNL⟩ : ∃ NL : Nat, NL = (l ++ (bitsOf width v).take k).length := ⟨_, rfl⟩
        have hNLl : NL ≤ 65536 := by rw [hNL, List.length_append, List.length_take, bitsOf_length]; omega
        rw [← hNL] at r3
        have o0 : wr.cell? ⟨g8, 0, none⟩ = some (.slice A3 n3 c3) := r3.cell 0
        have o1 : wr.cell? ⟨g8, 1, none⟩ = some (.int .i64 (NL : Int)) := r3.cell 1
        obtain ⟨t, ht⟩ : ∃ t, t = (bitF (bitsOf width v) k).toNat := ⟨_, rfl⟩
        have hb : bits BinOp.and IntKind.u64 ((v : Int) / 2 ^ (width - 1 - k)) 1 = (t : Int) := by
          rw [and_bit v _ hv.out, ht, bitF_bitsOf]
          simp [hlt]
        have hge : (0 : Int) ≤ (width : Int) - 1 - (k : Int) := by omega
        have htn : ((width : Int) - 1 - (k : Int)).toNat = width - 1 - k := by omega
        have HR1 := Lib.hid r1
        have HR3 := Lib.hid r3
        have HR4 := Lib.hid r4
        have HT := Lib.hid ht
        have HNL := Lib.hid hNL
        have HB := Lib.hid hb
        have HEN := Lib.hid (show ((l ++ (bitsOf width v).take k) ++ [bitF (bitsOf width v) k]).length = NL + 1 by rw [List.length_append, ← hNL]; rfl)
        clear r1 r3 r4 ht hNL hb
        go_wp2_with fail
        rw [HB.out]
        refine (push_any A3 n3 c3 (l ++ (bitsOf width v).take k) _ (bitF (bitsOf width v) k) t w.heap.size _ HR4.out (by rw [HNL.out]) HT.out (by rw [← HNL.out]; omega) (Nat.le_of_lt HR1.out.1.lt)).mono ?_
        rintro e w3 ⟨g, n4, cap4, rfl, ho3, hg3, hat3⟩
        rw [HEN.out]
        have P := rp_push HR1.out HR3.out HR4.out hg3
        have p0 : w3.cell? ⟨g8, 0, none⟩ = some (.slice A3 n3 c3) := P.2.cell 0
        have p1 : w3.cell? ⟨g8, 1, none⟩ = some (.int .i64 (NL : Int)) := P.2.cell 1
        have p2 := P.2.frozen 0
        have p3 := P.2.frozen 1
        have HP := Lib.hid P
        have HO3 := Lib.hid ho3
        clear P ho3 hg3 hat3 htn
        go_wp2
        go_roundw
        case rel =>
          have et : (bitsOf width v).take (k + 1) = (bitsOf width v).take k ++ [bitF (bitsOf width v) k] := by
            have h : k < (bitsOf width v).length := by rw [bitsOf_length]; exact hlt
            rw [List.take_succ_eq_append_getElem h]
            simp [bitF, List.getD_eq_getElem?_getD, h]
          refine ⟨k + 1, by omega, by go_num, ?_⟩
          rw [et, ← List.append_assoc]
          exact rp_store HP.out.1 HP.out.2 HO3.out hg8 (show ((NL : Int) + 1) = _ by rw [HEN.out]; rfl)
        case measure => simp [intOf]; omega
      · obtain rfl : k = width := by omega
        have et : (bitsOf k v).take k = bitsOf k v := List.take_of_length_le (by rw [bitsOf_length]; omega)
        rw [et] at r3 r4
        obtain ⟨z0, z1, f0, f1⟩ := r1.res
        have o0 : wr.cell? ⟨g8, 0, none⟩ = some (.slice A3 n3 c3) := r3.cell 0
        obtain ⟨T, hT⟩ : ∃ T : Nat, T = (l ++ bitsOf k v).length := ⟨_, rfl⟩
        rw [← hT] at r3
        have HTT := Lib.hid hT
        have o1 : wr.cell? ⟨g8, 1, none⟩ = some (.int .i64 (T : Int)) := r3.cell 1
        have HR1 := Lib.hid r1
        have HR4 := Lib.hid r4
        clear r1 r3 r4 hT et
        go_wp2
        refine bodyPost_ret (v := .tuple #[.agg #[.slice A3 n3 c3, .int .i64 (T : Int)], .int .i64 0]) (by simp [results, Try.results69, go_sem, z0, z1]) rfl ⟨A3, n3, c3, by rw [HTT.out], ?_, ?_⟩
        · exact bad_below HR1.out _ _
        · obtain ⟨hrd, hn3⟩ := HR4.out.rd
          exact (hrd.setCell _ (fun x => by rw [z0]; simp [byteV])).setCell _ (fun x => by rw [World.cell?_setCell_other _ _ _ _ (by simp), z1]; simp [byteV])
set_option maxHeartbeats 1000000 in
theorem rput_bad1 (A : Option Addr) (n c : Nat) (N v width : Int) (bs : List Nat) (w : World) (hr : Hid (Rd w A n bs)) (hok : Hid (okB bs N = false)) :
    Calls Try.prog 69 #[.agg #[.slice A n c, .int .i64 N], .int .u64 v, .int .i64 width] w (BBad w 1) := by
  go_enter Try.func69, Try.ntmps69
  go_wp2_with fail
  refine (rcheck_no _ _ _ _ bs _ ((hr.out.alloc _).alloc _) hok.out).mono ?_
  rintro e w1 ⟨rfl, hb1⟩
  have H1 := Lib.hid ((Two.start w (.slice A n c) (.int .i64 N)).next hb1)
  obtain ⟨y0, y1, y2, y3⟩ := H1.out.res
  clear hb1
  go_wp2
  exact bodyPost_ret (v := .tuple #[zeroB, .int .i64 1]) (by simp [results, Try.results69, go_sem, y0, y1, zeroB]) rfl ⟨rfl, bad_below H1.out _ _⟩
set_option maxHeartbeats 1000000 in
theorem rput_bad2 (A : Option Addr) (n c : Nat) (N v width : Int) (bs : List Nat) (w : World) (hr : Hid (Rd w A n bs)) (hok : Hid (okB bs N = true)) (hw : ¬ (0 ≤ width ∧ width ≤ 64)) :
    Calls Try.prog 69 #[.agg #[.slice A n c, .int .i64 N], .int .u64 v, .int .i64 width] w (BBad w 1) := by
  by_cases h : width < 0
  · have h1 : decide (width < 0) = true := by simpa using h
    clear hw h
    go_enter Try.func69, Try.ntmps69
    go_wp2_with fail
    refine (rcheck_yes _ _ _ _ bs _ ((hr.out.alloc _).alloc _) hok.out).mono ?_
    rintro e w1 ⟨rfl, hb1⟩
    have H1 := Lib.hid ((Two.start w (.slice A n c) (.int .i64 N)).next hb1)
    obtain ⟨y0, y1, y2, y3⟩ := H1.out.res
    obtain ⟨b0, b1⟩ := H1.out.cells
    clear hb1
    go_wp2
    exact bodyPost_ret (v := .tuple #[zeroB, .int .i64 1]) (by simp [results, Try.results69, go_sem, y0, y1, zeroB]) rfl ⟨rfl, bad_below H1.out _ _⟩
  · have h1 : decide (width < 0) = false := by simpa using h
    have h2 : decide (64 < width) = true := by simp; omega
    clear hw h
    go_enter Try.func69, Try.ntmps69
    go_wp2_with fail
    refine (rcheck_yes _ _ _ _ bs _ ((hr.out.alloc _).alloc _) hok.out).mono ?_
    rintro e w1 ⟨rfl, hb1⟩
    have H1 := Lib.hid ((Two.start w (.slice A n c) (.int .i64 N)).next hb1)
    obtain ⟨y0, y1, y2, y3⟩ := H1.out.res
    obtain ⟨b0, b1⟩ := H1.out.cells
    clear hb1
    go_wp2
    exact bodyPost_ret (v := .tuple #[zeroB, .int .i64 1]) (by simp [results, Try.results69, go_sem, y0, y1, zeroB]) rfl ⟨rfl, bad_below H1.out _ _⟩
set_option maxHeartbeats 1000000 in
theorem rput_bad3 (A : Option Addr) (n c : Nat) (N v : Int) (width : Nat) (bs : List Nat) (w : World) (hr : Hid (Rd w A n bs)) (hok : Hid (okB bs N = true)) (hw : width < 64) (hv : (v / 2 ^ width != 0) = true) :
    Calls Try.prog 69 #[.agg #[.slice A n c, .int .i64 N], .int .u64 v, .int .i64 (width : Int)] w (BBad w 1) := by
    have h1 : decide ((width : Int) < 0) = false := by simp
    have h2 : decide ((64 : Int) < (width : Int)) = false := by simp; omega
    have h3 : decide ((width : Int) < 64) = true := by simp; omega
    go_enter Try.func69, Try.ntmps69
    go_wp2_with fail
    refine (rcheck_yes _ _ _ _ bs _ ((hr.out.alloc _).alloc _) hok.out).mono ?_
    rintro e w1 ⟨rfl, hb1⟩
    have H1 := Lib.hid ((Two.start w (.slice A n c) (.int .i64 N)).next hb1)
    obtain ⟨y0, y1, y2, y3⟩ := H1.out.res
    obtain ⟨b0, b1⟩ := H1.out.cells
    clear hb1
    go_wp2
    exact bodyPost_ret (v := .tuple #[zeroB, .int .i64 1]) (by simp [results, Try.results69, go_sem, y0, y1, zeroB]) rfl ⟨rfl, bad_below H1.out _ _⟩
set_option maxHeartbeats 1000000 in
theorem rput_long (A : Option Addr) (n c : Nat) (N v : Int) (width : Nat) (bs : List Nat) (w : World) (hr : Hid (Rd w A n bs)) (hok : Hid (okB bs N = true)) (hw : width ≤ 64) (hN0 : 0 ≤ N) (hN1 : N ≤ 65536)
    (hvw : (decide ((width : Int) < 64) = true ∧ (v / 2 ^ width != 0) = false) ∨ decide ((width : Int) < 64) = false) (hlen : 65536 < N + width) :
    Calls Try.prog 69 #[.agg #[.slice A n c, .int .i64 N], .int .u64 v, .int .i64 (width : Int)] w (BBad w 2) := by
  have h1 : decide ((width : Int) < 0) = false := by simp
  have h2 : decide ((64 : Int) < (width : Int)) = false := by simp; omega
  rcases hvw with ⟨h3, h4⟩ | h3
  all_goals
    go_enter Try.func69, Try.ntmps69
    go_wp2_with fail
    refine (rcheck_yes _ _ _ _ bs _ ((hr.out.alloc _).alloc _) hok.out).mono ?_
    rintro e w1 ⟨rfl, hb1⟩
    have H1 := Lib.hid ((Two.start w (.slice A n c) (.int .i64 N)).next hb1)
    obtain ⟨y0, y1, y2, y3⟩ := H1.out.res
    obtain ⟨b0, b1⟩ := H1.out.cells
    clear hb1
    go_wp2
    exact bodyPost_ret (v := .tuple #[zeroB, .int .i64 2]) (by simp [results, Try.results69, go_sem, y0, y1, zeroB]) rfl ⟨rfl, bad_below H1.out _ _⟩
/-- Put, as the document has it, for bits that may be and a number that fits -/
theorem rput_any (v : Value) (l : List Bool) (xi wi : Int) (x width : Nat) (N E : Int) (bs : List Nat) (w : World) (h : IsB w v l) (hxi : xi = (x : Int)) (hwi : wi = (width : Int)) (hw : width ≤ 64) (hx : x < 2 ^ width) (hp : pWhat (l ++ bitsOf width x) = (N, E, bs)) :
    Calls Try.prog 69 #[v, .int .u64 xi, .int .i64 wi] w (JOut w N E bs) := by
  subst hxi hwi
  obtain ⟨A, c, rfl, hr, hl⟩ := h
  have h64 : x < 2 ^ 64 := Nat.lt_of_lt_of_le hx (Nat.pow_le_pow_right (by omega) hw)
  have hdiv : x / 2 ^ width = 0 := Nat.div_eq_of_lt hx
  have hvw : (decide ((width : Int) < 64) = true ∧ ((x : Int) / 2 ^ width != 0) = false) ∨ decide ((width : Int) < 64) = false := by
    by_cases h : width < 64
    · refine .inl ⟨by simp; omega, ?_⟩
      have e : ((x : Int) / 2 ^ width) = ((x / 2 ^ width : Nat) : Int) := by simp
      rw [e, hdiv]
      rfl
    · exact .inr (by simp; omega)
  have hlen : (l ++ bitsOf width x).length = l.length + width := by rw [List.length_append, bitsOf_length]
  unfold pWhat at hp
  by_cases hf : l.length + width ≤ 65536
  · rw [if_pos (by omega)] at hp
    simp only [Prod.mk.injEq] at hp
    obtain ⟨rfl, rfl, rfl⟩ := hp
    exact rput_core A _ c l x width w (Lib.hid hr) (Lib.hid rfl) hl hw (Lib.hid h64) hvw hf
  · rw [if_neg (by omega)] at hp
    simp only [Prod.mk.injEq] at hp
    obtain ⟨rfl, rfl, rfl⟩ := hp
    exact (rput_long A _ c _ x width _ w (Lib.hid hr) (Lib.hid (okB_pack l hl)) hw (by omega) (by omega) hvw (by omega)).mono fun _ _ h => h.out
end Go.Proofs.Ytgelgbfnioagbaa
