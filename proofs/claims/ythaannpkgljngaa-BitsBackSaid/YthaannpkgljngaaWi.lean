/-
  What Put and PutCode answer to arguments that may not be; what Same and few tell.
-/
import Derived.Test.YthaannpkgljngaaWh
import Derived.Laws.BytesString
namespace Go.Proofs.Ythaannpkgljngaa
open Go.RowKit

/-- an answer that is no bits, and an error -/
def BBad (w : World) (er : Int) (e : Ending) (w' : World) : Prop := e = .returned (.tuple #[zeroB, .int .i64 er]) ∧ Below w.heap.size w w'
theorem bad_below {w w1 : World} {v0 v1 : Value} (h : Two w w.heap.size v0 v1 w1) (a b : Value) : Below w.heap.size w ((w1.setCell ⟨w.heap.size + 1, 0, none⟩ a).setCell ⟨w.heap.size + 1, 1, none⟩ b) :=
  (h.2.2.setCell (by simp) _).setCell (by simp) _

set_option maxHeartbeats 400000 in
theorem put_bad1 (A : Option Addr) (n c : Nat) (N v width : Int) (bs : List Nat) (w : World) (hr : Hid (Rd w A n bs)) (hok : Hid (okB bs N = false)) :
    Calls Try.prog 12 #[.agg #[.slice A n c, .int .i64 N], .int .u64 v, .int .i64 width] w (BBad w 1) := by
  go_enter Try.func12, Try.ntmps12
  go_wp2_with fail
  refine (check_no _ _ _ _ bs _ ((hr.out.alloc _).alloc _) hok.out).mono ?_
  rintro e w1 ⟨rfl, hb1⟩
  have H1 := Lib.hid ((Two.start w (.slice A n c) (.int .i64 N)).next hb1)
  obtain ⟨y0, y1, y2, y3⟩ := H1.out.res
  clear hb1
  go_wp2
  exact bodyPost_ret (v := .tuple #[zeroB, .int .i64 1]) (by simp [results, Try.results12, go_sem, y0, y1, zeroB]) rfl ⟨rfl, bad_below H1.out _ _⟩
set_option maxHeartbeats 400000 in
theorem put_bad2 (A : Option Addr) (n c : Nat) (N v width : Int) (bs : List Nat) (w : World) (hr : Hid (Rd w A n bs)) (hok : Hid (okB bs N = true)) (hw : Hid (¬ (0 ≤ width ∧ width ≤ 64))) :
    Calls Try.prog 12 #[.agg #[.slice A n c, .int .i64 N], .int .u64 v, .int .i64 width] w (BBad w 1) := by
  go_enter Try.func12, Try.ntmps12
  go_wp2_with fail
  refine (check_yes _ _ _ _ bs _ ((hr.out.alloc _).alloc _) hok.out).mono ?_
  rintro e w1 ⟨rfl, hb1⟩
  have H1 := Lib.hid ((Two.start w (.slice A n c) (.int .i64 N)).next hb1)
  obtain ⟨y0, y1, y2, y3⟩ := H1.out.res
  clear hb1
  go_wp2_with (go_at_call 28; refine (isWidth_no _ _ hw.out).mono ?_; rintro e w' ⟨rfl, rfl⟩)
  exact bodyPost_ret (v := .tuple #[zeroB, .int .i64 1]) (by simp [results, Try.results12, go_sem, y0, y1, zeroB]) rfl ⟨rfl, bad_below H1.out _ _⟩
set_option maxHeartbeats 400000 in
theorem put_bad3 (A : Option Addr) (n c : Nat) (N : Int) (v k : Nat) (width : Int) (bs : List Nat) (w : World) (hr : Hid (Rd w A n bs)) (hok : Hid (okB bs N = true)) (h0 : 0 ≤ width) (h64 : width ≤ 64) (hv : Hid (v < 2 ^ 64)) (hk : Hid (k = Lib.bitLen v)) (hkw : width < (k : Int)) :
    Calls Try.prog 12 #[.agg #[.slice A n c, .int .i64 N], .int .u64 (v : Int), .int .i64 width] w (BBad w 1) := by
  go_enter Try.func12, Try.ntmps12
  go_wp2_with fail
  refine (check_yes _ _ _ _ bs _ ((hr.out.alloc _).alloc _) hok.out).mono ?_
  rintro e w1 ⟨rfl, hb1⟩
  have H1 := Lib.hid ((Two.start w (.slice A n c) (.int .i64 N)).next hb1)
  obtain ⟨y0, y1, y2, y3⟩ := H1.out.res
  clear hb1
  go_wp2_with (first
    | (go_at_call 28; refine (isWidth_yes _ _ h0 h64).mono ?_; rintro e w' ⟨rfl, rfl⟩)
    | (go_at_call 29; refine (len64_nat v k _ hv.out hk.out).mono ?_; rintro e w' ⟨rfl, rfl⟩))
  exact bodyPost_ret (v := .tuple #[zeroB, .int .i64 1]) (by simp [results, Try.results12, go_sem, y0, y1, zeroB]) rfl ⟨rfl, bad_below H1.out _ _⟩
set_option maxHeartbeats 400000 in
theorem putCode_bad1 (A : Option Addr) (n c : Nat) (N v : Int) (bs : List Nat) (w : World) (hr : Hid (Rd w A n bs)) (hok : Hid (okB bs N = false)) :
    Calls Try.prog 15 #[.agg #[.slice A n c, .int .i64 N], .int .u64 v] w (BBad w 1) := by
  go_enter Try.func15, Try.ntmps15
  go_wp2_with fail
  refine (check_no _ _ _ _ bs _ ((hr.out.alloc _).alloc _) hok.out).mono ?_
  rintro e w1 ⟨rfl, hb1⟩
  have H1 := Lib.hid ((Two.start w (.slice A n c) (.int .i64 N)).next hb1)
  obtain ⟨y0, y1, y2, y3⟩ := H1.out.res
  clear hb1
  go_wp2
  exact bodyPost_ret (v := .tuple #[zeroB, .int .i64 1]) (by simp [results, Try.results15, go_sem, y0, y1, zeroB]) rfl ⟨rfl, bad_below H1.out _ _⟩
set_option maxHeartbeats 400000 in
theorem putCode_bad2 (A : Option Addr) (n c : Nat) (N v : Int) (bs : List Nat) (w : World) (hr : Hid (Rd w A n bs)) (hok : Hid (okB bs N = true)) (hv : 4294967295 < v) :
    Calls Try.prog 15 #[.agg #[.slice A n c, .int .i64 N], .int .u64 v] w (BBad w 1) := by
  go_enter Try.func15, Try.ntmps15
  go_wp2_with fail
  refine (check_yes _ _ _ _ bs _ ((hr.out.alloc _).alloc _) hok.out).mono ?_
  rintro e w1 ⟨rfl, hb1⟩
  have H1 := Lib.hid ((Two.start w (.slice A n c) (.int .i64 N)).next hb1)
  obtain ⟨y0, y1, y2, y3⟩ := H1.out.res
  clear hb1
  go_wp2
  exact bodyPost_ret (v := .tuple #[zeroB, .int .i64 1]) (by simp [results, Try.results15, go_sem, y0, y1, zeroB]) rfl ⟨rfl, bad_below H1.out _ _⟩

/-- the text of bytes -/
def strOf (bs : List Nat) : ByteArray := (bs.map fun n => ((n : Nat) : Int)).foldl (fun r n => r.push (UInt8.ofNat n.toNat)) ByteArray.empty
theorem run_str {w : World} {A : Option Addr} {n : Nat} {bs : List Nat} (c : Nat) (h : Rd w A n bs) : (convert 22 9 (.slice A n c)).run Try.prog w = .ok (.string (strOf bs)) w := by
  rw [run_convert_bytes_string w 22 9 5 A n c Try.underlying22 Try.underlying5 Try.underlying9]
  obtain ⟨rfl, hlt, hc⟩ := h
  cases A with
  | none =>
    have h0 : bs = [] := by
      cases bs with
      | nil => rfl
      | cons b bs =>
        obtain ⟨ad, e, _⟩ := hc (by simp)
        cases e
    subst h0
    rfl
  | some ad =>
    have hload : (loadCells ad bs.length).run Try.prog w = .ok ((bs.map fun n => ((n : Nat) : Int)).map (Value.int .u8)).toArray w := by
      have := run_loadCells_list (P := Try.prog) w ad (bs.map byteV) (fun j v hv => by
        rw [List.getElem?_map] at hv
        obtain ⟨x, hx, rfl⟩ := Option.map_eq_some_iff.1 hv
        have hpos : 0 < bs.length := by
          have := (List.getElem?_eq_some_iff.1 hx).1
          omega
        obtain ⟨ad', e, hc'⟩ := hc hpos
        injection e with e
        subst e
        exact hc' j x hx)
      rw [List.length_map] at this
      rw [this, List.map_map]
      rfl
    exact run_bytesToString w ad _ c _ hload

set_option maxHeartbeats 400000 in
theorem same_yes (A1 A2 : Option Addr) (n1 n2 c1 c2 : Nat) (N : Int) (bs : List Nat) (w : World) (h1 : Hid (Rd w A1 n1 bs)) (h2 : Hid (Rd w A2 n2 bs)) :
    Calls Try.prog 14 #[.agg #[.slice A1 n1 c1, .int .i64 N], .agg #[.slice A2 n2 c2, .int .i64 N]] w fun e w' => e = .returned (.bool true) ∧ Below w.heap.size w w' := by
  have e1 := run_str c1 ((h1.out.alloc (.cells #[.slice A1 n1 c1, .int .i64 N] 24)).alloc (.cells #[.slice A2 n2 c2, .int .i64 N] 24))
  have e2 := run_str c2 ((h2.out.alloc (.cells #[.slice A1 n1 c1, .int .i64 N] 24)).alloc (.cells #[.slice A2 n2 c2, .int .i64 N] 24))
  go_enter Try.func14, Try.ntmps14
  go_wp2
  go_ret
  exact ⟨rfl, ((Below.refl _ _).alloc (Nat.le_refl _) _).alloc (by simp) _⟩

/-- the sum of the lengths, as the program reckons it -/
def lenW (xs : List It) : Int := xs.foldl (fun a x => wrap64 (a + (x.n : Int))) 0
theorem lenW_snoc (xs : List It) (x : It) : lenW (xs ++ [x]) = wrap64 (lenW xs + (x.n : Int)) := by simp [lenW]
set_option maxHeartbeats 400000 in
theorem few_any (AL : Option Addr) (n cap : Nat) (xs : List It) (w : World) (hn : n ≤ maxLen) (hR : Hid (RdL w AL n xs)) :
    Calls Try.prog 10 #[.slice AL n cap] w fun e w' => e = .returned (.bool (decide (lenW xs ≤ 20000))) ∧ Below w.heap.size w w' := by
  unfold maxLen at hn
  go_enter Try.func10, Try.ntmps10
  go_wp2
  go_loopw [3, 8] (fun s i wr => ∃ (k : Nat) (S : Int), k ≤ n ∧ i = .int .i64 k ∧ s = .int .i64 S ∧ S = lenW (xs.take k) ∧ Below w.heap.size w wr)
    (fun _ i _ => n - (intOf i).toNat)
  case atStart => exact ⟨0, 0, Nat.zero_le _, rfl, rfl, rfl, Below.refl _ _⟩
  case round =>
    obtain ⟨k, S, hk, rfl, rfl, hS, hbl⟩ := hrel
    have HS := Lib.hid hS
    by_cases hlt : k < n
    · have hRr := hR.out.below hbl
      obtain ⟨L, hL, hc⟩ := hRr.2 (by omega)
      subst hL
      have hkx : k < xs.length := by have := hRr.1; omega
      obtain ⟨x, hx⟩ : ∃ x, xs[k]? = some x := ⟨_, List.getElem?_eq_getElem hkx⟩
      obtain ⟨c0, c1, hrd⟩ := hc k x hx
      have HX := Lib.hid hx
      have HBL := Lib.hid hbl
      clear hc hrd hS hx hbl hRr
      go_wp2
      go_roundw
      case rel =>
        refine ⟨k + 1, _, by omega, by go_num, rfl, ?_, HBL.out.alloc HBL.out.size _⟩
        rw [take_snoc _ _ _ HX.out, lenW_snoc, ← HS.out]
      case measure => simp [intOf]; omega
    · obtain rfl : k = n := by omega
      have ht : xs.take k = xs := List.take_of_length_le (by have := hR.out.1; omega)
      rw [ht] at HS
      have HBL := Lib.hid hbl
      clear hbl hS ht
      go_wp2
      go_ret
      rw [← HS.out]
      exact ⟨rfl, HBL.out⟩

end Go.Proofs.Ythaannpkgljngaa
