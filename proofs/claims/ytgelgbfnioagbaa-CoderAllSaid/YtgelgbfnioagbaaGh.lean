/-
  Own texts, laid together: Gh.
-/
import Derived.Test.YtgelgbfnioagbaaGg
import Derived.Test.YtgelgbfnioagbaaCe
/- Gh -/
namespace Go.Proofs.Ytgelgbfnioagbaa.Cd
open Go.RowKit
/-- the world in which a writer was made -/
def rsC (low high : Nat) (wt : Int) (A : Option Addr) (n c : Nat) (N : Int) : Array Value := #[.int .u32 (low : Int), .int .u32 (high : Int), .int .i64 wt, .slice A n c, .int .i64 N]
def rsW (w : World) (low high : Nat) (wt : Int) (A : Option Addr) (n c : Nat) (N : Int) : World :=
  ((w.alloc (.cells (rsC low high wt A n c N) 27)).alloc (.cells #[.slice A n c, .int .i64 N] 25)).alloc (.cells #[.int .u32 (low : Int), .int .u32 (high : Int), .int .i64 wt, .slice (some ⟨w.heap.size + 1, 0, none⟩) 1 1, .int .i64 N] 104)
theorem rs_start {w : World} {low high k : Nat} {A : Option Addr} {n c : Nat} {N : Int} {l : List Bool} (h : IsB w (.agg #[.slice A n c, .int .i64 N]) l) :
    WSm ⟨w, w.heap.size, some (.cells (rsC low high (k : Int) A n c N) 27)⟩ (w.heap.size + 1 + 1) low high k l.length l (rsW w low high (k : Int) A n c N) := by
  obtain ⟨hn, hN, hr, hl⟩ := isB_parts h
  have hb : Below w.heap.size w (rsW w low high (k : Int) A n c N) := (((Below.refl w.heap.size w).alloc (Nat.le_refl _) _).alloc (by simp) _).alloc (by simp; omega) _
  have hr2 : Rd (rsW w low high (k : Int) A n c N) A n (pack l) := hr.below hb
  refine ⟨hb, w.heap.size + 1, 1, 1, [⟨A, n, c, N, pack l⟩], ?_, ?_, ?_, ?_, ?_, rfl, ?_, ?_, ?_, ?_, ?_, ?_, ?_⟩
  · rw [hN]
    exact Blk.newAt (by simp)
  · refine ⟨rfl, .inr ⟨w.heap.size + 1, 1, #[.slice A n c, .int .i64 N], rfl, by show w.heap.size ≤ _; omega, ?_, by omega, by unfold maxLen; omega, rfl, rfl⟩⟩
    have : Blk ((w.alloc (.cells (rsC low high (k : Int) A n c N) 27)).alloc (.cells #[.slice A n c, .int .i64 N] 25)) (w.heap.size + 1) 25 #[.slice A n c, .int .i64 N] := Blk.newAt (by simp)
    exact this.alloc _
  · show w.heap.size ≤ _; omega
  · show w.heap.size ≤ _; omega
  · omega
  · intro x hx
    have : x = ⟨A, n, c, N, pack l⟩ := by simpa using hx
    subst this
    refine ⟨hr2, by show okB (pack l) N = true; rw [hN]; exact okB_pack l hl, ?_, ?_⟩
    · intro ad e hn
      have := hr.lies hn ad e
      omega
    · intro ad e hn
      have := hr.lies hn ad e
      omega
  · show bitsIn (pack l) N.toNat ++ [] = l
    rw [hN, List.append_nil]
    exact bitsIn_pack l
  · omega
  · show w.heap.size ≠ _; omega
  · show w.heap.size ≠ _; omega
  · show w.heap.size < _; unfold rsW; simp; omega
  · have : Blk (w.alloc (.cells (rsC low high (k : Int) A n c N) 27)) w.heap.size 27 (rsC low high (k : Int) A n c N) := Blk.new w _ _
    exact (this.alloc _).alloc _
/-- a writer was made -/
def RsOk (w : World) (low high k : Nat) (l : List Bool) (e : Ending) (w' : World) : Prop :=
  ∃ z p, z.w = w ∧ e = .returned (.tuple #[.pointer (some ⟨p, 0, none⟩), .int .i64 0]) ∧ WSm z p low high k l.length l w'
set_option maxRecDepth 100000 in
set_option maxHeartbeats 2000000 in
theorem resume_ok (low high k : Nat) (A : Option Addr) (n c : Nat) (N : Int) (l : List Bool) (w : World) (_hl : low < 4294967296) (_hh : high < 4294967296) (hk : k ≤ 65536) (hw : Hid (kind low high = 3)) (hib : Hid (IsB w (.agg #[.slice A n c, .int .i64 N]) l)) :
    Calls Try.prog 38 #[encV low high (k : Int) A n c N] w (RsOk w low high k l) := by
  unfold encV
  have HS := Lib.hid (rs_start (low := low) (high := high) (k := k) hib.out)
  unfold rsW rsC at HS
  have d1 : decide ((k : Int) < 0) = false := by simp
  have d2 : decide ((65536 : Int) < (k : Int)) = false := by simp; omega
  go_enter Try.func38, Try.ntmps38
  go_wp2_with fail
  generalize ((w.alloc (.cells #[.int .u32 (low : Int), .int .u32 (high : Int), .int .i64 (k : Int), .slice A n c, .int .i64 N] 27)).alloc (.cells #[.slice A n c, .int .i64 N] 25)).alloc (.cells #[.int .u32 (low : Int), .int .u32 (high : Int), .int .i64 (k : Int), .slice (some ⟨w.heap.size + 1, 0, none⟩) 1 1, .int .i64 N] 104) = w1 at HS ⊢
  refine (excess_any low high 3 w1 hw.out).mono ?_
  rintro e w2 ⟨rfl, hb2⟩
  have H2 := Lib.hid (WSm.next HS.out hb2)
  have HE2 := Lib.hid (show Blk w2 w.heap.size 27 #[.int .u32 (low : Int), .int .u32 (high : Int), .int .i64 (k : Int), .slice A n c, .int .i64 N] from H2.out.stay)
  clear hb2 HS
  rw [excT_3]
  obtain ⟨x1, x2, x3, x4, x5⟩ := blk5 HE2.out
  go_wp2_with fail
  have hcon := check_any A n c N (pack l) w2 ((isB_parts hib.out).2.2.1.below H2.out.base)
  rw [show okB (pack l) N = true by rw [(isB_parts hib.out).2.1]; exact okB_pack l (isB_parts hib.out).2.2.2] at hcon
  refine hcon.mono ?_
  clear hcon
  rintro e w3 ⟨rfl, hb3⟩
  have H3 := Lib.hid (WSm.next H2.out hb3)
  clear hb3
  go_wp2
  go_ret2
  exact ⟨_, _, rfl, rfl, H3.out⟩
/-- none was made -/
def RsNo (w : World) (e : Ending) (w' : World) : Prop := e = .returned (.tuple #[.pointer none, .int .i64 1]) ∧ Below w.heap.size w w'
set_option maxRecDepth 100000 in
set_option maxHeartbeats 2000000 in
theorem resume_no (low high : Nat) (wt : Int) (A : Option Addr) (n c : Nat) (N : Int) (bs : List Nat) (w : World) (_hl : low < 4294967296) (_hh : high < 4294967296) (hr : Hid (Rd w A n bs)) (hok : Hid (okE low high wt bs N = false)) :
    Calls Try.prog 38 #[encV low high wt A n c N] w (RsNo w) := by
  unfold encV
  have HB := Lib.hid (show Below w.heap.size w (rsW w low high wt A n c N) from (((Below.refl w.heap.size w).alloc (Nat.le_refl _) _).alloc (by simp) _).alloc (by simp; omega) _)
  have HK := Lib.hid (show Blk (rsW w low high wt A n c N) w.heap.size 27 (rsC low high wt A n c N) from ((Blk.new w 27 (rsC low high wt A n c N)).alloc _).alloc _)
  unfold rsW rsC at HB HK
  go_enter Try.func38, Try.ntmps38
  go_wp2_with fail
  generalize ((w.alloc (.cells #[.int .u32 (low : Int), .int .u32 (high : Int), .int .i64 wt, .slice A n c, .int .i64 N] 27)).alloc (.cells #[.slice A n c, .int .i64 N] 25)).alloc (.cells #[.int .u32 (low : Int), .int .u32 (high : Int), .int .i64 wt, .slice (some ⟨w.heap.size + 1, 0, none⟩) 1 1, .int .i64 N] 104) = w1 at HB HK ⊢
  obtain ⟨kk, hkk⟩ : ∃ kk, kind low high = kk := ⟨_, rfl⟩
  have HKK := Lib.hid hkk
  refine (excess_any low high kk w1 hkk).mono ?_
  clear hkk
  rintro e w2 ⟨rfl, hb2⟩
  have HK2 := Lib.hid (HK.out.below hb2 HK.out.lt)
  have HB2 := Lib.hid (HB.out.trans (hb2.mono HB.out.size))
  clear hb2 HB HK
  obtain ⟨x1, x2, x3, x4, x5⟩ := blk5 HK2.out
  unfold excT
  by_cases h3 : kk = 3
  · subst h3
    have hwb : wideB low high = true := by
      unfold wideB
      refine decide_eq_true ⟨?_, _hh, HKK.out⟩
      rcases kind_cases low high with ⟨h, _⟩ | ⟨h, _⟩ | ⟨h, _⟩ | ⟨h, h1, h2, _⟩
      · have := HKK.out; omega
      · have := HKK.out; omega
      · have := HKK.out; omega
      · omega
    have HWB := Lib.hid hwb
    clear hwb
    have dd : decide ((3 : Nat) ≠ 3) = false := by decide
    rw [dd]
    clear dd
    by_cases h0 : wt < 0
    · have d0 : decide (wt < 0) = true := by simpa using h0
      go_wp2
      go_ret2
      exact ⟨rfl, HB2.out⟩
    · have d0 : decide (wt < 0) = false := by simpa using h0
      by_cases h6 : 65536 < wt
      · have d6 : decide (65536 < wt) = true := by simpa using h6
        go_wp2
        go_ret2
        exact ⟨rfl, HB2.out⟩
      · have d6 : decide (65536 < wt) = false := by simpa using h6
        have hb : okB bs N = false := by
          cases hB : okB bs N with
          | false => rfl
          | true =>
            have := hok.out
            unfold okE at this
            rw [HWB.out, hB, decide_eq_true (show 0 ≤ wt by omega), decide_eq_true (show wt ≤ 65536 by omega)] at this
            cases this
        have HBF := Lib.hid hb
        clear hb
        go_wp2_with fail
        have hcon := check_any A n c N bs w2 (hr.out.below HB2.out)
        rw [HBF.out] at hcon
        refine hcon.mono ?_
        clear hcon
        rintro e w3 ⟨rfl, hb3⟩
        have HB3 := Lib.hid (HB2.out.trans (hb3.mono HB2.out.size))
        clear hb3
        go_wp2
        go_ret2
        exact ⟨rfl, HB3.out⟩
  · have dd : decide (kk ≠ 3) = true := by simpa using h3
    rw [dd]
    clear dd h3
    go_wp2
    go_ret2
    exact ⟨rfl, HB2.out⟩
theorem below5 {B g : Nat} {w u : World} (h : Below B w u) (hg : B ≤ g) (a b c d e : Value) : Below B w (((((u.setCell ⟨g, 0, none⟩ a).setCell ⟨g, 1, none⟩ b).setCell ⟨g, 2, none⟩ c).setCell ⟨g, 3, none⟩ d).setCell ⟨g, 4, none⟩ e) :=
  ((((h.setCell hg a).setCell hg b).setCell hg c).setCell hg d).setCell hg e
theorem below5a {g : Nat} {w u : World} (h : Below w.heap.size w u) (hg : w.heap.size ≤ g) (a b c d e : Value) (o : Obj) : Below w.heap.size w ((((((u.setCell ⟨g, 0, none⟩ a).setCell ⟨g, 1, none⟩ b).setCell ⟨g, 2, none⟩ c).setCell ⟨g, 3, none⟩ d).setCell ⟨g, 4, none⟩ e).alloc o) :=
  (below5 h hg a b c d e).alloc (below5 h hg a b c d e).size o
/-- what Begin answers -/
theorem begin_any (w : World) : Calls Try.prog 19 #[] w fun e w' => e = .returned (encV 0 4294967295 0 none 0 0 0) ∧ Below w.heap.size w w' := by
  have HK := Lib.hid (Blk.new w 27 #[.int .u32 0, .int .u32 0, .int .i64 0, .slice none 0 0, .int .i64 0])
  have HB := Lib.hid ((Below.refl w.heap.size w).alloc (Nat.le_refl _) (.cells #[.int .u32 0, .int .u32 0, .int .i64 0, .slice none 0 0, .int .i64 0] 27))
  go_enter Try.func19, Try.ntmps19
  go_wp2_with fail
  generalize w.alloc (.cells #[.int .u32 0, .int .u32 0, .int .i64 0, .slice none 0 0, .int .i64 0] 27) = w1 at HK HB ⊢
  refine (whole_any w1).mono ?_
  rintro e w2 ⟨rfl, hb2⟩
  have HK2 := Lib.hid (HK.out.below hb2 HK.out.lt)
  have HB2 := Lib.hid (HB.out.trans (hb2.mono HB.out.size))
  clear hb2 HB HK
  unfold ivV
  have b2 := HK2.out.lt
  obtain ⟨x1, x2, x3, x4, x5⟩ := blk5 HK2.out
  obtain ⟨f1, f2, f3, f4, f5, -⟩ := frz6 HK2.out
  go_wp2
  exact bodyPost_ret (v := encV 0 4294967295 0 none 0 0 0) (by simp [results, Try.results19, go_sem, encV, x1, x2, x3, x4, x5, b2]) rfl ⟨rfl, below5a HB2.out (Nat.le_refl _) _ _ _ _ _ _⟩
end Go.Proofs.Ytgelgbfnioagbaa.Cd
