/-
  What PutCode and PutSigned answer, the document's own and the program's.
-/
import Derived.Test.YthaannpkgljngaaRe
namespace Go.Proofs.Ythaannpkgljngaa
open Go.RowKit

theorem bitLen_zero : Lib.bitLen 0 = 0 := by decide
set_option maxHeartbeats 400000 in
theorem rlong_core (v : Nat) (w : World) (hv : v ≤ 18446744073709551615) :
    Calls Try.prog 32 #[.int .u64 (v : Int)] w fun e w' => e = .returned (.int .i64 ((Lib.bitLen v : Nat) : Int)) ∧ w = w' := by
  go_enter Try.func32, Try.ntmps32
  go_wp2
  go_loop [0, 3] (fun a b => ∃ x k : Nat, x ≤ 18446744073709551615 ∧ k ≤ 64 ∧ a = .int .u64 (x : Int) ∧ b = .int .i64 (k : Int) ∧ k + Lib.bitLen x = Lib.bitLen v) (fun a _ => (intOf a).toNat)
  case atStart => exact ⟨v, 0, hv, by omega, rfl, rfl, by omega⟩
  case round =>
    obtain ⟨x, k, hx, hk, rfl, rfl, hsum⟩ := hrel
    by_cases h0 : 0 < x
    · have hh := Lib.bitLen_half x (by omega) (by omega)
      have h64 := Lib.bitLen_le v 64 (by omega) (by omega)
      have HH := Lib.hid hh
      have HS := Lib.hid hsum
      have hk2 : k ≤ 63 := by omega
      clear hh hsum h64
      go_wp2
      go_round
      case rel => exact ⟨x / 2, k + 1, by omega, by omega, by go_num, by go_num, by have := HH.out; have := HS.out; omega⟩
      case measure => simp [intOf]; omega
    · obtain rfl : x = 0 := by omega
      rw [bitLen_zero] at hsum
      have HS := Lib.hid hsum
      clear hsum
      go_wp2
      go_ret
      have := HS.out
      rw [Nat.add_zero] at this
      rw [← this]
      exact ⟨rfl, rfl⟩
theorem rlong_at (x : Int) (v q : Nat) (w : World) (hx : x = (v : Int)) (hv : v < 2 ^ 64) (hq : q + 1 = Lib.bitLen v) :
    Calls Try.prog 32 #[.int .u64 x] w fun e w' => e = .returned (.int .i64 ((q : Int) + 1)) ∧ w = w' := by
  subst hx
  refine (rlong_core v w (by omega)).mono ?_
  rintro e w' ⟨rfl, rfl⟩
  rw [← hq]
  exact ⟨by simp, rfl⟩

theorem pWhat_fit {l : List Bool} (h : l.length ≤ 65536) : pWhat l = ((l.length : Int), 0, pack l) := if_pos h
theorem pWhat_long {l : List Bool} (h : ¬ l.length ≤ 65536) : pWhat l = (0, 2, []) := if_neg h

set_option maxHeartbeats 1000000 in
theorem rputCode_core (A : Option Addr) (n c : Nat) (l : List Bool) (v q : Nat) (N E : Int) (bs : List Nat) (w : World) (hr : Hid (Rd w A n (pack l))) (hn : Hid (n = (pack l).length)) (hl : l.length ≤ 65536)
    (hv : v ≤ 4294967295) (hq : Hid (q + 1 = Lib.bitLen (v + 1))) (hq32 : q ≤ 32) (hvq : Hid (v + 1 < 2 ^ (q + 1))) (hp : Hid (pWhat ((l ++ bitsOf q 0) ++ bitsOf (q + 1) (v + 1)) = (N, E, bs))) :
    Calls Try.prog 16 #[.agg #[.slice A n c, .int .i64 (l.length : Int)], .int .u64 (v : Int)] w (JOut w N E bs) := by
  have hd : decide ((4294967296 : Int) ≤ (v : Int)) = false := by simp; omega
  have HIB := Lib.hid (show IsB w (.agg #[.slice A n c, .int .i64 (l.length : Int)]) l from ⟨A, c, by rw [hn.out], by rw [← hn.out]; exact hr.out, hl⟩)
  have hlen1 : (l ++ bitsOf q 0).length = l.length + q := by rw [List.length_append, bitsOf_length]
  by_cases hf : l.length + q ≤ 65536
  · have HP1 := Lib.hid (pWhat_fit (l := l ++ bitsOf q 0) (by omega))
    obtain ⟨N1, hN1⟩ : ∃ N1 : Nat, N1 = (l ++ bitsOf q 0).length := ⟨_, rfl⟩
    have HN1 := Lib.hid hN1
    have hN1l : N1 ≤ 65536 := by omega
    clear hlen1 hN1
    go_enter Try.func16, Try.ntmps16
    go_wp2_with fail
    refine (rcheck_yes _ _ _ _ (pack l) _ ((hr.out.alloc _).alloc _) (okB_pack l hl)).mono ?_
    rintro e w1 ⟨rfl, hb1⟩
    have H1 := Lib.hid ((Two.start w (.slice A n c) (.int .i64 (l.length : Int))).next hb1)
    have HB1 := Lib.hid (((HIB.out.alloc _).alloc _).below hb1)
    obtain ⟨b0, b1⟩ := H1.out.cells
    clear hb1
    go_wp2_with (go_at_call 32; refine (rlong_at _ (v + 1) q _ (by simp) (by omega) hq.out).mono ?_; rintro e w' ⟨rfl, rfl⟩)
    refine (rput_any _ l _ _ 0 q _ _ _ _ HB1.out rfl (by omega) (by omega) (Nat.pow_pos (by omega)) HP1.out).mono ?_
    rintro e w2 ⟨A2, n2, c2, rfl, hb2, hr2⟩
    rw [← HN1.out]
    have H2 := Lib.hid (H1.out.next hb2)
    have HB2 := Lib.hid (show IsB w2 (.agg #[.slice A2 n2 c2, .int .i64 (N1 : Int)]) (l ++ bitsOf q 0) from ⟨A2, c2, by rw [← hr2.1, HN1.out], by rw [hr2.1]; exact hr2, by have := HN1.out; omega⟩)
    obtain ⟨b20, b21⟩ := H2.out.cells
    clear hb2 hr2 b0 b1
    go_wp2_with fail
    refine (rput_any _ (l ++ bitsOf q 0) _ _ (v + 1) (q + 1) N E bs _ (HB2.out.alloc _) (by simp) (by simp) (by omega) hvq.out hp.out).mono ?_
    rintro e w3 ⟨A3, n3, c3, rfl, hb3, hr3⟩
    have H3 := Lib.hid ((Two.alloc H2.out _).next hb3)
    obtain ⟨y0, y1, y2, y3⟩ := H3.out.res
    have HR3 := Lib.hid hr3
    clear hb3 hr3 b20 b21
    go_wp2
    refine bodyPost_ret (v := .tuple #[.agg #[.slice A3 n3 c3, .int .i64 N], .int .i64 E]) (by simp [results, Try.results16, go_sem, y0, y1]) rfl ⟨A3, n3, c3, rfl, bad_below H3.out _ _, ?_⟩
    exact (HR3.out.setCell _ (fun x => by rw [y0]; simp [byteV])).setCell _ (fun x => by rw [World.cell?_setCell_other _ _ _ _ (by simp), y1]; simp [byteV])
  · have HP1 := Lib.hid (pWhat_long (l := l ++ bitsOf q 0) (by omega))
    have hp2 := hp.out
    rw [pWhat_long (by rw [List.length_append]; omega)] at hp2
    simp only [Prod.mk.injEq] at hp2
    obtain ⟨rfl, rfl, rfl⟩ := hp2
    clear hlen1
    go_enter Try.func16, Try.ntmps16
    go_wp2_with fail
    refine (rcheck_yes _ _ _ _ (pack l) _ ((hr.out.alloc _).alloc _) (okB_pack l hl)).mono ?_
    rintro e w1 ⟨rfl, hb1⟩
    have H1 := Lib.hid ((Two.start w (.slice A n c) (.int .i64 (l.length : Int))).next hb1)
    have HB1 := Lib.hid (((HIB.out.alloc _).alloc _).below hb1)
    obtain ⟨b0, b1⟩ := H1.out.cells
    clear hb1
    go_wp2_with (go_at_call 32; refine (rlong_at _ (v + 1) q _ (by simp) (by omega) hq.out).mono ?_; rintro e w' ⟨rfl, rfl⟩)
    refine (rput_any _ l _ _ 0 q _ _ _ _ HB1.out rfl (by omega) (by omega) (Nat.pow_pos (by omega)) HP1.out).mono ?_
    rintro e w2 ⟨A2, n2, c2, rfl, hb2, hr2⟩
    have H2 := Lib.hid (H1.out.next hb2)
    obtain ⟨y0, y1, y2, y3⟩ := (H1.out.next hb2).res
    have hlt2 : w.heap.size + 1 < w2.heap.size := (H1.out.next hb2).2.1.lt
    clear hb2 hr2 b0 b1
    go_wp2
    refine bodyPost_ret (v := .tuple #[.agg #[.slice none 0 0, .int .i64 0], .int .i64 2]) (by simp [results, Try.results16, go_sem, y0, y1, hlt2]) rfl ⟨none, 0, 0, rfl, ?_, Rd.none_⟩
    exact (bad_below H2.out _ _).alloc (by have := H2.out.1.lt; simp [World.setCell]; omega) _
/-- PutCode, as the document has it, for bits that may be and a number that has a code -/
theorem rputCode_any (v : Value) (l : List Bool) (xi : Int) (x : Nat) (N E : Int) (bs : List Nat) (w : World) (h : IsB w v l) (hxi : xi = (x : Int)) (hx : x < 2 ^ 32) (hp : pWhat (l ++ codeOf x) = (N, E, bs)) :
    Calls Try.prog 16 #[v, .int .u64 xi] w (JOut w N E bs) := by
  subst hxi
  obtain ⟨A, c, rfl, hr, hl⟩ := h
  have h1 := bitLen_pos (x + 1) (by omega)
  have h2 := Lib.bitLen_le (x + 1) 33 (by omega) (by omega)
  have e : Lib.bitLen (x + 1) - 1 + 1 = Lib.bitLen (x + 1) := by omega
  refine rputCode_core A _ c l x (Lib.bitLen (x + 1) - 1) N E bs w (Lib.hid hr) (Lib.hid rfl) hl (by omega) (Lib.hid e) (by omega) (Lib.hid (by rw [e]; exact (bitLen_le_iff (x + 1) _ (by omega) (by omega)).1 (Nat.le_refl _))) (Lib.hid ?_)
  rw [e, List.append_assoc]
  exact hp
set_option maxHeartbeats 1000000 in
theorem rputCode_bad (A : Option Addr) (n c : Nat) (N v : Int) (bs : List Nat) (w : World) (hr : Hid (Rd w A n bs)) (h : okB bs N = false ∨ (okB bs N = true ∧ 4294967296 ≤ v)) :
    Calls Try.prog 16 #[.agg #[.slice A n c, .int .i64 N], .int .u64 v] w (BBad w 1) := by
  rcases h with hok | ⟨hok, hv⟩
  · have HOK := Lib.hid hok
    clear hok
    go_enter Try.func16, Try.ntmps16
    go_wp2_with fail
    refine (rcheck_no _ _ _ _ bs _ ((hr.out.alloc _).alloc _) HOK.out).mono ?_
    rintro e w1 ⟨rfl, hb1⟩
    have H1 := Lib.hid ((Two.start w (.slice A n c) (.int .i64 N)).next hb1)
    obtain ⟨y0, y1, y2, y3⟩ := H1.out.res
    clear hb1
    go_wp2
    exact bodyPost_ret (v := .tuple #[zeroB, .int .i64 1]) (by simp [results, Try.results16, go_sem, y0, y1, zeroB]) rfl ⟨rfl, bad_below H1.out _ _⟩
  · have HOK := Lib.hid hok
    clear hok
    go_enter Try.func16, Try.ntmps16
    go_wp2_with fail
    refine (rcheck_yes _ _ _ _ bs _ ((hr.out.alloc _).alloc _) HOK.out).mono ?_
    rintro e w1 ⟨rfl, hb1⟩
    have H1 := Lib.hid ((Two.start w (.slice A n c) (.int .i64 N)).next hb1)
    obtain ⟨y0, y1, y2, y3⟩ := H1.out.res
    clear hb1
    go_wp2
    exact bodyPost_ret (v := .tuple #[zeroB, .int .i64 1]) (by simp [results, Try.results16, go_sem, y0, y1, zeroB]) rfl ⟨rfl, bad_below H1.out _ _⟩

/-- the number whose code a signed number's is -/
def zig (s : Int) : Nat := if s < 0 then (-2 * s - 1).toNat else (2 * s).toNat
theorem zig_lt (s : Int) (h0 : -1073741824 ≤ s) (h1 : s ≤ 1073741824) : zig s < 2 ^ 32 := by unfold zig; split <;> omega

set_option maxHeartbeats 1000000 in
theorem rputSigned_out (A : Option Addr) (n c : Nat) (N s : Int) (w : World) (hs : ¬ (-1073741824 ≤ s ∧ s ≤ 1073741824)) :
    Calls Try.prog 18 #[.agg #[.slice A n c, .int .i64 N], .int .i64 s] w (BBad w 1) := by
  by_cases h : s < -1073741824
  · have h1 : decide (s < -1073741824) = true := by simpa using h
    clear hs h
    go_enter Try.func18, Try.ntmps18
    go_wp2
    exact bodyPost_ret (v := .tuple #[zeroB, .int .i64 1]) (by simp [results, Try.results18, go_sem, zeroB]) rfl ⟨rfl, ((Below.refl _ _).alloc (Nat.le_refl _) _).alloc (by simp) _⟩
  · have h1 : decide (s < -1073741824) = false := by simpa using h
    have h2 : decide ((1073741824 : Int) < s) = true := by simp; omega
    clear hs h
    go_enter Try.func18, Try.ntmps18
    go_wp2
    exact bodyPost_ret (v := .tuple #[zeroB, .int .i64 1]) (by simp [results, Try.results18, go_sem, zeroB]) rfl ⟨rfl, ((Below.refl _ _).alloc (Nat.le_refl _) _).alloc (by simp) _⟩
set_option maxHeartbeats 1000000 in
theorem putSigned_out (A : Option Addr) (n c : Nat) (N s : Int) (w : World) (hs : ¬ (-1073741824 ≤ s ∧ s ≤ 1073741824)) :
    Calls Try.prog 17 #[.agg #[.slice A n c, .int .i64 N], .int .i64 s] w (BBad w 1) := by
  by_cases h : s < -1073741824
  · have h1 : decide (s < -1073741824) = true := by simpa using h
    clear hs h
    go_enter Try.func17, Try.ntmps17
    go_wp2
    exact bodyPost_ret (v := .tuple #[zeroB, .int .i64 1]) (by simp [results, Try.results17, go_sem, zeroB]) rfl ⟨rfl, ((Below.refl _ _).alloc (Nat.le_refl _) _).alloc (by simp) _⟩
  · have h1 : decide (s < -1073741824) = false := by simpa using h
    have h2 : decide ((1073741824 : Int) < s) = true := by simp; omega
    clear hs h
    go_enter Try.func17, Try.ntmps17
    go_wp2
    exact bodyPost_ret (v := .tuple #[zeroB, .int .i64 1]) (by simp [results, Try.results17, go_sem, zeroB]) rfl ⟨rfl, ((Below.refl _ _).alloc (Nat.le_refl _) _).alloc (by simp) _⟩
/-- an answer of which it is known that its bytes lie in a block of their own -/
def SOut (w : World) (N E : Int) (bs : List Nat) (e : Ending) (w' : World) : Prop :=
  ∃ A n c, e = .returned (.tuple #[.agg #[.slice A n c, .int .i64 N], .int .i64 E]) ∧ Below w.heap.size w w' ∧ Rd w' A n bs ∧ (n = 0 ∨ ∃ g, A = some ⟨g, 0, none⟩ ∧ w.heap.size ≤ g ∧ Blk w' g 5 (bcells bs))
theorem BBad.sout {w w' : World} {e : Ending} {E : Int} (h : BBad w E e w') : SOut w 0 E [] e w' := by
  obtain ⟨rfl, hb⟩ := h
  exact ⟨none, 0, 0, rfl, hb, Rd.none_, .inl rfl⟩
theorem BOut.sout {w w' : World} {l : List Bool} {e : Ending} {N E : Int} {bs : List Nat} (h : BOut w (JQ w.heap.size l) e w') (hp : pWhat l = (N, E, bs)) : SOut w N E bs e w' := by
  obtain ⟨A, n, c, N', er, rfl, hb, hq⟩ := h
  unfold pWhat at hp
  rcases hq with ⟨h1, rfl, g, e1, hg, hblk, _⟩ | ⟨h1, rfl, e1⟩
  · rw [if_pos h1] at hp
    simp only [Prod.mk.injEq] at hp
    obtain ⟨rfl, rfl, rfl⟩ := hp
    rw [e1]
    exact ⟨_, _, _, rfl, hb, Rd.of_blk hblk (pack_lt _), .inr ⟨g, rfl, hg, hblk⟩⟩
  · rw [if_neg (by omega)] at hp
    simp only [Prod.mk.injEq] at hp
    obtain ⟨rfl, rfl, rfl⟩ := hp
    rw [e1]
    exact ⟨none, 0, 0, rfl, hb, Rd.none_, .inl rfl⟩
set_option maxHeartbeats 1000000 in
theorem rputSigned_in (A : Option Addr) (n c : Nat) (N s N' E : Int) (bs bs' : List Nat) (x : Nat) (w : World) (hr : Hid (Rd w A n bs)) (h0 : -1073741824 ≤ s) (h1 : s ≤ 1073741824) (hx : Hid (x = zig s))
    (hcall : Hid (∀ (W : World) (xi : Int), Rd W A n bs → xi = (x : Int) → Calls Try.prog 16 #[.agg #[.slice A n c, .int .i64 N], .int .u64 xi] W (JOut W N' E bs'))) :
    Calls Try.prog 18 #[.agg #[.slice A n c, .int .i64 N], .int .i64 s] w (JOut w N' E bs') := by
  have d1 : decide (s < -1073741824) = false := by simp; omega
  have d2 : decide ((1073741824 : Int) < s) = false := by simp; omega
  by_cases hs : s < 0
  · have hs2 : ¬ 0 ≤ s := by omega
    have HX := Lib.hid (show -2 * s - 1 = (x : Int) by have := hx.out; unfold zig at this; rw [if_pos hs] at this; omega)
    go_enter Try.func18, Try.ntmps18
    go_wp2_with fail
    refine (hcall.out _ _ ((hr.out.alloc _).alloc _) HX.out).mono ?_
    rintro e w1 ⟨A2, n2, c2, rfl, hb1, hr1⟩
    have H1 := Lib.hid ((Two.start w (.slice A n c) (.int .i64 N)).next hb1)
    obtain ⟨y0, y1, y2, y3⟩ := H1.out.res
    have HR := Lib.hid hr1
    clear hb1 hr1
    go_wp2
    refine bodyPost_ret (v := .tuple #[.agg #[.slice A2 n2 c2, .int .i64 N'], .int .i64 E]) (by simp [results, Try.results18, go_sem, y0, y1]) rfl ⟨A2, n2, c2, rfl, bad_below H1.out _ _, ?_⟩
    exact (HR.out.setCell _ (fun x => by rw [y0]; simp [byteV])).setCell _ (fun x => by rw [World.cell?_setCell_other _ _ _ _ (by simp), y1]; simp [byteV])
  · have hs2 : 0 ≤ s := by omega
    have HX := Lib.hid (show 2 * s = (x : Int) by have := hx.out; unfold zig at this; rw [if_neg hs] at this; omega)
    go_enter Try.func18, Try.ntmps18
    go_wp2_with fail
    refine (hcall.out _ _ ((hr.out.alloc _).alloc _) HX.out).mono ?_
    rintro e w1 ⟨A2, n2, c2, rfl, hb1, hr1⟩
    have H1 := Lib.hid ((Two.start w (.slice A n c) (.int .i64 N)).next hb1)
    obtain ⟨y0, y1, y2, y3⟩ := H1.out.res
    have HR := Lib.hid hr1
    clear hb1 hr1
    go_wp2
    refine bodyPost_ret (v := .tuple #[.agg #[.slice A2 n2 c2, .int .i64 N'], .int .i64 E]) (by simp [results, Try.results18, go_sem, y0, y1]) rfl ⟨A2, n2, c2, rfl, bad_below H1.out _ _, ?_⟩
    exact (HR.out.setCell _ (fun x => by rw [y0]; simp [byteV])).setCell _ (fun x => by rw [World.cell?_setCell_other _ _ _ _ (by simp), y1]; simp [byteV])
set_option maxHeartbeats 1000000 in
theorem putSigned_in (A : Option Addr) (n c : Nat) (N s N' E : Int) (bs bs' : List Nat) (x : Nat) (w : World) (hr : Hid (Rd w A n bs)) (h0 : -1073741824 ≤ s) (h1 : s ≤ 1073741824) (hx : Hid (x = zig s))
    (hcall : Hid (∀ (W : World) (xi : Int), Rd W A n bs → xi = (x : Int) → Calls Try.prog 15 #[.agg #[.slice A n c, .int .i64 N], .int .u64 xi] W (SOut W N' E bs'))) :
    Calls Try.prog 17 #[.agg #[.slice A n c, .int .i64 N], .int .i64 s] w (SOut w N' E bs') := by
  have d1 : decide (s < -1073741824) = false := by simp; omega
  have d2 : decide ((1073741824 : Int) < s) = false := by simp; omega
  by_cases hs : s < 0
  · have hs2 : ¬ 0 ≤ s := by omega
    have HX := Lib.hid (show -2 * s - 1 = (x : Int) by have := hx.out; unfold zig at this; rw [if_pos hs] at this; omega)
    go_enter Try.func17, Try.ntmps17
    go_wp2_with fail
    refine (hcall.out _ _ ((hr.out.alloc _).alloc _) HX.out).mono ?_
    rintro e w1 ⟨A2, n2, c2, rfl, hb1, hr1, ho1⟩
    have HO := Lib.hid ho1
    have H1 := Lib.hid ((Two.start w (.slice A n c) (.int .i64 N)).next hb1)
    obtain ⟨y0, y1, y2, y3⟩ := H1.out.res
    have HR := Lib.hid hr1
    clear hb1 hr1 ho1
    go_wp2
    refine bodyPost_ret (v := .tuple #[.agg #[.slice A2 n2 c2, .int .i64 N'], .int .i64 E]) (by simp [results, Try.results17, go_sem, y0, y1]) rfl ⟨A2, n2, c2, rfl, bad_below H1.out _ _, ?_, ?_⟩
    · exact (HR.out.setCell _ (fun x => by rw [y0]; simp [byteV])).setCell _ (fun x => by rw [World.cell?_setCell_other _ _ _ _ (by simp), y1]; simp [byteV])
    · rcases HO.out with h | ⟨g, e, hg, hb⟩
      · exact .inl h
      · have hg2 : w.heap.size + 2 ≤ g := by simpa using hg
        exact .inr ⟨g, e, by omega, (hb.far (by simp; omega) _).far (by simp; omega) _⟩
  · have hs2 : 0 ≤ s := by omega
    have HX := Lib.hid (show 2 * s = (x : Int) by have := hx.out; unfold zig at this; rw [if_neg hs] at this; omega)
    go_enter Try.func17, Try.ntmps17
    go_wp2_with fail
    refine (hcall.out _ _ ((hr.out.alloc _).alloc _) HX.out).mono ?_
    rintro e w1 ⟨A2, n2, c2, rfl, hb1, hr1, ho1⟩
    have HO := Lib.hid ho1
    have H1 := Lib.hid ((Two.start w (.slice A n c) (.int .i64 N)).next hb1)
    obtain ⟨y0, y1, y2, y3⟩ := H1.out.res
    have HR := Lib.hid hr1
    clear hb1 hr1 ho1
    go_wp2
    refine bodyPost_ret (v := .tuple #[.agg #[.slice A2 n2 c2, .int .i64 N'], .int .i64 E]) (by simp [results, Try.results17, go_sem, y0, y1]) rfl ⟨A2, n2, c2, rfl, bad_below H1.out _ _, ?_, ?_⟩
    · exact (HR.out.setCell _ (fun x => by rw [y0]; simp [byteV])).setCell _ (fun x => by rw [World.cell?_setCell_other _ _ _ _ (by simp), y1]; simp [byteV])
    · rcases HO.out with h | ⟨g, e, hg, hb⟩
      · exact .inl h
      · have hg2 : w.heap.size + 2 ≤ g := by simpa using hg
        exact .inr ⟨g, e, by omega, (hb.far (by simp; omega) _).far (by simp; omega) _⟩

end Go.Proofs.Ythaannpkgljngaa
