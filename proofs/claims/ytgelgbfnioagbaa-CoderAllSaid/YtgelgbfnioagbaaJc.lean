/-
  Own texts, laid together: Jc.
-/
import Derived.Test.YtgelgbfnioagbaaJb
/- Jc -/
namespace Go.Proofs.Ytgelgbfnioagbaa.Cd
open Go.RowKit
set_option maxRecDepth 100000 in
theorem sameEnc_yes (lo hi : Nat) (wt : Int) (A1 A2 : Option Addr) (n1 n2 c1 c2 : Nat) (N : Int) (bs : List Nat) (w : World) (h1 : Hid (Rd w A1 n1 bs)) (h2 : Hid (Rd w A2 n2 bs)) :
    Calls Try.prog 17 #[encV lo hi wt A1 n1 c1 N, encV lo hi wt A2 n2 c2 N] w fun e w' => e = .returned (.bool true) ∧ Below w.heap.size w w' := by
  have HW := Lib.hid (show Below w.heap.size w ((w.alloc (.cells #[.int .u32 (lo : Int), .int .u32 (hi : Int), .int .i64 wt, .slice A1 n1 c1, .int .i64 N] 27)).alloc (.cells #[.int .u32 (lo : Int), .int .u32 (hi : Int), .int .i64 wt, .slice A2 n2 c2, .int .i64 N] 27)) from ((Below.refl w.heap.size w).alloc (Nat.le_refl _) _).alloc (by simp) _)
  unfold encV
  go_enter Try.func17, Try.ntmps17
  go_wp2_with fail
  generalize (w.alloc (.cells #[.int .u32 (lo : Int), .int .u32 (hi : Int), .int .i64 wt, .slice A1 n1 c1, .int .i64 N] 27)).alloc (.cells #[.int .u32 (lo : Int), .int .u32 (hi : Int), .int .i64 wt, .slice A2 n2 c2, .int .i64 N] 27) = w0 at HW ⊢
  refine (same_yes A1 A2 n1 n2 c1 c2 N bs w0 (Lib.hid (h1.out.below HW.out)) (Lib.hid (h2.out.below HW.out))).mono ?_
  rintro e w1 ⟨rfl, hb1⟩
  have HW1 := Lib.hid (HW.out.trans (hb1.mono HW.out.size))
  clear hb1
  go_wp2
  go_ret
  exact ⟨rfl, HW1.out⟩
/-- what the document's Begin answers -/
theorem rbegin_any (w : World) : Calls Try.prog 20 #[] w fun e w' => e = .returned (encV 0 4294967295 0 none 0 0 0) ∧ Below w.heap.size w w' := by
  go_enter Try.func20, Try.ntmps20
  go_wp2
  exact bodyPost_ret (v := encV 0 4294967295 0 none 0 0 0) (by simp [results, Try.results20, go_sem, encV]) rfl ⟨rfl, by
    first
    | exact (Below.refl w.heap.size w).alloc (Nat.le_refl _) _
    | exact below5 ((Below.refl w.heap.size w).alloc (Nat.le_refl _) _) (Nat.le_refl _) _ _ _ _ _⟩
theorem okE_plain {low high : Nat} {wt : Int} {bs : List Nat} {N : Int} (h : okE low high wt bs N = true) (hlt : ∀ x ∈ bs, x < 256) :
    ∃ (k : Nat) (l : List Bool), wt = (k : Int) ∧ k ≤ 65536 ∧ low < high ∧ high < 4294967296 ∧ kind low high = 3 ∧ bs = pack l ∧ N = ((l.length : Nat) : Int) ∧ l.length ≤ 65536 := by
  unfold okE at h
  simp only [Bool.and_eq_true, decide_eq_true_eq] at h
  obtain ⟨h1, h2, h3, h4⟩ := h
  unfold wideB at h1
  obtain ⟨a1, a2, a3⟩ := of_decide_eq_true h1
  obtain ⟨l, b1, b2, b3⟩ := okB_some h4 hlt
  exact ⟨wt.toNat, l, by omega, by omega, a1, a2, a3, b2, b3, b1⟩
theorem mk_isB {l : List Bool} (hl : l.length ≤ 65536) {w : World} {A : Option Addr} {n : Nat} (c : Nat) (hr : Rd w A n (pack l)) : IsB w (.agg #[.slice A n c, .int .i64 ((l.length : Nat) : Int)]) l := by
  obtain ⟨h1, h2⟩ := hr
  subst h1
  exact ⟨A, c, rfl, ⟨rfl, h2⟩, hl⟩
/-- both answer the same of a state, a table and a symbol -/
theorem put_both (low high : Nat) (wt N : Int) (bs : List Nat) (C : Option Addr) (m d : Nat) (xs : List Int) (s : Int) (hl : low < 4294967296) (hh : high < 4294967296) (hlt : ∀ x ∈ bs, x < 256) (hm : m ≤ maxLen) :
    ∃ (lo hi : Nat) (wt' NN EE : Int) (be : List Nat), be.length ≤ 8192 ∧ ∀ (w : World) (A : Option Addr) (n c : Nat), Rd w A n bs → Fq.RdI w C m xs →
      Calls Try.prog 13 #[encV low high wt A n c N, .agg #[.slice C m d], .int .i64 s] w (EOutF w lo hi wt' NN EE be) ∧
      Calls Try.prog 14 #[encV low high wt A n c N, .agg #[.slice C m d], .int .i64 s] w (EOut w lo hi wt' NN EE be) := by
  cases hok : okE low high wt bs N with
  | false => exact ⟨0, 0, 0, 0, 1, [], by simp, fun w A n c hr hx => ⟨pputE_arg low high wt A C n c m d N bs xs s w hl hh (Lib.hid hr) (Lib.hid hx) (Lib.hid hok), rputE_arg low high wt A C n c m d N bs xs s w hl hh (Lib.hid hr) (Lib.hid hx) (Lib.hid hm) (Lib.hid (.inl hok))⟩⟩
  | true =>
    obtain ⟨k, l, rfl, hk, h1, h2, h3, rfl, rfl, hll⟩ := okE_plain hok hlt
    cases hq : okP (s, xs) with
    | false => exact ⟨0, 0, 0, 0, 1, [], by simp, fun w A n c hr hx => ⟨pputE_ok low high k A C n c m d _ (pack l) l xs s 0 0 0 0 1 [] w h1 h2 (Lib.hid h3) hk (Lib.hid hr) (Lib.hid (mk_isB hll c hr)) (Lib.hid hx) (Lib.hid hm) (Lib.hid (.inl ⟨hq, rfl⟩)), rputE_arg low high _ A C n c m d _ (pack l) xs s w hl hh (Lib.hid hr) (Lib.hid hx) (Lib.hid hm) (Lib.hid (.inr ⟨hok, hq⟩))⟩⟩
    | true =>
      obtain ⟨lo, hi, wt', NN, EE, be, he⟩ : ∃ lo hi wt' NN EE be, encWhat (put1 ⟨low, high, k, l⟩ (s, xs)) = (lo, hi, wt', NN, EE, be) := ⟨_, _, _, _, _, _, rfl⟩
      have hsp := symP_of hq
      have hbe : be.length ≤ 8192 := by
        unfold encWhat at he
        split at he
        · rename_i h
          simp only [Prod.mk.injEq] at he
          rw [← he.2.2.2.2.2, pack_length]
          omega
        · simp only [Prod.mk.injEq] at he
          rw [← he.2.2.2.2.2]
          simp
      refine ⟨lo, hi, wt', NN, EE, be, hbe, fun w A n c hr hx => ⟨pputE_ok low high k A C n c m d _ (pack l) l xs s lo hi wt' NN EE be w h1 h2 (Lib.hid h3) hk (Lib.hid hr) (Lib.hid (mk_isB hll c hr)) (Lib.hid hx) (Lib.hid hm) (Lib.hid (.inr ⟨hq, he⟩)), ?_⟩⟩
      exact rputE_ok low high k A C n c m d (spA (s, xs)) (spB (s, xs)) (spT xs) _ (pack l) l xs s lo hi wt' NN EE be w h1 h2 (Lib.hid h3) hk (Lib.hid hr) (by rw [← hr.1, pack_length]; omega) (Lib.hid ⟨rfl, rfl, hll⟩) (Lib.hid hok) (Lib.hid hx) (Lib.hid hm) (Lib.hid hsp.1) (Lib.hid hsp.2.1) (Lib.hid hsp.2.2.1) (Lib.hid hsp.2.2.2) (Lib.hid he)
/-- bits and an error; the bytes are its own -/
def JOutF (w : World) (N E : Int) (bs : List Nat) (e : Ending) (w' : World) : Prop :=
  ∃ A n c, e = .returned (.tuple #[.agg #[.slice A n c, .int .i64 N], .int .i64 E]) ∧ Below w.heap.size w w' ∧ Rd w' A n bs ∧ FrB w A n bs w'
theorem BBad.outF {w w' : World} {e : Ending} {E : Int} (h : BBad w E e w') : JOutF w 0 E [] e w' := by
  obtain ⟨rfl, hb⟩ := h
  exact ⟨none, 0, 0, rfl, hb, Rd.none_, .inl rfl⟩
theorem BOut.outF {w w' : World} {l : List Bool} {e : Ending} {N E : Int} {bs : List Nat} (h : BOut w (JQ w.heap.size l) e w') (hp : pWhat l = (N, E, bs)) : JOutF w N E bs e w' := by
  obtain ⟨A, n, c, N', er, rfl, hb, hq⟩ := h
  rcases pWhat_cases hp with ⟨h1, rfl, rfl, rfl⟩ | ⟨h1, rfl, rfl, rfl⟩
  · rcases hq with ⟨_, rfl, h3⟩ | ⟨h, _⟩
    · obtain ⟨_, e2, e3, _⟩ := isB_parts h3.isB
      subst e2
      exact ⟨A, n, c, rfl, hb, e3, isN_fr h3⟩
    · omega
  · rcases hq with ⟨h, _⟩ | ⟨_, rfl, h3⟩
    · omega
    · rw [h3]
      exact ⟨none, 0, 0, rfl, hb, Rd.none_, .inl rfl⟩
/-- both end alike; the program's bits are its own -/
theorem end_both (low high : Nat) (wt N : Int) (bs : List Nat) (hl : low < 4294967296) (hh : high < 4294967296) (hlt : ∀ x ∈ bs, x < 256) :
    ∃ (NE EE : Int) (be : List Nat), be.length ≤ 8192 ∧ ∀ (w : World) (A : Option Addr) (n c : Nat), Rd w A n bs →
      Calls Try.prog 15 #[encV low high wt A n c N] w (JOutF w NE EE be) ∧
      Calls Try.prog 16 #[encV low high wt A n c N] w (JOut w NE EE be) := by
  cases hok : okE low high wt bs N with
  | false => exact ⟨0, 1, [], by simp, fun w A n c hr => ⟨(pend_no low high wt A n c N bs w hl hh (Lib.hid hr) (Lib.hid hok)).mono fun _ _ h => BBad.outF h, rend_no low high wt A n c N bs w hl hh (Lib.hid hr) (Lib.hid hok)⟩⟩
  | true =>
    obtain ⟨k, l, rfl, hk, h1, h2, h3, rfl, rfl, hll⟩ := okE_plain hok hlt
    obtain ⟨NE, EE, be, he⟩ : ∃ NE EE be, pWhat (endW low k l) = (NE, EE, be) := ⟨_, _, _, rfl⟩
    have hbe : be.length ≤ 8192 := by
      rcases pWhat_cases he with ⟨h1, _, _, rfl⟩ | ⟨_, _, _, rfl⟩
      · rw [pack_length]; omega
      · simp
    refine ⟨NE, EE, be, hbe, fun w A n c hr => ⟨(pend_ok low high k A n c _ l w hl hh hk (Lib.hid h3) (Lib.hid (mk_isB hll c hr))).mono fun _ _ h => BOut.outF h he, ?_⟩⟩
    exact rend_ok low high k A n c _ (pack l) l NE EE be w hl hh hk (Lib.hid hr) (Lib.hid hok) (Lib.hid (mk_isB hll c hr)) (Lib.hid he)
end Go.Proofs.Ytgelgbfnioagbaa.Cd
