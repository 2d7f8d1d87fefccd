/-
  The program's and the document's Put, PutCode and PutSigned answer alike, whatever the bits, the numbers and the widths are.
-/
import Derived.Test.YthaannpkgljngaaWrites
namespace Go.Proofs.Ythaannpkgljngaa
open Go.RowKit

theorem pWhat_bytes {l : List Bool} {N E : Int} {bs : List Nat} (h : pWhat l = (N, E, bs)) : bs.length ≤ 8192 := by
  unfold pWhat at h
  split at h
  · rename_i hl
    simp only [Prod.mk.injEq] at h
    obtain ⟨_, _, rfl⟩ := h
    rw [pack_length]
    omega
  · simp only [Prod.mk.injEq] at h
    obtain ⟨_, _, rfl⟩ := h
    simp

theorem puts_alike (A : Option Addr) (n c : Nat) (N width : Int) (v : Nat) (bs : List Nat) (hv : v < 2 ^ 64) (hlt : ∀ x ∈ bs, x < 256) :
    ∃ N1 E1 bs1, (∀ W, Rd W A n bs → Calls Try.prog 12 #[.agg #[.slice A n c, .int .i64 N], .int .u64 (v : Int), .int .i64 width] W (JOut W N1 E1 bs1)) ∧
      (∀ W, Rd W A n bs → Calls Try.prog 13 #[.agg #[.slice A n c, .int .i64 N], .int .u64 (v : Int), .int .i64 width] W (JOut W N1 E1 bs1)) := by
  cases hok : okB bs N
  · exact ⟨0, 1, [], fun W hr => (put_bad1 A n c N v width bs W (Lib.hid hr) (Lib.hid hok)).mono fun _ _ h => h.out, fun W hr => (rput_bad1 A n c N v width bs W (Lib.hid hr) (Lib.hid hok)).mono fun _ _ h => h.out⟩
  · by_cases hw : 0 ≤ width ∧ width ≤ 64
    · obtain ⟨wd, rfl⟩ : ∃ wd : Nat, width = (wd : Int) := ⟨width.toNat, by omega⟩
      by_cases hf : v < 2 ^ wd
      · obtain ⟨l, hl, rfl, rfl⟩ := okB_some hok hlt
        refine ⟨(pWhat (l ++ bitsOf wd v)).1, (pWhat (l ++ bitsOf wd v)).2.1, (pWhat (l ++ bitsOf wd v)).2.2, fun W hr => ?_, fun W hr => ?_⟩
        · have hib : IsB W (.agg #[.slice A n c, .int .i64 (l.length : Int)]) l := ⟨A, c, by rw [hr.1], by rw [hr.1]; exact hr, hl⟩
          exact (put_any _ l v wd W hib (by omega) hf).mono fun _ _ h => h.out rfl
        · have hib : IsB W (.agg #[.slice A n c, .int .i64 (l.length : Int)]) l := ⟨A, c, by rw [hr.1], by rw [hr.1]; exact hr, hl⟩
          exact rput_any _ l _ _ v wd _ _ _ W hib rfl rfl (by omega) hf rfl
      · have hk : ¬ Lib.bitLen v ≤ wd := fun h => hf ((bitLen_le_iff v wd hv (by omega)).1 h)
        have h64 := Lib.bitLen_le v 64 (by omega) hv
        have hdiv : ((v : Int) / 2 ^ wd != 0) = true := by
          have e : ((v : Int) / 2 ^ wd) = ((v / 2 ^ wd : Nat) : Int) := by simp
          have hpos : 0 < v / 2 ^ wd := Nat.div_pos (by omega) (Nat.pow_pos (by omega))
          rw [e]
          simp only [bne_iff_ne]
          omega
        exact ⟨0, 1, [], fun W hr => (put_bad3 A n c N v (Lib.bitLen v) wd bs W (Lib.hid hr) (Lib.hid hok) (by omega) (by omega) (Lib.hid hv) (Lib.hid rfl) (by omega)).mono fun _ _ h => h.out, fun W hr => (rput_bad3 A n c N v wd bs W (Lib.hid hr) (Lib.hid hok) (by omega) hdiv).mono fun _ _ h => h.out⟩
    · exact ⟨0, 1, [], fun W hr => (put_bad2 A n c N v width bs W (Lib.hid hr) (Lib.hid hok) (Lib.hid hw)).mono fun _ _ h => h.out, fun W hr => (rput_bad2 A n c N v width bs W (Lib.hid hr) (Lib.hid hok) hw).mono fun _ _ h => h.out⟩
theorem codes_alike (A : Option Addr) (n c : Nat) (N : Int) (v : Nat) (bs : List Nat) (hlt : ∀ x ∈ bs, x < 256) :
    ∃ N1 E1 bs1, bs1.length ≤ 8192 ∧ (∀ W, Rd W A n bs → Calls Try.prog 15 #[.agg #[.slice A n c, .int .i64 N], .int .u64 (v : Int)] W (SOut W N1 E1 bs1)) ∧
      (∀ W, Rd W A n bs → Calls Try.prog 16 #[.agg #[.slice A n c, .int .i64 N], .int .u64 (v : Int)] W (JOut W N1 E1 bs1)) := by
  cases hok : okB bs N
  · exact ⟨0, 1, [], by simp, fun W hr => (putCode_bad1 A n c N v bs W (Lib.hid hr) (Lib.hid hok)).mono fun _ _ h => h.sout, fun W hr => (rputCode_bad A n c N v bs W (Lib.hid hr) (.inl hok)).mono fun _ _ h => h.out⟩
  · by_cases hv : v < 2 ^ 32
    · obtain ⟨l, hl, rfl, rfl⟩ := okB_some hok hlt
      refine ⟨(pWhat (l ++ codeOf v)).1, (pWhat (l ++ codeOf v)).2.1, (pWhat (l ++ codeOf v)).2.2, pWhat_bytes rfl, fun W hr => ?_, fun W hr => ?_⟩
      · have hib : IsB W (.agg #[.slice A n c, .int .i64 (l.length : Int)]) l := ⟨A, c, by rw [hr.1], by rw [hr.1]; exact hr, hl⟩
        exact (putCode_any _ l v W hib hv).mono fun _ _ h => h.sout rfl
      · have hib : IsB W (.agg #[.slice A n c, .int .i64 (l.length : Int)]) l := ⟨A, c, by rw [hr.1], by rw [hr.1]; exact hr, hl⟩
        exact rputCode_any _ l _ v _ _ _ W hib rfl hv rfl
    · exact ⟨0, 1, [], by simp, fun W hr => (putCode_bad2 A n c N v bs W (Lib.hid hr) (Lib.hid hok) (by omega)).mono fun _ _ h => h.sout, fun W hr => (rputCode_bad A n c N v bs W (Lib.hid hr) (.inr ⟨hok, by omega⟩)).mono fun _ _ h => h.out⟩
theorem SOut.out {w w' : World} {N E : Int} {bs : List Nat} {e : Ending} (h : SOut w N E bs e w') : JOut w N E bs e w' := by
  obtain ⟨A, n, c, h1, h2, h3, _⟩ := h
  exact ⟨A, n, c, h1, h2, h3⟩
theorem signed_alike (A : Option Addr) (n c : Nat) (N s : Int) (bs : List Nat) (hlt : ∀ x ∈ bs, x < 256) :
    ∃ N1 E1 bs1, bs1.length ≤ 8192 ∧ (∀ W, Rd W A n bs → Calls Try.prog 17 #[.agg #[.slice A n c, .int .i64 N], .int .i64 s] W (SOut W N1 E1 bs1)) ∧
      (∀ W, Rd W A n bs → Calls Try.prog 18 #[.agg #[.slice A n c, .int .i64 N], .int .i64 s] W (JOut W N1 E1 bs1)) := by
  by_cases hs : -1073741824 ≤ s ∧ s ≤ 1073741824
  · obtain ⟨N1, E1, bs1, hl, h1, h2⟩ := codes_alike A n c N (zig s) bs hlt
    exact ⟨N1, E1, bs1, hl, fun W hr => putSigned_in A n c N s N1 E1 bs bs1 (zig s) W (Lib.hid hr) hs.1 hs.2 (Lib.hid rfl) (Lib.hid fun W xi hr e => by subst e; exact h1 W hr),
      fun W hr => rputSigned_in A n c N s N1 E1 bs bs1 (zig s) W (Lib.hid hr) hs.1 hs.2 (Lib.hid rfl) (Lib.hid fun W xi hr e => by subst e; exact h2 W hr)⟩
  · exact ⟨0, 1, [], by simp, fun W _ => (putSigned_out A n c N s W hs).mono fun _ _ h => h.sout, fun W _ => (rputSigned_out A n c N s W hs).mono fun _ _ h => h.out⟩

theorem writes_any (A : Option Addr) (n c : Nat) (N width s : Int) (v : Nat) (bs : List Nat) (w : World) (hr : Rd w A n bs) (hn : n ≤ maxLen) (hsmall : n ≤ 20000) (hv : v < 2 ^ 64) :
    Calls Try.prog 3 #[.agg #[.slice A n c, .int .i64 N], .int .u64 (v : Int), .int .i64 width, .int .i64 s] w fun e w' => e = .returned (.bool true) ∧ Below w.heap.size w w' := by
  obtain ⟨N1, E1, bs1, p1, q1⟩ := puts_alike A n c N width v bs hv hr.2.1
  obtain ⟨N2, E2, bs2, _, p2, q2⟩ := codes_alike A n c N v bs hr.2.1
  obtain ⟨N3, E3, bs3, hb3, p3, q3⟩ := signed_alike A n c N s bs hr.2.1
  exact writes_core A n c N v width s bs N1 E1 N2 E2 N3 E3 (if okB bs N then 0 else 1) bs1 bs2 bs3 w (Lib.hid hr) (Lib.hid hn) hsmall (Lib.hid hb3) (Lib.hid p1) (Lib.hid q1) (Lib.hid fun W h => (p2 W h).mono fun _ _ h => h.out) (Lib.hid q2) (Lib.hid p3) (Lib.hid q3)
    (Lib.hid fun W h => check_any A n c N bs W h) (Lib.hid fun W h => rcheck_any A n c N bs W h)
set_option maxRecDepth 100000 in
set_option maxHeartbeats 1000000 in
theorem writes_big (A : Option Addr) (n c : Nat) (N v width s : Int) (bs : List Nat) (w : World) (hr : Hid (Rd w A n bs)) (hn : Hid (n ≤ maxLen)) (hbig : ¬ n ≤ 20000) :
    Calls Try.prog 3 #[.agg #[.slice A n c, .int .i64 N], .int .u64 v, .int .i64 width, .int .i64 s] w fun e w' => e = .returned (.bool true) ∧ Below w.heap.size w w' := by
  go_enter Try.func3, Try.ntmps3
  go_wp2_with fail
  refine (live_any _).mono ?_
  rintro e w0 ⟨rfl, hb0⟩
  have H0 := Lib.hid ((One.start w (.slice A n c) (.int .i64 N)).next hb0)
  have HR0 := Lib.hid ((hr.out.alloc _).below hb0)
  obtain ⟨b0, b1⟩ := H0.out.cells
  clear hb0
  go_wp2_with fail
  refine (few_one A n c N bs false _ HR0.out hn.out (by simp; omega)).mono ?_
  rintro e w1 ⟨rfl, hb1⟩
  have H1 := Lib.hid ((One.alloc H0.out _).next hb1)
  clear hb1 b0 b1
  go_wp2
  go_ret
  exact ⟨rfl, H1.out.2⟩

end Go.Proofs.Ythaannpkgljngaa
