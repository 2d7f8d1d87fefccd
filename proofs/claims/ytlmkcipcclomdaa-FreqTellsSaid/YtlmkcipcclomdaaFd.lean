/-
  What Check and Total answer, the program's and the document's.
-/
import Derived.Test.YtlmkcipcclomdaaFc
import Derived.IntWalk
namespace Go.Proofs.Ytlmkcipcclomdaa.Fq
open Go.RowKit

/-- a table by value -/
def frV (A : Option Addr) (n c : Nat) : Value := .agg #[.slice A n c]
theorem okF_parts {zs : List Int} (h : okF zs = true) : 2 ≤ zs.length ∧ zs.length ≤ 257 ∧ zs.getD 0 0 = 0 ∧ zs.getD (zs.length - 1) 0 ≤ 16384 ∧ ∀ k, k < zs.length - 1 → zs.getD k 0 < zs.getD (k + 1) 0 := by
  unfold okF at h
  exact of_decide_eq_true h
theorem okF_not {zs : List Int} (h : okF zs = false) : (zs.length < 2 ∨ 257 < zs.length) ∨ 2 ≤ zs.length ∧ zs.length ≤ 257 ∧ (zs.getD 0 0 ≠ 0 ∨ zs.getD 0 0 = 0 ∧ (16384 < zs.getD (zs.length - 1) 0 ∨ zs.getD (zs.length - 1) 0 ≤ 16384 ∧ ∃ m, m < zs.length - 1 ∧ zs.getD (m + 1) 0 ≤ zs.getD m 0 ∧ ∀ k, k < m → zs.getD k 0 < zs.getD (k + 1) 0)) := by
  unfold okF at h
  have h := of_decide_eq_false h
  by_cases h1 : 2 ≤ zs.length
  · by_cases h2 : zs.length ≤ 257
    · refine .inr ⟨h1, h2, ?_⟩
      by_cases h3 : zs.getD 0 0 = 0
      · refine .inr ⟨h3, ?_⟩
        rcases Int.lt_or_le 16384 (zs.getD (zs.length - 1) 0) with h4 | h4
        · exact .inl h4
        · refine .inr ⟨h4, ?_⟩
          have hne : ¬ ∀ k, k < zs.length - 1 → zs.getD k 0 < zs.getD (k + 1) 0 := fun hs => h ⟨h1, h2, h3, h4, hs⟩
          have key : ∀ N, (∃ m, m < N ∧ zs.getD (m + 1) 0 ≤ zs.getD m 0 ∧ ∀ k, k < m → zs.getD k 0 < zs.getD (k + 1) 0) ∨ ∀ k, k < N → zs.getD k 0 < zs.getD (k + 1) 0 := by
            intro N
            induction N with
            | zero => exact .inr fun k hk => by omega
            | succ N ih =>
              rcases ih with ⟨m, hm, h5, h6⟩ | h5
              · exact .inl ⟨m, by omega, h5, h6⟩
              · rcases Int.lt_or_le (zs.getD N 0) (zs.getD (N + 1) 0) with h6 | h6
                · refine .inr fun k hk => ?_
                  rcases Nat.lt_or_ge k N with h7 | h7
                  · exact h5 k h7
                  · have : k = N := by omega
                    subst this; exact h6
                · exact .inl ⟨N, by omega, h6, h5⟩
          rcases key (zs.length - 1) with ⟨m, hm, h5, h6⟩ | h5
          · exact ⟨m, hm, h5, h6⟩
          · exact absurd h5 hne
      · exact .inl h3
    · exact .inl (.inr (by omega))
  · exact .inl (.inl (by omega))
set_option maxHeartbeats 1000000 in
theorem check_ok (A : Option Addr) (n c : Nat) (zs : List Int) (w : World) (hr : Hid (RdI w A n zs)) (hok : okF zs = true) :
    Calls Try.prog 13 #[frV A n c] w fun e w' => e = .returned (.int .i64 0) ∧ Below w.heap.size w w' := by
  obtain ⟨h1, h2, h3, h4, h5⟩ := okF_parts hok
  have hl := hr.out.1
  rw [hl] at h1 h2 h4 h5
  obtain ⟨m, rfl⟩ : ∃ m, n = m + 1 := ⟨n - 1, by omega⟩
  simp only [Nat.add_sub_cancel] at h4 h5
  have hR0 := hr.out.alloc (.cells #[.slice A (m + 1) c] 24)
  obtain ⟨ad, rfl, hlt, _⟩ := hR0.at_ (k := 0) (by omega)
  have hc0 := hR0.cell0 (by omega)
  have hcl := hR0.cell (k := m) (by omega)
  rw [h3] at hc0
  have HK := Lib.hid (Blk.new w 24 #[.slice (some ad) (m + 1) c])
  have HW := Lib.hid ((Below.refl w.heap.size w).alloc (Nat.le_refl _) (.cells #[.slice (some ad) (m + 1) c] 24))
  have HR := Lib.hid hR0
  have HS := Lib.hid h5
  generalize zs.getD m 0 = y at hcl h4
  clear h3 h5 hl hR0 hok
  unfold frV
  go_enter Try.func13, Try.ntmps13
  go_wp2_with fail
  generalize w.alloc (.cells #[.slice (some ad) (m + 1) c] 24) = w0 at HK HW HR hc0 hcl hlt ⊢
  have ck := blk0 HK.out
  refine (isSize_yes _ _ (by omega) (by omega)).mono ?_
  rintro e w' ⟨rfl, rfl⟩
  go_wp2
  go_loopw [4, 28] (fun _ i wr => ∃ k q : Nat, k ≤ m ∧ i = .int .i64 (k : Int) ∧ wr = w0.drewN q) (fun _ i _ => m - (intOf i).toNat)
  case atStart => exact ⟨0, 0, by omega, rfl, rfl⟩
  case round =>
    obtain ⟨k, q, hk, rfl, rfl⟩ := hrel
    by_cases hlt : k < m
    · have x0 := HR.out.cell (k := k) (by omega)
      have x1 := HR.out.cellS (k := k) (by omega)
      have hlt2 := HS.out k hlt
      generalize zs.getD k 0 = a at x0 hlt2
      generalize zs.getD (k + 1) 0 = b at x1 hlt2
      have hn : decide (b ≤ a) = false := by simp; omega
      have i1 : IntKind.i64.wrap ((k : Int) + 1) = (k : Int) + 1 := IntWalk.i64_in _ (by omega)
      have i2 : (0 : Int) ≤ (k : Int) + 1 := by omega
      have i3 : ((k : Int) + 1).toNat = k + 1 := by omega
      have i4 : (k : Int) < (m : Int) + 1 := by omega
      have i5 : (k : Int) < (m : Int) := by omega
      have i6 : k < m + 1 := by omega
      go_wp2_with fail
      go_quiet (fail)
      go_wp2
      go_roundw
      case rel => exact ⟨k + 1, q + nq, by omega, by go_num, by first | rfl | rw [World.drewN_drewN]⟩
      case measure => simp [intOf]; omega
    · go_wp2
      go_ret
      exact ⟨rfl, below_drewN HW.out q⟩
/-- what the walks of Check ask of a table that is long enough -/
theorem open_freq {w : World} {A : Option Addr} {m c : Nat} {zs : List Int} (h : RdI w A (m + 1) zs) :
    ∃ ad, A = some ad ∧ Blk (w.alloc (.cells #[.slice A (m + 1) c] 24)) w.heap.size 24 #[.slice A (m + 1) c] ∧ Below w.heap.size w (w.alloc (.cells #[.slice A (m + 1) c] 24)) ∧ RdI (w.alloc (.cells #[.slice A (m + 1) c] 24)) A (m + 1) zs := by
  obtain ⟨ad, rfl, _, _⟩ := h.at_ (k := 0) (by omega)
  exact ⟨ad, rfl, Blk.new w _ _, (Below.refl w.heap.size w).alloc (Nat.le_refl _) _, h.alloc _⟩
set_option maxHeartbeats 1000000 in
theorem check_size (A : Option Addr) (n c : Nat) (w : World) (hn : n < 2 ∨ 257 < n) (hb : n ≤ maxLen) :
    Calls Try.prog 13 #[frV A n c] w fun e w' => e = .returned (.int .i64 1) ∧ Below w.heap.size w w' := by
  unfold maxLen at hb
  unfold frV
  go_enter Try.func13, Try.ntmps13
  go_wp2_with fail
  refine (isSize_no _ _ (by omega)).mono ?_
  rintro e w' ⟨rfl, rfl⟩
  go_wp2
  go_ret
  exact ⟨rfl, (Below.refl w.heap.size w).alloc (Nat.le_refl _) _⟩
set_option maxHeartbeats 1000000 in
theorem check_first (A : Option Addr) (m c : Nat) (zs : List Int) (x : Int) (w : World) (hr : Hid (RdI w A (m + 1) zs)) (h1 : 1 ≤ m) (h2 : m ≤ 256) (hx : Hid (zs.getD 0 0 = x)) (h0 : ¬ x = 0) :
    Calls Try.prog 13 #[frV A (m + 1) c] w fun e w' => e = .returned (.int .i64 1) ∧ Below w.heap.size w w' := by
  obtain ⟨ad, rfl, hK, hW, hR⟩ := open_freq (c := c) hr.out
  have HK := Lib.hid hK
  have HW := Lib.hid hW
  have HR := Lib.hid hR
  clear hK hW hR
  unfold frV
  go_enter Try.func13, Try.ntmps13
  go_wp2_with fail
  generalize w.alloc (.cells #[.slice (some ad) (m + 1) c] 24) = w0 at HK HW HR ⊢
  have ck := blk0 HK.out
  have hc0 := HR.out.cell0 (by omega)
  rw [hx.out] at hc0
  have hne : (x != 0) = true := by simp [h0]
  refine (isSize_yes _ _ (by omega) (by omega)).mono ?_
  rintro e w' ⟨rfl, rfl⟩
  go_wp2
  go_ret
  exact ⟨rfl, HW.out⟩
set_option maxHeartbeats 1000000 in
theorem check_last (A : Option Addr) (m c : Nat) (zs : List Int) (y : Int) (w : World) (hr : Hid (RdI w A (m + 1) zs)) (h1 : 1 ≤ m) (h2 : m ≤ 256) (hx : Hid (zs.getD 0 0 = 0)) (hy : Hid (zs.getD m 0 = y)) (h0 : 16384 < y) :
    Calls Try.prog 13 #[frV A (m + 1) c] w fun e w' => e = .returned (.int .i64 1) ∧ Below w.heap.size w w' := by
  obtain ⟨ad, rfl, hK, hW, hR⟩ := open_freq (c := c) hr.out
  have HK := Lib.hid hK
  have HW := Lib.hid hW
  have HR := Lib.hid hR
  clear hK hW hR
  unfold frV
  go_enter Try.func13, Try.ntmps13
  go_wp2_with fail
  generalize w.alloc (.cells #[.slice (some ad) (m + 1) c] 24) = w0 at HK HW HR ⊢
  have ck := blk0 HK.out
  have hc0 := HR.out.cell0 (by omega)
  rw [hx.out] at hc0
  have hcl := HR.out.cell (k := m) (by omega)
  rw [hy.out] at hcl
  refine (isSize_yes _ _ (by omega) (by omega)).mono ?_
  rintro e w' ⟨rfl, rfl⟩
  go_wp2
  go_ret
  exact ⟨rfl, HW.out⟩
set_option maxHeartbeats 1000000 in
theorem check_falls (A : Option Addr) (m c p : Nat) (zs : List Int) (y : Int) (w : World) (hr : Hid (RdI w A (m + 1) zs)) (h1 : 1 ≤ m) (h2 : m ≤ 256) (hx : Hid (zs.getD 0 0 = 0)) (hy : Hid (zs.getD m 0 = y)) (h0 : y ≤ 16384)
    (hp : p < m) (hpl : Hid (zs.getD (p + 1) 0 ≤ zs.getD p 0)) (HS : Hid (∀ k, k < p → zs.getD k 0 < zs.getD (k + 1) 0)) :
    Calls Try.prog 13 #[frV A (m + 1) c] w fun e w' => e = .returned (.int .i64 1) ∧ Below w.heap.size w w' := by
  obtain ⟨ad, rfl, hK, hW, hR⟩ := open_freq (c := c) hr.out
  have HK := Lib.hid hK
  have HW := Lib.hid hW
  have HR := Lib.hid hR
  clear hK hW hR
  unfold frV
  go_enter Try.func13, Try.ntmps13
  go_wp2_with fail
  generalize w.alloc (.cells #[.slice (some ad) (m + 1) c] 24) = w0 at HK HW HR ⊢
  have ck := blk0 HK.out
  have hc0 := HR.out.cell0 (by omega)
  rw [hx.out] at hc0
  have hcl := HR.out.cell (k := m) (by omega)
  rw [hy.out] at hcl
  refine (isSize_yes _ _ (by omega) (by omega)).mono ?_
  rintro e w' ⟨rfl, rfl⟩
  go_wp2
  go_loopw [4, 28] (fun _ i wr => ∃ k q : Nat, k ≤ p ∧ i = .int .i64 (k : Int) ∧ wr = w0.drewN q) (fun _ i _ => m - (intOf i).toNat)
  case atStart => exact ⟨0, 0, by omega, rfl, rfl⟩
  case round =>
    obtain ⟨k, q, hk, rfl, rfl⟩ := hrel
    have hlt : k < m := by omega
    have x0 := HR.out.cell (k := k) (by omega)
    have x1 := HR.out.cellS (k := k) (by omega)
    by_cases hkp : k < p
    · have hlt2 := HS.out k hkp
      generalize zs.getD k 0 = a at x0 hlt2
      generalize zs.getD (k + 1) 0 = b at x1 hlt2
      have hn : decide (b ≤ a) = false := by simp; omega
      have i1 : IntKind.i64.wrap ((k : Int) + 1) = (k : Int) + 1 := IntWalk.i64_in _ (by omega)
      have i2 : (0 : Int) ≤ (k : Int) + 1 := by omega
      have i3 : ((k : Int) + 1).toNat = k + 1 := by omega
      have i4 : (k : Int) < (m : Int) + 1 := by omega
      have i5 : (k : Int) < (m : Int) := by omega
      have i6 : k < m + 1 := by omega
      go_wp2_with fail
      go_quiet (fail)
      go_wp2
      go_roundw
      case rel => exact ⟨k + 1, q + nq, by omega, by go_num, by first | rfl | rw [World.drewN_drewN]⟩
      case measure => simp [intOf]; omega
    · obtain rfl : k = p := by omega
      have hlt2 := hpl.out
      clear hpl
      generalize zs.getD k 0 = a at x0 hlt2
      generalize zs.getD (k + 1) 0 = b at x1 hlt2
      have hn : decide (b ≤ a) = true := by simp; omega
      have i1 : IntKind.i64.wrap ((k : Int) + 1) = (k : Int) + 1 := IntWalk.i64_in _ (by omega)
      have i2 : (0 : Int) ≤ (k : Int) + 1 := by omega
      have i3 : ((k : Int) + 1).toNat = k + 1 := by omega
      have i4 : (k : Int) < (m : Int) + 1 := by omega
      have i5 : (k : Int) < (m : Int) := by omega
      have i6 : k < m + 1 := by omega
      go_wp2_with fail
      go_quiet (fail)
      go_wp2
      go_ret
      exact ⟨rfl, by first | exact below_drewN HW.out _ | exact below_drewN (below_drewN HW.out _) _⟩
/-- an error's number -/
def errN (ok : Bool) : Int := if ok then 0 else 1
theorem check_any (A : Option Addr) (n c : Nat) (zs : List Int) (r : Bool) (w : World) (hr : Hid (RdI w A n zs)) (hb : n ≤ maxLen) (hok : okF zs = r) :
    Calls Try.prog 13 #[frV A n c] w fun e w' => e = .returned (.int .i64 (errN r)) ∧ Below w.heap.size w w' := by
  cases r with
  | true => exact check_ok A n c zs w hr hok
  | false =>
    have hl := hr.out.1
    rcases okF_not hok with h | ⟨h1, h2, h⟩
    · rw [hl] at h
      exact check_size A n c w h hb
    · rw [hl] at h1 h2 h
      obtain ⟨m, rfl⟩ : ∃ m, n = m + 1 := ⟨n - 1, by omega⟩
      simp only [Nat.add_sub_cancel] at h
      rcases h with h | ⟨h3, h | ⟨h4, p, hp, h5, h6⟩⟩
      · exact check_first A m c zs _ w hr (by omega) (by omega) (Lib.hid rfl) h
      · exact check_last A m c zs _ w hr (by omega) (by omega) (Lib.hid h3) (Lib.hid rfl) h
      · exact check_falls A m c p zs _ w hr (by omega) (by omega) (Lib.hid h3) (Lib.hid rfl) h4 hp (Lib.hid h5) (Lib.hid h6)
end Go.Proofs.Ytlmkcipcclomdaa.Fq
