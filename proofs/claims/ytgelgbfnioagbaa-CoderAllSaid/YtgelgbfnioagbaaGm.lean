/-
  Own texts, laid together: Gm.
-/
import Derived.Test.YtgelgbfnioagbaaGl
/- Gm -/
namespace Go.Proofs.Ytgelgbfnioagbaa.Cd
open Go.RowKit
theorem RdS.two {w : World} {p : Nat} {d : De} {A : Option Addr} {n c : Nat} {N : Int} (h : RdS w p d A n c N) : Two w p d.low d.high := ⟨h.cell 0, h.cell 1, h.frozen 0, h.frozen 1⟩
theorem RdS.next {w w' : World} {p : Nat} {d : De} {A : Option Addr} {n c : Nat} {N : Int} (h : RdS w p d A n c N) (hb : Below w.heap.size w w') : RdS w' p d A n c N := Blk.below h hb (Blk.lt h)
theorem RdS.iv {w : World} {p : Nat} {d : De} {A : Option Addr} {n c : Nat} {N : Int} (h : RdS w p d A n c N) (lo hi : Nat) : RdS ((w.setCell ⟨p, 0, none⟩ (.int .u32 (lo : Int))).setCell ⟨p, 1, none⟩ (.int .u32 (hi : Int))) p ⟨lo, hi, d.code, d.at_⟩ A n c N := (Blk.set_ (Blk.set_ h 0 _) 1 _)
theorem RdS.iv' {w : World} {p : Nat} {d : De} {A : Option Addr} {n c : Nat} {N : Int} (h : RdS w p d A n c N) (lo hi : Nat) : RdS ((w.setCell ⟨p, 1, none⟩ (.int .u32 (hi : Int))).setCell ⟨p, 0, none⟩ (.int .u32 (lo : Int))) p ⟨lo, hi, d.code, d.at_⟩ A n c N := (Blk.set_ (Blk.set_ h 1 _) 0 _)
theorem RdS.co {w : World} {p : Nat} {d : De} {A : Option Addr} {n c : Nat} {N : Int} (h : RdS w p d A n c N) (co : Nat) : RdS (w.setCell ⟨p, 2, none⟩ (.int .u32 (co : Int))) p ⟨d.low, d.high, co, d.at_⟩ A n c N := (Blk.set_ h 2 _)
theorem RdS.pl {w : World} {p : Nat} {d : De} {A : Option Addr} {n c : Nat} {N : Int} (h : RdS w p d A n c N) (a : Nat) : RdS (w.setCell ⟨p, 5, none⟩ (.int .i64 (a : Int))) p ⟨d.low, d.high, d.code, a⟩ A n c N := (Blk.set_ h 5 _)
set_option maxRecDepth 100000 in
set_option maxHeartbeats 2000000 in
theorem widen_r (w0 : World) (p m : Nat) (A : Option Addr) (n c : Nat) (N : Int) (l : List Bool) (fin : De) (w : World) (h : Hid (WidS w0 p A n c N l fin m w)) (hI : Hid (IsB w0 (.agg #[.slice A n c, .int .i64 N]) l)) (hA : Hid (∀ ad, A = some ad → 0 < n → ad.block ≠ p)) :
    Calls Try.prog 73 #[.pointer (some ⟨p, 0, none⟩)] w fun e w' => e = .returned (.tuple #[]) ∧ RdS w' p fin A n c N ∧ w0.grownBy w' (some p) := by
  go_enter Try.func73, Try.ntmps73
  go_wp2_with fail
  go_loopg [2] m (fun k _ wr => Hid (WidS w0 p A n c N l fin k wr))
  case atStart => exact h
  case round =>
    have HR := hrel
    clear hrel h
    obtain ⟨d, hs, hf, hok, hc1, hc2, hw, ha, hg⟩ := HR.out
    obtain ⟨c0, c1, -, -, -, -⟩ := hs.six
    have HS := Lib.hid hs
    have HF := Lib.hid hf
    have HOK := Lib.hid hok
    have HC1 := Lib.hid hc1
    have HC2 := Lib.hid hc2
    have HW := Lib.hid hw
    have HA := Lib.hid ha
    have HG := Lib.hid hg
    clear hs hf hok hc1 hc2 hw ha hg HR
    obtain ⟨kk, hkk⟩ : ∃ kk, kind d.low d.high = kk := ⟨_, rfl⟩
    by_cases h3 : kk = 3
    · subst h3
      have HE := Lib.hid (show d = fin from by
        have := HF.out
        cases gk with
        | zero => exact this
        | succ q => unfold widD at this; rwa [if_pos hkk] at this)
      go_wp2_with fail
      have hcon := excess_any d.low d.high 3 wr hkk
      rw [excT_3] at hcon
      refine hcon.mono ?_
      clear hcon hkk
      rintro ee w1 ⟨rfl, hb⟩
      have HS1 := Lib.hid (HS.out.next hb)
      have HG1 := Lib.hid (grown_trans HG.out (only_of_below hb (some p)))
      clear hb c0 c1
      go_wp2
      exact bodyPost_ret (v := .tuple #[]) (by simp [results, Try.results73, go_sem]) rfl ⟨rfl, by rw [← HE.out]; exact HS1.out, HG1.out⟩
    · cases gk with
      | zero => exact absurd (widS_zero HOK.out HW.out) (by omega)
      | succ q =>
        obtain ⟨tk, htk⟩ : ∃ tk, takeK kk = tk := ⟨_, rfl⟩
        have HKK := Lib.hid hkk
        have HTK := Lib.hid htk
        obtain ⟨g1, g2, g3, g4, g5, g6⟩ := stepD_facts (l := l) HOK.out (by omega) HC1.out HC2.out
        rw [hkk, htk] at g1
        go_wp2_with fail
        refine (excess_t d.low d.high kk tk wr hkk htk h3).mono ?_
        clear hkk htk
        rintro ee w1 ⟨rfl, hb⟩
        have HS1 := Lib.hid (HS.out.next hb)
        have HG1 := Lib.hid (grown_trans HG.out (only_of_below hb (some p)))
        clear hb HS HG c0 c1
        obtain ⟨lo, hlo⟩ : ∃ lo, lo = 2 * (d.low - tk) := ⟨_, rfl⟩
        obtain ⟨hi, hhi⟩ : ∃ hi, hi = 2 * (d.high - tk) + 1 := ⟨_, rfl⟩
        obtain ⟨b, hb⟩ : ∃ b, b = (bitF l d.at_).toNat := ⟨_, rfl⟩
        have b2 : b < 2 := by have := toNat_le (bitF l d.at_); omega
        obtain ⟨co, hco⟩ : ∃ co, co = 2 * (d.code - tk) + b := ⟨_, rfl⟩
        have HSD := Lib.hid (show stepD l d = ⟨lo, hi, co, d.at_ + 1⟩ by unfold stepD; rw [HKK.out, HTK.out, hlo, hhi, hco, hb])
        have l0 : lo ≤ co ∧ co ≤ hi ∧ hi < 4294967296 := by have e := HSD.out; rw [e] at g2 g3 g4; exact ⟨g2, g3, g4⟩
        obtain ⟨l1, l2, l3⟩ := l0
        have ok1 := HOK.out.1
        have ok2 := HOK.out.2
        have k1 := HC1.out
        have k2 := HC2.out
        have HLO := Lib.hid hlo
        have HHI := Lib.hid hhi
        have HCO := Lib.hid hco
        have HBT := Lib.hid hb
        clear g2 g3 g4 g5 g6 hlo hhi hco hb
        go_wp2_with fail
        with_reducible refine (double_n p d.low d.high tk lo hi (tk : Int) w1 rfl g1 (by omega) HLO.out HHI.out (by omega) l3 (by omega) ok2 (RdS.two HS1.out)).mono ?_
        rintro ee w2 ⟨rfl, rfl⟩
        have HS2 := Lib.hid (HS1.out.iv lo hi)
        have HG2 := Lib.hid (only_setCell (only_setCell HG1.out (p := ⟨p, 0, none⟩) (.inl rfl) (.int .u32 (lo : Int))) (p := ⟨p, 1, none⟩) (.inl rfl) (.int .u32 (hi : Int)))
        generalize ((w1.setCell ⟨p, 0, none⟩ (.int .u32 (lo : Int))).setCell ⟨p, 1, none⟩ (.int .u32 (hi : Int))) = w2 at HS2 HG2 ⊢
        clear HS1 HG1
        obtain ⟨co1, hco1⟩ : ∃ co1, co1 = d.code - tk := ⟨_, rfl⟩
        obtain ⟨co2, hco2⟩ : ∃ co2, co2 = co1 * 2 := ⟨_, rfl⟩
        have c1' : co2 < 4294967296 := by have := HCO.out; omega
        have c2' : co1 < 4294967296 := by omega
        have e1 : (d.code : Int) - (tk : Int) = (co1 : Int) := by omega
        have e2 : (co1 : Int) * 2 = (co2 : Int) := by omega
        have e3 : (co2 : Int) + (b : Int) = (co : Int) := by have := HCO.out; omega
        have v1 : IntKind.u32.wrap (co1 : Int) = (co1 : Int) := IntWalk.u32_in _ (by omega)
        have v2 : IntKind.u32.wrap (co2 : Int) = (co2 : Int) := IntWalk.u32_in _ (by omega)
        have v3 : IntKind.u32.wrap (co : Int) = (co : Int) := IntWalk.u32_in _ (by omega)
        clear hco1 hco2
        obtain ⟨-, -, x2, -, -, -⟩ := HS2.out.six
        have x3 := HS2.out.frozen 2
        have lp := HS2.out.lt
        have HI2 := Lib.hid (show IsB w2.drew (.agg #[.slice A n c, .int .i64 N]) l from isB_only hI.out (only_drew HG2.out) hA.out)
        have HS2d := Lib.hid (show RdS w2.drew p ⟨lo, hi, d.code, d.at_⟩ A n c N from HS2.out)
        dsimp only at x2
        go_wp2_with fail
        go_region_with (go_at_call 84; refine (bit_any p ⟨lo, hi, d.code, d.at_⟩ A n c N l b w2.drew HS2d HI2 HBT b2).mono ?_; rintro e w6 ⟨rfl, hb6⟩; have y2 : w6.cell? ⟨p, 2, none⟩ = some (.int .u32 (d.code : Int)) := (RdS.next HS2d.out hb6).cell 2; have y3 : w6.frozen? ⟨p, 2, none⟩ = false := (RdS.next HS2d.out hb6).frozen 2)
        all_goals
          have HS6 := Lib.hid (RdS.co (RdS.next HS2d.out hb6) co)
          have HG6 := Lib.hid (only_setCell (grown_trans (only_drew HG2.out) (only_of_below hb6 (some p))) (p := ⟨p, 2, none⟩) (.inl rfl) (.int .u32 (co : Int)))
          clear hb6 x2 x3 y2 y3 v1 v2 v3 e1 e2 e3
          generalize w6.setCell ⟨p, 2, none⟩ (.int .u32 (co : Int)) = w7 at HS6 HG6 ⊢
          obtain ⟨-, -, -, -, -, z5⟩ := HS6.out.six
          have z6 := HS6.out.frozen 5
          dsimp only at z5
          have a1 : d.at_ ≤ 1000000 := by have := HA.out; omega
          go_wp2
          have ea : (d.at_ : Int) + 1 = ((d.at_ + 1 : Nat) : Int) := by omega
          rw [ea]
          clear ea
          have HS8 := Lib.hid (RdS.pl HS6.out (d.at_ + 1))
          have HG8 := Lib.hid (only_setCell HG6.out (p := ⟨p, 5, none⟩) (.inl rfl) (.int .i64 ((d.at_ + 1 : Nat) : Int)))
          dsimp only at HS8
          generalize w7.setCell ⟨p, 5, none⟩ (.int .i64 ((d.at_ + 1 : Nat) : Int)) = w8 at HS8 HG8 ⊢
          go_roundg q
          case rel =>
            refine Lib.hid (WidS.step HOK.out (by rw [HKK.out]; exact h3) HF.out HC1.out HC2.out HW.out HA.out ?_ HG8.out)
            rw [HSD.out]
            exact HS8.out
          case measure => omega
end Go.Proofs.Ytgelgbfnioagbaa.Cd
