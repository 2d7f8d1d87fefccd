/-
  Own texts, laid together: Go.
-/
import Derived.Test.YtgelgbfnioagbaaGn
import Derived.Deep.QuietTactic
import Derived.BigQuiet
/- Go -/
namespace Go.Proofs.Ytgelgbfnioagbaa.Cd
open Go.RowKit
/-- what next knows, as long as nothing was stored -/
def NxS (w : World) (p bf : Nat) (d : De) (A : Option Addr) (n c : Nat) (N : Int) (C : Option Addr) (m dd : Nat) (xs : List Int) (u : World) : Prop :=
  RdS u p d A n c N ∧ Blk u bf 30 #[.slice C m dd] ∧ Fq.RdI u C m xs ∧ Below w.heap.size w u
section
variable {w : World} {p bf : Nat} {d : De} {A : Option Addr} {n c : Nat} {N : Int} {C : Option Addr} {m dd : Nat} {xs : List Int} {u u' : World}
theorem NxS.next (h : NxS w p bf d A n c N C m dd xs u) (hb : Below u.heap.size u u') : NxS w p bf d A n c N C m dd xs u' :=
  ⟨h.1.next hb, h.2.1.below hb h.2.1.lt, h.2.2.1.below hb, h.2.2.2.trans (hb.mono h.2.2.2.size)⟩
theorem NxS.drew (h : NxS w p bf d A n c N C m dd xs u) : NxS w p bf d A n c N C m dd xs u.drew := ⟨h.1, h.2.1, h.2.2.1, Below.drew h.2.2.2⟩
theorem NxS.drewN (h : NxS w p bf d A n c N C m dd xs u) (k : Nat) : NxS w p bf d A n c N C m dd xs (u.drewN k) := ⟨h.1, h.2.1, h.2.2.1, below_drewN h.2.2.2 k⟩
theorem nxs_start (h : RdS w p d A n c N) (hx : Fq.RdI w C m xs) : NxS w p w.heap.size d A n c N C m dd xs (w.alloc (.cells #[.slice C m dd] 30)) :=
  ⟨Blk.alloc h _, Blk.new w _ _, hx.alloc _, (Below.refl w.heap.size w).alloc (Nat.le_refl _) _⟩
end
theorem next_bad (p : Nat) (d : De) (A : Option Addr) (n c : Nat) (N : Int) (C : Option Addr) (m dd : Nat) (xs : List Int) (w : World) (hs : Hid (RdS w p d A n c N)) (hx : Hid (Fq.RdI w C m xs)) (hm : Hid (m ≤ maxLen)) (hok : Hid (Fq.okF xs = false)) :
    Calls Try.prog 49 #[.pointer (some ⟨p, 0, none⟩), .agg #[.slice C m dd]] w fun e w' => e = .returned (.tuple #[.int .i64 0, .int .i64 1]) ∧ Below w.heap.size w w' := by
  have H0 := Lib.hid (nxs_start (dd := dd) hs.out hx.out)
  go_enter Try.func49, Try.ntmps49
  go_wp2_with fail
  generalize w.alloc (.cells #[.slice C m dd] 30) = w0 at H0 ⊢
  refine (Fq.check_any C m dd xs false w0 (Lib.hid H0.out.2.2.1) hm.out hok.out).mono ?_
  rintro e w1 ⟨rfl, hb1⟩
  have H1 := Lib.hid (H0.out.next hb1)
  clear hb1 H0
  rw [show Fq.errN false = 1 from rfl]
  go_wp2
  go_ret2
  exact ⟨rfl, H1.out.2.2.2⟩
set_option maxRecDepth 100000 in
set_option maxHeartbeats 1000000 in
theorem next_short (p : Nat) (d : De) (A : Option Addr) (n c L : Nat) (C : Option Addr) (m dd : Nat) (xs : List Int) (w : World) (hs : Hid (RdS w p d A n c (L : Int))) (hL : L ≤ 65536) (ha : L + 32 < d.at_) (_ha2 : d.at_ ≤ 1000000) (hx : Hid (Fq.RdI w C m xs)) (hm : Hid (m ≤ maxLen)) (hok : Hid (Fq.okF xs = true)) :
    Calls Try.prog 49 #[.pointer (some ⟨p, 0, none⟩), .agg #[.slice C m dd]] w fun e w' => e = .returned (.tuple #[.int .i64 0, .int .i64 20]) ∧ Below w.heap.size w w' := by
  have H0 := Lib.hid (nxs_start (dd := dd) hs.out hx.out)
  obtain ⟨L3, hL3⟩ : ∃ L3, L3 = L + 32 := ⟨_, rfl⟩
  have eL : (L : Int) + 32 = (L3 : Int) := by omega
  have v1 : IntKind.i64.wrap (L3 : Int) = (L3 : Int) := IntWalk.i64_in _ (by omega)
  have dd1 : decide (L3 < d.at_) = true := by simp; omega
  have dd2 : decide ((L3 : Int) < (d.at_ : Int)) = true := by simp; omega
  clear hL3
  have EL := Lib.hid eL
  have V1 := Lib.hid v1
  clear eL v1
  go_enter Try.func49, Try.ntmps49
  go_wp2_with fail
  generalize w.alloc (.cells #[.slice C m dd] 30) = w0 at H0 ⊢
  refine (Fq.check_any C m dd xs true w0 (Lib.hid H0.out.2.2.1) hm.out hok.out).mono ?_
  rintro e w1 ⟨rfl, hb1⟩
  have H1 := Lib.hid (H0.out.next hb1)
  clear hb1 H0
  rw [show Fq.errN true = 0 from rfl]
  obtain ⟨-, -, -, -, x4, x5⟩ := H1.out.1.six
  have eL := EL.out
  have v1 := V1.out
  go_wp2_with fail
  go_quiet (fail)
  go_wp2
  go_ret2
  exact ⟨rfl, below_drewN H1.out.2.2.2 _⟩
end Go.Proofs.Ytgelgbfnioagbaa.Cd
