/-
  Own texts, laid together: Lx.
-/
import Derived.Test.YtplfcncibmgllaaLs
/- Lx -/
namespace Go.Proofs.Ytplfcncibmgllaa.Lp
open Go.RowKit Go.Proofs.Ytplfcncibmgllaa.Fx Go.Proofs.Ytplfcncibmgllaa.Fq Go.Proofs.Ytplfcncibmgllaa.Tb
theorem yi_loadA {ops : Array Oper} {o : Oper} {a : Act} {S : World → Prop} (hw : Region.wanted o (yielded ops a.tmps) = true) (T : TypeId) (x : Operand) (ho : o.op = .load T x) {ad : Addr} {n : Nat} (hx : a.eval x = .pointer (some ad)) (ha : Arr T n) {xs : List Int}
    (hS : Hid (∀ u, S u → ∀ j v, (ic xs)[j]? = some v → u.cell? (ad.add j) = some v)) (hl : Hid (xs.length = n)) : YieldsIf Try.prog ops S o (.agg (icells xs)) a :=
  .inl ⟨hw, fun u hu => by
    unfold execOp
    simp only [ho, hx, Instr.loadAt, Instr.sureAddr, Sem.run_bind, Sem.run_pure, Result.andThen_ok, run_load_any ha ad hl.out (hS.out u hu)]⟩
/-- two slices that read as the same frames -/
def Two (A B : Option Addr) (n : Nat) (fs : List (List Int)) (w u : World) : Prop := RdA u A n fs ∧ RdA u B n fs ∧ Below w.heap.size w u
theorem Two.drew {A B : Option Addr} {n : Nat} {fs : List (List Int)} {w u : World} (h : Two A B n fs w u) : Two A B n fs w u.drew := ⟨h.1, h.2.1, ⟨h.2.2.os, h.2.2.tape, h.2.2.output, h.2.2.size, h.2.2.block⟩⟩
set_option maxRecDepth 100000 in
set_option maxHeartbeats 4000000 in
theorem same_pcms (A B : Option Addr) (n c d : Nat) (fs : List (List Int)) (w : World) (h1 : Hid (RdA w A n fs)) (h2 : Hid (RdA w B n fs)) (hn : n ≤ 1000) :
    Calls Try.prog 9 #[.slice A n c, .slice B n d] w fun e w' => e = .returned (.bool true) ∧ Below w.heap.size w w' := by
  have HT := Lib.hid (show Two A B n fs w w from ⟨h1.out, h2.out, Below.refl _ _⟩)
  have dn : ((n : Int) != (n : Int)) = false := by simp
  clear h1 h2
  go_enter Try.func9, Try.ntmps9
  go_wp2_with fail
  clear dn
  go_loopw [13] (fun vi wr => ∃ k : Nat, k ≤ n ∧ vi = .int .i64 (k : Int) ∧ Hid (Two A B n fs w wr)) (fun vi _ => n - (intOf vi).toNat)
  case atStart => exact ⟨0, by omega, rfl, HT⟩
  case round =>
    clear HT
    obtain ⟨k, hk, rfl, HT⟩ := hrel
    by_cases hlt : k < n
    · have kn : (k : Int) < (n : Int) := by omega
      obtain ⟨ad, f, rfl, hfg, hfl, -⟩ := HT.out.1.at_ hlt
      obtain ⟨bd, f2, rfl, hfg2, -, -⟩ := HT.out.2.1.at_ hlt
      obtain rfl : f2 = f := by rw [hfg] at hfg2; injection hfg2 with h; exact h.symm
      have LX := Lib.hid hfl
      have H1 := Lib.hid (fun u (hu : Two (some ad) (some bd) n fs w u) => (show ∀ j v, (ic f2)[j]? = some v → u.cell? ((ad.add (k * 16)).add j) = some v by
        obtain ⟨a', g, e, hg, -, hc⟩ := hu.1.at_ hlt
        injection e with e
        subst e
        rw [hfg] at hg
        injection hg with hg
        subst hg
        exact hc))
      have H2 := Lib.hid (fun u (hu : Two (some ad) (some bd) n fs w u) => (show ∀ j v, (ic f2)[j]? = some v → u.cell? ((bd.add (k * 16)).add j) = some v by
        obtain ⟨a', g, e, hg, -, hc⟩ := hu.2.1.at_ hlt
        injection e with e
        subst e
        rw [hfg] at hg
        injection hg with hg
        subst hg
        exact hc))
      clear hfg hfg2
      have heq := fun u => run_equalIn_same 28 (n := 16) (by kernel_rfl) f2 hfl u
      have hgd := grdPcm
      clear hfl
      go_wp2_with fail
      refine wp_region_held_drew (S := Two (some ad) (some bd) n fs w) (by kernel_rfl) HT.out.drew (fun hHeld => ?_)
      have HT2 := Lib.hid HT.out.drew
      clear HT
      generalize World.drew _ = wd at HT2 hHeld ⊢
      (refine wa_take (i := 0) rfl (by kernel_rfl) (by kernel_rfl) (by kernel_rfl) (fun _ _ _ h => h) (yi_free rfl (fun u => rfl)) hHeld rfl ?_; (try simp only [Act.put, List.setIfInBounds_toArray, List.set_cons_zero, List.set_cons_succ]))
      (refine wa_take (i := 1) rfl (by kernel_rfl) (by kernel_rfl) (by kernel_rfl) (fun _ _ _ h => h) (yi_free rfl (fun u => rfl)) hHeld rfl ?_; (try simp only [Act.put, List.setIfInBounds_toArray, List.set_cons_zero, List.set_cons_succ]))
      (refine wa_take (i := 2) (v := .pointer (some (ad.add (k * 16)))) rfl (by kernel_rfl) (by kernel_rfl) (by kernel_rfl) (fun _ _ _ h => h) (yi_free rfl (fun u => by go_simp)) hHeld rfl ?_; (try simp only [Act.put, List.setIfInBounds_toArray, List.set_cons_zero, List.set_cons_succ]))
      (refine wa_take (i := 3) rfl (by kernel_rfl) (by kernel_rfl) (by kernel_rfl) (fun _ _ _ h => h) (yi_loadA rfl _ _ rfl rfl arrPcm H1 LX) hHeld rfl ?_; (try simp only [Act.put, List.setIfInBounds_toArray, List.set_cons_zero, List.set_cons_succ]))
      (refine wa_take (i := 4) rfl (by kernel_rfl) (by kernel_rfl) (by kernel_rfl) (fun _ _ _ h => h) (yi_free rfl (fun u => rfl)) hHeld rfl ?_; (try simp only [Act.put, List.setIfInBounds_toArray, List.set_cons_zero, List.set_cons_succ]))
      (refine wa_take (i := 5) rfl (by kernel_rfl) (by kernel_rfl) (by kernel_rfl) (fun _ _ _ h => h) (yi_free rfl (fun u => rfl)) hHeld rfl ?_; (try simp only [Act.put, List.setIfInBounds_toArray, List.set_cons_zero, List.set_cons_succ]))
      (refine wa_take (i := 6) (v := .pointer (some (bd.add (k * 16)))) rfl (by kernel_rfl) (by kernel_rfl) (by kernel_rfl) (fun _ _ _ h => h) (yi_free rfl (fun u => by go_simp)) hHeld rfl ?_; (try simp only [Act.put, List.setIfInBounds_toArray, List.set_cons_zero, List.set_cons_succ]))
      (refine wa_take (i := 7) rfl (by kernel_rfl) (by kernel_rfl) (by kernel_rfl) (fun _ _ _ h => h) (yi_loadA rfl _ _ rfl rfl arrPcm H2 LX) hHeld rfl ?_; (try simp only [Act.put, List.setIfInBounds_toArray, List.set_cons_zero, List.set_cons_succ]))
      (refine wa_take (i := 8) (v := .bool false) rfl (by kernel_rfl) (by kernel_rfl) (by kernel_rfl) (fun _ _ _ h => h) (yi_free rfl (fun u => by go_simp)) hHeld rfl ?_; (try simp only [Act.put, List.setIfInBounds_toArray, List.set_cons_zero, List.set_cons_succ]))
      refine wpAnyH_done (by kernel_rfl) ?_ _
      go_wp2
      go_roundw
      case rel => exact ⟨k + 1, by omega, by go_num, HT2⟩
      case measure => simp [intOf]; omega
    · obtain rfl : k = n := by omega
      go_wp2
      go_ret
      exact ⟨rfl, HT.out.2.2⟩
end Go.Proofs.Ytplfcncibmgllaa.Lp
