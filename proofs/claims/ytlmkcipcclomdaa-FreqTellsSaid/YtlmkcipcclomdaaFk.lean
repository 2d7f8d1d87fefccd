/-
  What slices' insertion sort does with greatestFirst's comparison.
-/
import Derived.Test.YtlmkcipcclomdaaFj
namespace Go.Proofs.Ytlmkcipcclomdaa.Fq
open Go.RowKit

/-- the function value of greatestFirst's comparison -/
def cmpV (C : Nat) : Value := .func (.func 38) #[] #[.pointer (some ⟨C, 0, none⟩)]
/-- whether the place x goes ahead of the place y -/
def ltL (ls : List Int) (x y : Nat) : Bool := decide (cmpI (ls.getD y 0) (ls.getD x 0) < 0)
/-- one number moved ahead -/
def insI (ls : List Int) (a : Nat) : Nat → List Nat → List Nat
  | 0, xs => xs
  | j + 1, xs => if a < j + 1 ∧ ltL ls (xs.getD (j + 1) 0) (xs.getD j 0) = true then insI ls a j (swapL xs (j + 1) j) else xs
def insO (ls : List Int) (a : Nat) : Nat → Nat → List Nat → List Nat
  | 0, _, xs => xs
  | r + 1, i, xs => insO ls a r (i + 1) (insI ls a i xs)
theorem insI_perm (ls : List Int) (a j : Nat) (xs : List Nat) (h : j < xs.length) : (insI ls a j xs).Perm xs := by
  induction j generalizing xs with
  | zero => exact List.Perm.refl _
  | succ j ih =>
    unfold insI
    split
    · exact (ih _ (by rw [swapL_length]; omega)).trans (swapL_perm xs _ _ h (by omega))
    · exact List.Perm.refl _
theorem insO_perm (ls : List Int) (a r i : Nat) (xs : List Nat) (h : i + r ≤ xs.length) : (insO ls a r i xs).Perm xs := by
  induction r generalizing i xs with
  | zero => exact List.Perm.refl _
  | succ r ih =>
    have h1 := insI_perm ls a i xs (by omega)
    exact (ih (i + 1) _ (by rw [h1.length_eq]; omega)).trans h1
/-- the row B holds xs, and nothing else is another than in w -/
def St (w wr : World) (B : Nat) (xs : List Nat) : Prop := w.grownBy wr (some B) ∧ Blk wr B 3 (ncells xs)
theorem St.drewN {w wr : World} {B : Nat} {xs : List Nat} (h : St w wr B xs) (n : Nat) : St w (wr.drewN n) B xs := ⟨only_drewN h.1 n, h.2⟩
theorem St.drew {w wr : World} {B : Nat} {xs : List Nat} (h : St w wr B xs) : St w wr.drew B xs := ⟨only_drew h.1, h.2⟩
theorem St.swap {w wr : World} {B : Nat} {xs : List Nat} (h : St w wr B xs) (i j x y : Nat) (hx : xs.getD i 0 = x) (hy : xs.getD j 0 = y) :
    St w ((wr.setCell ⟨B, i, none⟩ (.int .i64 (y : Int))).setCell ⟨B, j, none⟩ (.int .i64 (x : Int))) B (swapL xs i j) := by
  refine ⟨only_setCell (only_setCell h.1 (.inl rfl) _) (.inl rfl) _, ?_⟩
  unfold swapL
  rw [hx, hy]
  exact ncells_put (ncells_put h.2 i y) j x
theorem St.trans {w wr wr' : World} {B : Nat} {xs ys : List Nat} (h : St w wr B xs) (h' : St wr wr' B ys) : St w wr' B ys :=
  ⟨World.grownBy.trans h.1 h'.1, h'.2⟩
def StP (w : World) (B : Nat) (xs : List Nat) (e : Ending) (w' : World) : Prop := e = .returned (.tuple #[]) ∧ St w w' B xs
/-- places within n -/
def Ins (xs : List Nat) (n : Nat) : Prop := ∀ x ∈ xs, x < n
theorem Ins.perm {xs ys : List Nat} {n : Nat} (h : Ins xs n) (hp : ys.Perm xs) : Ins ys n := fun x hx => h x (hp.mem_iff.1 hx)
theorem Ins.at_ {xs : List Nat} {n i : Nat} (h : Ins xs n) (hi : i < xs.length) : xs.getD i 0 < n := by
  have e : xs.getD i 0 = xs[i] := by simp [List.getD_eq_getElem?_getD, hi]
  rw [e]; exact h _ (List.getElem_mem hi)
set_option maxRecDepth 100000 in
set_option maxHeartbeats 2000000 in
theorem insertion_any (B C n c a b : Nat) (ls : List Int) (xs : List Nat) (w : World) (hc : Hid (CmpOk w B C ls)) (hs : Hid (St w w B xs)) (hl : Hid (xs.length = n)) (hi : Hid (Ins xs ls.length)) (hab : a ≤ b) (hb : b ≤ n) (hn : n ≤ 1000000) :
    Calls Try.prog 45 #[.slice (some ⟨B, 0, none⟩) n c, .int .i64 (a : Int), .int .i64 (b : Int), cmpV C] w (StP w B (insO ls a (b - (a + 1)) (a + 1) xs)) := by
  unfold cmpV
  go_enter Try.func45, Try.ntmps45
  go_wp2
  go_loopw [8, 9] (fun vi _ wr => ∃ (i : Nat) (dk : List Nat), vi = .int .i64 (i : Int) ∧ a < i ∧ i ≤ b + 1 ∧ Hid (St w wr B dk ∧ dk.Perm xs ∧ insO ls a (b - i) i dk = insO ls a (b - (a + 1)) (a + 1) xs)) (fun vi _ _ => b + 1 - (intOf vi).toNat)
  case atStart => exact ⟨a + 1, xs, by go_num, by omega, by omega, Lib.hid ⟨hs.out, List.Perm.refl _, rfl⟩⟩
  case round =>
    obtain ⟨i, dk, rfl, hai, hib, HO⟩ := hrel
    by_cases hlt : i < b
    · have hltz : (i : Int) < (b : Int) := by omega
      go_wp2
      go_loopw [9] (fun vj wr2 => ∃ (j : Nat) (dj : List Nat), vj = .int .i64 (j : Int) ∧ a ≤ j ∧ j ≤ i ∧ Hid (St w wr2 B dj ∧ dj.Perm xs ∧ insI ls a j dj = insI ls a i dk)) (fun vj _ => (intOf vj).toNat)
      case atStart => exact ⟨i, dk, rfl, by omega, by omega, Lib.hid ⟨HO.out.1, HO.out.2.1, rfl⟩⟩
      case round =>
        obtain ⟨j, dj, rfl, haj, hji, HI⟩ := hrel
        have HLJ := Lib.hid (show dj.length = n by rw [HI.out.2.1.length_eq, hl.out])
        have out : (j ≤ a ∨ ∃ k, j = k + 1 ∧ ltL ls (dj.getD (k + 1) 0) (dj.getD k 0) = false) → insO ls a (b - (i + 1)) (i + 1) dj = insO ls a (b - (a + 1)) (a + 1) xs := fun hh => by
          have e : insI ls a j dj = dj := by
            rcases hh with hh | ⟨k, rfl, hh⟩
            · cases j with
              | zero => rfl
              | succ j => unfold insI; rw [if_neg (by omega)]
            · unfold insI; rw [if_neg (fun h => by rw [hh] at h; exact absurd h.2 (by simp))]
          rw [← HO.out.2.2, show b - i = (b - (i + 1)) + 1 by omega]
          show _ = insO ls a (b - (i + 1)) (i + 1) (insI ls a i dk)
          rw [← HI.out.2.2, e]
        have OUT := Lib.hid out
        clear out
        by_cases hja : a < j
        · obtain ⟨k, rfl⟩ : ∃ k, j = k + 1 := ⟨j - 1, by omega⟩
          have c1 := ncells_at HI.out.1.2 (i := k + 1) (by rw [HLJ.out]; omega)
          have c0 := ncells_at HI.out.1.2 (i := k) (by rw [HLJ.out]; omega)
          have f1 := Blk.frozen HI.out.1.2 (k + 1)
          have f0 := Blk.frozen HI.out.1.2 k
          have HIN := hi.out.perm HI.out.2.1
          have l1 := HIN.at_ (i := k + 1) (by rw [HLJ.out]; omega)
          have l0 := HIN.at_ (i := k) (by rw [HLJ.out]; omega)
          clear HIN
          obtain ⟨x, hx⟩ : ∃ x, dj.getD (k + 1) 0 = x := ⟨_, rfl⟩
          obtain ⟨y, hy⟩ : ∃ y, dj.getD k 0 = y := ⟨_, rfl⟩
          rw [hx] at c1 l1
          rw [hy] at c0 l0
          have HX := Lib.hid hx
          have HY := Lib.hid hy
          clear hx hy
          obtain ⟨v, hv⟩ : ∃ v, cmpI (ls.getD y 0) (ls.getD x 0) = v := ⟨_, rfl⟩
          have hcon : ∀ m, Calls Try.prog 38 #[.int .i64 (x : Int), .int .i64 (y : Int), .pointer (some ⟨C, 0, none⟩)] (wr.drewN m) fun e w' => e = .returned (.int .i64 v) ∧ ∃ q, w' = (wr.drewN m).drewN q := fun m => by
            rw [← hv]
            exact less_any B C x y ls _ ((hc.out.only HI.out.1.1).drewN m) l1 l0
          have HV := Lib.hid hv
          clear hv l1 l0
          have i0 : (a : Int) < (k : Int) + 1 := by omega
          have i1 : (0 : Int) ≤ (k : Int) + 1 := by omega
          have i2 : ((k : Int) + 1).toNat = k + 1 := by omega
          have i3 : (k : Int) + 1 < (n : Int) := by omega
          have i4 : (k : Int) < (n : Int) := by omega
          have i5 : IntKind.i64.wrap (k : Int) = (k : Int) := IntWalk.i64_in _ (by omega)
          by_cases hlv : v < 0
          · go_wp2_with fail
            go_quiet ((go_at_call 38; refine Calls.quiet_of (hcon _)))
            go_wp2_with fail
            have HS2 := Lib.hid (HI.out.1.drewN nq)
            have c1' : (wr.drewN nq).cell? ⟨B, k + 1, none⟩ = some (.int .i64 (x : Int)) := c1
            have c0' : (wr.drewN nq).cell? ⟨B, k, none⟩ = some (.int .i64 (y : Int)) := c0
            have f1' : (wr.drewN nq).frozen? ⟨B, k + 1, none⟩ = false := f1
            have f0' : (wr.drewN nq).frozen? ⟨B, k, none⟩ = false := f0
            clear c1 c0 f1 f0 hcon
            generalize wr.drewN nq = wq at HS2 c1' c0' f1' f0' ⊢
            go_region
            all_goals
              go_wp2
              go_roundw
              case rel =>
                refine ⟨k, swapL dj (k + 1) k, by first | rfl | go_num, by omega, by omega, Lib.hid ⟨?_, (swapL_perm dj _ _ (by rw [HLJ.out]; omega) (by rw [HLJ.out]; omega)).trans HI.out.2.1, ?_⟩⟩
                · first | exact HS2.out.swap (k + 1) k x y HX.out HY.out | exact (HS2.out.swap (k + 1) k x y HX.out HY.out).drew
                · rw [← HI.out.2.2]
                  conv => rhs; unfold insI
                  rw [if_pos ⟨hja, by unfold ltL; rw [HX.out, HY.out, HV.out]; exact decide_eq_true hlv⟩]
              case measure => simp [intOf]
          · go_wp2_with fail
            go_quiet ((go_at_call 38; refine Calls.quiet_of (hcon _)))
            go_wp2
            go_roundw
            case rel => exact ⟨i + 1, dj, by go_num, by omega, by omega, Lib.hid ⟨HI.out.1.drewN nq, HI.out.2.1, OUT.out (.inr ⟨k, rfl, by unfold ltL; rw [HX.out, HY.out, HV.out]; exact decide_eq_false (by omega)⟩)⟩⟩
            case measure => simp [intOf]; omega
        · have d1 : decide ((a : Int) < (j : Int)) = false := by simp; omega
          go_wp2_with fail
          go_quiet (fail)
          go_wp2
          go_roundw
          case rel => exact ⟨i + 1, dj, by go_num, by omega, by omega, Lib.hid ⟨HI.out.1.drewN _, HI.out.2.1, OUT.out (.inl (by omega))⟩⟩
          case measure => simp [intOf]; omega
    · go_wp2
      exact bodyPost_end (results_none rfl _ _ _) rfl ⟨rfl, by
        obtain ⟨h1, h2, h3⟩ := HO.out
        have e : b - i = 0 := by omega
        rw [e] at h3
        rw [← h3]
        exact h1⟩
end Go.Proofs.Ytlmkcipcclomdaa.Fq
