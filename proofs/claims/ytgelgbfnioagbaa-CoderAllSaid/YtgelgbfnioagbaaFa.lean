/-
  Own texts, laid together: Fm, Fa, Fb, Fc, Fd, Fe, Ff, Fg, Fh, Fi.
-/
import Derived.Test.YtgelgbfnioagbaaBa
import Derived.Test.YtgelgbfnioagbaaChecked
import Derived.WalkKit
import Derived.WalkSpells
import Derived.WalkLawsBesides
import Derived.Lib.Small
import Derived.Lib.Walk
import Derived.Lib.Hide
import Derived.Deep.QuietTactic
import Derived.BigQuiet
import Derived.Deep.OwnRows
import Derived.Laws.CopyOwn
import Derived.IntWalk
/- Fm -/
namespace Go.Proofs.Ytgelgbfnioagbaa.Fq
open Go.RowKit
/-- the slice value '.slice A n c' reads as the ints zs -/
def RdI (w : World) (A : Option Addr) (n : Nat) (zs : List Int) : Prop :=
  zs.length = n ∧ (0 < n → ∃ ad, A = some ad ∧ ∀ j x, zs[j]? = some x → w.cell? (ad.add j) = some (.int .i64 x))
section
variable {w w' : World} {A : Option Addr} {n : Nat} {zs : List Int}
theorem RdI.none_ : RdI w A 0 [] := ⟨rfl, fun h => absurd h (by omega)⟩
theorem get_of_lt {k : Nat} (h : k < zs.length) : zs[k]? = some (zs.getD k 0) := by simp [List.getD_eq_getElem?_getD, h]
theorem RdI.at_ {k : Nat} (h : RdI w A n zs) (hk : k < n) : ∃ ad, A = some ad ∧ ad.block < w.heap.size ∧ w.cell? (ad.add k) = some (.int .i64 (zs.getD k 0)) := by
  obtain ⟨ad, e, hc⟩ := h.2 (by omega)
  have hcell := hc k _ (get_of_lt (by have := h.1; omega))
  have hb := World.block_lt_of_cell? _ _ hcell
  rw [block_of_add] at hb
  exact ⟨ad, e, hb, hcell⟩
theorem RdI.keep (h : RdI w A n zs) (hk : ∀ p : Addr, p.block < w.heap.size → w'.cell? p = w.cell? p) : RdI w' A n zs :=
  ⟨h.1, fun hn => by
    obtain ⟨ad, e, hc⟩ := h.2 hn
    refine ⟨ad, e, fun j x hx => ?_⟩
    have hcell := hc j x hx
    exact (hk _ (World.block_lt_of_cell? _ _ hcell)).trans hcell⟩
theorem RdI.below (h : RdI w A n zs) (hb : Below w.heap.size w w') : RdI w' A n zs := h.keep fun _ hp => hb.cell hp
theorem RdI.only {row : Nat} (h : RdI w A n zs) (hb : w.grownBy w' (some row)) (hA : ∀ ad, A = some ad → 0 < n → ad.block ≠ row) : RdI w' A n zs :=
  ⟨h.1, fun hn => by
    obtain ⟨ad, e, hc⟩ := h.2 hn
    refine ⟨ad, e, fun j x hx => ?_⟩
    have hcell := hc j x hx
    have hlt := World.block_lt_of_cell? _ _ hcell
    exact (World.cell?_of_block (hb.block _ hlt (fun e' => hA ad e hn (by rw [block_of_add] at e'; injection e')))).trans hcell⟩
theorem RdI.alloc (h : RdI w A n zs) (o : Obj) : RdI (w.alloc o) A n zs := h.keep fun p hp => World.cell?_alloc_lt w o p (by omega)
theorem RdI.drew (h : RdI w A n zs) : RdI w.drew A n zs := h
theorem RdI.drewN (h : RdI w A n zs) (k : Nat) : RdI (w.drewN k) A n zs := h
theorem RdI.zero {c : Nat} (h : RdI w A 0 zs) (_ : c = c) : zs = [] := List.eq_nil_of_length_eq_zero h.1
end
theorem RdI.cell {w : World} {ad : Addr} {n k : Nat} {zs : List Int} (h : RdI w (some ad) n zs) (hk : k < n) : w.cell? (ad.add k) = some (.int .i64 (zs.getD k 0)) := by
  obtain ⟨ad', e, _, hc⟩ := h.at_ hk
  injection e with e
  subst e
  exact hc
theorem RdI.cell0 {w : World} {ad : Addr} {n : Nat} {zs : List Int} (h : RdI w (some ad) n zs) (hk : 0 < n) : w.cell? ad = some (.int .i64 (zs.getD 0 0)) := by
  have := h.cell hk
  rwa [show ad.add 0 = ad by unfold Addr.add; simp] at this
theorem RdI.cellS {w : World} {ad : Addr} {n k : Nat} {zs : List Int} (h : RdI w (some ad) n zs) (hk : k + 1 < n) : w.cell? ⟨ad.block, ad.off + (k + 1), none⟩ = some (.int .i64 (zs.getD (k + 1) 0)) := by
  have := h.cell hk
  rwa [show ad.add (k + 1) = ⟨ad.block, ad.off + (k + 1), none⟩ by unfold Addr.add; simp] at this
/-- ints as a block's cells -/
def icells (zs : List Int) : Array Value := (zs.map fun x => Value.int .i64 x).toArray
theorem icells_size (zs : List Int) : (icells zs).size = zs.length := by simp [icells]
theorem icells_get {zs : List Int} {i : Nat} (h : i < zs.length) : (icells zs)[i]? = some (.int .i64 (zs.getD i 0)) := by
  simp [icells, List.getD_eq_getElem?_getD, h]
theorem icells_set (zs : List Int) (i : Nat) (x : Int) : (icells zs).setIfInBounds i (.int .i64 x) = icells (zs.set i x) := by
  simp [icells, List.map_set]
theorem icells_zero (m : Nat) : madeCells #[Value.int .i64 0] m = icells (List.replicate m 0) := by
  refine Array.ext (by simp [madeCells, icells_size]) fun i h1 h2 => ?_
  simp [madeCells, icells, Nat.mod_one]
theorem RdI.of_blk {w : World} {g : Nat} {t : TypeId} {zs : List Int} (h : Blk w g t (icells zs)) {n : Nat} (hn : zs.length = n) : RdI w (some ⟨g, 0, none⟩) n zs := by
  refine ⟨hn, fun _ => ⟨_, rfl, fun j x hx => ?_⟩⟩
  rw [add_own, h.cell]
  simp [icells, hx]
theorem blk_at {w : World} {g : Nat} {t : TypeId} {zs : List Int} (h : Blk w g t (icells zs)) {i : Nat} (hi : i < zs.length) : w.cell? ⟨g, i, none⟩ = some (.int .i64 (zs.getD i 0)) := (h.cell i).trans (icells_get hi)
theorem blk_put {w : World} {g : Nat} {t : TypeId} {zs : List Int} (h : Blk w g t (icells zs)) (i : Nat) (x : Int) : Blk (w.setCell ⟨g, i, none⟩ (.int .i64 x)) g t (icells (zs.set i x)) := by
  have := h.set_ i (.int .i64 x)
  rwa [icells_set] at this
/-- all together -/
def tot (l : List Int) : Int := l.foldr (· + ·) 0
theorem tot_nil : tot [] = 0 := rfl
theorem tot_cons (x : Int) (l : List Int) : tot (x :: l) = x + tot l := rfl
theorem tot_append (a b : List Int) : tot (a ++ b) = tot a + tot b := by
  induction a with
  | nil => simp [tot_nil]
  | cons x a ih => rw [List.cons_append, tot_cons, tot_cons, ih]; omega
theorem take_snocI (l : List Int) (k : Nat) (h : k < l.length) : l.take (k + 1) = l.take k ++ [l.getD k 0] := by
  rw [List.take_succ_eq_append_getElem h]
  simp [List.getD_eq_getElem?_getD, h]
theorem tot_snoc (l : List Int) (k : Nat) (h : k < l.length) : tot (l.take (k + 1)) = tot (l.take k) + l.getD k 0 := by
  rw [take_snocI l k h, tot_append, tot_cons, tot_nil]; omega
theorem tot_bd (l : List Int) (M : Int) (h : ∀ x ∈ l, 0 ≤ x ∧ x ≤ M) : 0 ≤ tot l ∧ tot l ≤ M * (l.length : Int) := by
  induction l with
  | nil => simp [tot_nil]
  | cons x l ih =>
    have h1 := h x (by simp)
    have h2 := ih fun y hy => h y (by simp [hy])
    rw [tot_cons, List.length_cons, Int.natCast_add, Int.mul_add]
    simp only [Int.mul_one, Int.natCast_one]
    omega
theorem mem_getD {l : List Int} {k : Nat} (h : k < l.length) : l.getD k 0 ∈ l := by
  have e : l.getD k 0 = l[k] := by simp [List.getD_eq_getElem?_getD, h]
  rw [e]; exact List.getElem_mem h
theorem take_bd {l : List Int} {M : Int} {n : Nat} (h : ∀ x ∈ l, 0 ≤ x ∧ x ≤ M) (hn : l.length ≤ n) (hM : 0 ≤ M) (k : Nat) : 0 ≤ tot (l.take k) ∧ tot (l.take k) ≤ M * (n : Int) := by
  have := tot_bd (l.take k) M fun x hx => h x (List.mem_of_mem_take hx)
  refine ⟨this.1, Int.le_trans this.2 (Int.mul_le_mul_of_nonneg_left ?_ hM)⟩
  have := List.length_take_le k l
  have : (l.take k).length ≤ l.length := by rw [List.length_take]; omega
  omega
/-- the table of counts, one on top of the other -/
def acc (l : List Int) : List Int := (List.range (l.length + 1)).map fun k => tot (l.take k)
theorem acc_length (l : List Int) : (acc l).length = l.length + 1 := by simp [acc]
theorem acc_getD (l : List Int) (k : Nat) (h : k ≤ l.length) : (acc l).getD k 0 = tot (l.take k) := by
  simp [acc, List.getD_eq_getElem?_getD, List.getElem?_range (show k < l.length + 1 by omega)]
/-- counts that may be -/
def okN (l : List Int) : Bool := decide (1 ≤ l.length ∧ l.length ≤ 256 ∧ (∀ x ∈ l, 1 ≤ x ∧ x ≤ 16384) ∧ tot l ≤ 16384)
/-- a table that may be -/
def okF (l : List Int) : Bool := decide (2 ≤ l.length ∧ l.length ≤ 257 ∧ l.getD 0 0 = 0 ∧ l.getD (l.length - 1) 0 ≤ 16384 ∧ ∀ k, k < l.length - 1 → l.getD k 0 < l.getD (k + 1) 0)
theorem okF_mono {l : List Int} (h : okF l = true) {i j : Nat} (hij : i < j) (hj : j < l.length) : l.getD i 0 < l.getD j 0 := by
  unfold okF at h
  obtain ⟨_, _, _, _, hs⟩ := of_decide_eq_true h
  induction j with
  | zero => omega
  | succ j ih =>
    have h1 := hs j (by omega)
    rcases Nat.lt_or_ge i j with hlt | hge
    · have := ih hlt (by omega); omega
    · have : i = j := by omega
      subst this; exact h1
theorem okF_bd {l : List Int} (h : okF l = true) {i : Nat} (hi : i < l.length) : 0 ≤ l.getD i 0 ∧ l.getD i 0 ≤ 16384 := by
  have h' := h
  unfold okF at h'
  obtain ⟨h2, _, h0, hl, _⟩ := of_decide_eq_true h'
  constructor
  · rcases Nat.eq_zero_or_pos i with e | e
    · subst e; omega
    · have := okF_mono h e hi; omega
  · rcases Nat.lt_or_ge i (l.length - 1) with e | e
    · have := okF_mono h e (by omega); omega
    · have : i = l.length - 1 := by omega
      subst this; exact hl
theorem okF_acc {l : List Int} (h : okN l = true) : okF (acc l) = true := by
  unfold okN at h
  obtain ⟨h1, h2, h3, h4⟩ := of_decide_eq_true h
  unfold okF
  refine decide_eq_true ⟨by rw [acc_length]; omega, by rw [acc_length]; omega, by rw [acc_getD _ _ (by omega)]; rfl, ?_, fun k hk => ?_⟩
  · rw [acc_length, acc_getD _ _ (by omega)]
    simpa using h4
  · rw [acc_length] at hk
    rw [acc_getD _ _ (by omega), acc_getD _ _ (by omega), tot_snoc _ _ (by omega)]
    have := h3 _ (mem_getD (l := l) (k := k) (by omega))
    omega
end Go.Proofs.Ytgelgbfnioagbaa.Fq
/- Fa -/
namespace Go.Proofs.Ytgelgbfnioagbaa.Fq
open Go.RowKit
theorem isSize_yes (n : Int) (w : World) (h1 : 1 ≤ n) (h2 : n ≤ 256) :
    Calls Try.prog 59 #[.int .i64 n] w fun e w' => e = .returned (.bool true) ∧ w = w' := by
  go_enter Try.func59, Try.ntmps59
  go_wp2
  all_goals (go_ret; exact ⟨rfl, rfl⟩)
theorem isSize_no (n : Int) (w : World) (h : n < 1 ∨ 256 < n) :
    Calls Try.prog 59 #[.int .i64 n] w fun e w' => e = .returned (.bool false) ∧ w = w' := by
  rcases h with h | h
  · have h' : decide (1 ≤ n) = false := by simp; omega
    go_enter Try.func59, Try.ntmps59
    go_wp2
    all_goals (go_ret; exact ⟨rfl, rfl⟩)
  · have h' : decide (1 ≤ n) = true := by simp; omega
    have h2 : decide (n ≤ 256) = false := by simp; omega
    go_enter Try.func59, Try.ntmps59
    go_wp2
    all_goals (go_ret; exact ⟨rfl, rfl⟩)
/-- the function value that outside answers -/
def outV (g : Nat) : Value := .func (.func 79) #[] #[.pointer (some ⟨g, 0, none⟩), .pointer (some ⟨g + 1, 0, none⟩)]
/-- its two variables hold a and b -/
def OutIn (w : World) (g : Nat) (a b : Int) : Prop := w.cell? ⟨g, 0, none⟩ = some (.int .i64 a) ∧ w.cell? ⟨g + 1, 0, none⟩ = some (.int .i64 b)
theorem outside_any (a b : Int) (w : World) :
    Calls Try.prog 62 #[.int .i64 a, .int .i64 b] w fun e w' => e = .returned (outV w.heap.size) ∧ OutIn w' w.heap.size a b ∧ Below w.heap.size w w' := by
  go_enter Try.func62, Try.ntmps62
  go_wp2
  go_ret
  refine ⟨rfl, ⟨?_, ?_⟩, ?_⟩
  · exact ((Blk.new w 3 #[.int .i64 a]).alloc _).cell 0
  · exact (Blk.newAt (w := w.alloc (.cells #[.int .i64 a] 3)) (t := 3) (cs := #[.int .i64 b]) (by simp)).cell 0
  · exact ((Below.refl _ w).alloc (Nat.le_refl _) _).alloc (by simp) _
/-- what is no count -/
def badI (a b x : Int) : Bool := decide (x < a) || decide (b < x)
theorem outside1_any (a b x : Int) (g : Nat) (r : Bool) (w : World) (h : OutIn w g a b) (hr : badI a b x = r) :
    Calls Try.prog 79 #[.int .i64 x, .pointer (some ⟨g, 0, none⟩), .pointer (some ⟨g + 1, 0, none⟩)] w fun e w' => e = .returned (.bool r) ∧ w = w' := by
  obtain ⟨h1, h2⟩ := h
  have HR := Lib.hid hr
  clear hr
  by_cases c1 : x < a
  · have d1 : decide (x < a) = true := by simpa using c1
    go_enter Try.func79, Try.ntmps79
    go_wp2
    all_goals (go_ret; exact ⟨by rw [← HR.out]; simp [badI, c1], rfl⟩)
  · have d1 : decide (x < a) = false := by simpa using c1
    by_cases c2 : b < x
    · have d2 : decide (b < x) = true := by simpa using c2
      go_enter Try.func79, Try.ntmps79
      go_wp2
      all_goals (go_ret; exact ⟨by rw [← HR.out]; simp [badI, c2], rfl⟩)
    · have d2 : decide (b < x) = false := by simpa using c2
      go_enter Try.func79, Try.ntmps79
      go_wp2
      all_goals (go_ret; exact ⟨by rw [← HR.out]; simp [badI, c1, c2], rfl⟩)
/-- whether there is one among them -/
def anyBad (a b : Int) (zs : List Int) : Bool := zs.any (badI a b)
/-- where the first one is -/
def firstBad (a b : Int) : List Int → Option Nat
  | [] => none
  | x :: l => if badI a b x = true then some 0 else (firstBad a b l).map (· + 1)
set_option maxHeartbeats 1000000 in
theorem indexFunc_none (a b : Int) (g : Nat) (A : Option Addr) (n c : Nat) (zs : List Int) (w : World) (ho : Hid (OutIn w g a b)) (hr : Hid (RdI w A n zs)) (hn : n ≤ 9223372036854775807) (hbad : Hid (∀ k, k < n → badI a b (zs.getD k 0) = false)) :
    Calls Try.prog 78 #[.slice A n c, outV g] w fun e w' => e = .returned (.int .i64 (-1)) ∧ w = w' := by
  unfold outV
  go_enter Try.func78, Try.ntmps78
  go_wp2
  go_loop [5, 8] (fun _ i => ∃ k : Nat, k ≤ n ∧ i = .int .i64 (k : Int)) (fun _ i => n - (intOf i).toNat)
  case atStart => exact ⟨0, by omega, rfl⟩
  case round =>
    obtain ⟨k, hk, rfl⟩ := hrel
    by_cases hlt : k < n
    · obtain ⟨ad, rfl, _, hcell⟩ := hr.out.at_ hlt
      have HK := Lib.hid (hbad.out k hlt)
      generalize zs.getD k 0 = x at hcell HK
      go_wp2_with (go_at_call 79; refine (outside1_any a b x g false _ ho.out HK.out).mono ?_; rintro e w' ⟨rfl, rfl⟩)
      go_round
      case rel => exact ⟨k + 1, by omega, by go_num⟩
      case measure => simp [intOf]; omega
    · go_wp2
      go_ret
      exact ⟨rfl, rfl⟩
set_option maxHeartbeats 1000000 in
theorem indexFunc_some (a b : Int) (g m : Nat) (A : Option Addr) (n c : Nat) (zs : List Int) (w : World) (ho : Hid (OutIn w g a b)) (hr : Hid (RdI w A n zs)) (hn : n ≤ 9223372036854775807) (hm : m < n) (hbad : Hid (∀ k, k < m → badI a b (zs.getD k 0) = false)) (hat : Hid (badI a b (zs.getD m 0) = true)) :
    Calls Try.prog 78 #[.slice A n c, outV g] w fun e w' => e = .returned (.int .i64 (m : Int)) ∧ w = w' := by
  unfold outV
  go_enter Try.func78, Try.ntmps78
  go_wp2
  go_loop [5, 8] (fun _ i => ∃ k : Nat, k ≤ m ∧ i = .int .i64 (k : Int)) (fun _ i => n - (intOf i).toNat)
  case atStart => exact ⟨0, by omega, rfl⟩
  case round =>
    obtain ⟨k, hk, rfl⟩ := hrel
    have hlt : k < n := by omega
    obtain ⟨ad, rfl, _, hcell⟩ := hr.out.at_ hlt
    by_cases hkm : k < m
    · have HK := Lib.hid (hbad.out k hkm)
      generalize zs.getD k 0 = x at hcell HK
      go_wp2_with (go_at_call 79; refine (outside1_any a b x g false _ ho.out HK.out).mono ?_; rintro e w' ⟨rfl, rfl⟩)
      go_round
      case rel => exact ⟨k + 1, by omega, by go_num⟩
      case measure => simp [intOf]; omega
    · obtain rfl : k = m := by omega
      have HK := Lib.hid hat.out
      clear hat
      generalize zs.getD k 0 = x at hcell HK
      go_wp2_with (go_at_call 79; refine (outside1_any a b x g true _ ho.out HK.out).mono ?_; rintro e w' ⟨rfl, rfl⟩)
      go_ret
      exact ⟨rfl, rfl⟩
theorem anyBad_false {a b : Int} {zs : List Int} (h : anyBad a b zs = false) (k : Nat) (hk : k < zs.length) : badI a b (zs.getD k 0) = false := by
  unfold anyBad at h
  rw [List.any_eq_false] at h
  have := h _ (mem_getD hk)
  simpa using this
theorem anyBad_true {a b : Int} {zs : List Int} (h : anyBad a b zs = true) : ∃ m, m < zs.length ∧ badI a b (zs.getD m 0) = true ∧ ∀ k, k < m → badI a b (zs.getD k 0) = false := by
  induction zs with
  | nil => simp [anyBad] at h
  | cons x l ih =>
    by_cases hx : badI a b x = true
    · exact ⟨0, by simp, by simpa using hx, fun k hk => by omega⟩
    · have hl : anyBad a b l = true := by
        unfold anyBad at h ⊢
        rw [List.any_cons] at h
        simpa [hx] using h
      obtain ⟨m, hm, h1, h2⟩ := ih hl
      refine ⟨m + 1, by simp; omega, by simpa using h1, fun k hk => ?_⟩
      cases k with
      | zero => simpa using hx
      | succ k => simpa using h2 k (by omega)
theorem containsFunc_any (a b : Int) (g : Nat) (A : Option Addr) (n c : Nat) (zs : List Int) (r : Bool) (w : World) (ho : OutIn w g a b) (hr : RdI w A n zs) (hn : n ≤ 9223372036854775807) (hb : anyBad a b zs = r) :
    Calls Try.prog 61 #[.slice A n c, outV g] w fun e w' => e = .returned (.bool r) ∧ w = w' := by
  cases r with
  | false =>
    have hcon := indexFunc_none a b g A n c zs w (Lib.hid ho) (Lib.hid hr) hn (Lib.hid fun k hk => anyBad_false hb k (by have := hr.1; omega))
    unfold outV at hcon ⊢
    clear hb ho hr
    go_enter Try.func61, Try.ntmps61
    go_wp2_with (go_at_call 78; refine hcon.mono ?_; rintro e w' ⟨rfl, rfl⟩)
    go_ret
    exact ⟨rfl, rfl⟩
  | true =>
    obtain ⟨m, hm, h1, h2⟩ := anyBad_true hb
    have hcon := indexFunc_some a b g m A n c zs w (Lib.hid ho) (Lib.hid hr) hn (by have := hr.1; omega) (Lib.hid h2) (Lib.hid h1)
    unfold outV at hcon ⊢
    clear hb ho hr hm h1 h2
    go_enter Try.func61, Try.ntmps61
    go_wp2_with (go_at_call 78; refine hcon.mono ?_; rintro e w' ⟨rfl, rfl⟩)
    go_ret
    exact ⟨rfl, rfl⟩
set_option maxHeartbeats 1000000 in
theorem sum_any (A : Option Addr) (n c : Nat) (zs : List Int) (M : Int) (s : Int) (w : World) (hr : Hid (RdI w A n zs)) (hn : n ≤ 1000) (hM0 : 0 ≤ M) (hM : M ≤ 2251799813685248) (hz : Hid (∀ x ∈ zs, 0 ≤ x ∧ x ≤ M)) (hs : Hid (tot zs = s)) :
    Calls Try.prog 63 #[.slice A n c] w fun e w' => e = .returned (.int .i64 s) ∧ w = w' := by
  go_enter Try.func63, Try.ntmps63
  go_wp2
  go_loop [3, 5, 8] (fun v _ i => ∃ k : Nat, k ≤ n ∧ i = .int .i64 (k : Int) ∧ v = .int .i64 (tot (zs.take k))) (fun _ _ i => n - (intOf i).toNat)
  case atStart => exact ⟨0, by omega, rfl, rfl⟩
  case round =>
    obtain ⟨k, hk, rfl, rfl⟩ := hrel
    have HL := Lib.hid hr.out.1
    have hb := take_bd hz.out (by rw [HL.out]; exact Nat.le_refl n) hM0 k
    have hb1 : M * (n : Int) ≤ 2251799813685248 * 1000 := Int.le_trans (Int.mul_le_mul_of_nonneg_left (show (n : Int) ≤ 1000 by omega) hM0) (Int.mul_le_mul_of_nonneg_right hM (by omega))
    have b1 := hb.1
    have b2 : tot (zs.take k) ≤ 2251799813685248000 := by have := hb.2; omega
    clear hb hb1
    by_cases hlt : k < n
    · obtain ⟨ad, rfl, _, hcell⟩ := hr.out.at_ hlt
      have HT := Lib.hid (tot_snoc zs k (by rw [HL.out]; exact hlt))
      have hx := hz.out _ (mem_getD (l := zs) (k := k) (by rw [HL.out]; exact hlt))
      generalize zs.getD k 0 = x at hcell HT hx
      generalize tot (zs.take k) = t at HT b1 b2
      obtain ⟨x1, x2⟩ := hx
      have x3 : x ≤ 2251799813685248 := by omega
      go_wp2
      go_round
      case rel => exact ⟨k + 1, by omega, by go_num, by rw [HT.out]⟩
      case measure => simp [intOf]; omega
    · obtain rfl : k = n := by omega
      have HK := Lib.hid (show zs.take k = zs from List.take_of_length_le (by rw [HL.out]; exact Nat.le_refl _))
      rw [HK.out, hs.out]
      rw [HK.out, hs.out] at b1 b2
      go_wp2
      go_ret
      exact ⟨rfl, rfl⟩
end Go.Proofs.Ytgelgbfnioagbaa.Fq
/- Fb -/
namespace Go.Proofs.Ytgelgbfnioagbaa.Fq
open Go.RowKit
theorem info_int : (Try.prog.info? 3).map (fun i => (i.zero, i.size, i.bytes)) = some (some (.int .i64 0), 1, 8) := by kernel_rfl
/-- the counts laid on top of each other as far as place k; zeros behind -/
def piled (zs : List Int) (k : Nat) : List Int := (List.range (zs.length + 1)).map fun j => if j ≤ k then tot (zs.take j) else 0
theorem piled_length (zs : List Int) (k : Nat) : (piled zs k).length = zs.length + 1 := by simp [piled]
theorem piled_getD (zs : List Int) (k j : Nat) (hj : j ≤ zs.length) : (piled zs k).getD j 0 = if j ≤ k then tot (zs.take j) else 0 := by
  simp [piled, List.getD_eq_getElem?_getD, List.getElem?_range (show j < zs.length + 1 by omega)]
theorem piled_all (zs : List Int) : piled zs zs.length = acc zs := by
  unfold piled acc
  refine List.map_congr_left fun j hj => ?_
  rw [if_pos (by have := List.mem_range.1 hj; omega)]
theorem piled_none (zs : List Int) : piled zs 0 = List.replicate (zs.length + 1) 0 := by
  unfold piled
  rw [show List.replicate (zs.length + 1) (0 : Int) = (List.range (zs.length + 1)).map fun _ => 0 by simp [List.map_const']]
  refine List.map_congr_left fun j _ => ?_
  split
  · have : j = 0 := by omega
    subst this; rfl
  · rfl
theorem piled_set (zs : List Int) (k : Nat) (hk : k < zs.length) : (piled zs k).set (k + 1) (tot (zs.take (k + 1))) = piled zs (k + 1) := by
  refine List.ext_getElem? fun j => ?_
  rw [List.getElem?_set]
  by_cases hj : j < zs.length + 1
  · have e1 := get_of_lt (zs := piled zs k) (k := j) (by rw [piled_length]; exact hj)
    have e2 := get_of_lt (zs := piled zs (k + 1)) (k := j) (by rw [piled_length]; exact hj)
    rw [e1, e2, piled_getD _ _ _ (by omega), piled_getD _ _ _ (by omega), piled_length]
    by_cases h : k + 1 = j
    · subst h
      simp [hk]
    · rw [if_neg h]
      by_cases h2 : j ≤ k
      · rw [if_pos h2, if_pos (by omega)]
      · rw [if_neg h2, if_neg (by omega)]
  · rw [List.getElem?_eq_none (by rw [piled_length]; omega), List.getElem?_eq_none (by rw [piled_length]; omega), piled_length]
    simp; omega
/-- a table that a call made -/
def freqV (g m : Nat) : Value := .agg #[.slice (some ⟨g, 0, none⟩) m m]
def PileP (w : World) (cs : List Int) (e : Ending) (w' : World) : Prop :=
  ∃ g, e = .returned (freqV g cs.length) ∧ w.heap.size ≤ g ∧ Blk w' g 3 (icells cs) ∧ Below w.heap.size w w'
theorem addr_own (g k : Nat) : (⟨g, 0, none⟩ : Addr).add k = ⟨g, k, none⟩ := add_own g k
set_option maxHeartbeats 1000000 in
theorem pile_any (A : Option Addr) (n c : Nat) (zs : List Int) (w : World) (hr : Hid (RdI w A n zs)) (hn : n ≤ 1000) (hz : Hid (∀ x ∈ zs, 0 ≤ x ∧ x ≤ 2251799813685248)) :
    Calls Try.prog 64 #[.slice A n c] w (PileP w (acc zs)) := by
  have hmk : ∀ u : World, (Instr.makeSlice 28 (.int .i64 ((n : Int) + 1)) (.int .i64 ((n : Int) + 1))).run Try.prog u = .ok (.slice (some ⟨u.heap.size, 0, none⟩) (n + 1) (n + 1)) (u.alloc (.cells (madeCells #[.int .i64 0] (n + 1)) 3)) := fun u => by
    have := run_make_row' (P := Try.prog) 28 3 (.int .i64 0) 8 Try.underlying28 info_int rfl .i64 .i64 (n + 1) (by omega) (by omega) u
    rw [show ((n + 1 : Nat) : Int) = (n : Int) + 1 by omega] at this
    exact this
  have HL := Lib.hid hr.out.1
  go_enter Try.func64, Try.ntmps64
  go_wp2
  clear hmk
  go_loopw [4, 5, 12] (fun _ _ i wr => ∃ k : Nat, k ≤ n ∧ i = .int .i64 (k : Int) ∧ Blk wr (w.heap.size + 1) 3 (icells (piled zs k)) ∧ Blk wr w.heap.size 30 #[.slice none 0 0] ∧ Below w.heap.size w wr) (fun _ _ i _ => n - (intOf i).toNat)
  case atStart =>
    refine ⟨0, by omega, rfl, ?_, (Blk.new w _ _).alloc _, ((Below.refl _ w).alloc (Nat.le_refl _) _).alloc (by simp) _⟩
    rw [piled_none, HL.out, ← icells_zero]
    exact Blk.newAt (by simp)
  case round =>
    obtain ⟨k, hk, rfl, hB, hR, hW⟩ := hrel
    have hb := take_bd hz.out (by rw [HL.out]; exact Nat.le_refl n) (by omega) k
    have b1 := hb.1
    have b2 : tot (zs.take k) ≤ 2251799813685248000 := by have := hb.2; omega
    clear hb
    by_cases hlt : k < n
    · obtain ⟨ad, rfl, _, hcell⟩ := (hr.out.below hW).at_ hlt
      have HT := Lib.hid (tot_snoc zs k (by rw [HL.out]; exact hlt))
      have hx := hz.out _ (mem_getD (l := zs) (k := k) (by rw [HL.out]; exact hlt))
      have c0 := blk_at hB (i := k) (by rw [piled_length, HL.out]; omega)
      rw [piled_getD _ _ _ (by rw [HL.out]; omega), if_pos (Nat.le_refl k)] at c0
      have c1 := blk_at hB (i := k + 1) (by rw [piled_length, HL.out]; omega)
      have f1 := Blk.frozen hB (k + 1)
      have HS := Lib.hid (piled_set zs k (by rw [HL.out]; exact hlt))
      have HB := Lib.hid hB
      have HR := Lib.hid hR
      have HW := Lib.hid hW
      clear hB hR hW
      generalize zs.getD k 0 = x at hcell HT hx
      generalize tot (zs.take k) = t at HT b1 b2 c0
      generalize (piled zs k).getD (k + 1) 0 = y at c1
      obtain ⟨x1, x2⟩ := hx
      go_wp2
      go_roundw
      case rel =>
        refine ⟨k + 1, by omega, by go_num, ?_, Blk.far HR.out (by simp) _, HW.out.setCell (by simp) _⟩
        rw [← HS.out, HT.out]
        exact blk_put HB.out (k + 1) (t + x)
      case measure => simp [intOf]; omega
    · obtain rfl : k = n := by omega
      have c0 := hR.cell 0
      have f0 := hR.frozen 0
      have HB := Lib.hid hB
      have HR := Lib.hid hR
      have HW := Lib.hid hW
      clear hB hR hW b1 b2
      simp at c0
      have HP := Lib.hid (piled_all zs)
      go_wp2
      refine bodyPost_ret (v := freqV (w.heap.size + 1) (k + 1)) (by simp [results, Try.results64, go_sem, c0, freqV]) rfl ⟨w.heap.size + 1, by rw [acc_length, HL.out], by omega, ?_, HW.out.setCell (by simp) _⟩
      rw [← HP.out, HL.out]
      exact Blk.far HB.out (by simp) _
end Go.Proofs.Ytgelgbfnioagbaa.Fq
/- Fc -/
namespace Go.Proofs.Ytgelgbfnioagbaa.Fq
open Go.RowKit
def NewP (w : World) (cs : List Int) (e : Ending) (w' : World) : Prop :=
  ∃ g, e = .returned (.tuple #[freqV g cs.length, .int .i64 0]) ∧ w.heap.size ≤ g ∧ Blk w' g 3 (icells cs) ∧ Below w.heap.size w w'
def ErrP (w : World) (e : Ending) (w' : World) : Prop := e = .returned (.tuple #[.agg #[.slice none 0 0], .int .i64 1]) ∧ Below w.heap.size w w'
theorem blk0 {w : World} {t : TypeId} {v : Value} {g : Nat} (h : Blk w g t #[v]) : w.cell? ⟨g, 0, none⟩ = some v := h.cell 0
theorem OutIn.below {w w' : World} {g : Nat} {a b : Int} (h : OutIn w g a b) (hb : Below w.heap.size w w') : OutIn w' g a b :=
  ⟨(hb.cell (World.block_lt_of_cell? _ _ h.1)).trans h.1, (hb.cell (World.block_lt_of_cell? _ _ h.2)).trans h.2⟩
theorem okN_parts {zs : List Int} (h : okN zs = true) : 1 ≤ zs.length ∧ zs.length ≤ 256 ∧ anyBad 1 16384 zs = false ∧ (∀ x ∈ zs, 0 ≤ x ∧ x ≤ 16384) ∧ tot zs ≤ 16384 := by
  unfold okN at h
  obtain ⟨h1, h2, h3, h4⟩ := of_decide_eq_true h
  refine ⟨h1, h2, ?_, fun x hx => by have := h3 x hx; omega, h4⟩
  unfold anyBad
  rw [List.any_eq_false]
  intro x hx
  have := h3 x hx
  simp [badI]
  omega
theorem okN_not {zs : List Int} (h : okN zs = false) : (zs.length < 1 ∨ 256 < zs.length) ∨ 1 ≤ zs.length ∧ zs.length ≤ 256 ∧ (anyBad 1 16384 zs = true ∨ anyBad 1 16384 zs = false ∧ (∀ x ∈ zs, 0 ≤ x ∧ x ≤ 16384) ∧ 16384 < tot zs) := by
  unfold okN at h
  have h := of_decide_eq_false h
  by_cases h1 : 1 ≤ zs.length
  · by_cases h2 : zs.length ≤ 256
    · refine .inr ⟨h1, h2, ?_⟩
      cases hb : anyBad 1 16384 zs with
      | true => exact .inl rfl
      | false =>
        have hall : ∀ x ∈ zs, 1 ≤ x ∧ x ≤ 16384 := fun x hx => by
          unfold anyBad at hb
          rw [List.any_eq_false] at hb
          have := hb x hx
          simp [badI] at this
          omega
        refine .inr ⟨rfl, fun x hx => by have := hall x hx; omega, ?_⟩
        rcases Int.lt_or_le 16384 (tot zs) with h3 | h3
        · exact h3
        · exact absurd ⟨h1, h2, hall, h3⟩ h
    · exact .inl (.inr (by omega))
  · exact .inl (.inl (by omega))
set_option maxHeartbeats 1000000 in
theorem new_ok (A : Option Addr) (n c : Nat) (zs : List Int) (w : World) (hr : Hid (RdI w A n zs)) (hok : okN zs = true) :
    Calls Try.prog 37 #[.slice A n c] w (NewP w (acc zs)) := by
  obtain ⟨h1, h2, h3, h4, h5⟩ := okN_parts hok
  have hl := hr.out.1
  rw [hl] at h1 h2
  have HB := Lib.hid h3
  have HA := Lib.hid h4
  have ht0 := (tot_bd zs 16384 h4).1
  obtain ⟨s, hs⟩ : ∃ s, tot zs = s := ⟨_, rfl⟩
  rw [hs] at h5 ht0
  have HS := Lib.hid hs
  clear h3 h4 hl hs hok
  go_enter Try.func37, Try.ntmps37
  go_wp2_with fail
  refine (isSize_yes _ _ (by omega) (by omega)).mono ?_
  rintro e w' ⟨rfl, rfl⟩
  have HK0 := Lib.hid (Blk.new w 30 #[.slice none 0 0])
  have HW0 := Lib.hid ((Below.refl w.heap.size w).alloc (Nat.le_refl _) (.cells #[.slice none 0 0] 30))
  generalize w.alloc (.cells #[.slice none 0 0] 30) = w0 at HK0 HW0 ⊢
  go_wp2_with fail
  refine (outside_any 1 16384 _).mono ?_
  rintro e w1 ⟨rfl, ho, hb⟩
  have HO := Lib.hid ho
  have HK1 := Lib.hid (HK0.out.below hb HK0.out.lt)
  have HW1 := Lib.hid (HW0.out.trans (hb.mono HW0.out.size))
  clear ho hb
  go_wp2_with fail
  refine (containsFunc_any 1 16384 _ A n c zs false _ HO.out (hr.out.below HW1.out) (by omega) HB.out).mono ?_
  rintro e w' ⟨rfl, rfl⟩
  go_wp2_with fail
  refine (sum_any A n c zs 16384 s _ (Lib.hid (hr.out.below HW1.out)) (by omega) (by omega) (by omega) HA HS).mono ?_
  rintro e w' ⟨rfl, rfl⟩
  go_wp2_with fail
  refine (pile_any A n c zs _ (Lib.hid (hr.out.below HW1.out)) (by omega) (Lib.hid fun x hx => by have := HA.out x hx; omega)).mono ?_
  rintro e w2 ⟨g, rfl, hg, hB, hb⟩
  have HG := Lib.hid (Nat.le_trans HW1.out.size hg)
  have HB2 := Lib.hid hB
  have HK2 := Lib.hid (HK1.out.below hb HK1.out.lt)
  have HW2 := Lib.hid (HW1.out.trans (hb.mono HW1.out.size))
  have HGE := Lib.hid (show g ≠ w.heap.size by have := HK1.out.lt; omega)
  clear hg hB hb
  have c0 := HK2.out.cell 0
  have f0 := HK2.out.frozen 0
  simp at c0
  obtain ⟨m, hm⟩ : ∃ m, (acc zs).length = m := ⟨_, rfl⟩
  rw [hm]
  have HM := Lib.hid hm
  clear hm
  unfold freqV
  go_wp2
  refine bodyPost_ret (v := .tuple #[freqV g m, .int .i64 0]) (by simp [results, Try.results37, go_sem, c0, freqV]) rfl ⟨g, by rw [HM.out], HG.out, Blk.far HB2.out HGE.out _, HW2.out.setCell (Nat.le_refl _) _⟩
set_option maxHeartbeats 1000000 in
theorem new_size (A : Option Addr) (n c : Nat) (w : World) (hn : n < 1 ∨ 256 < n) :
    Calls Try.prog 37 #[.slice A n c] w (ErrP w) := by
  go_enter Try.func37, Try.ntmps37
  go_wp2_with fail
  refine (isSize_no _ _ (by omega)).mono ?_
  rintro e w' ⟨rfl, rfl⟩
  go_wp2
  exact bodyPost_ret (v := .tuple #[.agg #[.slice none 0 0], .int .i64 1]) (by simp [results, Try.results37, go_sem]) rfl ⟨rfl, (Below.refl w.heap.size w).alloc (Nat.le_refl _) _⟩
set_option maxHeartbeats 1000000 in
theorem new_bad (A : Option Addr) (n c : Nat) (zs : List Int) (w : World) (hr : Hid (RdI w A n zs)) (h1 : 1 ≤ n) (h2 : n ≤ 256) (HB : Hid (anyBad 1 16384 zs = true)) :
    Calls Try.prog 37 #[.slice A n c] w (ErrP w) := by
  go_enter Try.func37, Try.ntmps37
  go_wp2_with fail
  refine (isSize_yes _ _ (by omega) (by omega)).mono ?_
  rintro e w' ⟨rfl, rfl⟩
  have HK0 := Lib.hid (Blk.new w 30 #[.slice none 0 0])
  have HW0 := Lib.hid ((Below.refl w.heap.size w).alloc (Nat.le_refl _) (.cells #[.slice none 0 0] 30))
  generalize w.alloc (.cells #[.slice none 0 0] 30) = w0 at HK0 HW0 ⊢
  go_wp2_with fail
  refine (outside_any 1 16384 _).mono ?_
  rintro e w1 ⟨rfl, ho, hb⟩
  have HO := Lib.hid ho
  have HK1 := Lib.hid (HK0.out.below hb HK0.out.lt)
  have HW1 := Lib.hid (HW0.out.trans (hb.mono HW0.out.size))
  clear ho hb
  go_wp2_with fail
  refine (containsFunc_any 1 16384 _ A n c zs true _ HO.out (hr.out.below HW1.out) (by omega) HB.out).mono ?_
  rintro e w' ⟨rfl, rfl⟩
  have c0 := HK1.out.cell 0
  have f0 := HK1.out.frozen 0
  simp at c0
  go_wp2
  exact bodyPost_ret (v := .tuple #[.agg #[.slice none 0 0], .int .i64 1]) (by simp [results, Try.results37, go_sem, c0]) rfl ⟨rfl, HW1.out.setCell (Nat.le_refl _) _⟩
set_option maxHeartbeats 1000000 in
theorem new_big (A : Option Addr) (n c : Nat) (zs : List Int) (s : Int) (w : World) (hr : Hid (RdI w A n zs)) (h1 : 1 ≤ n) (h2 : n ≤ 256) (HB : Hid (anyBad 1 16384 zs = false)) (HA : Hid (∀ x ∈ zs, 0 ≤ x ∧ x ≤ 16384)) (HS : Hid (tot zs = s)) (h5 : 16384 < s) :
    Calls Try.prog 37 #[.slice A n c] w (ErrP w) := by
  go_enter Try.func37, Try.ntmps37
  go_wp2_with fail
  refine (isSize_yes _ _ (by omega) (by omega)).mono ?_
  rintro e w' ⟨rfl, rfl⟩
  have HK0 := Lib.hid (Blk.new w 30 #[.slice none 0 0])
  have HW0 := Lib.hid ((Below.refl w.heap.size w).alloc (Nat.le_refl _) (.cells #[.slice none 0 0] 30))
  generalize w.alloc (.cells #[.slice none 0 0] 30) = w0 at HK0 HW0 ⊢
  go_wp2_with fail
  refine (outside_any 1 16384 _).mono ?_
  rintro e w1 ⟨rfl, ho, hb⟩
  have HO := Lib.hid ho
  have HK1 := Lib.hid (HK0.out.below hb HK0.out.lt)
  have HW1 := Lib.hid (HW0.out.trans (hb.mono HW0.out.size))
  clear ho hb
  go_wp2_with fail
  refine (containsFunc_any 1 16384 _ A n c zs false _ HO.out (hr.out.below HW1.out) (by omega) HB.out).mono ?_
  rintro e w' ⟨rfl, rfl⟩
  go_wp2_with fail
  refine (sum_any A n c zs 16384 s _ (Lib.hid (hr.out.below HW1.out)) (by omega) (by omega) (by omega) HA HS).mono ?_
  rintro e w' ⟨rfl, rfl⟩
  have c0 := HK1.out.cell 0
  have f0 := HK1.out.frozen 0
  simp at c0
  go_wp2
  exact bodyPost_ret (v := .tuple #[.agg #[.slice none 0 0], .int .i64 1]) (by simp [results, Try.results37, go_sem, c0]) rfl ⟨rfl, HW1.out.setCell (Nat.le_refl _) _⟩
theorem new_err (A : Option Addr) (n c : Nat) (zs : List Int) (w : World) (hr : Hid (RdI w A n zs)) (hok : okN zs = false) :
    Calls Try.prog 37 #[.slice A n c] w (ErrP w) := by
  have hl := hr.out.1
  rcases okN_not hok with h | ⟨h1, h2, h | ⟨h3, h4, h5⟩⟩
  · rw [hl] at h
    exact new_size A n c w h
  · rw [hl] at h1 h2
    exact new_bad A n c zs w hr h1 h2 (Lib.hid h)
  · rw [hl] at h1 h2
    exact new_big A n c zs _ w hr h1 h2 (Lib.hid h3) (Lib.hid h4) (Lib.hid rfl) h5
end Go.Proofs.Ytgelgbfnioagbaa.Fq
/- Fd -/
namespace Go.Proofs.Ytgelgbfnioagbaa.Fq
open Go.RowKit
/-- a table by value -/
def frV (A : Option Addr) (n c : Nat) : Value := .agg #[.slice A n c]
theorem okF_parts {zs : List Int} (h : okF zs = true) : 2 ≤ zs.length ∧ zs.length ≤ 257 ∧ zs.getD 0 0 = 0 ∧ zs.getD (zs.length - 1) 0 ≤ 16384 ∧ ∀ k, k < zs.length - 1 → zs.getD k 0 < zs.getD (k + 1) 0 := by
  unfold okF at h
  exact of_decide_eq_true h
theorem okF_not {zs : List Int} (h : okF zs = false) : (zs.length < 2 ∨ 257 < zs.length) ∨ 2 ≤ zs.length ∧ zs.length ≤ 257 ∧ (zs.getD 0 0 ≠ 0 ∨ zs.getD 0 0 = 0 ∧ (16384 < zs.getD (zs.length - 1) 0 ∨ zs.getD (zs.length - 1) 0 ≤ 16384 ∧ ∃ m, m < zs.length - 1 ∧ zs.getD (m + 1) 0 ≤ zs.getD m 0 ∧ ∀ k, k < m → zs.getD k 0 < zs.getD (k + 1) 0)) := by
  unfold okF at h
  have h := of_decide_eq_false h
  by_cases h1 : 2 ≤ zs.length
  · by_cases h2 : zs.length ≤ 257
    · refine .inr ⟨h1, h2, ?_⟩
      by_cases h3 : zs.getD 0 0 = 0
      · refine .inr ⟨h3, ?_⟩
        rcases Int.lt_or_le 16384 (zs.getD (zs.length - 1) 0) with h4 | h4
        · exact .inl h4
        · refine .inr ⟨h4, ?_⟩
          have hne : ¬ ∀ k, k < zs.length - 1 → zs.getD k 0 < zs.getD (k + 1) 0 := fun hs => h ⟨h1, h2, h3, h4, hs⟩
          have key : ∀ N, (∃ m, m < N ∧ zs.getD (m + 1) 0 ≤ zs.getD m 0 ∧ ∀ k, k < m → zs.getD k 0 < zs.getD (k + 1) 0) ∨ ∀ k, k < N → zs.getD k 0 < zs.getD (k + 1) 0 := by
            intro N
            induction N with
            | zero => exact .inr fun k hk => by omega
            | succ N ih =>
              rcases ih with ⟨m, hm, h5, h6⟩ | h5
              · exact .inl ⟨m, by omega, h5, h6⟩
              · rcases Int.lt_or_le (zs.getD N 0) (zs.getD (N + 1) 0) with h6 | h6
                · refine .inr fun k hk => ?_
                  rcases Nat.lt_or_ge k N with h7 | h7
                  · exact h5 k h7
                  · have : k = N := by omega
                    subst this; exact h6
                · exact .inl ⟨N, by omega, h6, h5⟩
          rcases key (zs.length - 1) with ⟨m, hm, h5, h6⟩ | h5
          · exact ⟨m, hm, h5, h6⟩
          · exact absurd h5 hne
      · exact .inl h3
    · exact .inl (.inr (by omega))
  · exact .inl (.inl (by omega))
set_option maxHeartbeats 1000000 in
theorem check_ok (A : Option Addr) (n c : Nat) (zs : List Int) (w : World) (hr : Hid (RdI w A n zs)) (hok : okF zs = true) :
    Calls Try.prog 33 #[frV A n c] w fun e w' => e = .returned (.int .i64 0) ∧ Below w.heap.size w w' := by
  obtain ⟨h1, h2, h3, h4, h5⟩ := okF_parts hok
  have hl := hr.out.1
  rw [hl] at h1 h2 h4 h5
  obtain ⟨m, rfl⟩ : ∃ m, n = m + 1 := ⟨n - 1, by omega⟩
  simp only [Nat.add_sub_cancel] at h4 h5
  have hR0 := hr.out.alloc (.cells #[.slice A (m + 1) c] 30)
  obtain ⟨ad, rfl, hlt, _⟩ := hR0.at_ (k := 0) (by omega)
  have hc0 := hR0.cell0 (by omega)
  have hcl := hR0.cell (k := m) (by omega)
  rw [h3] at hc0
  have HK := Lib.hid (Blk.new w 30 #[.slice (some ad) (m + 1) c])
  have HW := Lib.hid ((Below.refl w.heap.size w).alloc (Nat.le_refl _) (.cells #[.slice (some ad) (m + 1) c] 30))
  have HR := Lib.hid hR0
  have HS := Lib.hid h5
  generalize zs.getD m 0 = y at hcl h4
  clear h3 h5 hl hR0 hok
  unfold frV
  go_enter Try.func33, Try.ntmps33
  go_wp2_with fail
  generalize w.alloc (.cells #[.slice (some ad) (m + 1) c] 30) = w0 at HK HW HR hc0 hcl hlt ⊢
  have ck := blk0 HK.out
  refine (isSize_yes _ _ (by omega) (by omega)).mono ?_
  rintro e w' ⟨rfl, rfl⟩
  go_wp2
  go_loopw [4, 28] (fun _ i wr => ∃ k q : Nat, k ≤ m ∧ i = .int .i64 (k : Int) ∧ wr = w0.drewN q) (fun _ i _ => m - (intOf i).toNat)
  case atStart => exact ⟨0, 0, by omega, rfl, rfl⟩
  case round =>
    obtain ⟨k, q, hk, rfl, rfl⟩ := hrel
    by_cases hlt : k < m
    · have x0 := HR.out.cell (k := k) (by omega)
      have x1 := HR.out.cellS (k := k) (by omega)
      have hlt2 := HS.out k hlt
      generalize zs.getD k 0 = a at x0 hlt2
      generalize zs.getD (k + 1) 0 = b at x1 hlt2
      have hn : decide (b ≤ a) = false := by simp; omega
      have i1 : IntKind.i64.wrap ((k : Int) + 1) = (k : Int) + 1 := IntWalk.i64_in _ (by omega)
      have i2 : (0 : Int) ≤ (k : Int) + 1 := by omega
      have i3 : ((k : Int) + 1).toNat = k + 1 := by omega
      have i4 : (k : Int) < (m : Int) + 1 := by omega
      have i5 : (k : Int) < (m : Int) := by omega
      have i6 : k < m + 1 := by omega
      go_wp2_with fail
      go_quiet (fail)
      go_wp2
      go_roundw
      case rel => exact ⟨k + 1, q + nq, by omega, by go_num, by first | rfl | rw [World.drewN_drewN]⟩
      case measure => simp [intOf]; omega
    · go_wp2
      go_ret
      exact ⟨rfl, below_drewN HW.out q⟩
/-- what the walks of Check ask of a table that is long enough -/
theorem open_freq {w : World} {A : Option Addr} {m c : Nat} {zs : List Int} (h : RdI w A (m + 1) zs) :
    ∃ ad, A = some ad ∧ Blk (w.alloc (.cells #[.slice A (m + 1) c] 30)) w.heap.size 30 #[.slice A (m + 1) c] ∧ Below w.heap.size w (w.alloc (.cells #[.slice A (m + 1) c] 30)) ∧ RdI (w.alloc (.cells #[.slice A (m + 1) c] 30)) A (m + 1) zs := by
  obtain ⟨ad, rfl, _, _⟩ := h.at_ (k := 0) (by omega)
  exact ⟨ad, rfl, Blk.new w _ _, (Below.refl w.heap.size w).alloc (Nat.le_refl _) _, h.alloc _⟩
set_option maxHeartbeats 1000000 in
theorem check_size (A : Option Addr) (n c : Nat) (w : World) (hn : n < 2 ∨ 257 < n) (hb : n ≤ maxLen) :
    Calls Try.prog 33 #[frV A n c] w fun e w' => e = .returned (.int .i64 1) ∧ Below w.heap.size w w' := by
  unfold maxLen at hb
  unfold frV
  go_enter Try.func33, Try.ntmps33
  go_wp2_with fail
  refine (isSize_no _ _ (by omega)).mono ?_
  rintro e w' ⟨rfl, rfl⟩
  go_wp2
  go_ret
  exact ⟨rfl, (Below.refl w.heap.size w).alloc (Nat.le_refl _) _⟩
set_option maxHeartbeats 1000000 in
theorem check_first (A : Option Addr) (m c : Nat) (zs : List Int) (x : Int) (w : World) (hr : Hid (RdI w A (m + 1) zs)) (h1 : 1 ≤ m) (h2 : m ≤ 256) (hx : Hid (zs.getD 0 0 = x)) (h0 : ¬ x = 0) :
    Calls Try.prog 33 #[frV A (m + 1) c] w fun e w' => e = .returned (.int .i64 1) ∧ Below w.heap.size w w' := by
  obtain ⟨ad, rfl, hK, hW, hR⟩ := open_freq (c := c) hr.out
  have HK := Lib.hid hK
  have HW := Lib.hid hW
  have HR := Lib.hid hR
  clear hK hW hR
  unfold frV
  go_enter Try.func33, Try.ntmps33
  go_wp2_with fail
  generalize w.alloc (.cells #[.slice (some ad) (m + 1) c] 30) = w0 at HK HW HR ⊢
  have ck := blk0 HK.out
  have hc0 := HR.out.cell0 (by omega)
  rw [hx.out] at hc0
  have hne : (x != 0) = true := by simp [h0]
  refine (isSize_yes _ _ (by omega) (by omega)).mono ?_
  rintro e w' ⟨rfl, rfl⟩
  go_wp2
  go_ret
  exact ⟨rfl, HW.out⟩
set_option maxHeartbeats 1000000 in
theorem check_last (A : Option Addr) (m c : Nat) (zs : List Int) (y : Int) (w : World) (hr : Hid (RdI w A (m + 1) zs)) (h1 : 1 ≤ m) (h2 : m ≤ 256) (hx : Hid (zs.getD 0 0 = 0)) (hy : Hid (zs.getD m 0 = y)) (h0 : 16384 < y) :
    Calls Try.prog 33 #[frV A (m + 1) c] w fun e w' => e = .returned (.int .i64 1) ∧ Below w.heap.size w w' := by
  obtain ⟨ad, rfl, hK, hW, hR⟩ := open_freq (c := c) hr.out
  have HK := Lib.hid hK
  have HW := Lib.hid hW
  have HR := Lib.hid hR
  clear hK hW hR
  unfold frV
  go_enter Try.func33, Try.ntmps33
  go_wp2_with fail
  generalize w.alloc (.cells #[.slice (some ad) (m + 1) c] 30) = w0 at HK HW HR ⊢
  have ck := blk0 HK.out
  have hc0 := HR.out.cell0 (by omega)
  rw [hx.out] at hc0
  have hcl := HR.out.cell (k := m) (by omega)
  rw [hy.out] at hcl
  refine (isSize_yes _ _ (by omega) (by omega)).mono ?_
  rintro e w' ⟨rfl, rfl⟩
  go_wp2
  go_ret
  exact ⟨rfl, HW.out⟩
set_option maxHeartbeats 1000000 in
theorem check_falls (A : Option Addr) (m c p : Nat) (zs : List Int) (y : Int) (w : World) (hr : Hid (RdI w A (m + 1) zs)) (h1 : 1 ≤ m) (h2 : m ≤ 256) (hx : Hid (zs.getD 0 0 = 0)) (hy : Hid (zs.getD m 0 = y)) (h0 : y ≤ 16384)
    (hp : p < m) (hpl : Hid (zs.getD (p + 1) 0 ≤ zs.getD p 0)) (HS : Hid (∀ k, k < p → zs.getD k 0 < zs.getD (k + 1) 0)) :
    Calls Try.prog 33 #[frV A (m + 1) c] w fun e w' => e = .returned (.int .i64 1) ∧ Below w.heap.size w w' := by
  obtain ⟨ad, rfl, hK, hW, hR⟩ := open_freq (c := c) hr.out
  have HK := Lib.hid hK
  have HW := Lib.hid hW
  have HR := Lib.hid hR
  clear hK hW hR
  unfold frV
  go_enter Try.func33, Try.ntmps33
  go_wp2_with fail
  generalize w.alloc (.cells #[.slice (some ad) (m + 1) c] 30) = w0 at HK HW HR ⊢
  have ck := blk0 HK.out
  have hc0 := HR.out.cell0 (by omega)
  rw [hx.out] at hc0
  have hcl := HR.out.cell (k := m) (by omega)
  rw [hy.out] at hcl
  refine (isSize_yes _ _ (by omega) (by omega)).mono ?_
  rintro e w' ⟨rfl, rfl⟩
  go_wp2
  go_loopw [4, 28] (fun _ i wr => ∃ k q : Nat, k ≤ p ∧ i = .int .i64 (k : Int) ∧ wr = w0.drewN q) (fun _ i _ => m - (intOf i).toNat)
  case atStart => exact ⟨0, 0, by omega, rfl, rfl⟩
  case round =>
    obtain ⟨k, q, hk, rfl, rfl⟩ := hrel
    have hlt : k < m := by omega
    have x0 := HR.out.cell (k := k) (by omega)
    have x1 := HR.out.cellS (k := k) (by omega)
    by_cases hkp : k < p
    · have hlt2 := HS.out k hkp
      generalize zs.getD k 0 = a at x0 hlt2
      generalize zs.getD (k + 1) 0 = b at x1 hlt2
      have hn : decide (b ≤ a) = false := by simp; omega
      have i1 : IntKind.i64.wrap ((k : Int) + 1) = (k : Int) + 1 := IntWalk.i64_in _ (by omega)
      have i2 : (0 : Int) ≤ (k : Int) + 1 := by omega
      have i3 : ((k : Int) + 1).toNat = k + 1 := by omega
      have i4 : (k : Int) < (m : Int) + 1 := by omega
      have i5 : (k : Int) < (m : Int) := by omega
      have i6 : k < m + 1 := by omega
      go_wp2_with fail
      go_quiet (fail)
      go_wp2
      go_roundw
      case rel => exact ⟨k + 1, q + nq, by omega, by go_num, by first | rfl | rw [World.drewN_drewN]⟩
      case measure => simp [intOf]; omega
    · obtain rfl : k = p := by omega
      have hlt2 := hpl.out
      clear hpl
      generalize zs.getD k 0 = a at x0 hlt2
      generalize zs.getD (k + 1) 0 = b at x1 hlt2
      have hn : decide (b ≤ a) = true := by simp; omega
      have i1 : IntKind.i64.wrap ((k : Int) + 1) = (k : Int) + 1 := IntWalk.i64_in _ (by omega)
      have i2 : (0 : Int) ≤ (k : Int) + 1 := by omega
      have i3 : ((k : Int) + 1).toNat = k + 1 := by omega
      have i4 : (k : Int) < (m : Int) + 1 := by omega
      have i5 : (k : Int) < (m : Int) := by omega
      have i6 : k < m + 1 := by omega
      go_wp2_with fail
      go_quiet (fail)
      go_wp2
      go_ret
      exact ⟨rfl, by first | exact below_drewN HW.out _ | exact below_drewN (below_drewN HW.out _) _⟩
/-- an error's number -/
def errN (ok : Bool) : Int := if ok then 0 else 1
theorem check_any (A : Option Addr) (n c : Nat) (zs : List Int) (r : Bool) (w : World) (hr : Hid (RdI w A n zs)) (hb : n ≤ maxLen) (hok : okF zs = r) :
    Calls Try.prog 33 #[frV A n c] w fun e w' => e = .returned (.int .i64 (errN r)) ∧ Below w.heap.size w w' := by
  cases r with
  | true => exact check_ok A n c zs w hr hok
  | false =>
    have hl := hr.out.1
    rcases okF_not hok with h | ⟨h1, h2, h⟩
    · rw [hl] at h
      exact check_size A n c w h hb
    · rw [hl] at h1 h2 h
      obtain ⟨m, rfl⟩ : ∃ m, n = m + 1 := ⟨n - 1, by omega⟩
      simp only [Nat.add_sub_cancel] at h
      rcases h with h | ⟨h3, h | ⟨h4, p, hp, h5, h6⟩⟩
      · exact check_first A m c zs _ w hr (by omega) (by omega) (Lib.hid rfl) h
      · exact check_last A m c zs _ w hr (by omega) (by omega) (Lib.hid h3) (Lib.hid rfl) h
      · exact check_falls A m c p zs _ w hr (by omega) (by omega) (Lib.hid h3) (Lib.hid rfl) h4 hp (Lib.hid h5) (Lib.hid h6)
end Go.Proofs.Ytgelgbfnioagbaa.Fq
/- Fe -/
namespace Go.Proofs.Ytgelgbfnioagbaa.Fq
open Go.RowKit
set_option maxRecDepth 100000 in
set_option maxHeartbeats 1000000 in
theorem rcheck_size (A : Option Addr) (n c : Nat) (w : World) (hn : n < 2 ∨ 257 < n) (hb : n ≤ maxLen) :
    Calls Try.prog 52 #[frV A n c] w fun e w' => e = .returned (.int .i64 1) ∧ Below w.heap.size w w' := by
  unfold maxLen at hb
  unfold frV
  go_enter Try.func52, Try.ntmps52
  rcases hn with hn | hn
  all_goals
    go_wp2
    go_ret
    exact ⟨rfl, (Below.refl w.heap.size w).alloc (Nat.le_refl _) _⟩
set_option maxRecDepth 100000 in
set_option maxHeartbeats 1000000 in
theorem rcheck_first (A : Option Addr) (m c : Nat) (zs : List Int) (x : Int) (w : World) (hr : Hid (RdI w A (m + 1) zs)) (h1 : 1 ≤ m) (h2 : m ≤ 256) (hx : Hid (zs.getD 0 0 = x)) (h0 : ¬ x = 0) :
    Calls Try.prog 52 #[frV A (m + 1) c] w fun e w' => e = .returned (.int .i64 1) ∧ Below w.heap.size w w' := by
  obtain ⟨ad, rfl, hK, hW, hR⟩ := open_freq (c := c) hr.out
  have HK := Lib.hid hK
  have HW := Lib.hid hW
  have HR := Lib.hid hR
  clear hK hW hR
  have hc0 := HR.out.cell0 (by omega)
  rw [hx.out] at hc0
  have hne : (x != 0) = true := by simp [h0]
  unfold frV
  go_enter Try.func52, Try.ntmps52
  go_wp2
  go_ret
  exact ⟨rfl, HW.out⟩
set_option maxRecDepth 100000 in
set_option maxHeartbeats 1000000 in
theorem rcheck_last (A : Option Addr) (m c : Nat) (zs : List Int) (y : Int) (w : World) (hr : Hid (RdI w A (m + 1) zs)) (h1 : 1 ≤ m) (h2 : m ≤ 256) (hx : Hid (zs.getD 0 0 = 0)) (hy : Hid (zs.getD m 0 = y)) (h0 : 16384 < y) :
    Calls Try.prog 52 #[frV A (m + 1) c] w fun e w' => e = .returned (.int .i64 1) ∧ Below w.heap.size w w' := by
  obtain ⟨ad, rfl, hK, hW, hR⟩ := open_freq (c := c) hr.out
  have HK := Lib.hid hK
  have HW := Lib.hid hW
  have HR := Lib.hid hR
  clear hK hW hR
  have hc0 := HR.out.cell0 (by omega)
  rw [hx.out] at hc0
  have hcl := HR.out.cell (k := m) (by omega)
  rw [hy.out] at hcl
  unfold frV
  go_enter Try.func52, Try.ntmps52
  go_wp2
  go_ret
  exact ⟨rfl, HW.out⟩
set_option maxRecDepth 100000 in
set_option maxHeartbeats 1000000 in
theorem rcheck_falls (A : Option Addr) (m c p : Nat) (zs : List Int) (y : Int) (w : World) (hr : Hid (RdI w A (m + 1) zs)) (h1 : 1 ≤ m) (h2 : m ≤ 256) (hx : Hid (zs.getD 0 0 = 0)) (hy : Hid (zs.getD m 0 = y)) (h0 : y ≤ 16384)
    (hp : p < m) (hpl : Hid (zs.getD (p + 1) 0 ≤ zs.getD p 0)) (HS : Hid (∀ k, k < p → zs.getD k 0 < zs.getD (k + 1) 0)) :
    Calls Try.prog 52 #[frV A (m + 1) c] w fun e w' => e = .returned (.int .i64 1) ∧ Below w.heap.size w w' := by
  obtain ⟨ad, rfl, hK, hW, hR⟩ := open_freq (c := c) hr.out
  have HK := Lib.hid hK
  have HW := Lib.hid hW
  have HR := Lib.hid hR
  clear hK hW hR
  have hc0 := HR.out.cell0 (by omega)
  rw [hx.out] at hc0
  have hcl := HR.out.cell (k := m) (by omega)
  rw [hy.out] at hcl
  unfold frV
  go_enter Try.func52, Try.ntmps52
  go_wp2
  generalize w.alloc (.cells #[.slice (some ad) (m + 1) c] 30) = w0 at HK HW HR hc0 hcl ⊢
  have ck := blk0 HK.out
  go_loopw [4] (fun i wr => ∃ k q : Nat, k ≤ p ∧ i = .int .i64 ((k : Int) + 1) ∧ wr = w0.drewN q) (fun i _ => m + 1 - (intOf i).toNat)
  case atStart => exact ⟨0, 0, by omega, rfl, rfl⟩
  case round =>
    obtain ⟨k, q, hk, rfl, rfl⟩ := hrel
    have hlt : k < m := by omega
    have x0 := HR.out.cell (k := k) (by omega)
    have x1 := HR.out.cellS (k := k) (by omega)
    by_cases hkp : k < p
    · have hlt2 := HS.out k hkp
      generalize zs.getD k 0 = a at x0 hlt2
      generalize zs.getD (k + 1) 0 = b at x1 hlt2
      have hn : decide (b ≤ a) = false := by simp; omega
      have i1 : IntKind.i64.wrap ((k : Int) + 1) = (k : Int) + 1 := IntWalk.i64_in _ (by omega)
      have i2 : (0 : Int) ≤ (k : Int) + 1 := by omega
      have i3 : ((k : Int) + 1).toNat = k + 1 := by omega
      have i4 : (k : Int) < (m : Int) + 1 := by omega
      have i5 : (k : Int) < (m : Int) := by omega
      have i6 : k < m + 1 := by omega
      go_wp2_with fail
      go_quiet (fail)
      go_wp2
      go_roundw
      case rel => exact ⟨k + 1, q + nq, by omega, by go_num, by first | rfl | rw [World.drewN_drewN]⟩
      case measure => simp [intOf]; omega
    · obtain rfl : k = p := by omega
      have hlt2 := hpl.out
      clear hpl
      generalize zs.getD k 0 = a at x0 hlt2
      generalize zs.getD (k + 1) 0 = b at x1 hlt2
      have hn : decide (b ≤ a) = true := by simp; omega
      have i1 : IntKind.i64.wrap ((k : Int) + 1) = (k : Int) + 1 := IntWalk.i64_in _ (by omega)
      have i2 : (0 : Int) ≤ (k : Int) + 1 := by omega
      have i3 : ((k : Int) + 1).toNat = k + 1 := by omega
      have i4 : (k : Int) < (m : Int) + 1 := by omega
      have i5 : (k : Int) < (m : Int) := by omega
      have i6 : k < m + 1 := by omega
      go_wp2_with fail
      go_quiet (fail)
      go_wp2
      go_ret
      exact ⟨rfl, by first | exact below_drewN HW.out _ | exact below_drewN (below_drewN HW.out _) _⟩
set_option maxRecDepth 100000 in
set_option maxHeartbeats 1000000 in
theorem rcheck_ok (A : Option Addr) (m c : Nat) (zs : List Int) (y : Int) (w : World) (hr : Hid (RdI w A (m + 1) zs)) (h1 : 1 ≤ m) (h2 : m ≤ 256) (hx : Hid (zs.getD 0 0 = 0)) (hy : Hid (zs.getD m 0 = y)) (h0 : y ≤ 16384) (HS : Hid (∀ k, k < m → zs.getD k 0 < zs.getD (k + 1) 0)) :
    Calls Try.prog 52 #[frV A (m + 1) c] w fun e w' => e = .returned (.int .i64 0) ∧ Below w.heap.size w w' := by
  obtain ⟨ad, rfl, hK, hW, hR⟩ := open_freq (c := c) hr.out
  have HK := Lib.hid hK
  have HW := Lib.hid hW
  have HR := Lib.hid hR
  clear hK hW hR
  have hc0 := HR.out.cell0 (by omega)
  rw [hx.out] at hc0
  have hcl := HR.out.cell (k := m) (by omega)
  rw [hy.out] at hcl
  unfold frV
  go_enter Try.func52, Try.ntmps52
  go_wp2
  generalize w.alloc (.cells #[.slice (some ad) (m + 1) c] 30) = w0 at HK HW HR hc0 hcl ⊢
  have ck := blk0 HK.out
  go_loopw [4] (fun i wr => ∃ k q : Nat, k ≤ m ∧ i = .int .i64 ((k : Int) + 1) ∧ wr = w0.drewN q) (fun i _ => m + 1 - (intOf i).toNat)
  case atStart => exact ⟨0, 0, by omega, rfl, rfl⟩
  case round =>
    obtain ⟨k, q, hk, rfl, rfl⟩ := hrel
    by_cases hlt : k < m
    · have x0 := HR.out.cell (k := k) (by omega)
      have x1 := HR.out.cellS (k := k) (by omega)
      have hlt2 := HS.out k hlt
      generalize zs.getD k 0 = a at x0 hlt2
      generalize zs.getD (k + 1) 0 = b at x1 hlt2
      have hn : decide (b ≤ a) = false := by simp; omega
      have i1 : IntKind.i64.wrap ((k : Int) + 1) = (k : Int) + 1 := IntWalk.i64_in _ (by omega)
      have i2 : (0 : Int) ≤ (k : Int) + 1 := by omega
      have i3 : ((k : Int) + 1).toNat = k + 1 := by omega
      have i4 : (k : Int) < (m : Int) + 1 := by omega
      have i5 : (k : Int) < (m : Int) := by omega
      have i6 : k < m + 1 := by omega
      go_wp2_with fail
      go_quiet (fail)
      go_wp2
      go_roundw
      case rel => exact ⟨k + 1, q + nq, by omega, by go_num, by first | rfl | rw [World.drewN_drewN]⟩
      case measure => simp [intOf]; omega
    · go_wp2
      go_ret
      exact ⟨rfl, below_drewN HW.out q⟩
theorem rcheck_any (A : Option Addr) (n c : Nat) (zs : List Int) (r : Bool) (w : World) (hr : Hid (RdI w A n zs)) (hb : n ≤ maxLen) (hok : okF zs = r) :
    Calls Try.prog 52 #[frV A n c] w fun e w' => e = .returned (.int .i64 (errN r)) ∧ Below w.heap.size w w' := by
  have hl := hr.out.1
  cases r with
  | true =>
    obtain ⟨h1, h2, h3, h4, h5⟩ := okF_parts hok
    rw [hl] at h1 h2 h4 h5
    obtain ⟨m, rfl⟩ : ∃ m, n = m + 1 := ⟨n - 1, by omega⟩
    simp only [Nat.add_sub_cancel] at h4 h5
    exact rcheck_ok A m c zs _ w hr (by omega) (by omega) (Lib.hid h3) (Lib.hid rfl) h4 (Lib.hid h5)
  | false =>
    rcases okF_not hok with h | ⟨h1, h2, h⟩
    · rw [hl] at h
      exact rcheck_size A n c w h hb
    · rw [hl] at h1 h2 h
      obtain ⟨m, rfl⟩ : ∃ m, n = m + 1 := ⟨n - 1, by omega⟩
      simp only [Nat.add_sub_cancel] at h
      rcases h with h | ⟨h3, h | ⟨h4, p, hp, h5, h6⟩⟩
      · exact rcheck_first A m c zs _ w hr (by omega) (by omega) (Lib.hid rfl) h
      · exact rcheck_last A m c zs _ w hr (by omega) (by omega) (Lib.hid h3) (Lib.hid rfl) h
      · exact rcheck_falls A m c p zs _ w hr (by omega) (by omega) (Lib.hid h3) (Lib.hid rfl) h4 hp (Lib.hid h5) (Lib.hid h6)
/-- a table's total -/
def totF (r : Bool) (zs : List Int) : Int := if r then zs.getD (zs.length - 1) 0 else 0
set_option maxRecDepth 100000 in
set_option maxHeartbeats 1000000 in
theorem total_yes (A : Option Addr) (m c : Nat) (zs : List Int) (y : Int) (w : World) (hr : Hid (RdI w A (m + 1) zs)) (hb : m + 1 ≤ maxLen) (hok : Hid (okF zs = true)) (hy : Hid (zs.getD m 0 = y)) :
    Calls Try.prog 35 #[frV A (m + 1) c] w fun e w' => e = .returned (.int .i64 y) ∧ Below w.heap.size w w' := by
  obtain ⟨ad, rfl, hK, hW, hR⟩ := open_freq (c := c) hr.out
  have HK := Lib.hid hK
  have HW := Lib.hid hW
  have HR := Lib.hid hR
  have HBD := Lib.hid hb
  unfold maxLen at hb
  clear hK hW hR
  unfold frV
  go_enter Try.func35, Try.ntmps35
  go_wp2_with fail
  generalize w.alloc (.cells #[.slice (some ad) (m + 1) c] 30) = w0 at HK HW HR ⊢
  refine (check_any (some ad) (m + 1) c zs true _ HR HBD.out hok.out).mono ?_
  rintro e w1 ⟨rfl, hb1⟩
  have HR1 := Lib.hid (HR.out.below hb1)
  have ck := blk0 (HK.out.below hb1 HK.out.lt)
  have HW1 := Lib.hid (HW.out.trans (hb1.mono HW.out.size))
  have hcl := HR1.out.cell (k := m) (by omega)
  rw [hy.out] at hcl
  clear hb1
  have e0 : errN true = 0 := rfl
  rw [e0]
  clear e0
  go_wp2
  go_ret
  exact ⟨rfl, HW1.out⟩
set_option maxRecDepth 100000 in
set_option maxHeartbeats 1000000 in
theorem total_no (A : Option Addr) (n c : Nat) (zs : List Int) (w : World) (hr : Hid (RdI w A n zs)) (hb : n ≤ maxLen) (hok : Hid (okF zs = false)) :
    Calls Try.prog 35 #[frV A n c] w fun e w' => e = .returned (.int .i64 0) ∧ Below w.heap.size w w' := by
  have HBD := Lib.hid hb
  clear hb
  unfold frV
  go_enter Try.func35, Try.ntmps35
  go_wp2_with fail
  refine (check_any A n c zs false _ (Lib.hid (hr.out.alloc _)) HBD.out hok.out).mono ?_
  rintro e w1 ⟨rfl, hb1⟩
  have HW1 := Lib.hid (((Below.refl w.heap.size w).alloc (Nat.le_refl _) _).trans (hb1.mono (by simp)))
  clear hb1
  have e0 : errN false = 1 := rfl
  rw [e0]
  clear e0
  go_wp2
  go_ret
  exact ⟨rfl, HW1.out⟩
theorem total_any (A : Option Addr) (n c : Nat) (zs : List Int) (r : Bool) (y : Int) (w : World) (hr : Hid (RdI w A n zs)) (hb : n ≤ maxLen) (hok : okF zs = r) (hy : totF r zs = y) :
    Calls Try.prog 35 #[frV A n c] w fun e w' => e = .returned (.int .i64 y) ∧ Below w.heap.size w w' := by
  cases r with
  | true =>
    have hl := hr.out.1
    obtain ⟨h1, _⟩ := okF_parts hok
    rw [hl] at h1
    obtain ⟨m, rfl⟩ : ∃ m, n = m + 1 := ⟨n - 1, by omega⟩
    refine total_yes A m c zs y w hr hb (Lib.hid hok) (Lib.hid ?_)
    rw [← hy]; simp [totF, hl]
  | false =>
    subst hy
    exact total_no A n c zs w hr hb (Lib.hid hok)
set_option maxRecDepth 100000 in
set_option maxHeartbeats 1000000 in
theorem rtotal_yes (A : Option Addr) (m c : Nat) (zs : List Int) (y : Int) (w : World) (hr : Hid (RdI w A (m + 1) zs)) (hb : m + 1 ≤ maxLen) (hok : Hid (okF zs = true)) (hy : Hid (zs.getD m 0 = y)) :
    Calls Try.prog 44 #[frV A (m + 1) c] w fun e w' => e = .returned (.int .i64 y) ∧ Below w.heap.size w w' := by
  obtain ⟨ad, rfl, hK, hW, hR⟩ := open_freq (c := c) hr.out
  have HK := Lib.hid hK
  have HW := Lib.hid hW
  have HR := Lib.hid hR
  have HBD := Lib.hid hb
  unfold maxLen at hb
  clear hK hW hR
  unfold frV
  go_enter Try.func44, Try.ntmps44
  go_wp2_with fail
  generalize w.alloc (.cells #[.slice (some ad) (m + 1) c] 30) = w0 at HK HW HR ⊢
  refine (rcheck_any (some ad) (m + 1) c zs true _ HR HBD.out hok.out).mono ?_
  rintro e w1 ⟨rfl, hb1⟩
  have HR1 := Lib.hid (HR.out.below hb1)
  have ck := blk0 (HK.out.below hb1 HK.out.lt)
  have HW1 := Lib.hid (HW.out.trans (hb1.mono HW.out.size))
  have hcl := HR1.out.cell (k := m) (by omega)
  rw [hy.out] at hcl
  clear hb1
  have e0 : errN true = 0 := rfl
  rw [e0]
  clear e0
  go_wp2
  go_ret
  exact ⟨rfl, HW1.out⟩
set_option maxRecDepth 100000 in
set_option maxHeartbeats 1000000 in
theorem rtotal_no (A : Option Addr) (n c : Nat) (zs : List Int) (w : World) (hr : Hid (RdI w A n zs)) (hb : n ≤ maxLen) (hok : Hid (okF zs = false)) :
    Calls Try.prog 44 #[frV A n c] w fun e w' => e = .returned (.int .i64 0) ∧ Below w.heap.size w w' := by
  have HBD := Lib.hid hb
  clear hb
  unfold frV
  go_enter Try.func44, Try.ntmps44
  go_wp2_with fail
  refine (rcheck_any A n c zs false _ (Lib.hid (hr.out.alloc _)) HBD.out hok.out).mono ?_
  rintro e w1 ⟨rfl, hb1⟩
  have HW1 := Lib.hid (((Below.refl w.heap.size w).alloc (Nat.le_refl _) _).trans (hb1.mono (by simp)))
  clear hb1
  have e0 : errN false = 1 := rfl
  rw [e0]
  clear e0
  go_wp2
  go_ret
  exact ⟨rfl, HW1.out⟩
theorem rtotal_any (A : Option Addr) (n c : Nat) (zs : List Int) (r : Bool) (y : Int) (w : World) (hr : Hid (RdI w A n zs)) (hb : n ≤ maxLen) (hok : okF zs = r) (hy : totF r zs = y) :
    Calls Try.prog 44 #[frV A n c] w fun e w' => e = .returned (.int .i64 y) ∧ Below w.heap.size w w' := by
  cases r with
  | true =>
    have hl := hr.out.1
    obtain ⟨h1, _⟩ := okF_parts hok
    rw [hl] at h1
    obtain ⟨m, rfl⟩ : ∃ m, n = m + 1 := ⟨n - 1, by omega⟩
    refine rtotal_yes A m c zs y w hr hb (Lib.hid hok) (Lib.hid ?_)
    rw [← hy]; simp [totF, hl]
  | false =>
    subst hy
    exact rtotal_no A n c zs w hr hb (Lib.hid hok)
end Go.Proofs.Ytgelgbfnioagbaa.Fq
/- Ff -/
namespace Go.Proofs.Ytgelgbfnioagbaa.Fq
open Go.RowKit
/-- whether there is a symbol s -/
def symB (zs : List Int) (s : Int) : Bool := okF zs && decide (0 ≤ s ∧ s < (zs.length : Int) - 1)
def spanT (a b c : Int) : Value := .tuple #[.int .i64 a, .int .i64 b, .int .i64 c]
def spanV (zs : List Int) (s : Int) : Value := if symB zs s then spanT (zs.getD s.toNat 0) (zs.getD (s.toNat + 1) 0) 0 else spanT 0 0 1
/-- the box that a table's value is laid in -/
theorem box_freq {w : World} {A : Option Addr} {n c : Nat} {zs : List Int} (h : RdI w A n zs) :
    Blk (w.alloc (.cells #[.slice A n c] 30)) w.heap.size 30 #[.slice A n c] ∧ Below w.heap.size w (w.alloc (.cells #[.slice A n c] 30)) ∧ RdI (w.alloc (.cells #[.slice A n c] 30)) A n zs :=
  ⟨Blk.new w _ _, (Below.refl w.heap.size w).alloc (Nat.le_refl _) _, h.alloc _⟩
set_option maxRecDepth 100000 in
set_option maxHeartbeats 1000000 in
theorem span_yes (ad : Addr) (n c k : Nat) (zs : List Int) (a b : Int) (w : World) (hr : Hid (RdI w (some ad) n zs)) (hb : n ≤ 257) (hok : Hid (okF zs = true)) (hk : k + 1 < n) (ha : Hid (zs.getD k 0 = a)) (hbb : Hid (zs.getD (k + 1) 0 = b)) :
    Calls Try.prog 34 #[frV (some ad) n c, .int .i64 (k : Int)] w fun e w' => e = .returned (spanT a b 0) ∧ Below w.heap.size w w' := by
  obtain ⟨hK, hW, hR⟩ := box_freq (c := c) hr.out
  have HK := Lib.hid hK
  have HW := Lib.hid hW
  have HR := Lib.hid hR
  have HBD := Lib.hid (show n ≤ maxLen by unfold maxLen; omega)
  clear hK hW hR
  unfold frV
  go_enter Try.func34, Try.ntmps34
  go_wp2_with fail
  generalize w.alloc (.cells #[.slice (some ad) n c] 30) = w0 at HK HW HR ⊢
  refine (check_any (some ad) n c zs true _ HR HBD.out hok.out).mono ?_
  rintro e w1 ⟨rfl, hb1⟩
  have HR1 := Lib.hid (HR.out.below hb1)
  have ck := blk0 (HK.out.below hb1 HK.out.lt)
  have HW1 := Lib.hid (HW.out.trans (hb1.mono HW.out.size))
  have x0 := HR1.out.cell (k := k) (by omega)
  have x1 := HR1.out.cellS (k := k) (by omega)
  rw [ha.out] at x0
  rw [hbb.out] at x1
  clear hb1
  rw [show errN true = 0 from rfl]
  have d1 : decide ((k : Int) < 0) = false := by simp
  have d2 : decide ((n : Int) - 2 < (k : Int)) = false := by simp; omega
  have d3 : decide ((n : Int) - 1 ≤ (k : Int)) = false := by simp; omega
  have i1 : IntKind.i64.wrap ((k : Int) + 1) = (k : Int) + 1 := IntWalk.i64_in _ (by omega)
  have i2 : (0 : Int) ≤ (k : Int) + 1 := by omega
  have i3 : ((k : Int) + 1).toNat = k + 1 := by omega
  have i4 : (k : Int) < (n : Int) := by omega
  have i5 : (k : Int) + 1 < (n : Int) := by omega
  have i6 : k < n := by omega
  go_wp2_with fail
  go_quiet (fail)
  go_wp2
  exact bodyPost_ret (v := spanT a b 0) (by simp [results, Try.results34, go_sem, spanT]) rfl ⟨rfl, below_drewN HW1.out _⟩
set_option maxHeartbeats 1000000 in
theorem span_not (A : Option Addr) (n c : Nat) (zs : List Int) (s : Int) (w : World) (hr : Hid (RdI w A n zs)) (hb : n ≤ maxLen) (hok : Hid (okF zs = false)) :
    Calls Try.prog 34 #[frV A n c, .int .i64 s] w fun e w' => e = .returned (spanT 0 0 1) ∧ Below w.heap.size w w' := by
  have HBD := Lib.hid hb
  clear hb
  unfold frV
  go_enter Try.func34, Try.ntmps34
  go_wp2_with fail
  refine (check_any A n c zs false _ (Lib.hid (hr.out.alloc _)) HBD.out hok.out).mono ?_
  rintro e w1 ⟨rfl, hb1⟩
  have HW1 := Lib.hid (((Below.refl w.heap.size w).alloc (Nat.le_refl _) _).trans (hb1.mono (by simp)))
  clear hb1
  rw [show errN false = 1 from rfl]
  go_wp2
  exact bodyPost_ret (v := spanT 0 0 1) (by simp [results, Try.results34, go_sem, spanT]) rfl ⟨rfl, HW1.out⟩
set_option maxHeartbeats 1000000 in
theorem span_out (A : Option Addr) (n c : Nat) (zs : List Int) (s : Int) (w : World) (hr : Hid (RdI w A n zs)) (hb : n ≤ 257) (hok : Hid (okF zs = true)) (hs : s < 0 ∨ 0 ≤ s ∧ (n : Int) - 1 ≤ s) :
    Calls Try.prog 34 #[frV A n c, .int .i64 s] w fun e w' => e = .returned (spanT 0 0 1) ∧ Below w.heap.size w w' := by
  obtain ⟨hK, hW, hR⟩ := box_freq (c := c) hr.out
  have HK := Lib.hid hK
  have HW := Lib.hid hW
  have HR := Lib.hid hR
  have HBD := Lib.hid (show n ≤ maxLen by unfold maxLen; omega)
  clear hK hW hR
  unfold frV
  go_enter Try.func34, Try.ntmps34
  go_wp2_with fail
  generalize w.alloc (.cells #[.slice A n c] 30) = w0 at HK HW HR ⊢
  refine (check_any A n c zs true _ HR HBD.out hok.out).mono ?_
  rintro e w1 ⟨rfl, hb1⟩
  have ck := blk0 (HK.out.below hb1 HK.out.lt)
  have HW1 := Lib.hid (HW.out.trans (hb1.mono HW.out.size))
  clear hb1
  rw [show errN true = 0 from rfl]
  rcases hs with hs | ⟨hs1, hs⟩
  · have d1 : decide (s < 0) = true := by simpa using hs
    go_wp2
    exact bodyPost_ret (v := spanT 0 0 1) (by simp [results, Try.results34, go_sem, spanT]) rfl ⟨rfl, HW1.out⟩
  · have d1 : decide (s < 0) = false := by simp; omega
    have d2 : decide ((n : Int) - 2 < s) = true := by simp; omega
    have d3 : decide ((n : Int) - 1 ≤ s) = true := by simp; omega
    go_wp2
    exact bodyPost_ret (v := spanT 0 0 1) (by simp [results, Try.results34, go_sem, spanT]) rfl ⟨rfl, HW1.out⟩
theorem span_any (A : Option Addr) (n c : Nat) (zs : List Int) (s : Int) (w : World) (hr : Hid (RdI w A n zs)) (hb : n ≤ maxLen) :
    Calls Try.prog 34 #[frV A n c, .int .i64 s] w fun e w' => e = .returned (spanV zs s) ∧ Below w.heap.size w w' := by
  have hl := hr.out.1
  cases hok : okF zs with
  | false =>
    have e : spanV zs s = spanT 0 0 1 := by simp [spanV, symB, hok]
    rw [e]
    exact span_not A n c zs s w hr hb (Lib.hid hok)
  | true =>
    obtain ⟨h1, h2, _⟩ := okF_parts hok
    rw [hl] at h1 h2
    by_cases hs : 0 ≤ s ∧ s < (n : Int) - 1
    · obtain ⟨k, rfl⟩ : ∃ k : Nat, s = (k : Int) := ⟨s.toNat, by omega⟩
      obtain ⟨ad, rfl, _, _⟩ := hr.out.at_ (k := 0) (by omega)
      have e : spanV zs (k : Int) = spanT (zs.getD k 0) (zs.getD (k + 1) 0) 0 := by
        unfold spanV
        rw [if_pos (by simp [symB, hok, hl]; omega)]
        simp
      rw [e]
      exact span_yes ad n c k zs _ _ w hr h2 (Lib.hid hok) (by omega) (Lib.hid rfl) (Lib.hid rfl)
    · have e : spanV zs s = spanT 0 0 1 := by
        unfold spanV
        rw [if_neg (by simp [symB, hok, hl]; omega)]
      rw [e]
      exact span_out A n c zs s w hr h2 (Lib.hid hok) (by omega)
set_option maxRecDepth 100000 in
set_option maxHeartbeats 1000000 in
theorem rspan_yes (ad : Addr) (n c k : Nat) (zs : List Int) (a b : Int) (w : World) (hr : Hid (RdI w (some ad) n zs)) (hb : n ≤ 257) (hok : Hid (okF zs = true)) (hk : k + 1 < n) (ha : Hid (zs.getD k 0 = a)) (hbb : Hid (zs.getD (k + 1) 0 = b)) :
    Calls Try.prog 41 #[frV (some ad) n c, .int .i64 (k : Int)] w fun e w' => e = .returned (spanT a b 0) ∧ Below w.heap.size w w' := by
  obtain ⟨hK, hW, hR⟩ := box_freq (c := c) hr.out
  have HK := Lib.hid hK
  have HW := Lib.hid hW
  have HR := Lib.hid hR
  have HBD := Lib.hid (show n ≤ maxLen by unfold maxLen; omega)
  clear hK hW hR
  unfold frV
  go_enter Try.func41, Try.ntmps41
  go_wp2_with fail
  generalize w.alloc (.cells #[.slice (some ad) n c] 30) = w0 at HK HW HR ⊢
  refine (rcheck_any (some ad) n c zs true _ HR HBD.out hok.out).mono ?_
  rintro e w1 ⟨rfl, hb1⟩
  have HR1 := Lib.hid (HR.out.below hb1)
  have ck := blk0 (HK.out.below hb1 HK.out.lt)
  have HW1 := Lib.hid (HW.out.trans (hb1.mono HW.out.size))
  have x0 := HR1.out.cell (k := k) (by omega)
  have x1 := HR1.out.cellS (k := k) (by omega)
  rw [ha.out] at x0
  rw [hbb.out] at x1
  clear hb1
  rw [show errN true = 0 from rfl]
  have d1 : decide ((k : Int) < 0) = false := by simp
  have d2 : decide ((n : Int) - 2 < (k : Int)) = false := by simp; omega
  have d3 : decide ((n : Int) - 1 ≤ (k : Int)) = false := by simp; omega
  have i1 : IntKind.i64.wrap ((k : Int) + 1) = (k : Int) + 1 := IntWalk.i64_in _ (by omega)
  have i2 : (0 : Int) ≤ (k : Int) + 1 := by omega
  have i3 : ((k : Int) + 1).toNat = k + 1 := by omega
  have i4 : (k : Int) < (n : Int) := by omega
  have i5 : (k : Int) + 1 < (n : Int) := by omega
  have i6 : k < n := by omega
  go_wp2_with fail
  go_quiet (fail)
  go_wp2
  exact bodyPost_ret (v := spanT a b 0) (by simp [results, Try.results41, go_sem, spanT]) rfl ⟨rfl, below_drewN HW1.out _⟩
set_option maxHeartbeats 1000000 in
theorem rspan_not (A : Option Addr) (n c : Nat) (zs : List Int) (s : Int) (w : World) (hr : Hid (RdI w A n zs)) (hb : n ≤ maxLen) (hok : Hid (okF zs = false)) :
    Calls Try.prog 41 #[frV A n c, .int .i64 s] w fun e w' => e = .returned (spanT 0 0 1) ∧ Below w.heap.size w w' := by
  have HBD := Lib.hid hb
  clear hb
  unfold frV
  go_enter Try.func41, Try.ntmps41
  go_wp2_with fail
  refine (rcheck_any A n c zs false _ (Lib.hid (hr.out.alloc _)) HBD.out hok.out).mono ?_
  rintro e w1 ⟨rfl, hb1⟩
  have HW1 := Lib.hid (((Below.refl w.heap.size w).alloc (Nat.le_refl _) _).trans (hb1.mono (by simp)))
  clear hb1
  rw [show errN false = 1 from rfl]
  go_wp2
  exact bodyPost_ret (v := spanT 0 0 1) (by simp [results, Try.results41, go_sem, spanT]) rfl ⟨rfl, HW1.out⟩
set_option maxHeartbeats 1000000 in
theorem rspan_out (A : Option Addr) (n c : Nat) (zs : List Int) (s : Int) (w : World) (hr : Hid (RdI w A n zs)) (hb : n ≤ 257) (hok : Hid (okF zs = true)) (hs : s < 0 ∨ 0 ≤ s ∧ (n : Int) - 1 ≤ s) :
    Calls Try.prog 41 #[frV A n c, .int .i64 s] w fun e w' => e = .returned (spanT 0 0 1) ∧ Below w.heap.size w w' := by
  obtain ⟨hK, hW, hR⟩ := box_freq (c := c) hr.out
  have HK := Lib.hid hK
  have HW := Lib.hid hW
  have HR := Lib.hid hR
  have HBD := Lib.hid (show n ≤ maxLen by unfold maxLen; omega)
  clear hK hW hR
  unfold frV
  go_enter Try.func41, Try.ntmps41
  go_wp2_with fail
  generalize w.alloc (.cells #[.slice A n c] 30) = w0 at HK HW HR ⊢
  refine (rcheck_any A n c zs true _ HR HBD.out hok.out).mono ?_
  rintro e w1 ⟨rfl, hb1⟩
  have ck := blk0 (HK.out.below hb1 HK.out.lt)
  have HW1 := Lib.hid (HW.out.trans (hb1.mono HW.out.size))
  clear hb1
  rw [show errN true = 0 from rfl]
  rcases hs with hs | ⟨hs1, hs⟩
  · have d1 : decide (s < 0) = true := by simpa using hs
    go_wp2
    exact bodyPost_ret (v := spanT 0 0 1) (by simp [results, Try.results41, go_sem, spanT]) rfl ⟨rfl, HW1.out⟩
  · have d1 : decide (s < 0) = false := by simp; omega
    have d2 : decide ((n : Int) - 2 < s) = true := by simp; omega
    have d3 : decide ((n : Int) - 1 ≤ s) = true := by simp; omega
    go_wp2
    exact bodyPost_ret (v := spanT 0 0 1) (by simp [results, Try.results41, go_sem, spanT]) rfl ⟨rfl, HW1.out⟩
theorem rspan_any (A : Option Addr) (n c : Nat) (zs : List Int) (s : Int) (w : World) (hr : Hid (RdI w A n zs)) (hb : n ≤ maxLen) :
    Calls Try.prog 41 #[frV A n c, .int .i64 s] w fun e w' => e = .returned (spanV zs s) ∧ Below w.heap.size w w' := by
  have hl := hr.out.1
  cases hok : okF zs with
  | false =>
    have e : spanV zs s = spanT 0 0 1 := by simp [spanV, symB, hok]
    rw [e]
    exact rspan_not A n c zs s w hr hb (Lib.hid hok)
  | true =>
    obtain ⟨h1, h2, _⟩ := okF_parts hok
    rw [hl] at h1 h2
    by_cases hs : 0 ≤ s ∧ s < (n : Int) - 1
    · obtain ⟨k, rfl⟩ : ∃ k : Nat, s = (k : Int) := ⟨s.toNat, by omega⟩
      obtain ⟨ad, rfl, _, _⟩ := hr.out.at_ (k := 0) (by omega)
      have e : spanV zs (k : Int) = spanT (zs.getD k 0) (zs.getD (k + 1) 0) 0 := by
        unfold spanV
        rw [if_pos (by simp [symB, hok, hl]; omega)]
        simp
      rw [e]
      exact rspan_yes ad n c k zs _ _ w hr h2 (Lib.hid hok) (by omega) (Lib.hid rfl) (Lib.hid rfl)
    · have e : spanV zs s = spanT 0 0 1 := by
        unfold spanV
        rw [if_neg (by simp [symB, hok, hl]; omega)]
      rw [e]
      exact rspan_out A n c zs s w hr h2 (Lib.hid hok) (by omega)
end Go.Proofs.Ytgelgbfnioagbaa.Fq
/- Fg -/
namespace Go.Proofs.Ytgelgbfnioagbaa.Fq
open Go.RowKit
/-- x lies ahead of place s, and no number from s on is below it -/
def Cuts (zs : List Int) (x : Int) (s : Nat) : Prop := s ≤ zs.length ∧ (∀ j, j < s → zs.getD j 0 < x) ∧ ∀ j, s ≤ j → j < zs.length → x ≤ zs.getD j 0
theorem Cuts.uniq {zs : List Int} {x : Int} {s t : Nat} (h1 : Cuts zs x s) (h2 : Cuts zs x t) : s = t := by
  rcases Nat.lt_trichotomy s t with h | h | h
  · have a := h2.2.1 s h
    have b := h1.2.2 s (Nat.le_refl _) (by have := h2.1; omega)
    omega
  · exact h
  · have a := h1.2.1 t h
    have b := h2.2.2 t (Nat.le_refl _) (by have := h1.1; omega)
    omega
/-- the two variables of the function that SearchInts hands on -/
def SrcIn (w : World) (g : Nat) (A : Option Addr) (n c : Nat) (x : Int) : Prop := w.cell? ⟨g, 0, none⟩ = some (.slice A n c) ∧ w.cell? ⟨g + 1, 0, none⟩ = some (.int .i64 x)
set_option maxHeartbeats 1000000 in
theorem search1_any (ad : Addr) (n c k g : Nat) (x y : Int) (w : World) (h : SrcIn w g (some ad) n c x) (hk : k < n) (hc : w.cell? (ad.add k) = some (.int .i64 y)) :
    Calls Try.prog 91 #[.int .i64 (k : Int), .pointer (some ⟨g, 0, none⟩), .pointer (some ⟨g + 1, 0, none⟩)] w fun e w' => e = .returned (.bool (decide (x ≤ y))) ∧ ∃ q, w' = w.drewN q := by
  obtain ⟨h1, h2⟩ := h
  have i4 : (k : Int) < (n : Int) := by omega
  by_cases hd : x ≤ y
  · have d : decide (x ≤ y) = true := by simpa using hd
    go_enter Try.func91, Try.ntmps91
    go_wp2_with fail
    go_quiet (fail)
    go_wp2
    go_ret
    exact ⟨by simp [d], _, rfl⟩
  · have d : decide (x ≤ y) = false := by simpa using hd
    go_enter Try.func91, Try.ntmps91
    go_wp2_with fail
    go_quiet (fail)
    go_wp2
    go_ret
    exact ⟨by simp [d], _, rfl⟩
theorem half_is (i j : Nat) : ((i : Int) + (j : Int)) / 2 = (((i + j) / 2 : Nat) : Int) := by simp
def SrcP (zs : List Int) (x : Int) (w : World) (e : Ending) (w' : World) : Prop := ∃ (s q : Nat), e = .returned (.int .i64 (s : Int)) ∧ Cuts zs x s ∧ w' = w.drewN q
set_option maxRecDepth 100000 in
set_option maxHeartbeats 1000000 in
theorem search_any (ad : Addr) (n c g : Nat) (zs : List Int) (x : Int) (w : World) (h : Hid (SrcIn w g (some ad) n c x)) (hr : Hid (RdI w (some ad) n zs)) (hn : n ≤ 1000) (hm : Hid (∀ i j, i < j → j < n → zs.getD i 0 < zs.getD j 0)) :
    Calls Try.prog 90 #[.int .i64 (n : Int), .func (.func 91) #[] #[.pointer (some ⟨g, 0, none⟩), .pointer (some ⟨g + 1, 0, none⟩)]] w (SrcP zs x w) := by
  have HL := Lib.hid hr.out.1
  go_enter Try.func90, Try.ntmps90
  go_wp2
  go_loopw [5, 6, 7] (fun vi vj _ wr => ∃ (i j q : Nat), vi = .int .i64 (i : Int) ∧ vj = .int .i64 (j : Int) ∧ i ≤ j ∧ j ≤ n ∧ wr = w.drewN q ∧ Hid ((∀ t, t < i → zs.getD t 0 < x) ∧ ∀ t, j ≤ t → t < n → x ≤ zs.getD t 0)) (fun vi vj _ _ => (intOf vj).toNat - (intOf vi).toNat)
  case atStart => exact ⟨0, n, 0, rfl, rfl, by omega, by omega, rfl, Lib.hid ⟨fun t ht => by omega, fun t h1 h2 => by omega⟩⟩
  case round =>
    obtain ⟨i, j, q, rfl, rfl, hij, hjn, rfl, HI⟩ := hrel
    by_cases hlt : i < j
    · obtain ⟨hh, hhe⟩ : ∃ hh, hh = (i + j) / 2 := ⟨_, rfl⟩
      have e1 : ((i : Int) + (j : Int)) / 2 = (hh : Int) := by rw [hhe]; exact half_is i j
      have b1 : i ≤ hh := by omega
      have b2 : hh < j := by omega
      clear hhe
      have hcell := hr.out.cell (k := hh) (by omega)
      obtain ⟨y, hy⟩ : ∃ y, zs.getD hh 0 = y := ⟨_, rfl⟩
      rw [hy] at hcell
      have HY := Lib.hid hy
      clear hy
      have hcon := search1_any ad n c hh g x y (w.drewN q) h.out (by omega) hcell
      have hlt' : (i : Int) < (j : Int) := by omega
      clear hcell
      by_cases hd : x ≤ y
      · rw [show decide (x ≤ y) = true by simpa using hd] at hcon
        go_wp2_with (go_at_call 91; refine hcon.mono ?_; rintro e w' ⟨rfl, q', rfl⟩)
        clear hcon e1
        go_roundw
        case rel =>
          refine ⟨i, hh, q + q', rfl, rfl, b1, by omega, by first | rfl | rw [World.drewN_drewN], Lib.hid ⟨HI.out.1, fun t h1 h2 => ?_⟩⟩
          rcases Nat.eq_or_lt_of_le h1 with h3 | h3
          · subst h3; rw [HY.out]; exact hd
          · have := hm.out hh t h3 h2
            rw [HY.out] at this
            omega
        case measure => simp [intOf]; omega
      · rw [show decide (x ≤ y) = false by simpa using hd] at hcon
        go_wp2_with (go_at_call 91; refine hcon.mono ?_; rintro e w' ⟨rfl, q', rfl⟩)
        clear hcon e1
        go_roundw
        case rel =>
          refine ⟨hh + 1, j, q + q', by go_num, rfl, by omega, by omega, by first | rfl | rw [World.drewN_drewN], Lib.hid ⟨fun t ht => ?_, HI.out.2⟩⟩
          rcases Nat.lt_or_ge t hh with h3 | h3
          · have := hm.out t hh h3 (by omega)
            rw [HY.out] at this
            omega
          · have : t = hh := by omega
            subst this; rw [HY.out]; omega
        case measure => simp [intOf]; omega
    · obtain rfl : i = j := by omega
      have hlt' : ¬ (i : Int) < (i : Int) := by omega
      go_wp2
      go_ret
      exact ⟨i, q, rfl, ⟨by rw [HL.out]; exact hjn, HI.out.1, fun t h1 h2 => HI.out.2 t h1 (by rw [← HL.out]; exact h2)⟩, rfl⟩
end Go.Proofs.Ytgelgbfnioagbaa.Fq
/- Fh -/
namespace Go.Proofs.Ytgelgbfnioagbaa.Fq
open Go.RowKit
/-- x is among the numbers of the symbol k -/
def IsSym (zs : List Int) (x : Int) (k : Nat) : Prop := k + 1 < zs.length ∧ zs.getD k 0 ≤ x ∧ x < zs.getD (k + 1) 0
theorem mono_le {zs : List Int} (h : okF zs = true) {i j : Nat} (hij : i ≤ j) (hj : j < zs.length) : zs.getD i 0 ≤ zs.getD j 0 := by
  rcases Nat.eq_or_lt_of_le hij with e | e
  · subst e; omega
  · have := okF_mono h e hj; omega
theorem IsSym.cuts {zs : List Int} {x : Int} {k : Nat} (h : okF zs = true) (hk : IsSym zs x k) : Cuts zs (x + 1) (k + 1) := by
  obtain ⟨h1, h2, h3⟩ := hk
  refine ⟨by omega, fun j hj => ?_, fun j h4 h5 => ?_⟩
  · have := mono_le h (show j ≤ k by omega) (by omega); omega
  · have := mono_le h h4 h5; omega
theorem isSym_some {zs : List Int} {x : Int} (h : okF zs = true) (h0 : 0 ≤ x) (h1 : x < zs.getD (zs.length - 1) 0) : ∃ k, IsSym zs x k := by
  obtain ⟨p1, p2, p3, p4, p5⟩ := okF_parts h
  have key : ∀ N, N < zs.length → x < zs.getD N 0 → ∃ k, IsSym zs x k := by
    intro N
    induction N with
    | zero => intro _ hx; omega
    | succ N ih =>
      intro hN hx
      rcases Int.lt_or_le x (zs.getD N 0) with h2 | h2
      · exact ih (by omega) h2
      · exact ⟨N, hN, h2, hx⟩
  exact key _ (by omega) h1
def findT (k e : Int) : Value := .tuple #[.int .i64 k, .int .i64 e]
set_option maxHeartbeats 1000000 in
theorem searchInts_any (ad : Addr) (n c : Nat) (zs : List Int) (x : Int) (s : Nat) (w : World) (hr : Hid (RdI w (some ad) n zs)) (hn : n ≤ 1000) (hm : Hid (∀ i j, i < j → j < n → zs.getD i 0 < zs.getD j 0)) (hs : Hid (Cuts zs x s)) :
    Calls Try.prog 83 #[.slice (some ad) n c, .int .i64 x] w fun e w' => e = .returned (.int .i64 (s : Int)) ∧ Below w.heap.size w w' := by
  have HK := Lib.hid (show SrcIn ((w.alloc (.cells #[.slice (some ad) n c] 28)).alloc (.cells #[.int .i64 x] 3)) w.heap.size (some ad) n c x from
    ⟨blk0 ((Blk.new w _ _).alloc _), blk0 (Blk.newAt (w := w.alloc (.cells #[.slice (some ad) n c] 28)) (t := 3) (cs := #[.int .i64 x]) (by simp))⟩)
  have HW := Lib.hid (show Below w.heap.size w ((w.alloc (.cells #[.slice (some ad) n c] 28)).alloc (.cells #[.int .i64 x] 3)) from ((Below.refl w.heap.size w).alloc (Nat.le_refl _) _).alloc (by simp) _)
  go_enter Try.func83, Try.ntmps83
  go_wp2_with fail
  generalize (w.alloc (.cells #[.slice (some ad) n c] 28)).alloc (.cells #[.int .i64 x] 3) = w0 at HK HW ⊢
  refine (search_any ad n c w.heap.size zs x w0 HK (Lib.hid (hr.out.below HW.out)) hn hm).mono ?_
  rintro e w1 ⟨t, q, rfl, ht, rfl⟩
  obtain rfl := ht.uniq hs.out
  clear ht
  go_wp2
  go_ret
  exact ⟨rfl, below_drewN HW.out q⟩
set_option maxHeartbeats 1000000 in
theorem find_yes (A : Option Addr) (n c k : Nat) (zs : List Int) (x y : Int) (w : World) (hr : Hid (RdI w A n zs)) (hok : Hid (okF zs = true)) (hk : Hid (IsSym zs x k)) (h0 : 0 ≤ x) (hy : Hid (totF true zs = y)) (h1 : x < y) (h2 : y ≤ 16384) :
    Calls Try.prog 72 #[frV A n c, .int .i64 x] w fun e w' => e = .returned (findT (k : Int) 0) ∧ Below w.heap.size w w' := by
  obtain ⟨p1, p2, _, _, _⟩ := okF_parts hok.out
  have hl := hr.out.1
  rw [hl] at p1 p2
  clear hl
  obtain ⟨ad, rfl, _, _⟩ := hr.out.at_ (k := 0) (by omega)
  obtain ⟨hK, hW, hR⟩ := box_freq (c := c) hr.out
  have HK := Lib.hid hK
  have HW := Lib.hid hW
  have HR := Lib.hid hR
  have HBD := Lib.hid (show n ≤ maxLen by unfold maxLen; omega)
  have HM := Lib.hid (show ∀ i j, i < j → j < n → zs.getD i 0 < zs.getD j 0 from fun i j hij hj => okF_mono hok.out hij (by rw [hr.out.1]; exact hj))
  have HC := Lib.hid (hk.out.cuts hok.out)
  have d1 : decide (x < 0) = false := by simp; omega
  have d2 : decide (y ≤ x) = false := by simp; omega
  clear hK hW hR
  unfold frV
  go_enter Try.func72, Try.ntmps72
  go_wp2_with fail
  generalize w.alloc (.cells #[.slice (some ad) n c] 30) = w0 at HK HW HR ⊢
  refine (total_any (some ad) n c zs true y _ HR HBD.out hok.out hy.out).mono ?_
  rintro e w1 ⟨rfl, hb1⟩
  have HR1 := Lib.hid (HR.out.below hb1)
  have ck := blk0 (HK.out.below hb1 HK.out.lt)
  have HW1 := Lib.hid (HW.out.trans (hb1.mono HW.out.size))
  clear hb1
  go_wp2_with fail
  refine (searchInts_any ad n c zs (x + 1) (k + 1) _ HR1 (by omega) HM HC).mono ?_
  rintro e w2 ⟨rfl, hb2⟩
  have HW2 := Lib.hid (HW1.out.trans (hb2.mono HW1.out.size))
  have hk1 : k ≤ 1000 := by have := hk.out.1; have := hr.out.1; omega
  clear hb2
  go_wp2
  exact bodyPost_ret (v := findT (k : Int) 0) (by simp [results, Try.results72, go_sem, findT]) rfl ⟨rfl, HW2.out⟩
set_option maxHeartbeats 1000000 in
theorem find_no (A : Option Addr) (n c : Nat) (zs : List Int) (r : Bool) (x y : Int) (w : World) (hr : Hid (RdI w A n zs)) (hn : n ≤ maxLen) (hok : Hid (okF zs = r)) (hy : Hid (totF r zs = y)) (h0 : x < 0 ∨ 0 ≤ x ∧ y ≤ x) :
    Calls Try.prog 72 #[frV A n c, .int .i64 x] w fun e w' => e = .returned (findT 0 1) ∧ Below w.heap.size w w' := by
  have HBD := Lib.hid hn
  clear hn
  unfold frV
  rcases h0 with h0 | ⟨h0, h1⟩
  · have d1 : decide (x < 0) = true := by simpa using h0
    go_enter Try.func72, Try.ntmps72
    go_wp2
    exact bodyPost_ret (v := findT 0 1) (by simp [results, Try.results72, go_sem, findT]) rfl ⟨rfl, (Below.refl w.heap.size w).alloc (Nat.le_refl _) _⟩
  · have d1 : decide (x < 0) = false := by simp; omega
    have d2 : decide (y ≤ x) = true := by simpa using h1
    go_enter Try.func72, Try.ntmps72
    go_wp2_with fail
    refine (total_any A n c zs r y _ (Lib.hid (hr.out.alloc _)) HBD.out hok.out hy.out).mono ?_
    rintro e w1 ⟨rfl, hb1⟩
    have HW1 := Lib.hid (((Below.refl w.heap.size w).alloc (Nat.le_refl _) _).trans (hb1.mono (by simp)))
    clear hb1
    go_wp2
    exact bodyPost_ret (v := findT 0 1) (by simp [results, Try.results72, go_sem, findT]) rfl ⟨rfl, HW1.out⟩
set_option maxRecDepth 100000 in
set_option maxHeartbeats 1000000 in
theorem rfind_yes (A : Option Addr) (n c k : Nat) (zs : List Int) (x y : Int) (w : World) (hr : Hid (RdI w A n zs)) (hok : Hid (okF zs = true)) (hk : Hid (IsSym zs x k)) (h0 : 0 ≤ x) (hy : Hid (totF true zs = y)) (h1 : x < y) (_h2 : y ≤ 16384) :
    Calls Try.prog 53 #[frV A n c, .int .i64 x] w fun e w' => e = .returned (findT (k : Int) 0) ∧ Below w.heap.size w w' := by
  obtain ⟨p1, p2, _, _, _⟩ := okF_parts hok.out
  have hl := hr.out.1
  rw [hl] at p1 p2
  have hk1 : k + 1 < n := by have := hk.out.1; omega
  clear hl
  obtain ⟨ad, rfl, _, _⟩ := hr.out.at_ (k := 0) (by omega)
  obtain ⟨hK, hW, hR⟩ := box_freq (c := c) hr.out
  have HK := Lib.hid hK
  have HW := Lib.hid hW
  have HR := Lib.hid hR
  have HBD := Lib.hid (show n ≤ maxLen by unfold maxLen; omega)
  have d1 : decide (x < 0) = false := by simp; omega
  have d2 : decide (y ≤ x) = false := by simp; omega
  clear hK hW hR
  unfold frV
  go_enter Try.func53, Try.ntmps53
  go_wp2_with fail
  generalize w.alloc (.cells #[.slice (some ad) n c] 30) = w0 at HK HW HR ⊢
  refine (rcheck_any (some ad) n c zs true _ HR HBD.out hok.out).mono ?_
  rintro e w1 ⟨rfl, hb1⟩
  have HR1 := Lib.hid (HR.out.below hb1)
  have HK1 := Lib.hid (HK.out.below hb1 HK.out.lt)
  have ck := blk0 HK1.out
  have HW1 := Lib.hid (HW.out.trans (hb1.mono HW.out.size))
  clear hb1
  rw [show errN true = 0 from rfl]
  go_wp2_with fail
  refine (rtotal_any (some ad) n c zs true y _ HR1 HBD.out hok.out hy.out).mono ?_
  rintro e w2 ⟨rfl, hb2⟩
  have HR2 := Lib.hid (HR1.out.below hb2)
  have HK2 := Lib.hid (HK1.out.below hb2 HK1.out.lt)
  clear ck
  have ck := blk0 HK2.out
  have HW2 := Lib.hid (HW1.out.trans (hb2.mono HW1.out.size))
  clear hb2
  go_wp2
  go_loop [6] (fun v => ∃ s : Nat, s ≤ k ∧ v = .int .i64 (s : Int)) (fun v => k - (intOf v).toNat)
  case atStart => exact ⟨0, by omega, rfl⟩
  case round =>
    obtain ⟨s, hs, rfl⟩ := hrel
    have x1 := HR2.out.cellS (k := s) (by omega)
    have i1 : s + 1 < n := by omega
    by_cases hlt : s < k
    · have h3 : zs.getD (s + 1) 0 ≤ x := by
        have := mono_le hok.out (show s + 1 ≤ k by omega) (by rw [hr.out.1]; omega)
        have := hk.out.2.1
        omega
      generalize zs.getD (s + 1) 0 = b at x1 h3
      have d3 : decide (b ≤ x) = true := by simpa using h3
      go_wp2
      go_round
      case rel => exact ⟨s + 1, by omega, by go_num⟩
      case measure => simp [intOf]; omega
    · obtain rfl : s = k := by omega
      have h3 := hk.out.2.2
      clear hk
      generalize zs.getD (s + 1) 0 = b at x1 h3
      have d3 : decide (b ≤ x) = false := by simp; omega
      go_wp2
      exact bodyPost_ret (v := findT (s : Int) 0) (by simp [results, Try.results53, go_sem, findT]) rfl ⟨rfl, HW2.out⟩
set_option maxHeartbeats 1000000 in
theorem rfind_no (A : Option Addr) (n c : Nat) (zs : List Int) (r : Bool) (x y : Int) (w : World) (hr : Hid (RdI w A n zs)) (hn : n ≤ maxLen) (hok : Hid (okF zs = r)) (hy : Hid (totF r zs = y)) (h0 : x < 0 ∨ 0 ≤ x ∧ y ≤ x) :
    Calls Try.prog 53 #[frV A n c, .int .i64 x] w fun e w' => e = .returned (findT 0 1) ∧ Below w.heap.size w w' := by
  obtain ⟨hK, hW, hR⟩ := box_freq (c := c) hr.out
  have HK := Lib.hid hK
  have HW := Lib.hid hW
  have HR := Lib.hid hR
  have HBD := Lib.hid hn
  clear hK hW hR hn
  unfold frV
  go_enter Try.func53, Try.ntmps53
  go_wp2_with fail
  generalize w.alloc (.cells #[.slice A n c] 30) = w0 at HK HW HR ⊢
  refine (rcheck_any A n c zs r _ HR HBD.out hok.out).mono ?_
  rintro e w1 ⟨rfl, hb1⟩
  have HR1 := Lib.hid (HR.out.below hb1)
  have ck := blk0 (HK.out.below hb1 HK.out.lt)
  have HW1 := Lib.hid (HW.out.trans (hb1.mono HW.out.size))
  clear hb1
  cases r with
  | false =>
    rw [show errN false = 1 from rfl]
    go_wp2
    exact bodyPost_ret (v := findT 0 1) (by simp [results, Try.results53, go_sem, findT]) rfl ⟨rfl, HW1.out⟩
  | true =>
    rw [show errN true = 0 from rfl]
    rcases h0 with h0 | ⟨h0, h1⟩
    · have d1 : decide (x < 0) = true := by simpa using h0
      go_wp2
      exact bodyPost_ret (v := findT 0 1) (by simp [results, Try.results53, go_sem, findT]) rfl ⟨rfl, HW1.out⟩
    · have d1 : decide (x < 0) = false := by simp; omega
      have d2 : decide (y ≤ x) = true := by simpa using h1
      go_wp2_with fail
      refine (rtotal_any A n c zs true y _ HR1 HBD.out hok.out hy.out).mono ?_
      rintro e w2 ⟨rfl, hb2⟩
      have HW2 := Lib.hid (HW1.out.trans (hb2.mono HW1.out.size))
      clear hb2
      go_wp2
      exact bodyPost_ret (v := findT 0 1) (by simp [results, Try.results53, go_sem, findT]) rfl ⟨rfl, HW2.out⟩
end Go.Proofs.Ytgelgbfnioagbaa.Fq
/- Fi -/
namespace Go.Proofs.Ytgelgbfnioagbaa.Fq
open Go.RowKit
theorem eq_of_at {xs ys : List Int} (hl : xs.length = ys.length) (h : ∀ k, k < xs.length → xs.getD k 0 = ys.getD k 0) : xs = ys := by
  refine List.ext_getElem? fun k => ?_
  by_cases hk : k < xs.length
  · rw [get_of_lt hk, get_of_lt (zs := ys) (by omega), h k hk]
  · rw [List.getElem?_eq_none (by omega), List.getElem?_eq_none (by omega)]
theorem ne_at {xs ys : List Int} (hl : xs.length = ys.length) (h : xs ≠ ys) : ∃ p, p < xs.length ∧ xs.getD p 0 ≠ ys.getD p 0 ∧ ∀ k, k < p → xs.getD k 0 = ys.getD k 0 := by
  have key : ∀ N, (∃ p, p < N ∧ xs.getD p 0 ≠ ys.getD p 0 ∧ ∀ k, k < p → xs.getD k 0 = ys.getD k 0) ∨ ∀ k, k < N → xs.getD k 0 = ys.getD k 0 := by
    intro N
    induction N with
    | zero => exact .inr fun k hk => by omega
    | succ N ih =>
      rcases ih with ⟨m, hm, h5, h6⟩ | h5
      · exact .inl ⟨m, by omega, h5, h6⟩
      · by_cases h6 : xs.getD N 0 = ys.getD N 0
        · refine .inr fun k hk => ?_
          rcases Nat.lt_or_ge k N with h7 | h7
          · exact h5 k h7
          · have : k = N := by omega
            subst this; exact h6
        · exact .inl ⟨N, by omega, h6, h5⟩
  rcases key xs.length with h1 | h1
  · exact h1
  · exact absurd (eq_of_at hl h1) h
set_option maxRecDepth 100000 in
set_option maxHeartbeats 1000000 in
theorem requal_lens (A B : Option Addr) (n m c d : Nat) (w : World) (hne : ¬ n = m) :
    Calls Try.prog 30 #[.slice A n c, .slice B m d] w fun e w' => e = .returned (.bool false) ∧ ∃ q, w' = w.drewN q := by
  have d1 : ((n : Int) != (m : Int)) = true := by simp; omega
  have d2 : (n != m) = true := by simp; omega
  go_enter Try.func30, Try.ntmps30
  go_wp2
  go_ret
  exact ⟨rfl, 0, rfl⟩
set_option maxRecDepth 100000 in
set_option maxHeartbeats 1000000 in
theorem requal_yes (A B : Option Addr) (n c d : Nat) (xs : List Int) (w : World) (hn : n ≤ maxLen) (hx : Hid (RdI w A n xs)) (hy : Hid (RdI w B n xs)) :
    Calls Try.prog 30 #[.slice A n c, .slice B n d] w fun e w' => e = .returned (.bool true) ∧ ∃ q, w' = w.drewN q := by
  unfold maxLen at hn
  have d1 : ((n : Int) != (n : Int)) = false := by simp
  go_enter Try.func30, Try.ntmps30
  go_wp2
  go_loopw [5, 13] (fun _ i wr => ∃ k q : Nat, k ≤ n ∧ i = .int .i64 (k : Int) ∧ wr = w.drewN q) (fun _ i _ => n - (intOf i).toNat)
  case atStart => exact ⟨0, 0, by omega, rfl, rfl⟩
  case round =>
    obtain ⟨k, q, hk, rfl, rfl⟩ := hrel
    by_cases hlt : k < n
    · obtain ⟨ad, rfl, -, -⟩ := hx.out.at_ hlt
      obtain ⟨bd, rfl, -, -⟩ := hy.out.at_ hlt
      have x0 := hx.out.cell hlt
      have y0 := hy.out.cell hlt
      generalize xs.getD k 0 = a at x0 y0
      have d3 : (a != a) = false := by simp
      have i4 : (k : Int) < (n : Int) := by omega
      go_wp2_with fail
      go_quiet (fail)
      go_wp2
      go_roundw
      case rel => exact ⟨k + 1, q + nq, by omega, by go_num, by first | rfl | rw [World.drewN_drewN]⟩
      case measure => simp [intOf]; omega
    · go_wp2
      go_ret
      exact ⟨rfl, q, rfl⟩
set_option maxRecDepth 100000 in
set_option maxHeartbeats 1000000 in
theorem requal_no (A B : Option Addr) (n c d p : Nat) (xs ys : List Int) (w : World) (hn : n ≤ maxLen) (hx : Hid (RdI w A n xs)) (hy : Hid (RdI w B n ys)) (hp : p < n) (hd : Hid (xs.getD p 0 ≠ ys.getD p 0)) (hs : Hid (∀ k, k < p → xs.getD k 0 = ys.getD k 0)) :
    Calls Try.prog 30 #[.slice A n c, .slice B n d] w fun e w' => e = .returned (.bool false) ∧ ∃ q, w' = w.drewN q := by
  unfold maxLen at hn
  have d1 : ((n : Int) != (n : Int)) = false := by simp
  go_enter Try.func30, Try.ntmps30
  go_wp2
  go_loopw [5, 13] (fun _ i wr => ∃ k q : Nat, k ≤ p ∧ i = .int .i64 (k : Int) ∧ wr = w.drewN q) (fun _ i _ => n - (intOf i).toNat)
  case atStart => exact ⟨0, 0, by omega, rfl, rfl⟩
  case round =>
    obtain ⟨k, q, hk, rfl, rfl⟩ := hrel
    have hlt : k < n := by omega
    obtain ⟨ad, rfl, -, -⟩ := hx.out.at_ hlt
    obtain ⟨bd, rfl, -, -⟩ := hy.out.at_ hlt
    have x0 := hx.out.cell hlt
    have y0 := hy.out.cell hlt
    have i4 : (k : Int) < (n : Int) := by omega
    by_cases hkp : k < p
    · rw [← hs.out k hkp] at y0
      generalize xs.getD k 0 = a at x0 y0
      have d3 : (a != a) = false := by simp
      go_wp2_with fail
      go_quiet (fail)
      go_wp2
      go_roundw
      case rel => exact ⟨k + 1, q + nq, by omega, by go_num, by first | rfl | rw [World.drewN_drewN]⟩
      case measure => simp [intOf]; omega
    · obtain rfl : k = p := by omega
      have hne := hd.out
      clear hd
      generalize xs.getD k 0 = a at x0 hne
      generalize ys.getD k 0 = b at y0 hne
      have d3 : (a != b) = true := by simpa using hne
      go_wp2_with fail
      go_quiet (fail)
      go_wp2
      go_ret
      exact ⟨rfl, q + nq, by first | rfl | rw [World.drewN_drewN]⟩
theorem requal_any (A B : Option Addr) (n m c d : Nat) (xs ys : List Int) (r : Bool) (w : World) (hn : n ≤ maxLen) (hm : m ≤ maxLen) (hx : RdI w A n xs) (hy : RdI w B m ys) (hr : decide (xs = ys) = r) :
    Calls Try.prog 30 #[.slice A n c, .slice B m d] w fun e w' => e = .returned (.bool r) ∧ ∃ q, w' = w.drewN q := by
  by_cases he : n = m
  · subst he
    cases r with
    | true =>
      obtain rfl := of_decide_eq_true hr
      exact requal_yes A B n c d xs w hn (Lib.hid hx) (Lib.hid hy)
    | false =>
      have hl : xs.length = ys.length := by rw [hx.1, hy.1]
      obtain ⟨p, hp, h1, h2⟩ := ne_at hl (of_decide_eq_false hr)
      exact requal_no A B n c d p xs ys w hn (Lib.hid hx) (Lib.hid hy) (by rw [← hx.1]; exact hp) (Lib.hid h1) (Lib.hid h2)
  · have : r = false := by
      rw [← hr]
      refine decide_eq_false fun e => he ?_
      rw [← hx.1, ← hy.1, e]
    subst this
    exact requal_lens A B n m c d w he
/-- whether both tables may be, and are the same -/
def sameB (xs ys : List Int) : Bool := okF xs && decide (xs = ys)
theorem two_boxes (w : World) (A B : Option Addr) (n m c d : Nat) (xs ys : List Int) (hx : RdI w A n xs) (hy : RdI w B m ys) :
    ∃ w0, w0 = (w.alloc (.cells #[.slice A n c] 30)).alloc (.cells #[.slice B m d] 30) ∧ Blk w0 w.heap.size 30 #[.slice A n c] ∧ Blk w0 (w.heap.size + 1) 30 #[.slice B m d] ∧ Below w.heap.size w w0 ∧ RdI w0 A n xs ∧ RdI w0 B m ys :=
  ⟨_, rfl, (Blk.new w _ _).alloc _, Blk.newAt (by simp), ((Below.refl w.heap.size w).alloc (Nat.le_refl _) _).alloc (by simp) _, (hx.alloc _).alloc _, (hy.alloc _).alloc _⟩
end Go.Proofs.Ytgelgbfnioagbaa.Fq
