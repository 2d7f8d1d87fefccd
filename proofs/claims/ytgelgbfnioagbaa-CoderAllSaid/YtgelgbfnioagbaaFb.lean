/-
  Own texts, laid together: Fj, Fk, Fl, Fn, Fo, Fp, Fq, Fr, Fs, Fu.
-/
import Derived.Test.YtgelgbfnioagbaaFa
import Derived.BigRegion
import Derived.Lib.BitFns
/- Fj -/
namespace Go.Proofs.Ytgelgbfnioagbaa.Fq
open Go.RowKit
/-- places as a block's cells -/
def ncells (xs : List Nat) : Array Value := icells (xs.map fun x : Nat => (x : Int))
theorem ncells_at {w : World} {g : Nat} {t : TypeId} {xs : List Nat} (h : Blk w g t (ncells xs)) {i : Nat} (hi : i < xs.length) : w.cell? ⟨g, i, none⟩ = some (.int .i64 ((xs.getD i 0 : Nat) : Int)) := by
  have := blk_at h (i := i) (by simpa using hi)
  rw [this]
  simp [List.getD_eq_getElem?_getD, hi]
theorem ncells_put {w : World} {g : Nat} {t : TypeId} {xs : List Nat} (h : Blk w g t (ncells xs)) (i x : Nat) : Blk (w.setCell ⟨g, i, none⟩ (.int .i64 (x : Int))) g t (ncells (xs.set i x)) := by
  have := blk_put h i (x : Int)
  unfold ncells
  rwa [List.map_set]
/-- two places' numbers exchanged -/
def swapL (xs : List Nat) (i j : Nat) : List Nat := (xs.set i (xs.getD j 0)).set j (xs.getD i 0)
theorem swapL_length (xs : List Nat) (i j : Nat) : (swapL xs i j).length = xs.length := by simp [swapL]
theorem swapL_perm (xs : List Nat) (i j : Nat) (hi : i < xs.length) (hj : j < xs.length) : (swapL xs i j).Perm xs := by
  have e1 : xs.getD i 0 = xs[i] := by simp [List.getD_eq_getElem?_getD, hi]
  have e2 : xs.getD j 0 = xs[j] := by simp [List.getD_eq_getElem?_getD, hj]
  unfold swapL
  rw [e1, e2]
  exact List.set_set_perm hi hj
/-- as cmp.Compare answers -/
def cmpI (a b : Int) : Int := if a < b then -1 else if b < a then 1 else 0
/-- what greatestFirst's comparison needs of memory; the row that is sorted is another block -/
def CmpOk (w : World) (B C : Nat) (ls : List Int) : Prop :=
  C ≠ B ∧ ∃ A m c, w.cell? ⟨C, 0, none⟩ = some (.slice A m c) ∧ RdI w A m ls ∧ ∀ ad, A = some ad → 0 < m → ad.block ≠ B
theorem CmpOk.only {w w' : World} {B C : Nat} {ls : List Int} (h : CmpOk w B C ls) (hg : w.grownBy w' (some B)) : CmpOk w' B C ls := by
  obtain ⟨h1, A, m, c, h2, h3, h4⟩ := h
  refine ⟨h1, A, m, c, ?_, h3.only hg h4, h4⟩
  exact (World.cell?_of_block (hg.block C (World.block_lt_of_cell? _ _ h2) (fun e => h1 (by injection e)))).trans h2
theorem CmpOk.drewN {w : World} {B C : Nat} {ls : List Int} (h : CmpOk w B C ls) (n : Nat) : CmpOk (w.drewN n) B C ls := h
end Go.Proofs.Ytgelgbfnioagbaa.Fq
/- Fk -/
namespace Go.Proofs.Ytgelgbfnioagbaa.Fq
open Go.RowKit
/-- whether the place x goes ahead of the place y -/
def ltL (ls : List Int) (x y : Nat) : Bool := decide (cmpI (ls.getD y 0) (ls.getD x 0) < 0)
/-- one number moved ahead -/
def insI (ls : List Int) (a : Nat) : Nat → List Nat → List Nat
  | 0, xs => xs
  | j + 1, xs => if a < j + 1 ∧ ltL ls (xs.getD (j + 1) 0) (xs.getD j 0) = true then insI ls a j (swapL xs (j + 1) j) else xs
def insO (ls : List Int) (a : Nat) : Nat → Nat → List Nat → List Nat
  | 0, _, xs => xs
  | r + 1, i, xs => insO ls a r (i + 1) (insI ls a i xs)
theorem insI_perm (ls : List Int) (a j : Nat) (xs : List Nat) (h : j < xs.length) : (insI ls a j xs).Perm xs := by
  induction j generalizing xs with
  | zero => exact List.Perm.refl _
  | succ j ih =>
    unfold insI
    split
    · exact (ih _ (by rw [swapL_length]; omega)).trans (swapL_perm xs _ _ h (by omega))
    · exact List.Perm.refl _
theorem insO_perm (ls : List Int) (a r i : Nat) (xs : List Nat) (h : i + r ≤ xs.length) : (insO ls a r i xs).Perm xs := by
  induction r generalizing i xs with
  | zero => exact List.Perm.refl _
  | succ r ih =>
    have h1 := insI_perm ls a i xs (by omega)
    exact (ih (i + 1) _ (by rw [h1.length_eq]; omega)).trans h1
/-- the row B holds xs, and nothing else is another than in w -/
def St (w wr : World) (B : Nat) (xs : List Nat) : Prop := w.grownBy wr (some B) ∧ Blk wr B 3 (ncells xs)
theorem St.drewN {w wr : World} {B : Nat} {xs : List Nat} (h : St w wr B xs) (n : Nat) : St w (wr.drewN n) B xs := ⟨only_drewN h.1 n, h.2⟩
theorem St.drew {w wr : World} {B : Nat} {xs : List Nat} (h : St w wr B xs) : St w wr.drew B xs := ⟨only_drew h.1, h.2⟩
theorem St.swap {w wr : World} {B : Nat} {xs : List Nat} (h : St w wr B xs) (i j x y : Nat) (hx : xs.getD i 0 = x) (hy : xs.getD j 0 = y) :
    St w ((wr.setCell ⟨B, i, none⟩ (.int .i64 (y : Int))).setCell ⟨B, j, none⟩ (.int .i64 (x : Int))) B (swapL xs i j) := by
  refine ⟨only_setCell (only_setCell h.1 (.inl rfl) _) (.inl rfl) _, ?_⟩
  unfold swapL
  rw [hx, hy]
  exact ncells_put (ncells_put h.2 i y) j x
theorem St.trans {w wr wr' : World} {B : Nat} {xs ys : List Nat} (h : St w wr B xs) (h' : St wr wr' B ys) : St w wr' B ys :=
  ⟨World.grownBy.trans h.1 h'.1, h'.2⟩
def StP (w : World) (B : Nat) (xs : List Nat) (e : Ending) (w' : World) : Prop := e = .returned (.tuple #[]) ∧ St w w' B xs
/-- places within n -/
def Ins (xs : List Nat) (n : Nat) : Prop := ∀ x ∈ xs, x < n
theorem Ins.perm {xs ys : List Nat} {n : Nat} (h : Ins xs n) (hp : ys.Perm xs) : Ins ys n := fun x hx => h x (hp.mem_iff.1 hx)
theorem Ins.at_ {xs : List Nat} {n i : Nat} (h : Ins xs n) (hi : i < xs.length) : xs.getD i 0 < n := by
  have e : xs.getD i 0 = xs[i] := by simp [List.getD_eq_getElem?_getD, hi]
  rw [e]; exact h _ (List.getElem_mem hi)
end Go.Proofs.Ytgelgbfnioagbaa.Fq
/- Fl -/
namespace Go.Proofs.Ytgelgbfnioagbaa.Fq
open Go.RowKit
/-- the row holds the same places in some order -/
def PmP (w : World) (B : Nat) (xs : List Nat) (e : Ending) (w' : World) : Prop := e = .returned (.tuple #[]) ∧ ∃ ys : List Nat, ys.Perm xs ∧ St w w' B ys
theorem PmP.next {w w1 w2 : World} {B : Nat} {xs ys zs : List Nat} (hp : ys.Perm xs) (h : St w w1 B ys) (hp2 : zs.Perm ys) (h2 : St w1 w2 B zs) : ∃ zs : List Nat, zs.Perm xs ∧ St w w2 B zs :=
  ⟨zs, hp2.trans hp, h.trans h2⟩
theorem St.self {w wr : World} {B : Nat} {xs : List Nat} (h : St w wr B xs) : St wr wr B xs := ⟨World.grownBy.refl _ _, h.2⟩
end Go.Proofs.Ytgelgbfnioagbaa.Fq
/- Fn -/
namespace Go.Proofs.Ytgelgbfnioagbaa.Fq
open Go.RowKit
/-- the row holds the places xs in some order, and nothing else is another than in w -/
def CSt (w wr : World) (B : Nat) (xs : List Nat) : Prop := ∃ ys : List Nat, ys.Perm xs ∧ St w wr B ys
theorem CSt.drewN {w wr : World} {B : Nat} {xs : List Nat} (h : CSt w wr B xs) (n : Nat) : CSt w (wr.drewN n) B xs := by
  obtain ⟨ys, h1, h2⟩ := h
  exact ⟨ys, h1, h2.drewN n⟩
def ChP (w : World) (B : Nat) (xs : List Nat) (e : Ending) (w' : World) : Prop := e = .returned (.tuple #[]) ∧ CSt w w' B xs
/-- two cells of the row, exchanged -/
theorem swap_cells {w wr : World} {B n p q : Nat} {xs : List Nat} (hl : xs.length = n) (h : CSt w wr B xs) (hp : p < n) (hq : q < n) :
    ∃ (x y : Nat), wr.cell? ⟨B, p, none⟩ = some (.int .i64 (x : Int)) ∧ wr.cell? ⟨B, q, none⟩ = some (.int .i64 (y : Int)) ∧ wr.frozen? ⟨B, p, none⟩ = false ∧ wr.frozen? ⟨B, q, none⟩ = false ∧ Hid (CSt w ((wr.setCell ⟨B, p, none⟩ (.int .i64 (y : Int))).setCell ⟨B, q, none⟩ (.int .i64 (x : Int))).drew B xs) := by
  obtain ⟨ys, h1, h2⟩ := h
  have hly : ys.length = n := by rw [h1.length_eq, hl]
  exact ⟨_, _, ncells_at h2.2 (by omega), ncells_at h2.2 (by omega), Blk.frozen h2.2 p, Blk.frozen h2.2 q, Lib.hid ⟨swapL ys p q, (swapL_perm ys p q (by omega) (by omega)).trans h1, (h2.swap p q _ _ rfl rfl).drew⟩⟩
end Go.Proofs.Ytgelgbfnioagbaa.Fq
/- Fo -/
namespace Go.Proofs.Ytgelgbfnioagbaa.Fq
open Go.RowKit
end Go.Proofs.Ytgelgbfnioagbaa.Fq
/- Fp -/
namespace Go.Proofs.Ytgelgbfnioagbaa.Fq
open Go.RowKit
end Go.Proofs.Ytgelgbfnioagbaa.Fq
/- Fq -/
namespace Go.Proofs.Ytgelgbfnioagbaa.Fq
open Go.RowKit
theorem and_low (n : Nat) (h : n ≤ 1000000) : bits BinOp.and IntKind.u64 (n : Int) 4294967295 = (n : Int) := by
  rw [show (4294967295 : Int) = ((4294967295 : Nat) : Int) from rfl, u64_and_nat _ _ (by omega) (by omega)]
  have h : n &&& 4294967295 = n := by
    have := Nat.and_two_pow_sub_one_of_lt_two_pow (x := n) (n := 32) (by omega)
    simpa using this
  rw [h]
set_option maxHeartbeats 1000000 in
theorem mul64_one (n : Nat) (w : World) (hn : n ≤ 1000000) :
    Calls Try.prog 88 #[.int .u64 1, .int .u64 (n : Int)] w fun e w' => e = .returned (.tuple #[.int .u64 0, .int .u64 (n : Int)]) ∧ w = w' := by
  have a1 : bits BinOp.and IntKind.u64 1 4294967295 = 1 := by decide +kernel
  have a2 := and_low n hn
  have a3 : (n : Int) / 4294967296 = 0 := by omega
  have a4 : bits BinOp.and IntKind.u64 0 4294967295 = 0 := by decide +kernel
  go_enter Try.func88, Try.ntmps88
  go_wp2
  exact bodyPost_ret (v := .tuple #[.int .u64 0, .int .u64 (n : Int)]) (by simp [results, Try.results88, go_sem]) rfl ⟨rfl, rfl⟩
set_option maxHeartbeats 1000000 in
theorem mul_one (n : Nat) (w : World) (hn : n ≤ 1000000) :
    Calls Try.prog 77 #[.int .u64 1, .int .u64 (n : Int)] w fun e w' => e = .returned (.tuple #[.int .u64 0, .int .u64 (n : Int)]) ∧ w = w' := by
  go_enter Try.func77, Try.ntmps77
  go_wp2_with fail
  refine (mul64_one n _ hn).mono ?_
  rintro e w' ⟨rfl, rfl⟩
  go_wp2
  exact bodyPost_ret (v := .tuple #[.int .u64 0, .int .u64 (n : Int)]) (by simp [results, Try.results77, go_sem]) rfl ⟨rfl, rfl⟩
end Go.Proofs.Ytgelgbfnioagbaa.Fq
/- Fr -/
namespace Go.Proofs.Ytgelgbfnioagbaa.Fq
open Go.RowKit
theorem size_int : (Try.prog.info? 3).map (·.size) = some 1 := by kernel_rfl
/-- k ones, zeros behind -/
def ones (k n : Nat) : List Int := List.replicate k 1 ++ List.replicate (n - k) 0
theorem ones_length (k n : Nat) (h : k ≤ n) : (ones k n).length = n := by simp [ones]; omega
theorem ones_all (n : Nat) : ones n n = List.replicate n 1 := by simp [ones]
theorem ones_copy (k t n : Nat) (k1 : Nat) (hk1 : k1 = k + t) : ((icells (ones k n)).toList.take k ++ List.replicate t (Value.int .i64 1) ++ (icells (ones k n)).toList.drop (k + (List.replicate t (Value.int .i64 1)).length)).toArray = icells (ones k1 n) := by
  subst hk1
  rw [List.length_replicate]
  have e : (icells (ones k n)).toList = List.replicate k (Value.int .i64 1) ++ List.replicate (n - k) (Value.int .i64 0) := by simp [icells, ones]
  rw [e]
  have e1 : (List.replicate k (Value.int .i64 1) ++ List.replicate (n - k) (Value.int .i64 0)).take k = List.replicate k (Value.int .i64 1) := List.take_left' (by simp)
  have e2 : (List.replicate k (Value.int .i64 1) ++ List.replicate (n - k) (Value.int .i64 0)).drop (k + t) = List.replicate (n - (k + t)) (Value.int .i64 0) := by
    rw [List.drop_append, List.drop_of_length_le (by simp), List.drop_replicate]
    simp; omega
  rw [e1, e2]
  simp only [icells, ones, List.map_append, List.map_replicate]
  rw [List.replicate_append_replicate]
theorem one_rep (t : Nat) : ∀ v ∈ List.replicate t (Value.int .i64 1), v.oneCell' = true := by
  intro v hv
  rw [(List.mem_replicate.1 hv).2]
  rfl
theorem ones_src {w : World} {g : Nat} {t : TypeId} {k n m : Nat} (h : Blk w g t (icells (ones k n))) (hm : m ≤ k) (hk : k ≤ n) : ∀ j v, (List.replicate m (Value.int .i64 1))[j]? = some v → w.cell? ((⟨g, 0, none⟩ : Addr).add j) = some v := by
  intro j v hv
  obtain ⟨hj, rfl⟩ := List.getElem?_eq_some_iff.1 hv
  rw [List.length_replicate] at hj
  rw [add_own, blk_at h (by rw [ones_length _ _ hk]; omega)]
  simp [ones, List.getD_eq_getElem?_getD, List.getElem?_append, show j < k by omega]
def RepP (w : World) (n : Nat) (e : Ending) (w' : World) : Prop :=
  ∃ g, e = .returned (.slice (some ⟨g, 0, none⟩) n n) ∧ w.heap.size ≤ g ∧ Blk w' g 3 (icells (List.replicate n 1)) ∧ Below w.heap.size w w'
set_option maxRecDepth 100000 in
set_option maxHeartbeats 2000000 in
theorem repeat_one (G n c : Nat) (w : World) (hg : Hid (Blk w G 3 (icells [1]))) (h1 : 1 ≤ n) (hn : n ≤ 1000) :
    Calls Try.prog 60 #[.slice (some ⟨G, 0, none⟩) 1 c, .int .i64 (n : Int)] w (RepP w n) := by
  have hmk : ∀ u : World, (Instr.makeSlice 28 (.int .i64 (n : Int)) (.int .i64 (n : Int))).run Try.prog u = .ok (.slice (some ⟨u.heap.size, 0, none⟩) n n) (u.alloc (.cells (madeCells #[.int .i64 0] n) 3)) := fun u => 
    run_make_row' (P := Try.prog) 28 3 (.int .i64 0) 8 Try.underlying28 info_int rfl .i64 .i64 n (by omega) (by omega) u
  have HB0 := Lib.hid (show Blk (w.alloc (.cells (madeCells #[.int .i64 0] n) 3)) w.heap.size 3 (icells (ones 0 n)) by
    rw [icells_zero]
    have : ones 0 n = List.replicate n 0 := by simp [ones]
    rw [this]
    exact Blk.new w _ _)
  have hcp := run_copy_row (P := Try.prog) (w.alloc (.cells (madeCells #[.int .i64 0] n) 3)) 28 28 3 3 w.heap.size 0 n n ⟨G, 0, none⟩ 1 c (icells (ones 0 n)) 3 (List.replicate 1 (Value.int .i64 1)) Try.underlying28 size_int HB0.out
    (by rw [List.length_replicate]; exact (Nat.min_eq_left h1).symm) (by
      intro j v hv
      obtain ⟨hj, rfl⟩ := List.getElem?_eq_some_iff.1 hv
      rw [List.length_replicate] at hj
      have : j = 0 := by omega
      subst this
      rw [add_own]
      exact (hg.out.alloc _).cell 0) (by rw [icells_size, ones_length _ _ (by omega)]; simp; omega) (one_rep 1)
  rw [ones_copy 0 1 n 1 rfl, List.length_replicate] at hcp
  go_enter Try.func60, Try.ntmps60
  go_wp2_with fail
  refine (mul_one n _ (by omega)).mono ?_
  rintro e w' ⟨rfl, rfl⟩
  go_wp2
  clear hcp hmk
  have HW := Lib.hid (show Below w.heap.size w ((w.alloc (.cells (madeCells #[.int .i64 0] n) 3)).setRow w.heap.size (icells (ones 1 n))) from below_setRow ((Below.refl _ w).alloc (Nat.le_refl _) _) (Nat.le_refl _) _)
  have HB := Lib.hid (show Blk ((w.alloc (.cells (madeCells #[.int .i64 0] n) 3)).setRow w.heap.size (icells (ones 1 n))) w.heap.size 3 (icells (ones 1 n)) from setRow_heap _ _ _ _ _ _ HB0.out)
  generalize (w.alloc (.cells (madeCells #[.int .i64 0] n) 3)).setRow w.heap.size (icells (ones 1 n)) = w1 at HW HB ⊢
  clear HB0
  go_loopw [8] (fun vk wr => ∃ k : Nat, vk = .int .i64 (k : Int) ∧ 1 ≤ k ∧ k ≤ n ∧ Hid (Blk wr w.heap.size 3 (icells (ones k n)) ∧ Below w.heap.size w wr)) (fun vk _ => n - (intOf vk).toNat)
  case atStart => exact ⟨1, rfl, by omega, by omega, Lib.hid ⟨HB.out, HW.out⟩⟩
  case round =>
    obtain ⟨k, rfl, hk1, hkn, HZ⟩ := hrel
    clear HB HW
    by_cases hlt : k < n
    · have hlt' : (k : Int) < (n : Int) := by omega
      obtain ⟨t, ht⟩ : ∃ t, t = Nat.min k (n - k) := ⟨_, rfl⟩
      have ht1 : 1 ≤ t := by rw [ht]; exact Nat.le_min.2 ⟨hk1, by omega⟩
      have ht2 : k + t ≤ n := by have : t ≤ n - k := by rw [ht]; exact Nat.min_le_right _ _
                                 omega
      have ht3 : t ≤ k := by rw [ht]; exact Nat.min_le_left _ _
      have hcp := run_copy_row (P := Try.prog) wr.drew 28 28 3 3 w.heap.size k (n - k) (n - k) ⟨w.heap.size, 0, none⟩ k n (icells (ones k n)) 3 (List.replicate t (Value.int .i64 1)) Try.underlying28 size_int HZ.out.1
        (by rw [List.length_replicate]; exact ht) (ones_src (w := wr.drew) HZ.out.1 ht3 hkn) (by rw [icells_size, ones_length _ _ hkn, List.length_replicate]; exact ht2) (one_rep t)
      clear ht
      obtain ⟨k2, hk2⟩ : ∃ k2, k2 = k + t := ⟨_, rfl⟩
      rw [ones_copy k t n k2 hk2, List.length_replicate] at hcp
      have e1 : (k : Int) + (t : Int) = (k2 : Int) := by omega
      have b0 : (0 : Int) ≤ (k : Int) := by omega
      have b1 : (k : Int) ≤ (n : Int) := by omega
      have b2 : ¬ n = k := by omega
      have HK2 := Lib.hid hk2
      clear hk2
      go_wp2_with fail
      go_region
      all_goals
        clear hcp
        go_wp2
        go_roundw
        case rel =>
          refine ⟨k2, rfl, by have := HK2.out; omega, by have := HK2.out; omega, Lib.hid ⟨?_, ?_⟩⟩
          · exact setRow_heap _ _ _ _ _ _ HZ.out.1
          · exact below_setRow (Below.drew HZ.out.2) (Nat.le_refl _) _
        case measure => have := HK2.out; simp [intOf]; omega
    · have hlt' : ¬ (k : Int) < (n : Int) := by omega
      obtain rfl : k = n := by omega
      go_wp2
      go_ret
      exact ⟨w.heap.size, rfl, Nat.le_refl _, by rw [← ones_all]; exact HZ.out.1, HZ.out.2⟩
end Go.Proofs.Ytgelgbfnioagbaa.Fq
/- Fs -/
namespace Go.Proofs.Ytgelgbfnioagbaa.Fq
open Go.RowKit
theorem tot_rep (n : Nat) : tot (List.replicate n 1) = (n : Int) := by
  induction n with
  | zero => rfl
  | succ n ih => rw [List.replicate_succ, tot_cons, ih]; omega
theorem okN_rep (n : Nat) (h1 : 1 ≤ n) (h2 : n ≤ 256) : okN (List.replicate n 1) = true := by
  unfold okN
  refine decide_eq_true ⟨by simpa using h1, by simpa using h2, fun x hx => ?_, by rw [tot_rep]; omega⟩
  rw [(List.mem_replicate.1 hx).2]; omega
set_option maxHeartbeats 1000000 in
theorem even_ok (n : Nat) (w : World) (h1 : 1 ≤ n) (h2 : n ≤ 256) :
    Calls Try.prog 36 #[.int .i64 (n : Int)] w (NewP w (acc (List.replicate n 1))) := by
  go_enter Try.func36, Try.ntmps36
  go_wp2_with fail
  refine (isSize_yes _ _ (by omega) (by omega)).mono ?_
  rintro e w' ⟨rfl, rfl⟩
  go_wp2_with fail
  have HK0 := Lib.hid (show Blk ((w.alloc (.cells #[.slice none 0 0] 30)).alloc (.cells #[.int .i64 1] 3)) w.heap.size 30 #[.slice none 0 0] from (Blk.new w _ _).alloc _)
  have HG0 := Lib.hid (show Blk ((w.alloc (.cells #[.slice none 0 0] 30)).alloc (.cells #[.int .i64 1] 3)) (w.heap.size + 1) 3 (icells [1]) from Blk.newAt (by simp))
  have HW0 := Lib.hid (show Below w.heap.size w ((w.alloc (.cells #[.slice none 0 0] 30)).alloc (.cells #[.int .i64 1] 3)) from ((Below.refl w.heap.size w).alloc (Nat.le_refl _) _).alloc (by simp) _)
  generalize (w.alloc (.cells #[.slice none 0 0] 30)).alloc (.cells #[.int .i64 1] 3) = w0 at HK0 HG0 HW0 ⊢
  refine (repeat_one _ n _ w0 HG0 h1 (by omega)).mono ?_
  rintro e w1 ⟨g, rfl, hg, hB, hb⟩
  have HK1 := Lib.hid (HK0.out.below hb HK0.out.lt)
  have HW1 := Lib.hid (HW0.out.trans (hb.mono HW0.out.size))
  have HR1 := Lib.hid (RdI.of_blk hB (n := n) (by simp))
  clear hg hB hb
  go_wp2_with fail
  refine (new_ok _ n n _ w1 HR1 (okN_rep n h1 h2)).mono ?_
  rintro e w2 ⟨g2, rfl, hg, hB, hb⟩
  have HK2 := Lib.hid (HK1.out.below hb HK1.out.lt)
  have HW2 := Lib.hid (HW1.out.trans (hb.mono HW1.out.size))
  have HB2 := Lib.hid hB
  have HG2 := Lib.hid (Nat.le_trans HW1.out.size hg)
  have HNE := Lib.hid (show g2 ≠ w.heap.size by have := HK1.out.lt; omega)
  clear hg hB hb
  have c0 := HK2.out.cell 0
  have f0 := HK2.out.frozen 0
  simp at c0
  obtain ⟨m, hm⟩ : ∃ m, (acc (List.replicate n 1)).length = m := ⟨_, rfl⟩
  rw [hm]
  have HM := Lib.hid hm
  clear hm
  unfold freqV
  go_wp2
  exact bodyPost_ret (v := .tuple #[freqV g2 m, .int .i64 0]) (by simp [results, Try.results36, go_sem, c0, freqV]) rfl ⟨g2, by rw [HM.out], HG2.out, Blk.far HB2.out HNE.out _, HW2.out.setCell (Nat.le_refl _) _⟩
/-- zs turned by f as far as place k; d behind -/
def mix (zs : List Int) (f : Int → Int) (d : Int) (k : Nat) : List Int := (List.range zs.length).map fun j => if j < k then f (zs.getD j 0) else d
theorem mix_length (zs : List Int) (f : Int → Int) (d : Int) (k : Nat) : (mix zs f d k).length = zs.length := by simp [mix]
theorem mix_getD (zs : List Int) (f : Int → Int) (d : Int) (k j : Nat) (h : j < zs.length) : (mix zs f d k).getD j 0 = if j < k then f (zs.getD j 0) else d := by
  simp [mix, List.getD_eq_getElem?_getD, List.getElem?_range h]
theorem mix_none (zs : List Int) (f : Int → Int) (d : Int) : mix zs f d 0 = List.replicate zs.length d := by simp [mix, List.map_const']
theorem mix_all (zs : List Int) (f : Int → Int) (d : Int) : mix zs f d zs.length = zs.map f := by
  refine List.ext_getElem? fun j => ?_
  by_cases hj : j < zs.length
  · rw [get_of_lt (by rw [mix_length]; exact hj), mix_getD _ _ _ _ _ hj, if_pos hj, List.getElem?_map, get_of_lt hj]; rfl
  · rw [List.getElem?_eq_none (by rw [mix_length]; omega), List.getElem?_eq_none (by simp; omega)]
theorem mix_set (zs : List Int) (f : Int → Int) (d : Int) (k : Nat) (h : k < zs.length) (y : Int) (hy : f (zs.getD k 0) = y) : (mix zs f d k).set k y = mix zs f d (k + 1) := by
  subst hy
  refine List.ext_getElem? fun j => ?_
  rw [List.getElem?_set, mix_length]
  by_cases hj : j < zs.length
  · rw [get_of_lt (zs := mix zs f d k) (k := j) (by rw [mix_length]; exact hj), get_of_lt (zs := mix zs f d (k + 1)) (k := j) (by rw [mix_length]; exact hj), mix_getD _ _ _ _ _ hj, mix_getD _ _ _ _ _ hj]
    by_cases e : k = j
    · subst e; simp [h]
    · rw [if_neg e]
      by_cases h2 : j < k
      · rw [if_pos h2, if_pos (by omega)]
      · rw [if_neg h2, if_neg (by omega)]
  · rw [List.getElem?_eq_none (by rw [mix_length]; omega), List.getElem?_eq_none (by rw [mix_length]; omega)]
    simp; omega
/-- each one's part of the rest, and one -/
def partF (rest all x : Int) : Int := 1 + x * rest / all
/-- what the part lost by rounding -/
def lostF (rest all x : Int) : Int := x * rest % all
def sharC (rest : Int) (zs : List Int) : List Int := if tot zs = 0 then List.replicate zs.length 1 else zs.map (partF rest (tot zs))
def sharL (rest : Int) (zs : List Int) : List Int := if tot zs = 0 then List.replicate zs.length 0 else zs.map (lostF rest (tot zs))
def ShareP (w : World) (n : Nat) (cs ls : List Int) (e : Ending) (w' : World) : Prop :=
  ∃ g h, e = .returned (.tuple #[.slice (some ⟨g, 0, none⟩) n n, .slice (some ⟨h, 0, none⟩) n n]) ∧ w.heap.size ≤ g ∧ w.heap.size ≤ h ∧ ¬ g = h ∧ Blk w' g 3 (icells cs) ∧ Blk w' h 3 (icells ls) ∧ Below w.heap.size w w'
end Go.Proofs.Ytgelgbfnioagbaa.Fq
/- Fu -/
namespace Go.Proofs.Ytgelgbfnioagbaa.Fq
theorem mem_le_tot {l : List Int} (h : ∀ x ∈ l, 0 ≤ x) : ∀ x ∈ l, x ≤ tot l := by
  induction l with
  | nil => intro x hx; cases hx
  | cons y l ih =>
    intro x hx
    have hl := ih fun z hz => h z (by simp [hz])
    have h0 : 0 ≤ tot l := (tot_bd l (tot l) fun z hz => ⟨h z (by simp [hz]), hl z hz⟩).1
    have hy := h y (by simp)
    rw [tot_cons]
    rcases List.mem_cons.1 hx with e | e
    · subst e; omega
    · have := hl x e; omega
theorem part_bd {rest all x : Int} (hr : 0 ≤ rest) (ha : 0 < all) (h0 : 0 ≤ x) (h1 : x ≤ all) : 0 ≤ x * rest / all ∧ x * rest / all ≤ rest := by
  refine ⟨Int.ediv_nonneg (Int.mul_nonneg h0 hr) (by omega), ?_⟩
  refine Int.ediv_le_of_le_mul ha ?_
  rw [Int.mul_comm rest all]
  exact Int.mul_le_mul_of_nonneg_right h1 hr
theorem share_tot {rest all : Int} (ha : 0 < all) (l : List Int) :
    all * (tot (l.map (partF rest all)) - (l.length : Int)) ≤ tot l * rest ∧ tot l * rest - (l.length : Int) * (all - 1) ≤ all * (tot (l.map (partF rest all)) - (l.length : Int)) := by
  induction l with
  | nil => simp [tot_nil]
  | cons x l ih =>
    rw [List.map_cons, tot_cons, tot_cons, List.length_cons]
    obtain ⟨h1, h2⟩ := ih
    have e : partF rest all x + tot (List.map (partF rest all) l) - ((l.length + 1 : Nat) : Int) = x * rest / all + (tot (List.map (partF rest all) l) - (l.length : Int)) := by
      unfold partF; omega
    have hd := Int.mul_ediv_add_emod (x * rest) all
    have hm0 := Int.emod_nonneg (x * rest) (show all ≠ 0 by omega)
    have hm1 := Int.emod_lt_of_pos (x * rest) ha
    rw [e, Int.mul_add, Int.add_mul]
    have e2 : ((l.length + 1 : Nat) : Int) * (all - 1) = (l.length : Int) * (all - 1) + (all - 1) := by
      rw [show ((l.length + 1 : Nat) : Int) = (l.length : Int) + 1 by omega, Int.add_mul]; omega
    rw [e2]
    constructor <;> omega
/-- what share gives: how much of the rest is left -/
theorem sharC_facts {rest : Int} {zs : List Int} {n : Nat} (hl : zs.length = n) (h1 : 1 ≤ n) (hr : 0 ≤ rest) (hz : ∀ x ∈ zs, 0 ≤ x) :
    (sharC rest zs).length = n ∧ (∀ x ∈ sharC rest zs, 1 ≤ x ∧ x ≤ rest + 1) ∧ tot (sharC rest zs) ≤ rest + (n : Int) ∧ (¬ tot zs = 0 → rest < tot (sharC rest zs)) := by
  by_cases h0 : tot zs = 0
  · have e : sharC rest zs = List.replicate n 1 := by unfold sharC; rw [if_pos h0, hl]
    rw [e, tot_rep]
    refine ⟨by simp, fun x hx => ?_, by omega, fun h => absurd h0 h⟩
    rw [(List.mem_replicate.1 hx).2]; omega
  · have ha : 0 < tot zs := by
      have := mem_le_tot hz
      have h2 : 0 ≤ tot zs := (tot_bd zs (tot zs) fun z h => ⟨hz z h, this z h⟩).1
      omega
    have e : sharC rest zs = zs.map (partF rest (tot zs)) := by unfold sharC; rw [if_neg h0]
    rw [e]
    obtain ⟨s1, s2⟩ := share_tot (rest := rest) ha zs
    rw [hl] at s1 s2
    refine ⟨by simp [hl], fun x hx => ?_, ?_, fun _ => ?_⟩
    · obtain ⟨y, hy, rfl⟩ := List.mem_map.1 hx
      have := part_bd hr ha (hz y hy) (mem_le_tot hz y hy)
      unfold partF
      omega
    · have := Int.le_of_mul_le_mul_left s1 ha
      omega
    · have key : tot zs * (rest - (n : Int)) < tot zs * (tot (List.map (partF rest (tot zs)) zs) - (n : Int)) := by
        refine Int.lt_of_lt_of_le ?_ s2
        have e3 : (n : Int) * (tot zs - 1) = tot zs * (n : Int) - (n : Int) := by rw [Int.mul_sub, Int.mul_comm]; omega
        rw [e3, Int.mul_sub]
        omega
      have := Int.lt_of_mul_lt_mul_left key (by omega)
      omega
/-- one more for the place ys[k % n], k rounds of it -/
def bumps (ys : List Nat) (n : Nat) : Nat → List Int → List Int
  | 0, cs => cs
  | k + 1, cs => (bumps ys n k cs).set (ys.getD (k % n) 0) ((bumps ys n k cs).getD (ys.getD (k % n) 0) 0 + 1)
theorem bumps_length (ys : List Nat) (n k : Nat) (cs : List Int) : (bumps ys n k cs).length = cs.length := by
  induction k with
  | zero => rfl
  | succ k ih => simp [bumps, ih]
theorem tot_set (l : List Int) (i : Nat) (x : Int) (h : i < l.length) : tot (l.set i x) = tot l - l.getD i 0 + x := by
  induction l generalizing i with
  | nil => simp at h
  | cons y l ih =>
    cases i with
    | zero => simp [tot_cons]; omega
    | succ i =>
      rw [List.set_cons_succ, tot_cons, tot_cons, ih i (by simpa using h)]
      simp [List.getD_eq_getElem?_getD]
      omega
theorem perm_at {ys : List Nat} {n : Nat} (hp : ys.Perm (List.range n)) : ys.length = n ∧ (∀ p, p < n → ys.getD p 0 < n) ∧ (∀ p q, p < n → q < n → ys.getD p 0 = ys.getD q 0 → p = q) ∧ ∀ s, s < n → ∃ p, p < n ∧ ys.getD p 0 = s := by
  have hl : ys.length = n := by rw [hp.length_eq, List.length_range]
  have hnd : ys.Nodup := hp.nodup_iff.2 List.nodup_range
  have hg : ∀ p (h : p < ys.length), ys.getD p 0 = ys[p] := fun p h => by simp [List.getD_eq_getElem?_getD, h]
  refine ⟨hl, fun p h => ?_, fun p q h1 h2 e => ?_, fun s hs => ?_⟩
  · rw [hg p (by omega)]
    exact List.mem_range.1 (hp.mem_iff.1 (List.getElem_mem _))
  · rw [hg p (by omega), hg q (by omega)] at e
    have hpw := List.pairwise_iff_getElem.1 hnd
    rcases Nat.lt_trichotomy p q with h | h | h
    · exact absurd e (hpw p q (by omega) (by omega) h)
    · exact h
    · exact absurd e.symm (hpw q p (by omega) (by omega) h)
  · have : s ∈ ys := hp.mem_iff.2 (List.mem_range.2 hs)
    obtain ⟨p, h1, h2⟩ := List.mem_iff_getElem.1 this
    exact ⟨p, by omega, by rw [hg p h1]; exact h2⟩
theorem bumps_tot {ys : List Nat} {n : Nat} (hp : ys.Perm (List.range n)) (hn : 0 < n) (k : Nat) (cs : List Int) (hc : cs.length = n) : tot (bumps ys n k cs) = tot cs + (k : Int) := by
  obtain ⟨_, h1, _, _⟩ := perm_at hp
  induction k with
  | zero => simp [bumps]
  | succ k ih =>
    unfold bumps
    rw [tot_set _ _ _ (by rw [bumps_length, hc]; exact h1 _ (Nat.mod_lt _ hn)), ih]
    omega
theorem succ_div_mod (k n : Nat) (hn : 0 < n) : k % n + 1 < n ∧ (k + 1) / n = k / n ∧ (k + 1) % n = k % n + 1 ∨ k % n + 1 = n ∧ (k + 1) / n = k / n + 1 ∧ (k + 1) % n = 0 := by
  have e := Nat.div_add_mod k n
  have hm := Nat.mod_lt k hn
  by_cases h : k % n + 1 < n
  · refine .inl ⟨h, ?_⟩
    have hk : k + 1 = (k % n + 1) + n * (k / n) := by omega
    constructor
    · rw [hk, Nat.add_mul_div_left _ _ hn, Nat.div_eq_of_lt h]; omega
    · rw [hk, Nat.add_mul_mod_self_left, Nat.mod_eq_of_lt h]
  · refine .inr ⟨by omega, ?_⟩
    have hk : k + 1 = n * (k / n + 1) := by rw [Nat.mul_add]; omega
    constructor
    · rw [hk, Nat.mul_div_cancel_left _ hn]
    · rw [hk, Nat.mul_mod_right]
theorem bumps_at {ys : List Nat} {n : Nat} (hp : ys.Perm (List.range n)) (hn : 0 < n) (k : Nat) (cs : List Int) (hc : cs.length = n) (p : Nat) (h : p < n) :
    (bumps ys n k cs).getD (ys.getD p 0) 0 = cs.getD (ys.getD p 0) 0 + ((k / n : Nat) : Int) + (if p < k % n then 1 else 0) := by
  obtain ⟨_, h1, h2, _⟩ := perm_at hp
  induction k with
  | zero => simp [bumps]
  | succ k ih =>
    have hm := Nat.mod_lt k hn
    have hlen : (bumps ys n k cs).length = n := by rw [bumps_length, hc]
    have hset : (bumps ys n (k + 1) cs).getD (ys.getD p 0) 0 = if k % n = p then (bumps ys n k cs).getD (ys.getD (k % n) 0) 0 + 1 else (bumps ys n k cs).getD (ys.getD p 0) 0 := by
      show ((bumps ys n k cs).set (ys.getD (k % n) 0) ((bumps ys n k cs).getD (ys.getD (k % n) 0) 0 + 1)).getD (ys.getD p 0) 0 = _
      by_cases e : k % n = p
      · rw [if_pos e, ← e]
        have hb := h1 (k % n) hm
        generalize (bumps ys n k cs).getD (ys.getD (k % n) 0) 0 + 1 = y
        generalize ys.getD (k % n) 0 = i at hb
        rw [List.getD_eq_getElem?_getD, List.getElem?_set_self (by omega)]
        rfl
      · rw [if_neg e]
        have hne : ¬ ys.getD (k % n) 0 = ys.getD p 0 := fun e' => e (h2 _ _ hm h e')
        rw [List.getD_eq_getElem?_getD, List.getElem?_set, if_neg hne, ← List.getD_eq_getElem?_getD]
    rw [hset]
    rcases succ_div_mod k n hn with ⟨a1, a2, a3⟩ | ⟨a1, a2, a3⟩
    · rw [a2, a3]
      by_cases e : k % n = p
      · rw [if_pos e, e, ih, if_neg (by omega), if_pos (by omega)]; omega
      · rw [if_neg e, ih]
        by_cases e2 : p < k % n
        · rw [if_pos e2, if_pos (by omega)]
        · rw [if_neg e2, if_neg (by omega)]
    · rw [a2, a3]
      by_cases e : k % n = p
      · rw [if_pos e, e, ih, if_neg (by omega), if_neg (by omega)]; omega
      · rw [if_neg e, ih, if_pos (by omega), if_neg (by omega)]; omega
/-- what each one has behind it: no less, and no two part by more than one -/
theorem bumps_near {ys : List Nat} {n : Nat} (hp : ys.Perm (List.range n)) (hn : 0 < n) (k : Nat) (cs : List Int) (hc : cs.length = n) (s : Nat) (hs : s < n) :
    cs.getD s 0 + ((k / n : Nat) : Int) ≤ (bumps ys n k cs).getD s 0 ∧ (bumps ys n k cs).getD s 0 ≤ cs.getD s 0 + ((k / n : Nat) : Int) + 1 := by
  obtain ⟨_, _, _, h3⟩ := perm_at hp
  obtain ⟨p, hpn, rfl⟩ := h3 s hs
  rw [bumps_at hp hn k cs hc p hpn]
  split <;> omega
end Go.Proofs.Ytgelgbfnioagbaa.Fq
