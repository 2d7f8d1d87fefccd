/-
  What Even and share answer.
-/
import Derived.Test.YtlmkcipcclomdaaFr
namespace Go.Proofs.Ytlmkcipcclomdaa.Fq
open Go.RowKit

theorem tot_rep (n : Nat) : tot (List.replicate n 1) = (n : Int) := by
  induction n with
  | zero => rfl
  | succ n ih => rw [List.replicate_succ, tot_cons, ih]; omega
theorem okN_rep (n : Nat) (h1 : 1 ≤ n) (h2 : n ≤ 256) : okN (List.replicate n 1) = true := by
  unfold okN
  refine decide_eq_true ⟨by simpa using h1, by simpa using h2, fun x hx => ?_, by rw [tot_rep]; omega⟩
  rw [(List.mem_replicate.1 hx).2]; omega
set_option maxHeartbeats 1000000 in
theorem even_ok (n : Nat) (w : World) (h1 : 1 ≤ n) (h2 : n ≤ 256) :
    Calls Try.prog 21 #[.int .i64 (n : Int)] w (NewP w (acc (List.replicate n 1))) := by
  go_enter Try.func21, Try.ntmps21
  go_wp2_with fail
  refine (isSize_yes _ _ (by omega) (by omega)).mono ?_
  rintro e w' ⟨rfl, rfl⟩
  go_wp2_with fail
  have HK0 := Lib.hid (show Blk ((w.alloc (.cells #[.slice none 0 0] 24)).alloc (.cells #[.int .i64 1] 3)) w.heap.size 24 #[.slice none 0 0] from (Blk.new w _ _).alloc _)
  have HG0 := Lib.hid (show Blk ((w.alloc (.cells #[.slice none 0 0] 24)).alloc (.cells #[.int .i64 1] 3)) (w.heap.size + 1) 3 (icells [1]) from Blk.newAt (by simp))
  have HW0 := Lib.hid (show Below w.heap.size w ((w.alloc (.cells #[.slice none 0 0] 24)).alloc (.cells #[.int .i64 1] 3)) from ((Below.refl w.heap.size w).alloc (Nat.le_refl _) _).alloc (by simp) _)
  generalize (w.alloc (.cells #[.slice none 0 0] 24)).alloc (.cells #[.int .i64 1] 3) = w0 at HK0 HG0 HW0 ⊢
  refine (repeat_one _ n _ w0 HG0 h1 (by omega)).mono ?_
  rintro e w1 ⟨g, rfl, hg, hB, hb⟩
  have HK1 := Lib.hid (HK0.out.below hb HK0.out.lt)
  have HW1 := Lib.hid (HW0.out.trans (hb.mono HW0.out.size))
  have HR1 := Lib.hid (RdI.of_blk hB (n := n) (by simp))
  clear hg hB hb
  go_wp2_with fail
  refine (new_ok _ n n _ w1 HR1 (okN_rep n h1 h2)).mono ?_
  rintro e w2 ⟨g2, rfl, hg, hB, hb⟩
  have HK2 := Lib.hid (HK1.out.below hb HK1.out.lt)
  have HW2 := Lib.hid (HW1.out.trans (hb.mono HW1.out.size))
  have HB2 := Lib.hid hB
  have HG2 := Lib.hid (Nat.le_trans HW1.out.size hg)
  have HNE := Lib.hid (show g2 ≠ w.heap.size by have := HK1.out.lt; omega)
  clear hg hB hb
  have c0 := HK2.out.cell 0
  have f0 := HK2.out.frozen 0
  simp at c0
  obtain ⟨m, hm⟩ : ∃ m, (acc (List.replicate n 1)).length = m := ⟨_, rfl⟩
  rw [hm]
  have HM := Lib.hid hm
  clear hm
  unfold freqV
  go_wp2
  exact bodyPost_ret (v := .tuple #[freqV g2 m, .int .i64 0]) (by simp [results, Try.results21, go_sem, c0, freqV]) rfl ⟨g2, by rw [HM.out], HG2.out, Blk.far HB2.out HNE.out _, HW2.out.setCell (Nat.le_refl _) _⟩
/-- zs turned by f as far as place k; d behind -/
def mix (zs : List Int) (f : Int → Int) (d : Int) (k : Nat) : List Int := (List.range zs.length).map fun j => if j < k then f (zs.getD j 0) else d
theorem mix_length (zs : List Int) (f : Int → Int) (d : Int) (k : Nat) : (mix zs f d k).length = zs.length := by simp [mix]
theorem mix_getD (zs : List Int) (f : Int → Int) (d : Int) (k j : Nat) (h : j < zs.length) : (mix zs f d k).getD j 0 = if j < k then f (zs.getD j 0) else d := by
  simp [mix, List.getD_eq_getElem?_getD, List.getElem?_range h]
theorem mix_none (zs : List Int) (f : Int → Int) (d : Int) : mix zs f d 0 = List.replicate zs.length d := by simp [mix, List.map_const']
theorem mix_all (zs : List Int) (f : Int → Int) (d : Int) : mix zs f d zs.length = zs.map f := by
  refine List.ext_getElem? fun j => ?_
  by_cases hj : j < zs.length
  · rw [get_of_lt (by rw [mix_length]; exact hj), mix_getD _ _ _ _ _ hj, if_pos hj, List.getElem?_map, get_of_lt hj]; rfl
  · rw [List.getElem?_eq_none (by rw [mix_length]; omega), List.getElem?_eq_none (by simp; omega)]
theorem mix_set (zs : List Int) (f : Int → Int) (d : Int) (k : Nat) (h : k < zs.length) (y : Int) (hy : f (zs.getD k 0) = y) : (mix zs f d k).set k y = mix zs f d (k + 1) := by
  subst hy
  refine List.ext_getElem? fun j => ?_
  rw [List.getElem?_set, mix_length]
  by_cases hj : j < zs.length
  · rw [get_of_lt (zs := mix zs f d k) (k := j) (by rw [mix_length]; exact hj), get_of_lt (zs := mix zs f d (k + 1)) (k := j) (by rw [mix_length]; exact hj), mix_getD _ _ _ _ _ hj, mix_getD _ _ _ _ _ hj]
    by_cases e : k = j
    · subst e; simp [h]
    · rw [if_neg e]
      by_cases h2 : j < k
      · rw [if_pos h2, if_pos (by omega)]
      · rw [if_neg h2, if_neg (by omega)]
  · rw [List.getElem?_eq_none (by rw [mix_length]; omega), List.getElem?_eq_none (by rw [mix_length]; omega)]
    simp; omega
/-- each one's part of the rest, and one -/
def partF (rest all x : Int) : Int := 1 + x * rest / all
/-- what the part lost by rounding -/
def lostF (rest all x : Int) : Int := x * rest % all
def sharC (rest : Int) (zs : List Int) : List Int := if tot zs = 0 then List.replicate zs.length 1 else zs.map (partF rest (tot zs))
def sharL (rest : Int) (zs : List Int) : List Int := if tot zs = 0 then List.replicate zs.length 0 else zs.map (lostF rest (tot zs))
def ShareP (w : World) (n : Nat) (cs ls : List Int) (e : Ending) (w' : World) : Prop :=
  ∃ g h, e = .returned (.tuple #[.slice (some ⟨g, 0, none⟩) n n, .slice (some ⟨h, 0, none⟩) n n]) ∧ w.heap.size ≤ g ∧ w.heap.size ≤ h ∧ ¬ g = h ∧ Blk w' g 3 (icells cs) ∧ Blk w' h 3 (icells ls) ∧ Below w.heap.size w w'
set_option maxRecDepth 100000 in
set_option maxHeartbeats 2000000 in
theorem share_any (A : Option Addr) (n c : Nat) (zs : List Int) (rest : Int) (w : World) (hr : Hid (RdI w A n zs)) (h1 : 1 ≤ n) (hn : n ≤ 256) (hz : Hid (∀ x ∈ zs, 0 ≤ x ∧ x ≤ 1099511627776)) (hr0 : 0 ≤ rest) (hr1 : rest ≤ 16384) :
    Calls Try.prog 30 #[.int .i64 rest, .slice A n c] w (ShareP w n (sharC rest zs) (sharL rest zs)) := by
  have hmk : ∀ u : World, (Instr.makeSlice 22 (.int .i64 (n : Int)) (.int .i64 (n : Int))).run Try.prog u = .ok (.slice (some ⟨u.heap.size, 0, none⟩) n n) (u.alloc (.cells (madeCells #[.int .i64 0] n) 3)) := fun u => 
    run_make_row' (P := Try.prog) 22 3 (.int .i64 0) 8 Try.underlying22 info_int rfl .i64 .i64 n (by omega) (by omega) u
  have HL := Lib.hid hr.out.1
  obtain ⟨all, hall⟩ : ∃ all, tot zs = all := ⟨_, rfl⟩
  have ha0 := (tot_bd zs _ hz.out).1
  have ha1 := (tot_bd zs _ hz.out).2
  rw [hall, HL.out] at ha1
  rw [hall] at ha0
  have HALL := Lib.hid hall
  clear hall
  go_enter Try.func30, Try.ntmps30
  go_wp2_with fail
  have HG0 := Lib.hid (show Blk (w.alloc (.cells #[.int .i64 1] 3)) w.heap.size 3 (icells [1]) from Blk.new w _ _)
  have HW0 := Lib.hid (show Below w.heap.size w (w.alloc (.cells #[.int .i64 1] 3)) from (Below.refl w.heap.size w).alloc (Nat.le_refl _) _)
  generalize w.alloc (.cells #[.int .i64 1] 3) = w0 at HG0 HW0 ⊢
  refine (repeat_one _ n _ w0 HG0 h1 (by omega)).mono ?_
  rintro e w1 ⟨g, rfl, hg, hB, hb⟩
  have HW1 := Lib.hid (HW0.out.trans (hb.mono HW0.out.size))
  have HB1 := Lib.hid hB
  have HG := Lib.hid (Nat.le_trans HW0.out.size hg)
  clear hg hB hb
  go_wp2_with fail
  clear hmk
  have HW2 := Lib.hid (show Below w.heap.size w (w1.alloc (.cells (madeCells #[.int .i64 0] n) 3)) from HW1.out.alloc HW1.out.size _)
  have HB2 := Lib.hid (show Blk (w1.alloc (.cells (madeCells #[.int .i64 0] n) 3)) g 3 (icells (List.replicate n 1)) from HB1.out.alloc _)
  have HC2 := Lib.hid (show Blk (w1.alloc (.cells (madeCells #[.int .i64 0] n) 3)) w1.heap.size 3 (icells (List.replicate n 0)) by rw [icells_zero]; exact Blk.new w1 _ _)
  have HGH := Lib.hid (show ¬ g = w1.heap.size by have := HB1.out.lt; omega)
  have HH := Lib.hid HW1.out.size
  generalize w1.alloc (.cells (madeCells #[.int .i64 0] n) 3) = w2 at HW2 HB2 HC2 ⊢
  generalize w1.heap.size = h at HC2 HGH HH ⊢
  refine (sum_any A n c zs 1099511627776 all _ (Lib.hid (hr.out.below HW2.out)) (by omega) (by omega) (by omega) hz HALL).mono ?_
  rintro e w' ⟨rfl, rfl⟩
  by_cases h0 : all = 0
  · have HC := Lib.hid (show sharC rest zs = List.replicate n 1 by unfold sharC; rw [if_pos (by rw [HALL.out]; exact h0), HL.out])
    have HLO := Lib.hid (show sharL rest zs = List.replicate n 0 by unfold sharL; rw [if_pos (by rw [HALL.out]; exact h0), HL.out])
    have d0 : (all == 0) = true := by simpa using h0
    clear h0 ha0 ha1
    go_wp2
    refine bodyPost_ret (v := .tuple #[.slice (some ⟨g, 0, none⟩) n n, .slice (some ⟨h, 0, none⟩) n n]) (by simp [results, Try.results30, go_sem]) rfl ⟨g, h, rfl, HG.out, HH.out, HGH.out, ?_, ?_, HW2.out⟩
    · rw [HC.out]; exact HB2.out
    · rw [HLO.out]; exact HC2.out
  · have HC := Lib.hid (show sharC rest zs = mix zs (partF rest all) 1 n by unfold sharC; rw [if_neg (by rw [HALL.out]; exact h0), HALL.out, ← HL.out, mix_all])
    have HLO := Lib.hid (show sharL rest zs = mix zs (lostF rest all) 0 n by unfold sharL; rw [if_neg (by rw [HALL.out]; exact h0), HALL.out, ← HL.out, mix_all])
    have d0 : (all == 0) = false := by simpa using h0
    have ha : 0 < all := by omega
    clear h0
    go_wp2
    go_loopw [7, 8, 24] (fun _ _ vk wr => ∃ k : Nat, vk = .int .i64 (k : Int) ∧ k ≤ n ∧ Hid (Blk wr g 3 (icells (mix zs (partF rest all) 1 k)) ∧ Blk wr h 3 (icells (mix zs (lostF rest all) 0 k)) ∧ Below w.heap.size w wr)) (fun _ _ vk _ => n - (intOf vk).toNat)
    case atStart => exact ⟨0, rfl, by omega, Lib.hid ⟨by rw [mix_none, HL.out]; exact HB2.out, by rw [mix_none, HL.out]; exact HC2.out, HW2.out⟩⟩
    case round =>
      obtain ⟨k, rfl, hk, HZ⟩ := hrel
      by_cases hlt : k < n
      · obtain ⟨ad, rfl, -, hcell⟩ := (hr.out.below HZ.out.2.2).at_ hlt
        have hx := hz.out _ (mem_getD (l := zs) (k := k) (by rw [HL.out]; exact hlt))
        have cg := blk_at HZ.out.1 (i := k) (by rw [mix_length, HL.out]; exact hlt)
        rw [mix_getD _ _ _ _ _ (by rw [HL.out]; exact hlt), if_neg (by omega)] at cg
        have fg := Blk.frozen HZ.out.1 k
        have ch := blk_at HZ.out.2.1 (i := k) (by rw [mix_length, HL.out]; exact hlt)
        rw [mix_getD _ _ _ _ _ (by rw [HL.out]; exact hlt), if_neg (by omega)] at ch
        have fh := Blk.frozen HZ.out.2.1 k
        have HS1 := Lib.hid (fun y hy => mix_set zs (partF rest all) 1 k (by rw [HL.out]; exact hlt) y hy)
        have HS2 := Lib.hid (fun y hy => mix_set zs (lostF rest all) 0 k (by rw [HL.out]; exact hlt) y hy)
        generalize zs.getD k 0 = x at hcell hx HS1 HS2
        obtain ⟨x0, x1⟩ := hx
        obtain ⟨p, hp⟩ : ∃ p, x * rest = p := ⟨_, rfl⟩
        have p0 : 0 ≤ p := by rw [← hp]; exact Int.mul_nonneg x0 hr0
        have p1 : p ≤ 18014398509481984 := by
          rw [← hp]
          exact Int.le_trans (Int.mul_le_mul x1 hr1 hr0 (by omega)) (by omega)
        have HP := Lib.hid hp
        obtain ⟨q, hq⟩ : ∃ q, p / all = q := ⟨_, rfl⟩
        have q0 : 0 ≤ q := by rw [← hq]; exact Int.ediv_nonneg p0 (by omega)
        have q1 : q ≤ 18014398509481984 := by rw [← hq]; exact Int.le_trans (Int.ediv_le_self _ p0) p1
        have HQ := Lib.hid hq
        have w1 : IntKind.i64.wrap p = p := IntWalk.i64_in _ (by omega)
        have w2 : IntKind.i64.wrap q = q := IntWalk.i64_in _ (by omega)
        have w3 : IntKind.i64.wrap (1 + q) = 1 + q := IntWalk.i64_in _ (by omega)
        have kn : (k : Int) < (n : Int) := by omega
        have gh := HGH.out
        have hg' : ¬ h = g := fun e => gh e.symm
        go_wp2_with fail
        go_region
        clear w1 w2 w3 hq cg fg ch fh hcell
        have HB5 := Lib.hid (show Blk (wr.setCell ⟨g, k, none⟩ (.int .i64 (1 + q))).drew g 3 (icells (mix zs (partF rest all) 1 (k + 1))) by
          rw [← HS1.out (1 + q) (by unfold partF; rw [HP.out, HQ.out])]
          exact blk_put HZ.out.1 k (1 + q))
        have HC5 := Lib.hid (show Blk (wr.setCell ⟨g, k, none⟩ (.int .i64 (1 + q))).drew h 3 (icells (mix zs (lostF rest all) 0 k)) from Blk.far HZ.out.2.1 hg' _)
        have HW5 := Lib.hid (show Below w.heap.size w (wr.setCell ⟨g, k, none⟩ (.int .i64 (1 + q))).drew from Below.drew (HZ.out.2.2.setCell HG.out _))
        generalize (wr.setCell ⟨g, k, none⟩ (.int .i64 (1 + q))).drew = w5 at HB5 HC5 HW5 ⊢
        have ch := blk_at HC5.out (i := k) (by rw [mix_length, HL.out]; exact hlt)
        rw [mix_getD _ _ _ _ _ (by rw [HL.out]; exact hlt), if_neg (by omega)] at ch
        have fh := Blk.frozen HC5.out k
        obtain ⟨r, hr5⟩ : ∃ r, p % all = r := ⟨_, rfl⟩
        have HR5 := Lib.hid hr5
        go_wp2
        go_roundw
        case rel =>
          refine ⟨k + 1, by go_num, by omega, Lib.hid ⟨Blk.far HB5.out gh _, ?_, HW5.out.setCell HH.out _⟩⟩
          rw [← HS2.out r (by unfold lostF; rw [HP.out, HR5.out])]
          exact blk_put HC5.out k r
        case measure => simp [intOf]; omega
      · have hlt' : ¬ (k : Int) < (n : Int) := by omega
        obtain rfl : k = n := by omega
        go_wp2
        refine bodyPost_ret (v := .tuple #[.slice (some ⟨g, 0, none⟩) k k, .slice (some ⟨h, 0, none⟩) k k]) (by simp [results, Try.results30, go_sem]) rfl ⟨g, h, rfl, HG.out, HH.out, HGH.out, ?_, ?_, HZ.out.2.2⟩
        · rw [HC.out]; exact HZ.out.1
        · rw [HLO.out]; exact HZ.out.2.1
end Go.Proofs.Ytlmkcipcclomdaa.Fq
