/-
  What Scale answers.
-/
import Derived.Test.YtlmkcipcclomdaaFt
namespace Go.Proofs.Ytlmkcipcclomdaa.Fq
open Go.RowKit

theorem bumps_pos (ys : List Nat) (n k : Nat) (cs : List Int) (h : ∀ x ∈ cs, 1 ≤ x) : ∀ x ∈ bumps ys n k cs, 1 ≤ x := by
  induction k with
  | zero => exact h
  | succ k ih =>
    intro x hx
    rcases List.mem_or_eq_of_mem_set (show x ∈ (bumps ys n k cs).set _ _ from hx) with h1 | h1
    · exact ih x h1
    · rw [h1]
      by_cases hi : ys.getD (k % n) 0 < (bumps ys n k cs).length
      · have := ih _ (mem_getD hi); omega
      · rw [List.getD_eq_getElem?_getD, List.getElem?_eq_none (by omega)]; simp
/-- what is left of the total -/
def leftN (total : Int) (cs : List Int) : Nat := (total - tot cs).toNat
def scaled (total : Int) (n : Nat) (zs : List Int) (ys : List Nat) : List Int := bumps ys n (leftN total (sharC (total - (n : Int)) zs)) (sharC (total - (n : Int)) zs)
def ScP (w : World) (total : Int) (n : Nat) (zs : List Int) (e : Ending) (w' : World) : Prop :=
  ∃ ys : List Nat, ys.Perm (List.range n) ∧ (n < 20 → ys = insO (sharL (total - (n : Int)) zs) 0 (n - 1) 1 (List.range n)) ∧ NewP w (acc (scaled total n zs ys)) e w'
/-- counts and a total that may be scaled -/
def okS (total : Int) (zs : List Int) : Prop := 1 ≤ zs.length ∧ zs.length ≤ 256 ∧ (zs.length : Int) ≤ total ∧ total ≤ 16384 ∧ anyBad 0 1099511627776 zs = false
theorem okS_all {total : Int} {zs : List Int} (h : okS total zs) : ∀ x ∈ zs, 0 ≤ x ∧ x ≤ 1099511627776 := by
  intro x hx
  have h5 := h.2.2.2.2
  unfold anyBad at h5
  rw [List.any_eq_false] at h5
  have := h5 x hx
  simp [badI] at this
  omega
set_option maxRecDepth 100000 in
set_option maxHeartbeats 4000000 in
theorem scale_ok (A : Option Addr) (n c : Nat) (zs : List Int) (total : Int) (w : World) (hr : Hid (RdI w A n zs)) (hok : Hid (okS total zs)) :
    Calls Try.prog 20 #[.int .i64 total, .slice A n c] w (ScP w total n zs) := by
  obtain ⟨h1, h2, h3, h4, h5⟩ := hok.out
  have hl := hr.out.1
  rw [hl] at h1 h2 h3
  have HL := Lib.hid hl
  have HB := Lib.hid h5
  have HA := Lib.hid (okS_all hok.out)
  obtain ⟨rest, hrest⟩ : ∃ rest, total - (n : Int) = rest := ⟨_, rfl⟩
  have r0 : 0 ≤ rest := by omega
  have r1 : rest ≤ 16384 := by omega
  obtain ⟨f1, f2, f3, f4⟩ := sharC_facts (rest := rest) hl h1 r0 (fun x hx => (HA.out x hx).1)
  have HRE := Lib.hid hrest
  obtain ⟨cs, hcs⟩ : ∃ cs, sharC rest zs = cs := ⟨_, rfl⟩
  rw [hcs] at f1 f2 f3
  have HCS := Lib.hid hcs
  have HF1 := Lib.hid f1
  have HF2 := Lib.hid f2
  have hrest3 : rest + (n : Int) = total := by omega
  obtain ⟨s, hs⟩ : ∃ s, tot cs = s := ⟨_, rfl⟩
  have s0 : 0 ≤ s := by rw [← hs]; exact (tot_bd cs (rest + 1) fun x hx => by have := f2 x hx; omega).1
  have s1 : s ≤ total := by rw [← hs]; omega
  obtain ⟨left, hleft⟩ : ∃ left : Nat, total - s = (left : Int) := ⟨(total - s).toNat, by omega⟩
  have HLE := Lib.hid (show leftN total cs = left by unfold leftN; rw [hs, hleft]; simp)
  have HS := Lib.hid hs
  have lb : left ≤ 16384 := by omega
  have HTS := Lib.hid (show s + (left : Int) = total by omega)
  clear h5 hl f1 f2 f3 f4 hcs hs hrest3
  go_enter Try.func20, Try.ntmps20
  go_wp2_with fail
  refine (isSize_yes _ _ (by omega) (by omega)).mono ?_
  rintro e w' ⟨rfl, rfl⟩
  have HK0 := Lib.hid (Blk.new w 24 #[.slice none 0 0])
  have HW0 := Lib.hid ((Below.refl w.heap.size w).alloc (Nat.le_refl _) (.cells #[.slice none 0 0] 24))
  generalize w.alloc (.cells #[.slice none 0 0] 24) = w0 at HK0 HW0 ⊢
  have d1 : decide (total < (n : Int)) = false := by simp; omega
  have d2 : decide (16384 < total) = false := by simp; omega
  go_wp2_with fail
  refine (outside_any 0 1099511627776 _).mono ?_
  rintro e w1 ⟨rfl, ho, hb⟩
  have HO := Lib.hid ho
  have HK1 := Lib.hid (HK0.out.below hb HK0.out.lt)
  have HW1 := Lib.hid (HW0.out.trans (hb.mono HW0.out.size))
  clear ho hb
  go_wp2_with fail
  refine (containsFunc_any 0 1099511627776 _ A n c zs false _ HO.out (hr.out.below HW1.out) (by omega) HB.out).mono ?_
  rintro e w' ⟨rfl, rfl⟩
  go_wp2_with fail
  refine (share_any A n c zs rest _ (Lib.hid (hr.out.below HW1.out)) h1 h2 HA r0 r1).mono ?_
  rintro e w2 ⟨g, h, rfl, hg, hh, hgh, hB, hC, hb⟩
  rw [HCS.out] at hB
  have HG := Lib.hid (Nat.le_trans HW1.out.size hg)
  have HKG := Lib.hid (show w.heap.size ≠ g by have := HK1.out.lt; omega)
  have HK2 := Lib.hid (HK1.out.below hb HK1.out.lt)
  have HW2 := Lib.hid (HW1.out.trans (hb.mono HW1.out.size))
  have HB2 := Lib.hid hB
  have HC2 := Lib.hid (show RdI w2 (some ⟨h, 0, none⟩) n (sharL rest zs) from RdI.of_blk hC (by unfold sharL; split <;> simp [HL.out]))
  clear hg hh hgh hB hC hb d1 d2
  go_wp2_with fail
  refine (greatest_any _ n n (sharL rest zs) _ HC2 h1 h2).mono ?_
  rintro e w3 ⟨o, ys, rfl, ho, hp, h20, hO, hb⟩
  have HOG := Lib.hid (show o ≠ g by have := HB2.out.lt; omega)
  have HKO := Lib.hid (show w.heap.size ≠ o by have := HK2.out.lt; omega)
  have HK3 := Lib.hid (HK2.out.below hb HK2.out.lt)
  have HW3 := Lib.hid (HW2.out.trans (hb.mono HW2.out.size))
  have HB3 := Lib.hid (HB2.out.below hb HB2.out.lt)
  have HO3 := Lib.hid hO
  have HP := Lib.hid hp
  have H20 := Lib.hid h20
  clear ho hp h20 hO hb
  go_wp2_with fail
  refine (sum_any (some ⟨g, 0, none⟩) n n cs 16385 s _ (Lib.hid (RdI.of_blk HB3.out HF1.out)) (by omega) (by omega) (by omega) (Lib.hid fun x hx => by have := HF2.out x hx; omega) HS).mono ?_
  rintro e w' ⟨rfl, rfl⟩
  go_wp2
  go_loopw [10, 45] (fun _ vk wr => ∃ k : Nat, vk = .int .i64 (k : Int) ∧ k ≤ left ∧ Hid (Blk wr g 3 (icells (bumps ys n k cs)) ∧ Blk wr o 3 (ncells ys) ∧ Blk wr w.heap.size 24 #[.slice none 0 0] ∧ Below w.heap.size w wr)) (fun _ vk _ => left - (intOf vk).toNat)
  case atStart => exact ⟨0, rfl, by omega, Lib.hid ⟨HB3.out, HO3.out, HK3.out, HW3.out⟩⟩
  case round =>
    obtain ⟨k, rfl, hk, HZ⟩ := hrel
    clear hrest hleft
    by_cases hlt : k < left
    · have hlt' : (k : Int) < (left : Int) := by omega
      obtain ⟨p, hpe⟩ : ∃ p, p = k % n := ⟨_, rfl⟩
      have e1 : (k : Int) % (n : Int) = (p : Int) := by rw [hpe]; simp
      have pn : p < n := by rw [hpe]; exact Nat.mod_lt _ (by omega)
      have hPA := perm_at HP.out
      have co := ncells_at HZ.out.2.1 (i := p) (by rw [hPA.1]; exact pn)
      have jn := hPA.2.1 p pn
      have HBU := Lib.hid (show bumps ys n (k + 1) cs = (bumps ys n k cs).set (ys.getD p 0) ((bumps ys n k cs).getD (ys.getD p 0) 0 + 1) by rw [hpe]; rfl)
      clear hpe hPA
      generalize ys.getD p 0 = j at co jn HBU
      have HBL := Lib.hid (show (bumps ys n k cs).length = n by rw [bumps_length, HF1.out])
      have cg := blk_at HZ.out.1 (i := j) (by rw [HBL.out]; exact jn)
      have fg := Blk.frozen HZ.out.1 j
      have hpos := bumps_pos ys n k cs (fun x hx => (HF2.out x hx).1)
      have y0 := hpos _ (mem_getD (l := bumps ys n k cs) (k := j) (by rw [HBL.out]; exact jn))
      have y1 := mem_le_tot (fun x hx => by have := hpos x hx; omega) _ (mem_getD (l := bumps ys n k cs) (k := j) (by rw [HBL.out]; exact jn))
      rw [bumps_tot HP.out (by omega) k cs HF1.out, HS.out] at y1
      have y2 : (bumps ys n k cs).getD j 0 ≤ 16384 := by have := HTS.out; omega
      clear hpos y1
      generalize (bumps ys n k cs).getD j 0 = y at cg y0 y2 HBU
      have n0 : ((n : Int) == 0) = false := by simp; omega
      go_wp2
      go_roundw
      case rel =>
        refine ⟨k + 1, by go_num, by omega, Lib.hid ⟨?_, Blk.far HZ.out.2.1 HOG.out _, Blk.far HZ.out.2.2.1 HKG.out _, HZ.out.2.2.2.setCell HG.out _⟩⟩
        rw [HBU.out]
        exact blk_put HZ.out.1 j (y + 1)
      case measure => simp [intOf]; omega
    · have hlt' : ¬ (k : Int) < (left : Int) := by omega
      obtain rfl : k = left := by omega
      have HBL := Lib.hid (show (bumps ys n k cs).length = n by rw [bumps_length, HF1.out])
      have hpos := bumps_pos ys n k cs (fun x hx => (HF2.out x hx).1)
      have HBD := Lib.hid (show ∀ x ∈ bumps ys n k cs, 0 ≤ x ∧ x ≤ 2251799813685248 from fun x hx => by
        have a1 := hpos x hx
        have a2 := mem_le_tot (fun x hx => by have := hpos x hx; omega) x hx
        rw [bumps_tot HP.out (by omega) k cs HF1.out, HS.out] at a2
        have := HTS.out
        omega)
      clear hpos
      go_wp2_with fail
      refine (pile_any (some ⟨g, 0, none⟩) n n (bumps ys n k cs) _ (Lib.hid (RdI.of_blk HZ.out.1 HBL.out)) (by omega) HBD).mono ?_
      rintro e w4 ⟨q, rfl, hq, hQ, hb⟩
      have HQG := Lib.hid (show q ≠ w.heap.size by have := HZ.out.2.2.1.lt; omega)
      have HQ0 := Lib.hid (Nat.le_trans HZ.out.2.2.2.size hq)
      have HK4 := Lib.hid (HZ.out.2.2.1.below hb HZ.out.2.2.1.lt)
      have HW4 := Lib.hid (HZ.out.2.2.2.trans (hb.mono HZ.out.2.2.2.size))
      have HQ4 := Lib.hid hQ
      clear hq hQ hb
      have c0 := HK4.out.cell 0
      have fz := HK4.out.frozen 0
      simp at c0
      obtain ⟨m, hm⟩ : ∃ m, (acc (bumps ys n k cs)).length = m := ⟨_, rfl⟩
      rw [hm]
      have HM := Lib.hid hm
      clear hm
      unfold freqV
      go_wp2
      refine bodyPost_ret (v := .tuple #[freqV q m, .int .i64 0]) (by simp [results, Try.results20, go_sem, c0, freqV]) rfl ⟨ys, HP.out, ?_, q, ?_, HQ0.out, ?_, HW4.out.setCell (Nat.le_refl _) _⟩
      · rw [HRE.out]; exact H20.out
      · unfold scaled; rw [HRE.out, HCS.out, HLE.out, HM.out]
      · unfold scaled; rw [HRE.out, HCS.out, HLE.out]; exact Blk.far HQ4.out HQG.out _
end Go.Proofs.Ytlmkcipcclomdaa.Fq
