/-
  Own texts, laid together: Gr.
-/
import Derived.Test.YtgelgbfnioagbaaGq
/- Gr -/
namespace Go.Proofs.Ytgelgbfnioagbaa.Cd
open Go.RowKit
theorem tbs_get {ts : List Tb} {k : Nat} {t : Tb} (h : ts[k]? = some t) : (tbs ts)[k]? = some t.xs ∧ (tbs ts).drop k = t.xs :: (tbs ts).drop (k + 1) ∧ (tbs ts).take (k + 1) = (tbs ts).take k ++ [t.xs] := by
  have hg : (tbs ts)[k]? = some t.xs := by unfold tbs; rw [List.getElem?_map, h]; rfl
  obtain ⟨hk, e⟩ := List.getElem?_eq_some_iff.1 hg
  exact ⟨hg, by rw [List.drop_eq_getElem_cons hk, e], by rw [List.take_succ_eq_append_getElem hk, e]⟩
section
variable {w : World} {l : List Bool} {p g n8 c N m k : Nat} {A : Option Addr} {fs : List (List Int)} {wr w' : World}
theorem BkR.next (h : BkR w l p g n8 c N m k A fs wr) (hb : Below wr.heap.size wr w') : BkR w l p g n8 c N m k A fs w' := by
  obtain ⟨zs, z1, z2, z3⟩ := h.zs
  exact ⟨h.rd.next hb, h.fine, h.far, h.err, ⟨zs, z1, z2, z3.below hb z3.lt⟩, h.hp, h.hg, h.ne, h.blw.trans (hb.mono h.blw.size)⟩
theorem BkR.step {xs : List Int} {w2 : World} (h : BkR w l p g n8 c N m k A fs wr) (hN : N = l.length) (hx : fs[k]? = some xs) (hd : fs.drop k = xs :: fs.drop (k + 1)) (ht : fs.take (k + 1) = fs.take k ++ [xs]) (ho : Fq.okF xs = true) (ha : (stD l (d0 l) (fs.take k)).at_ ≤ N + 32) (hk : k < m)
    (hs : RdS w2 p (nxE l (stD l (d0 l) (fs.take k)) xs) A n8 c (N : Int)) (hg : wr.grownBy w2 (some p)) :
    BkR w l p g n8 c N m (k + 1) A fs (w2.setCell ⟨g, k, none⟩ (.int .i64 ((nxK (stD l (d0 l) (fs.take k)) xs : Nat) : Int))) := by
  obtain ⟨zs, z1, z2, z3⟩ := h.zs
  obtain ⟨f1, f2⟩ := nxE_fine (l := l) h.fine ho
  refine ⟨?_, ?_, ?_, ?_, ⟨zs.set k ((nxK (stD l (d0 l) (fs.take k)) xs : Nat) : Int), by simp [z1], ?_, Fq.blk_put (z3.only hg h.ne) _ _⟩, h.hp, h.hg, h.ne, ?_⟩
  · rw [ht, stD_snoc]
    exact Blk.far hs (fun e => h.ne e.symm) _
  · rw [ht, stD_snoc]; exact f1
  · rw [ht, stD_snoc]; omega
  · rw [h.err, hd, backErr_ok ho (by omega), ht, stD_snoc]
  · rw [symL_take l (d0 l) fs k xs hx, List.take_succ_eq_append_getElem (by simp [z1]; omega), List.take_set_of_le (Nat.le_refl _), z2]
    simp
  · exact (h.blw.grown hg h.blw.size (fun j hj => by injection hj with hj; rw [← hj]; exact h.hp)).setCell h.hg _
theorem BkR.cellg (h : BkR w l p g n8 c N m k A fs wr) {j : Nat} (hj : j < m) : (∃ v, wr.cell? ⟨g, j, none⟩ = some v) ∧ wr.frozen? ⟨g, j, none⟩ = false := by
  obtain ⟨zs, z1, _, z3⟩ := h.zs
  exact ⟨⟨_, Fq.blk_at z3 (by omega)⟩, z3.frozen j⟩
end
set_option maxRecDepth 100000 in
set_option maxHeartbeats 4000000 in
theorem back_walk (A : Option Addr) (n8 c N : Nat) (l : List Bool) (L : Option Addr) (m d : Nat) (ts : List Tb) (w : World) (hI : Hid (IsB w (.agg #[.slice A n8 c, .int .i64 (N : Int)]) l)) (hm : m ≤ 1000) (ht : Hid (RdT w L m ts)) :
    Calls Try.prog 28 #[.agg #[.slice A n8 c, .int .i64 (N : Int)], .slice L m d] w (BackOut w m l (tbs ts)) := by
  obtain ⟨fs, hfs⟩ : ∃ fs, fs = tbs ts := ⟨_, rfl⟩
  rw [← hfs]
  have HFS := Lib.hid hfs
  clear hfs
  obtain ⟨-, hN, hr, hl⟩ := isB_parts hI.out
  have hN2 : N ≤ 65536 := by omega
  have HNL := Lib.hid (show N = l.length by omega)
  have HRD := Lib.hid hr
  clear hN hl hr
  have hmk : ∀ u : World, (Instr.makeSlice 28 (.int .i64 (m : Int)) (.int .i64 (m : Int))).run Try.prog u = .ok (.slice (some ⟨u.heap.size, 0, none⟩) m m) (u.alloc (.cells (madeCells #[.int .i64 0] m) 3)) := fun u =>
    run_make_row' (P := Try.prog) 28 3 (.int .i64 0) 8 Try.underlying28 Fq.info_int rfl .i64 .i64 m (by omega) (by omega) u
  have HMK := Lib.hid hmk
  clear hmk
  have HW := Lib.hid ((Below.refl w.heap.size w).alloc (Nat.le_refl _) (.cells #[.slice A n8 c, .int .i64 (N : Int)] 25))
  go_enter Try.func28, Try.ntmps28
  go_wp2_with fail
  generalize w.alloc (.cells #[.slice A n8 c, .int .i64 (N : Int)] 25) = w0 at HW ⊢
  refine (open_ok A n8 c (N : Int) l w0 (Lib.hid (hI.out.below HW.out))).mono ?_
  rintro e w1 ⟨p, rfl, hp, hs, hb1⟩
  have HS1 := Lib.hid hs
  have HP := Lib.hid (show w.heap.size ≤ p from Nat.le_trans HW.out.size hp)
  have HW1 := Lib.hid (HW.out.trans (hb1.mono HW.out.size))
  clear hb1 hs hp HW
  have hmk := HMK.out
  go_wp2_with fail
  clear hmk
  rw [Fq.icells_zero]
  have HR0 := Lib.hid (show BkR w l p w1.heap.size n8 c N m 0 A fs (w1.alloc (.cells (Fq.icells (List.replicate m 0)) 3)) from
    ⟨Blk.alloc HS1.out _, fineD0 l, by show (32 : Nat) ≤ N + 72; omega, rfl, ⟨List.replicate m 0, by simp, by simp, Blk.new w1 _ _⟩, HP.out, HW1.out.size, by have := Blk.lt HS1.out; omega, HW1.out.alloc HW1.out.size _⟩)
  obtain ⟨g, hg⟩ : ∃ g, g = w1.heap.size := ⟨_, rfl⟩
  generalize w1.alloc (.cells (Fq.icells (List.replicate m 0)) 3) = w2 at HR0 ⊢
  rw [← hg] at HR0 ⊢
  clear hg HS1 HW1
  have HAP := Lib.hid (show ∀ ad, A = some ad → 0 < n8 → ad.block ≠ p from fun ad ha h0 => by have := HRD.out.lies h0 ad ha; have := HP.out; omega)
  go_wp2
  go_loopw [26] (fun v wr => ∃ k : Nat, v = .int .i64 (k : Int) ∧ k ≤ m ∧ Hid (BkR w l p g n8 c N m k A fs wr)) (fun v _ => m - (intOf v).toNat)
  case atStart => exact ⟨0, rfl, by omega, HR0⟩
  case round =>
    obtain ⟨k, rfl, hk, HZ⟩ := hrel
    clear HR0
    by_cases hlt : k < m
    · obtain ⟨ad2, t, rfl, hget, had2, x2, hx, hmm⟩ := (ht.out.below HZ.out.blw).at_ hlt
      obtain ⟨g0, g1, g2⟩ := tbs_get hget
      rw [← HFS.out] at g0 g1 g2
      have HG0 := Lib.hid g0
      have HG1 := Lib.hid g1
      have HG2 := Lib.hid g2
      have HX := Lib.hid hx
      have HM := Lib.hid hmm
      obtain ⟨C, mm, dd, xs⟩ := t
      dsimp only at x2 HX HM HG0 HG1 HG2
      clear g0 g1 g2 hget hx hmm
      have HZA := Lib.hid (HZ.out.next ((Below.refl wr.heap.size wr).alloc (Nat.le_refl _) (.cells #[.slice C mm dd] 30)))
      have HXA := Lib.hid (HX.out.alloc (.cells #[.slice C mm dd] 30))
      go_wp2_with fail
      generalize wr.alloc (.cells #[.slice C mm dd] 30) = wa at HZA HXA ⊢
      clear x2 HZ HX
      obtain ⟨D, hD⟩ : ∃ D, D = stD l (d0 l) (fs.take k) := ⟨_, rfl⟩
      have HSA := Lib.hid (show RdS wa p D A n8 c (N : Int) by rw [hD]; exact HZA.out.rd)
      have HFA := Lib.hid (show FineD D by rw [hD]; exact HZA.out.fine)
      have hfar : D.at_ ≤ N + 72 := by rw [hD]; exact HZA.out.far
      have HDD := Lib.hid hD
      clear hD
      cases ho : Fq.okF xs with
      | false =>
        have HO := Lib.hid ho
        clear ho
        refine (next_bad p D A n8 c (N : Int) C mm dd xs wa HSA HXA HM HO).mono ?_
        rintro e w5 ⟨rfl, hb5⟩
        have HE := Lib.hid (show backErr l (d0 l) fs = 1 by rw [HZA.out.err, HG1.out, backErr_no HO.out])
        have HB5 := Lib.hid (HZA.out.blw.trans (hb5.mono HZA.out.blw.size))
        clear hb5
        go_wp2
        go_ret2
        exact .inr ⟨by rw [HE.out]; decide, by rw [HE.out]; rfl, HB5.out⟩
      | true =>
        have HO := Lib.hid ho
        clear ho
        by_cases hsh : N + 32 < D.at_
        · refine (next_short p D A n8 c N C mm dd xs wa HSA hN2 hsh (by omega) HXA HM HO).mono ?_
          rintro e w5 ⟨rfl, hb5⟩
          have HE := Lib.hid (show backErr l (d0 l) fs = 20 by rw [HZA.out.err, HG1.out, ← HDD.out, backErr_short HO.out (by have := HNL.out; omega)])
          have HB5 := Lib.hid (HZA.out.blw.trans (hb5.mono HZA.out.blw.size))
          clear hb5
          go_wp2
          go_ret2
          exact .inr ⟨by rw [HE.out]; decide, by rw [HE.out]; rfl, HB5.out⟩
        · refine (next_ok p D A n8 c N l C mm dd xs wa HSA (Lib.hid (hI.out.below HZA.out.blw)) HAP hN2 HFA (by omega) HXA HM HO).mono ?_
          rintro e w5 ⟨rfl, hs5, hg5⟩
          have HR5 := Lib.hid (HZA.out.step HNL.out HG0.out HG1.out HG2.out HO.out (by rw [← HDD.out]; omega) hlt (by rw [← HDD.out]; exact hs5) hg5)
          rw [← HDD.out] at HR5
          obtain ⟨zs, z1, -, z3⟩ := HZA.out.zs
          have Z5 := Lib.hid (z3.only hg5 HZA.out.ne)
          have y1 := Fq.blk_at Z5.out (i := k) (by omega)
          have y2 := Z5.out.frozen k
          have Z1 := Lib.hid z1
          generalize nxK D xs = K at HR5 ⊢
          clear z1 z3 hs5 hg5
          go_wp2
          go_roundw
          case rel => exact ⟨k + 1, by go_num, by omega, HR5⟩
          case measure => simp [intOf]; omega
    · obtain rfl : k = m := by omega
      obtain ⟨zs, z1, z2, z3⟩ := HZ.out.zs
      have hfl : fs.length = k := by rw [HFS.out]; unfold tbs; rw [List.length_map]; exact ht.out.1
      have he := HZ.out.err
      rw [List.drop_of_length_le (by omega)] at he
      rw [List.take_of_length_le (by omega), List.take_of_length_le (by rw [symL_length]; omega)] at z2
      have HE := Lib.hid (show backErr l (d0 l) fs = 0 from he)
      have Z3 := Lib.hid (show Blk wr g 3 (Fq.icells (symL l (d0 l) fs)) by rw [← z2]; exact z3)
      clear z1 z2 z3 he hfl
      go_wp2
      go_ret2
      exact .inl ⟨HE.out, g, rfl, HZ.out.hg, Z3.out, HZ.out.blw⟩
end Go.Proofs.Ytgelgbfnioagbaa.Cd
