/-
  The statement BitsCodes holds: codes of greater numbers are no shorter, no code is another one's beginning, and a code that is cut off is too short.
-/
import Derived.Test.YtdgakbbnhhibkaaWh
import Derived.Deep.DeepCutAuto
namespace Go.Proofs.Ytdgakbbnhhibkaa
open Go.RowKit

theorem bitLen_mono (a b : Nat) (h : a ≤ b) (hb : b < 2 ^ 64) : Lib.bitLen a ≤ Lib.bitLen b :=
  (bitLen_le_iff a _ (by omega) (Lib.bitLen_le b 64 (by omega) hb)).2 (Nat.lt_of_le_of_lt h (bitLen_lt b hb))
theorem codeOf_mono (a b : Nat) (h : a ≤ b) (hb : b < 2 ^ 32) : (codeOf a).length ≤ (codeOf b).length := by
  have := bitLen_mono (a + 1) (b + 1) (by omega) (by omega)
  rw [codeOf_length, codeOf_length]
  omega
theorem codeOf_apart (a b : Nat) (ha : a < 2 ^ 32) (hb : b < 2 ^ 32) (h : (codeOf b).take (codeOf a).length = codeOf a) : a = b := by
  have e : codeOf b = codeOf a ++ (codeOf b).drop (codeOf a).length := by
    conv => lhs; rw [← List.take_append_drop (codeOf a).length (codeOf b), h]
  have h1 := gc_code [] ((codeOf b).drop (codeOf a).length) a ha
  have h2 := gc_code [] [] b hb
  rw [List.append_nil, e] at h2
  rw [h1] at h2
  injection h2
theorem zr_le (l : List Bool) : zr l ≤ l.length := by
  unfold zr
  have := (List.takeWhile_prefix (l := l) (! ·)).length_le
  omega
theorem gc_cut (v K : Nat) (hv : v < 2 ^ 32) (hK : K < (codeOf v).length) : gc ((codeOf v).take K) 0 = (0, 0, 20) := by
  have h1 := bitLen_pos (v + 1) (by omega)
  have h2 := Lib.bitLen_le (v + 1) 33 (by omega) (by omega)
  have hl := codeOf_length v
  have ht : ((codeOf v).take K).length = K := by rw [List.length_take]; omega
  unfold gc
  rw [List.drop_zero]
  by_cases hq : K ≤ Lib.bitLen (v + 1) - 1
  · have hz : zr ((codeOf v).take K) = K := zr_of _ _ (by omega) (fun j hj => by
      rw [ht, bitF_take, if_pos hj]
      exact ⟨hj, codeOf_low v j (by omega)⟩) (fun h => by omega)
    rw [hz, if_neg (by omega), if_pos (by omega)]
  · have hz : zr ((codeOf v).take K) = Lib.bitLen (v + 1) - 1 := zr_of _ _ (by omega) (fun j hj => by
      rw [ht, bitF_take, if_pos (by omega)]
      exact ⟨by omega, codeOf_low v j hj⟩) (fun _ => by
      rw [bitF_take, if_pos (by omega)]
      exact codeOf_top v hv)
    rw [hz, if_neg (by omega), if_pos (by omega)]

theorem take_bit (l : List Bool) (k : Nat) (h : k < l.length) : l.take (k + 1) = l.take k ++ bitsOf 1 (num ((l.drop k).take 1)) ∧ num ((l.drop k).take 1) < 2 := by
  have hl : ((l.drop k).take 1).length = 1 := by rw [List.length_take, List.length_drop]; omega
  have h2 := num_lt ((l.drop k).take 1)
  have h3 := bitsOf_num ((l.drop k).take 1)
  rw [hl] at h2 h3
  rw [h3]
  refine ⟨?_, h2⟩
  rw [List.take_succ_eq_append_getElem h, List.drop_eq_getElem_cons h]
  rfl
theorem cut_is (cut : Int) (NX : Nat) (h1 : 1 ≤ NX) (h65 : NX ≤ 65) : ∃ K : Nat, K < NX ∧ (wrap64 (cut.tmod (NX : Int) + (NX : Int))).tmod (NX : Int) = (K : Int) := by
  have a1 := Int.tmod_lt_of_pos cut (show (0 : Int) < NX by omega)
  have a2 : -(NX : Int) < cut.tmod (NX : Int) := by
    have := Int.lt_tmod_of_pos cut (show (0 : Int) < NX by omega)
    omega
  generalize cut.tmod (NX : Int) = t at a1 a2
  have e : wrap64 (t + (NX : Int)) = t + NX := by unfold wrap64; omega
  rw [e, Int.tmod_eq_emod_of_nonneg (by omega)]
  have b1 := Int.emod_nonneg (t + NX) (show (NX : Int) ≠ 0 by omega)
  have b2 := Int.emod_lt_of_pos (t + NX) (show (0 : Int) < NX by omega)
  exact ⟨((t + NX) % (NX : Int)).toNat, by omega, by omega⟩

set_option maxRecDepth 100000 in
set_option maxHeartbeats 1000000 in
theorem codes_core (a b cut : Int) (α β lo hi NX NY nx ny : Nat) (w : World) (ha0 : 0 ≤ a) (hb0 : 0 ≤ b) (hα : a % 4294967296 = (α : Int)) (hβ : b % 4294967296 = (β : Int))
    (hlo : Hid (min (α : Int) (β : Int) = (lo : Int))) (hhi : Hid (max (α : Int) (β : Int) = (hi : Int))) (hlo32 : Hid (lo < 2 ^ 32)) (hhi32 : Hid (hi < 2 ^ 32))
    (hNX : Hid (NX = (codeOf lo).length)) (hNY : Hid (NY = (codeOf hi).length)) (hnx : Hid (nx = (pack (codeOf lo)).length)) (hny : Hid (ny = (pack (codeOf hi)).length))
    (h1 : 1 ≤ NX) (h65 : NX ≤ 65) (hXY : NX ≤ NY) (hY65 : NY ≤ 65) (hap : Hid (α ≠ β → num ((codeOf hi).take NX) ≠ num ((codeOf lo).take NX))) :
    Calls Try.prog 6 #[.int .u64 a, .int .u64 b, .int .i64 cut] w fun e w' => e = .returned (.bool true) ∧ Below w.heap.size w w' := by
  have d1 : decide (NY < NX) = false := by simpa using hXY
  have d2 : decide ((NX : Int) < 1) = false := by simp; omega
  go_enter Try.func6, Try.ntmps6
  go_wp2_with fail
  refine (live_any _).mono ?_
  rintro e w0 ⟨rfl, hb0⟩
  have HW0 := Lib.hid hb0
  clear hb0
  go_wp2_with fail
  refine (putCode_good _ [] (codeOf lo) _ lo nx NX _ (IsB.nil_ _) hlo.out hlo32.out rfl (by have := hNX.out; omega) hnx.out hNX.out).mono ?_
  rintro e w1 ⟨Ax, cx, rfl, hBx, hb1⟩
  have HW1 := Lib.hid (HW0.out.trans (hb1.mono HW0.out.size))
  have HBx := Lib.hid hBx
  clear hb1 hBx
  go_wp2_with fail
  refine (putCode_good _ [] (codeOf hi) _ hi ny NY _ (IsB.nil_ _) hhi.out hhi32.out rfl (by have := hNY.out; omega) hny.out hNY.out).mono ?_
  rintro e w2 ⟨Ay, cy, rfl, hBy, hb2⟩
  have HW2 := Lib.hid ((HW1.out.alloc HW1.out.size (.cells #[.slice Ax nx cx, .int .i64 (NX : Int)] 24)).trans (hb2.mono (by have := HW1.out.size; simp; omega)))
  have HX2 := Lib.hid ((Blk.new w1 24 #[.slice Ax nx cx, .int .i64 (NX : Int)]).below hb2 (Blk.new _ _ _).lt)
  have HBx2 := Lib.hid ((HBx.out.alloc _).below hb2)
  have HBy := Lib.hid hBy
  have x1 : w2.cell? ⟨w1.heap.size, 1, none⟩ = some (.int .i64 (NX : Int)) := HX2.out.cell 1
  have x0 : w2.cell? ⟨w1.heap.size, 0, none⟩ = some (.slice Ax nx cx) := HX2.out.cell 0
  have hlt12 : w1.heap.size < w2.heap.size := HX2.out.lt
  clear hb2 hBy HBx
  go_upto_if 68 with (fail)
  go_cut [12] (fun s wx => Blk wx w1.heap.size 24 #[.slice Ax nx cx, .int .i64 (NX : Int)] ∧ IsB wx (.agg #[.slice Ax nx cx, .int .i64 (NX : Int)]) (codeOf lo) ∧ Below w.heap.size w wx)
  case first =>
    by_cases hab : α = β
    · have hne : ((α : Int) != (β : Int)) = false := by simp [hab]
      clear hab
      go_wp2_with fail
      go_meet
      exact ⟨HX2.out.alloc _, HBx2.out.alloc _, HW2.out.alloc HW2.out.size _⟩
    · have hne : ((α : Int) != (β : Int)) = true := by simp; omega
      have HAP := Lib.hid (hap.out hab)
      clear hab
      obtain ⟨m1, hm1⟩ : ∃ m1, m1 = num (((codeOf hi).drop 0).take (NX % 65)) := ⟨_, rfl⟩
      obtain ⟨m2, hm2⟩ : ∃ m2, m2 = num (((codeOf lo).drop 0).take (NX % 65)) := ⟨_, rfl⟩
      have hmm : NX ≤ 64 → m1 ≠ m2 := by
        intro h64 hm
        have e : NX % 65 = NX := by omega
        rw [hm1, hm2, e, List.drop_zero, List.drop_zero] at hm
        exact HAP.out hm
      have HM1 := Lib.hid hm1
      have HM2 := Lib.hid hm2
      clear hm1 hm2
      go_wp2_with fail
      refine (get_n _ (codeOf hi) 0 _ 0 (NX % 65) m1 _ (HBy.out.alloc _) rfl (by omega) (by omega) (by have := hNY.out; omega) HM1.out).mono ?_
      rintro e w3 ⟨rfl, hb3⟩
      have HW3 := Lib.hid ((HW2.out.alloc HW2.out.size (.cells #[.slice Ay ny cy, .int .i64 (NY : Int)] 24)).trans (hb3.mono (by have := HW2.out.size; simp; omega)))
      have HX3 := Lib.hid ((HX2.out.alloc (.cells #[.slice Ay ny cy, .int .i64 (NY : Int)] 24)).below hb3 (HX2.out.alloc _).lt)
      have HBx3 := Lib.hid ((HBx2.out.alloc _).below hb3)
      have x31 : w3.cell? ⟨w1.heap.size, 1, none⟩ = some (.int .i64 (NX : Int)) := HX3.out.cell 1
      have x30 : w3.cell? ⟨w1.heap.size, 0, none⟩ = some (.slice Ax nx cx) := HX3.out.cell 0
      clear hb3 x0 x1
      go_wp2_with fail
      refine (get_n _ (codeOf lo) 0 _ 0 (NX % 65) m2 _ HBx3.out rfl (by omega) (by omega) (by have := hNX.out; omega) HM2.out).mono ?_
      rintro e w4 ⟨rfl, hb4⟩
      have HW4 := Lib.hid (HW3.out.trans (hb4.mono HW3.out.size))
      have HX4 := Lib.hid (HX3.out.below hb4 HX3.out.lt)
      have HBx4 := Lib.hid (HBx3.out.below hb4)
      have x41 : w4.cell? ⟨w1.heap.size, 1, none⟩ = some (.int .i64 (NX : Int)) := HX4.out.cell 1
      clear hb4 x30 x31
      by_cases h64 : NX ≤ 64
      · have hd : decide ((NX : Int) ≤ 64) = true := by simp; omega
        have he : ((m1 : Int) == (m2 : Int)) = false := by have := hmm h64; simp; omega
        clear hmm
        go_wp2_with fail
        go_meet
        exact ⟨HX4.out, HBx4.out, HW4.out⟩
      · have hd : decide ((NX : Int) ≤ 64) = false := by simp; omega
        clear hmm
        go_wp2_with fail
        go_meet
        exact ⟨HX4.out, HBx4.out, HW4.out⟩
  case rest =>
    obtain ⟨hX, hBx, hW⟩ := hcut
    have HX := Lib.hid hX
    have HBX := Lib.hid hBx
    have HW := Lib.hid hW
    have x1 : wc.cell? ⟨w1.heap.size, 1, none⟩ = some (.int .i64 (NX : Int)) := hX.cell 1
    have x0 : wc.cell? ⟨w1.heap.size, 0, none⟩ = some (.slice Ax nx cx) := hX.cell 0
    clear hX hBx hW
    have hn0 : ¬ (NX : Int) = 0 := by omega
    obtain ⟨K, hKX, hK⟩ := cut_is cut NX h1 h65
    have HK := Lib.hid hK
    clear hK
    go_wp2
    go_quiet (fail)
    obtain ⟨w5, hw5⟩ : ∃ w5, w5 = wc.drewN nq := ⟨_, rfl⟩
    have HX5 := Lib.hid (show Blk w5 w1.heap.size 24 #[.slice Ax nx cx, .int .i64 (NX : Int)] from by rw [hw5]; exact HX.out.drewN nq)
    have HBX5 := Lib.hid (show IsB w5 (.agg #[.slice Ax nx cx, .int .i64 (NX : Int)]) (codeOf lo) from by rw [hw5]; exact HBX.out)
    have HW5 := Lib.hid (show Below w.heap.size w w5 from by rw [hw5]; exact below_drewN HW.out nq)
    rw [← hw5]
    clear hw5 x0 x1
    go_wp2
    rw [HK.out]
    go_loopw [17, 18, 19, 21, 113] (fun _ _ _ _ i wr => ∃ k : Nat, k ≤ K ∧ i = .int .i64 (k : Int) ∧ Blk wr w1.heap.size 24 #[.slice Ax nx cx, .int .i64 (NX : Int)] ∧ IsB wr (.agg #[.slice Ax nx cx, .int .i64 (NX : Int)]) (codeOf lo) ∧ Below w.heap.size w wr
        ∧ ∃ A n c, Blk wr w5.heap.size 24 #[.slice A n c, .int .i64 (k : Int)] ∧ IsB wr (.agg #[.slice A n c, .int .i64 (k : Int)]) ((codeOf lo).take k))
      (fun _ _ _ _ i _ => K - (intOf i).toNat)
    case atStart =>
      refine ⟨0, Nat.zero_le _, rfl, HX5.out.alloc _, HBX5.out.alloc _, HW5.out.alloc HW5.out.size _, none, 0, 0, Blk.newAt rfl, ?_⟩
      rw [List.take_zero]
      exact IsB.nil_ _
    case round =>
      obtain ⟨k, hk, rfl, hX, hBx, hW, A, n, c, hS, hBs⟩ := hrel
      have x1 : wr.cell? ⟨w1.heap.size, 1, none⟩ = some (.int .i64 (NX : Int)) := hX.cell 1
      have x0 : wr.cell? ⟨w1.heap.size, 0, none⟩ = some (.slice Ax nx cx) := hX.cell 0
      have s1 : wr.cell? ⟨w5.heap.size, 1, none⟩ = some (.int .i64 (k : Int)) := hS.cell 1
      have s0 : wr.cell? ⟨w5.heap.size, 0, none⟩ = some (.slice A n c) := hS.cell 0
      have HX := Lib.hid hX
      have HBX := Lib.hid hBx
      have HW := Lib.hid hW
      have HS := Lib.hid hS
      have HBS := Lib.hid hBs
      clear hX hBx hW hS hBs
      by_cases hlt : k < K
      · obtain ⟨t, ht⟩ : ∃ t, t = num (((codeOf lo).drop k).take 1) := ⟨_, rfl⟩
        have hstep := take_bit (codeOf lo) k (by have := hNX.out; omega)
        rw [← ht] at hstep
        have HT := Lib.hid ht
        have HST := Lib.hid hstep.1
        have ht2 : t < 2 := hstep.2
        clear ht hstep
        have hl1 : ((codeOf lo).take (k + 1)).length = k + 1 := by rw [List.length_take]; have := hNX.out; omega
        have HL1 := Lib.hid hl1
        clear hl1
        go_wp2_with fail
        refine (get_n _ (codeOf lo) _ 1 k 1 t _ HBX.out rfl rfl (by omega) (by have := hNX.out; omega) HT.out).mono ?_
        rintro e w6 ⟨rfl, hb6⟩
        have HX6 := Lib.hid (HX.out.below hb6 HX.out.lt)
        have HBX6 := Lib.hid (HBX.out.below hb6)
        have HW6 := Lib.hid (HW.out.trans (hb6.mono HW.out.size))
        have HS6 := Lib.hid (HS.out.below hb6 HS.out.lt)
        have HBS6 := Lib.hid (HBS.out.below hb6)
        have s61 : w6.cell? ⟨w5.heap.size, 1, none⟩ = some (.int .i64 (k : Int)) := HS6.out.cell 1
        have s60 : w6.cell? ⟨w5.heap.size, 0, none⟩ = some (.slice A n c) := HS6.out.cell 0
        clear hb6 x0 x1 s0 s1
        go_wp2_with fail
        refine (put_good _ ((codeOf lo).take k) ((codeOf lo).take (k + 1)) _ 1 t 1 ((pack ((codeOf lo).take (k + 1))).length) (k + 1) _ HBS6.out rfl rfl (by omega) (by omega) HST.out (by have := HL1.out; omega) rfl HL1.out.symm).mono ?_
        rintro e w7 ⟨A7, c7, rfl, hB7, hb7⟩
        have HX7 := Lib.hid (HX6.out.below hb7 HX6.out.lt)
        have HBX7 := Lib.hid (HBX6.out.below hb7)
        have HW7 := Lib.hid (HW6.out.trans (hb7.mono HW6.out.size))
        have HS7 := Lib.hid (HS6.out.below hb7 HS6.out.lt)
        have HB7 := Lib.hid hB7
        have s71 : w7.cell? ⟨w5.heap.size, 1, none⟩ = some (.int .i64 (k : Int)) := HS7.out.cell 1
        have s70 : w7.cell? ⟨w5.heap.size, 0, none⟩ = some (.slice A n c) := HS7.out.cell 0
        have f71 := HS7.out.frozen 1
        have f70 := HS7.out.frozen 0
        have hlt7 : w5.heap.size < w7.heap.size := HS7.out.lt
        obtain ⟨n7, hn7⟩ : ∃ n7, n7 = (pack ((codeOf lo).take (k + 1))).length := ⟨_, rfl⟩
        rw [← hn7] at HB7 ⊢
        clear hb7 s60 s61 hB7 hn7
        go_wp2
        go_roundw
        case rel =>
          have ek : ((k + 1 : Nat) : Int) = (k : Int) + 1 := by omega
          have h15 : w1.heap.size < w5.heap.size := HX5.out.lt
          have hw5 := HW5.out.size
          have hBS := (HB7.out.res s70 s71 (.slice A7 n7 c7) (.int .i64 ((k : Int) + 1))).alloc (.cells #[.slice A7 n7 c7, .int .i64 ((k : Int) + 1)] 24)
          have hSS := ((HS7.out.set_ 0 (.slice A7 n7 c7)).set_ 1 (.int .i64 ((k : Int) + 1))).alloc (.cells #[.slice A7 n7 c7, .int .i64 ((k : Int) + 1)] 24)
          refine ⟨k + 1, by omega, by go_num, ((HX7.out.far (by simp; omega) _).far (by simp; omega) _).alloc _, (HBX7.out.res s70 s71 _ _).alloc _, ((HW7.out.setCell (by simpa using hw5) _).setCell (by simpa using hw5) _).alloc (by have := HW7.out.size; simpa [World.setCell] using this) _, A7, n7, c7, ?_, ?_⟩
          · rw [ek]; simpa using hSS
          · rw [ek] at hBS ⊢; exact hBS
        case measure => simp [intOf]; omega
      · obtain rfl : k = K := by omega
        go_wp2_with fail
        refine (getCode_n _ ((codeOf lo).take k) 0 0 0 0 20 _ HBS.out (Nat.zero_le _) rfl (gc_cut lo k hlo32.out (by have := hNX.out; omega))).mono ?_
        rintro e w6 ⟨rfl, hb6⟩
        have HW6 := Lib.hid (HW.out.trans (hb6.mono HW.out.size))
        clear hb6 x0 x1 s0 s1
        go_wp2
        go_ret
        exact ⟨rfl, HW6.out⟩

end Go.Proofs.Ytdgakbbnhhibkaa
