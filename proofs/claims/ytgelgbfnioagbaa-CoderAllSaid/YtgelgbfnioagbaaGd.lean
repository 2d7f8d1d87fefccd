/-
  Own texts, laid together: Gd.
-/
import Derived.Test.YtgelgbfnioagbaaGc
/- Gd -/
namespace Go.Proofs.Ytgelgbfnioagbaa.Cd
open Go.RowKit
theorem bitsOf_rep (x : Bool) (n : Nat) : bitsOf n (x.toNat * (2 ^ n - 1)) = List.replicate n x := by
  have h : num (List.replicate n x) = x.toNat * (2 ^ n - 1) := by
    cases x with
    | false => rw [num_rep_false]; simp
    | true => rw [num_rep_true]; simp
  have := bitsOf_num (List.replicate n x)
  rw [h, List.length_replicate] at this
  exact this
theorem pow64 : (2 : Nat) ^ 64 = 18446744073709551616 := by decide
theorem ones_nat (wd : Nat) (h : wd ≤ 64) : 18446744073709551615 / 2 ^ (64 - wd) = 2 ^ wd - 1 := by
  have e : 2 ^ (64 - wd) * 2 ^ wd = 18446744073709551616 := by rw [← Nat.pow_add, show 64 - wd + wd = 64 by omega, pow64]
  have ha : 0 < 2 ^ (64 - wd) := Nat.pow_pos (by omega)
  have hb : 0 < 2 ^ wd := Nat.pow_pos (by omega)
  generalize 2 ^ (64 - wd) = a at e ha
  generalize 2 ^ wd = b at e hb
  obtain ⟨c, rfl⟩ : ∃ c, b = c + 1 := ⟨b - 1, by omega⟩
  rw [Nat.mul_add, Nat.mul_one] at e
  rw [Nat.add_sub_cancel]
  refine Nat.div_eq_of_lt_le ?_ ?_
  · rw [Nat.mul_comm]; omega
  · rw [Nat.add_mul, Nat.mul_comm c, Nat.one_mul]; omega
theorem ones_int (wd t : Nat) (h : wd ≤ 64) (ht : t ≤ 1) : IntKind.u64.wrap ((t : Int) * (18446744073709551615 / 2 ^ (64 - wd))) = ((t * (2 ^ wd - 1) : Nat) : Int) := by
  have e2 : (18446744073709551615 : Int) / 2 ^ (64 - wd) = ((2 ^ wd - 1 : Nat) : Int) := by rw [← ones_nat wd h]; simp
  have hb : 2 ^ wd ≤ 2 ^ 64 := Nat.pow_le_pow_right (by omega) h
  rw [pow64] at hb
  rw [e2]
  rcases (show t = 0 ∨ t = 1 by omega) with rfl | rfl
  · simp; rfl
  · rw [Nat.one_mul, Int.natCast_one, Int.one_mul]
    exact IntWalk.u64_in _ (by omega)
/-- a piece of its own -/
def PcP (w : World) (l : List Bool) (n8 L : Nat) (e : Ending) (w' : World) : Prop :=
  ∃ g, e = .returned (.tuple #[.agg #[.slice (some ⟨g, 0, none⟩) n8 n8, .int .i64 (L : Int)], .int .i64 0]) ∧ w.heap.size ≤ g ∧ Blk w' g 5 (bcells (pack l)) ∧ Below w.heap.size w w'
theorem put_piece (x : Bool) (t wd n8 : Nat) (xi : Int) (w : World) (ht : t = x.toNat) (hw : wd ≤ 64) (hx : xi = ((t * (2 ^ wd - 1) : Nat) : Int)) (hn8 : n8 = (pack (List.replicate wd x)).length) :
    Calls Try.prog 89 #[.agg #[.slice none 0 0, .int .i64 0], .int .u64 xi, .int .i64 (wd : Int)] w (PcP w (List.replicate wd x) n8 wd) := by
  subst ht hx hn8
  refine (put_any _ [] (x.toNat * (2 ^ wd - 1)) wd w (IsB.nil_ w) hw ?_).mono ?_
  · have : 0 < 2 ^ wd := Nat.pow_pos (by omega)
    cases x <;> simp <;> omega
  · rintro e w' ⟨A, n, c, N, er, rfl, hb, h⟩
    rw [List.nil_append, bitsOf_rep] at h
    rcases h with ⟨_, rfl, g, hv, hg, hk, hl⟩ | ⟨h, _⟩
    · refine ⟨g, ?_, hg, hk, hb⟩
      rw [hv, List.length_replicate]
    · rw [List.length_replicate] at h; omega
theorem bits_rep (x : Bool) (wd n8 : Nat) (A : Option Addr) (c : Nat) : It.bits ⟨A, n8, c, (wd : Int), pack (List.replicate wd x)⟩ = List.replicate wd x := by
  unfold It.bits
  have := bitsIn_pack (List.replicate wd x)
  rw [List.length_replicate] at this
  exact this
theorem lay_push {w0 : Bs} {w3 w5 : World} {p g k cap low high wait M j : Nat} {xs : List It} {out : List Bool} {g' cap' : Nat} {o : Obj} (x : Bool) (wd n8 gp : Nat)
    (hx3 : WSx w0 p g k cap xs low high wait M (out ++ List.replicate j x) w3) (hxa : WSx w0 p g k cap xs low high wait M (out ++ List.replicate j x) (w3.alloc o).drew) (h13 : Below w0.w.heap.size w0.w w3) (hP : Blk w3 gp 5 (bcells (pack (List.replicate wd x)))) (hn8 : n8 = (pack (List.replicate wd x)).length) (hG : gp ≠ p ∧ gp ≠ g) (hw : wd ≤ 64) (hw1 : 1 ≤ wd)
    (ho : w5.ownsRow w0.w.heap.size 25 2 (.slice (some ⟨g', 0, none⟩) (k + 1) cap') (k + 1) (itCells xs ++ [.slice (some ⟨gp, 0, none⟩) n8 n8, .int .i64 (wd : Int)])) (hgr : (w3.alloc o).drew.grownBy w5 (Value.slice (some ⟨g, 0, none⟩) k cap).ownBlock) (hat : (Value.slice (some ⟨g, 0, none⟩) k cap).ownBlock = some g' ∨ g' = w3.heap.size + 1) :
    WSm w0 p low high wait M (out ++ List.replicate (j + wd) x) (w5.setCell ⟨p, 3, none⟩ (.slice (some ⟨g', 0, none⟩) (k + 1) cap')) := by
  have hb := bits_rep x wd n8 (some ⟨gp, 0, none⟩) n8
  have hr : Rd (w3.alloc o).drew (some ⟨gp, 0, none⟩) n8 (pack (List.replicate wd x)) := by
    rw [hn8]; exact Rd.of_blk (hP.alloc o).drew (pack_lt _)
  have hpush := hxa.push (w' := w5) (g' := g') (cap' := cap') ⟨some ⟨gp, 0, none⟩, n8, n8, (wd : Int), pack (List.replicate wd x)⟩ hr
    (by have := okB_pack (List.replicate wd x) (by rw [List.length_replicate]; omega); rw [List.length_replicate] at this; exact this)
    (by intro ad e _; injection e with e; rw [← e]; exact hG.1) (by intro ad e _; injection e with e; rw [← e]; exact hG.2) (by rw [hb, List.length_replicate]; exact hw1) ho hgr
    (by rcases hat with e | e
        · left; simpa [Value.ownBlock] using e
        · right; rw [e]; simp)
  rw [hb] at hpush
  have hbel : Below w0.w.heap.size w0.w w5 := (Below.drew (h13.alloc h13.size o)).grown hgr (by have := h13.size; simp; omega) (fun k hk => by
    have : g = k := by simpa [Value.ownBlock] using hk
    rw [← this]; exact hx3.hg)
  have hs : Below w0.w.heap.size w0.w (w5.setCell ⟨p, 3, none⟩ (.slice (some ⟨g', 0, none⟩) (k + 1) cap')) := hbel.setCell (p := ⟨p, 3, none⟩) hx3.hp _
  rw [← List.replicate_append_replicate, ← List.append_assoc]
  exact ⟨hs, g', k + 1, cap', _, hpush⟩
theorem info_bits : (Try.prog.info? 25).map (fun i => (i.zero, i.size, i.bytes)) = some (some (.agg #[.slice none 0 0, .int .i64 0]), 2, 32) := by kernel_rfl
set_option maxRecDepth 100000 in
set_option maxHeartbeats 2000000 in
theorem lay_w (w0 : Bs) (p low high wait N n M : Nat) (x : Bool) (t : Nat) (out out2 : List Bool) (w : World) (h : Hid (WSm w0 p low high wait N out w)) (ht : Hid (t = x.toNat)) (ht1 : t ≤ 1) (hn : n ≤ 100000) (ho : out.length ≤ 200000) (hN : N ≤ 300000) (hM : Hid (M = N + n)) (ho2 : Hid (out2 = out ++ List.replicate n x)) :
    Calls Try.prog 82 #[.pointer (some ⟨p, 0, none⟩), .int .u64 (t : Int), .int .i64 (n : Int)] w fun e w' => e = .returned (.tuple #[]) ∧ WSm w0 p low high wait M out2 w' := by
  obtain ⟨i0, hi0, hz0, hz1, hz2⟩ := info_parts info_bits
  obtain ⟨c4, f4⟩ := h.out.n_
  have eM : (N : Int) + (n : Int) = (M : Int) := by have := hM.out; omega
  go_enter Try.func82, Try.ntmps82
  go_wp2_with fail
  clear c4 f4 eM
  have HS := Lib.hid (h.out.setN M)
  generalize w.setCell ⟨p, 4, none⟩ (.int .i64 (M : Int)) = w1 at HS ⊢
  go_loopw [2] (fun vn wr => ∃ (r j : Nat), vn = .int .i64 (r : Int) ∧ r ≤ 100000 ∧ Hid (r + j = n ∧ WSm w0 p low high wait M (out ++ List.replicate j x) wr)) (fun vn _ => (intOf vn).toNat)
  case atStart => exact ⟨n, 0, rfl, hn, Lib.hid ⟨rfl, by simpa using HS.out⟩⟩
  case round =>
    obtain ⟨r, j, rfl, hr, HZ⟩ := hrel
    clear HS
    by_cases hgo : 0 < r
    · have d1 : decide ((0 : Int) < (r : Int)) = true := by simp; omega
      obtain ⟨wd, hwd⟩ : ∃ wd, wd = min r 64 := ⟨_, rfl⟩
      have em : min (r : Int) 64 = (wd : Int) := by omega
      have w1' : wd ≤ 64 := by omega
      have w2' : 1 ≤ wd := by omega
      have w3' : wd ≤ r := by omega
      obtain ⟨n8, hn8⟩ : ∃ n8, n8 = (pack (List.replicate wd x)).length := ⟨_, rfl⟩
      have HN8 := Lib.hid hn8
      clear hwd hn8
      go_wp2_with fail
      with_reducible refine (put_piece x t wd n8 _ wr ht.out w1' ?hx HN8.out).mono ?_
      case hx => exact ones_int wd t w1' ht1
      rintro e w2 ⟨gp, rfl, hgp, hkp, hb2⟩
      obtain ⟨h1, g, k, cap, xs, h2⟩ := HZ.out.2
      have HX := Lib.hid (h2.next hb2)
      have H1 := Lib.hid (h1.trans (hb2.mono h1.size))
      have HP := Lib.hid hkp
      have HG := Lib.hid (show gp ≠ p ∧ gp ≠ g from ⟨by have := h2.blk.lt; omega, by have := (World.ownsRow.lt h2.own g rfl).2; omega⟩)
      have HRJ := Lib.hid HZ.out.1
      clear hgp hkp hb2 h1 h2 HZ em
      go_wp2_with fail
      have HX3 := Lib.hid (HX.out.next ((Below.refl w2.heap.size w2).alloc (Nat.le_refl _) (.cells #[.slice (some ⟨gp, 0, none⟩) n8 n8, .int .i64 (wd : Int)] 25)))
      have H13 := Lib.hid (H1.out.alloc H1.out.size (.cells #[.slice (some ⟨gp, 0, none⟩) n8 n8, .int .i64 (wd : Int)] 25))
      have HP3 := Lib.hid (HP.out.alloc (.cells #[.slice (some ⟨gp, 0, none⟩) n8 n8, .int .i64 (wd : Int)] 25))
      have HB3 := Lib.hid (Blk.new w2 25 #[.slice (some ⟨gp, 0, none⟩) n8 n8, .int .i64 (wd : Int)])
      have bg : g < w2.heap.size := (World.ownsRow.lt HX.out.own g rfl).2
      obtain ⟨bx, hbx⟩ : ∃ bx, bx = w2.heap.size := ⟨_, rfl⟩
      rw [← hbx] at HB3 bg ⊢
      generalize w2.alloc (.cells #[.slice (some ⟨gp, 0, none⟩) n8 n8, .int .i64 (wd : Int)] 25) = w3 at HX3 H13 HP3 HB3 ⊢
      clear HX H1 HP hbx
      obtain ⟨-, -, -, c3, -⟩ := HX3.out.five
      have f3 := HX3.out.frz 3
      have b0 := HB3.out.cell 0
      have b1 := HB3.out.cell 1
      have lp : p < w3.heap.size := HX3.out.blk.lt
      have lx : bx < w3.heap.size := HB3.out.lt
      have ag : (Value.slice (some ⟨g, 0, none⟩) k cap).ownBlock ≠ some p := by simp [Value.ownBlock]; exact HX3.out.ne
      have ax : (Value.slice (some ⟨g, 0, none⟩) k cap).ownBlock ≠ some bx := by simp [Value.ownBlock]; omega
      have hk63 : k + 1 ≤ 400000 := by
        have h1 := HX3.out.few
        have h2 := HRJ.out
        rw [List.length_append, List.length_replicate] at h1
        omega
      have hnews := Lib.hid (World.news_of_block (cs := #[.slice (some ⟨gp, 0, none⟩) n8 n8, .int .i64 (wd : Int)]) (t := 25) (fr := (0, 0)) (heap_alloc_new w3 _))
      have HBA := Lib.hid (show w0.w.heap.size ≤ (w3.alloc (.cells #[.slice (some ⟨gp, 0, none⟩) n8 n8, .int .i64 (wd : Int)] 25)).drew.heap.size from by have := H13.out.size; simp; omega)
      have HXA := Lib.hid (HX3.out.next ((Below.refl w3.heap.size w3).alloc (Nat.le_refl _) (.cells #[.slice (some ⟨gp, 0, none⟩) n8 n8, .int .i64 (wd : Int)] 25))).drew
      have HBX := Lib.hid (HB3.out.alloc (.cells #[.slice (some ⟨gp, 0, none⟩) n8 n8, .int .i64 (wd : Int)] 25)).drew
      have SA := Lib.hid (show (w3.alloc (.cells #[.slice (some ⟨gp, 0, none⟩) n8 n8, .int .i64 (wd : Int)] 25)).drew.cell? ⟨p, 3, none⟩ = some (.slice (some ⟨g, 0, none⟩) k cap) ∧ (w3.alloc (.cells #[.slice (some ⟨gp, 0, none⟩) n8 n8, .int .i64 (wd : Int)] 25)).drew.cell? ⟨bx, 0, none⟩ = some (.slice (some ⟨gp, 0, none⟩) n8 n8) ∧ (w3.alloc (.cells #[.slice (some ⟨gp, 0, none⟩) n8 n8, .int .i64 (wd : Int)] 25)).drew.cell? ⟨bx, 1, none⟩ = some (.int .i64 (wd : Int)) ∧ (w3.alloc (.cells #[.slice (some ⟨gp, 0, none⟩) n8 n8, .int .i64 (wd : Int)] 25)).drew.frozen? ⟨p, 3, none⟩ = false from ⟨HXA.out.five.2.2.2.1, HBX.out.cell 0, HBX.out.cell 1, HXA.out.frz 3⟩)
      go_region_law
        ((refine step_append_lies _ (by rfl) _ _ _ (by rfl) w0.w.heap.size 25 i0 _ 2 32 Try.underlying95 hi0 hz0 hz1 hz2 rfl (by omega) (.slice (some ⟨g, 0, none⟩) k cap) k (itCells xs) (by rfl) ((HX3.out.own.alloc _).drew)
            ⟨w3.heap.size, 0, none⟩ 1 1 [.slice (some ⟨gp, 0, none⟩) n8 n8, .int .i64 (wd : Int)] (by rfl) (by rfl) hnews.out (by simp [Value.oneCell'])
            (by omega) (by unfold maxLen; omega) (by omega) HBA.out (w3.heap.size + 1) (by simp) ?_; intro g' cap' w5 hown1 hgrow hat hlt; have f5 : w5.frozen? ⟨p, 3, none⟩ = false := (hgrow.frozen_far _ (by simp; omega) (Ne.symm ag)).trans SA.out.2.2.2; have f6 : (w5.cell? ⟨p, 3, none⟩) = some (.slice (some ⟨g, 0, none⟩) k cap) := (hgrow.cell_far _ (by simp; omega) (Ne.symm ag)).trans SA.out.1))
      all_goals
        have HO1 := Lib.hid hown1
        have HG1 := Lib.hid hgrow
        have HA1 := Lib.hid hat
        clear hown1 hgrow hat
        go_wp2
        refine ⟨⟨r - wd, j + wd, by congr 1; omega, by omega, Lib.hid ⟨by have := HRJ.out; omega, ?_⟩⟩, by simp [intOf]; omega⟩
        exact lay_push x wd n8 gp HX3.out HXA.out H13.out HP3.out HN8.out HG.out w1' w2' HO1.out HG1.out HA1.out
    · have hr0 : r = 0 := by omega
      have HE := Lib.hid (show j = n by have := HZ.out.1; omega)
      have d1 : decide ((0 : Int) < (r : Int)) = false := by simp; omega
      go_wp2
      go_end0
      exact ⟨rfl, by rw [ho2.out, ← HE.out]; exact HZ.out.2⟩
end Go.Proofs.Ytgelgbfnioagbaa.Cd
