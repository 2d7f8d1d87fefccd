/-
  Own texts, laid together: Ss.
-/
import Derived.Test.YtcddfmeehehjgaaSn
import Derived.Test.YtcddfmeehehjgaaSp
import Derived.Test.YtcddfmeehehjgaaSt
/- Ss -/
namespace Go.Proofs.Ytcddfmeehehjgaa.Fx
open Go.RowKit
theorem pclip_any (A : Option Addr) (n c : Nat) (zs : List Int) (w : World) (hr : Hid (Fq.RdI w A n zs)) : Calls Try.prog 11 #[.slice A n c] w (ClP w zs) := by
  by_cases h : n = 16
  · subst h; exact pclip_ok A c zs w hr
  · exact pclip_not A n c zs w h hr
theorem rclip_any (A : Option Addr) (n c : Nat) (zs : List Int) (w : World) (hr : Hid (Fq.RdI w A n zs)) : Calls Try.prog 12 #[.slice A n c] w (ClP w zs) := by
  by_cases h : n = 16
  · subst h; exact rclip_ok A c zs w hr
  · exact rclip_not A n c zs w h hr
theorem clipV_some (zs : List Int) : ∃ b0 b1 b2 b3 b4 b5 b6 b7 b8 b9 b10 b11 b12 b13 b14 b15 er : Int, clipV zs = .tuple #[.agg #[.int .i64 b0, .int .i64 b1, .int .i64 b2, .int .i64 b3, .int .i64 b4, .int .i64 b5, .int .i64 b6, .int .i64 b7, .int .i64 b8, .int .i64 b9, .int .i64 b10, .int .i64 b11, .int .i64 b12, .int .i64 b13, .int .i64 b14, .int .i64 b15], .int .i64 er] := by
  unfold clipV
  split
  · rename_i h
    obtain ⟨b0, b1, b2, b3, b4, b5, b6, b7, b8, b9, b10, b11, b12, b13, b14, b15, hb⟩ := list16 (l := zs.map fun v => satI v 16) (by rw [List.length_map, h])
    rw [hb]
    exact ⟨b0, b1, b2, b3, b4, b5, b6, b7, b8, b9, b10, b11, b12, b13, b14, b15, 0, rfl⟩
  · exact ⟨0, 0, 0, 0, 0, 0, 0, 0, 0, 0, 0, 0, 0, 0, 0, 0, 1, rfl⟩
set_option maxRecDepth 100000 in
set_option maxHeartbeats 8000000 in
theorem sats_law (v b : Int) (A : Option Addr) (n c : Nat) (zs : List Int) (w : World) (hn : n ≤ maxLen) (hr : Hid (Fq.RdI w A n zs)) :
    Calls Try.prog 3 #[.int .i64 v, .int .i64 b, .slice A n c] w fun e w' => e = .returned (.bool true) ∧ Below w.heap.size w w' := by
  have hn' : n ≤ 9223372036854775807 := by unfold maxLen at hn; exact hn
  clear hn
  by_cases h1000 : n ≤ 1000
  · have hd : decide ((1000 : Int) < (n : Int)) = false := by simp; omega
    obtain ⟨b0, b1, b2, b3, b4, b5, b6, b7, b8, b9, b10, b11, b12, b13, b14, b15, er, hcv⟩ := clipV_some zs
    have HCV := Lib.hid hcv
    obtain ⟨S, hS⟩ : ∃ S, satI v b = S := ⟨_, rfl⟩
    have HS := Lib.hid hS
    obtain ⟨T, hT⟩ : ∃ T, addI b zs = T := ⟨_, rfl⟩
    have HT := Lib.hid hT
    clear hcv hS hT
    go_enter Try.func3, Try.ntmps3
    go_wp2_with fail
    refine (live_any _).mono ?_
    rintro e w1 ⟨rfl, hb1⟩
    have H1 := Lib.hid hb1
    clear hb1
    go_wp2_with fail
    refine (pclip_any A n c zs _ (Lib.hid (hr.out.below H1.out))).mono ?_
    rintro e w2 ⟨rfl, hb2⟩
    have H2 := Lib.hid (H1.out.trans (hb2.mono H1.out.size))
    clear hb2 H1
    rw [HCV.out]
    go_wp2_with fail
    have K3 := Lib.hid (show Blk (w2.alloc (.cells #[Value.int IntKind.i64 b0, Value.int IntKind.i64 b1, Value.int IntKind.i64 b2, Value.int IntKind.i64 b3, Value.int IntKind.i64 b4, Value.int IntKind.i64 b5, Value.int IntKind.i64 b6, Value.int IntKind.i64 b7, Value.int IntKind.i64 b8, Value.int IntKind.i64 b9, Value.int IntKind.i64 b10, Value.int IntKind.i64 b11, Value.int IntKind.i64 b12, Value.int IntKind.i64 b13, Value.int IntKind.i64 b14, Value.int IntKind.i64 b15] 25)) w2.heap.size 25 (Fq.icells [b0, b1, b2, b3, b4, b5, b6, b7, b8, b9, b10, b11, b12, b13, b14, b15]) from Blk.new w2 _ _)
    have H3 := Lib.hid (show Below w.heap.size w (w2.alloc (.cells #[Value.int IntKind.i64 b0, Value.int IntKind.i64 b1, Value.int IntKind.i64 b2, Value.int IntKind.i64 b3, Value.int IntKind.i64 b4, Value.int IntKind.i64 b5, Value.int IntKind.i64 b6, Value.int IntKind.i64 b7, Value.int IntKind.i64 b8, Value.int IntKind.i64 b9, Value.int IntKind.i64 b10, Value.int IntKind.i64 b11, Value.int IntKind.i64 b12, Value.int IntKind.i64 b13, Value.int IntKind.i64 b14, Value.int IntKind.i64 b15] 25)) from H2.out.alloc H2.out.size _)
    generalize w2.alloc _ = w3 at K3 H3 ⊢
    generalize w2.heap.size = g at K3 ⊢
    clear H2
    refine (rclip_any A n c zs _ (Lib.hid (hr.out.below H3.out))).mono ?_
    rintro e w4 ⟨rfl, hb4⟩
    have H4 := Lib.hid (H3.out.trans (hb4.mono H3.out.size))
    have K4 := Lib.hid (K3.out.below hb4 K3.out.lt)
    clear hb4 H3 K3
    rw [HCV.out]
    go_wp2_with fail
    have K5 := Lib.hid (show Blk (w4.alloc (.cells #[Value.int IntKind.i64 b0, Value.int IntKind.i64 b1, Value.int IntKind.i64 b2, Value.int IntKind.i64 b3, Value.int IntKind.i64 b4, Value.int IntKind.i64 b5, Value.int IntKind.i64 b6, Value.int IntKind.i64 b7, Value.int IntKind.i64 b8, Value.int IntKind.i64 b9, Value.int IntKind.i64 b10, Value.int IntKind.i64 b11, Value.int IntKind.i64 b12, Value.int IntKind.i64 b13, Value.int IntKind.i64 b14, Value.int IntKind.i64 b15] 25)) w4.heap.size 25 (Fq.icells [b0, b1, b2, b3, b4, b5, b6, b7, b8, b9, b10, b11, b12, b13, b14, b15]) from Blk.new w4 _ _)
    have K6 := Lib.hid (show Blk (w4.alloc (.cells #[Value.int IntKind.i64 b0, Value.int IntKind.i64 b1, Value.int IntKind.i64 b2, Value.int IntKind.i64 b3, Value.int IntKind.i64 b4, Value.int IntKind.i64 b5, Value.int IntKind.i64 b6, Value.int IntKind.i64 b7, Value.int IntKind.i64 b8, Value.int IntKind.i64 b9, Value.int IntKind.i64 b10, Value.int IntKind.i64 b11, Value.int IntKind.i64 b12, Value.int IntKind.i64 b13, Value.int IntKind.i64 b14, Value.int IntKind.i64 b15] 25)) g 25 (Fq.icells [b0, b1, b2, b3, b4, b5, b6, b7, b8, b9, b10, b11, b12, b13, b14, b15]) from K4.out.alloc _)
    have H5 := Lib.hid (show Below w.heap.size w (w4.alloc (.cells #[Value.int IntKind.i64 b0, Value.int IntKind.i64 b1, Value.int IntKind.i64 b2, Value.int IntKind.i64 b3, Value.int IntKind.i64 b4, Value.int IntKind.i64 b5, Value.int IntKind.i64 b6, Value.int IntKind.i64 b7, Value.int IntKind.i64 b8, Value.int IntKind.i64 b9, Value.int IntKind.i64 b10, Value.int IntKind.i64 b11, Value.int IntKind.i64 b12, Value.int IntKind.i64 b13, Value.int IntKind.i64 b14, Value.int IntKind.i64 b15] 25)) from H4.out.alloc H4.out.size _)
    generalize w4.alloc _ = w5 at K5 K6 H5 ⊢
    generalize w4.heap.size = g5 at K5 ⊢
    clear H4 K4 HCV
    refine (sat_any v b _).mono ?_
    rintro e w' ⟨rfl, rfl⟩
    rw [HS.out]
    go_wp2_with fail
    refine (rsat_any v b _).mono ?_
    rintro e w' ⟨rfl, rfl⟩
    rw [HS.out]
    go_wp2_with fail
    refine (add_any b A n c zs _ (by omega) (Lib.hid (hr.out.below H5.out))).mono ?_
    rintro e w' ⟨rfl, rfl⟩
    rw [HT.out]
    go_wp2_with fail
    refine (radd_any b A n c zs _ (by omega) (Lib.hid (hr.out.below H5.out))).mono ?_
    rintro e w' ⟨rfl, rfl⟩
    rw [HT.out]
    obtain ⟨x0, x1, x2, x3, x4, x5, x6, x7, x8, x9, x10, x11, x12, x13, x14, x15⟩ := blk16 K6.out
    obtain ⟨y0, y1, y2, y3, y4, y5, y6, y7, y8, y9, y10, y11, y12, y13, y14, y15⟩ := blk16 K5.out
    have heq := fun w => same_pcm b0 b1 b2 b3 b4 b5 b6 b7 b8 b9 b10 b11 b12 b13 b14 b15 w
    go_wp2
    go_ret
    exact ⟨rfl, H5.out⟩
  · have hd : decide ((1000 : Int) < (n : Int)) = true := by simp; omega
    go_enter Try.func3, Try.ntmps3
    go_wp2_with fail
    refine (live_any _).mono ?_
    rintro e w1 ⟨rfl, hb1⟩
    have H1 := Lib.hid hb1
    clear hb1
    go_wp2
    go_ret
    exact ⟨rfl, H1.out⟩
end Go.Proofs.Ytcddfmeehehjgaa.Fx
