/-
  Own texts, laid together: So.
-/
import Derived.Test.YtcddfmeehehjgaaSi
/- So -/
namespace Go.Proofs.Ytcddfmeehehjgaa.Fx
open Go.RowKit
theorem list16 {l : List Int} (h : l.length = 16) : ∃ b0 b1 b2 b3 b4 b5 b6 b7 b8 b9 b10 b11 b12 b13 b14 b15, l = [b0, b1, b2, b3, b4, b5, b6, b7, b8, b9, b10, b11, b12, b13, b14, b15] := by
  match l, h with
  | [b0, b1, b2, b3, b4, b5, b6, b7, b8, b9, b10, b11, b12, b13, b14, b15], _ => exact ⟨b0, b1, b2, b3, b4, b5, b6, b7, b8, b9, b10, b11, b12, b13, b14, b15, rfl⟩
theorem blk16 {w : World} {g : Nat} {t : TypeId} {b0 b1 b2 b3 b4 b5 b6 b7 b8 b9 b10 b11 b12 b13 b14 b15 : Int} (h : Blk w g t (Fq.icells [b0, b1, b2, b3, b4, b5, b6, b7, b8, b9, b10, b11, b12, b13, b14, b15])) :
    w.cell? ⟨g, 0, none⟩ = some (.int .i64 b0) ∧ w.cell? ⟨g, 1, none⟩ = some (.int .i64 b1) ∧ w.cell? ⟨g, 2, none⟩ = some (.int .i64 b2) ∧ w.cell? ⟨g, 3, none⟩ = some (.int .i64 b3) ∧ w.cell? ⟨g, 4, none⟩ = some (.int .i64 b4) ∧ w.cell? ⟨g, 5, none⟩ = some (.int .i64 b5) ∧ w.cell? ⟨g, 6, none⟩ = some (.int .i64 b6) ∧ w.cell? ⟨g, 7, none⟩ = some (.int .i64 b7) ∧ w.cell? ⟨g, 8, none⟩ = some (.int .i64 b8) ∧ w.cell? ⟨g, 9, none⟩ = some (.int .i64 b9) ∧ w.cell? ⟨g, 10, none⟩ = some (.int .i64 b10) ∧ w.cell? ⟨g, 11, none⟩ = some (.int .i64 b11) ∧ w.cell? ⟨g, 12, none⟩ = some (.int .i64 b12) ∧ w.cell? ⟨g, 13, none⟩ = some (.int .i64 b13) ∧ w.cell? ⟨g, 14, none⟩ = some (.int .i64 b14) ∧ w.cell? ⟨g, 15, none⟩ = some (.int .i64 b15) :=
  ⟨h.cell 0, h.cell 1, h.cell 2, h.cell 3, h.cell 4, h.cell 5, h.cell 6, h.cell 7, h.cell 8, h.cell 9, h.cell 10, h.cell 11, h.cell 12, h.cell 13, h.cell 14, h.cell 15⟩
theorem fz16 {w : World} {g : Nat} {t : TypeId} {c : Array Value} (h : Blk w g t c) :
    w.frozen? ⟨g, 0, none⟩ = false ∧ w.frozen? ⟨g, 1, none⟩ = false ∧ w.frozen? ⟨g, 2, none⟩ = false ∧ w.frozen? ⟨g, 3, none⟩ = false ∧ w.frozen? ⟨g, 4, none⟩ = false ∧ w.frozen? ⟨g, 5, none⟩ = false ∧ w.frozen? ⟨g, 6, none⟩ = false ∧ w.frozen? ⟨g, 7, none⟩ = false ∧ w.frozen? ⟨g, 8, none⟩ = false ∧ w.frozen? ⟨g, 9, none⟩ = false ∧ w.frozen? ⟨g, 10, none⟩ = false ∧ w.frozen? ⟨g, 11, none⟩ = false ∧ w.frozen? ⟨g, 12, none⟩ = false ∧ w.frozen? ⟨g, 13, none⟩ = false ∧ w.frozen? ⟨g, 14, none⟩ = false ∧ w.frozen? ⟨g, 15, none⟩ = false :=
  ⟨h.frozen 0, h.frozen 1, h.frozen 2, h.frozen 3, h.frozen 4, h.frozen 5, h.frozen 6, h.frozen 7, h.frozen 8, h.frozen 9, h.frozen 10, h.frozen 11, h.frozen 12, h.frozen 13, h.frozen 14, h.frozen 15⟩
theorem put16 {w0 w : World} {B g : Nat} {t : TypeId} {z0 z1 z2 z3 z4 z5 z6 z7 z8 z9 z10 z11 z12 z13 z14 z15 : Int} (b0 b1 b2 b3 b4 b5 b6 b7 b8 b9 b10 b11 b12 b13 b14 b15 : Int) (h : Blk w g t (Fq.icells [z0, z1, z2, z3, z4, z5, z6, z7, z8, z9, z10, z11, z12, z13, z14, z15])) (hb : Below B w0 w) (hg : B ≤ g) :
    Blk ((((((((((((((((w.setCell ⟨g, 0, none⟩ (.int .i64 b0)).setCell ⟨g, 1, none⟩ (.int .i64 b1)).setCell ⟨g, 2, none⟩ (.int .i64 b2)).setCell ⟨g, 3, none⟩ (.int .i64 b3)).setCell ⟨g, 4, none⟩ (.int .i64 b4)).setCell ⟨g, 5, none⟩ (.int .i64 b5)).setCell ⟨g, 6, none⟩ (.int .i64 b6)).setCell ⟨g, 7, none⟩ (.int .i64 b7)).setCell ⟨g, 8, none⟩ (.int .i64 b8)).setCell ⟨g, 9, none⟩ (.int .i64 b9)).setCell ⟨g, 10, none⟩ (.int .i64 b10)).setCell ⟨g, 11, none⟩ (.int .i64 b11)).setCell ⟨g, 12, none⟩ (.int .i64 b12)).setCell ⟨g, 13, none⟩ (.int .i64 b13)).setCell ⟨g, 14, none⟩ (.int .i64 b14)).setCell ⟨g, 15, none⟩ (.int .i64 b15)) g t (Fq.icells [b0, b1, b2, b3, b4, b5, b6, b7, b8, b9, b10, b11, b12, b13, b14, b15]) ∧
    Below B w0 ((((((((((((((((w.setCell ⟨g, 0, none⟩ (.int .i64 b0)).setCell ⟨g, 1, none⟩ (.int .i64 b1)).setCell ⟨g, 2, none⟩ (.int .i64 b2)).setCell ⟨g, 3, none⟩ (.int .i64 b3)).setCell ⟨g, 4, none⟩ (.int .i64 b4)).setCell ⟨g, 5, none⟩ (.int .i64 b5)).setCell ⟨g, 6, none⟩ (.int .i64 b6)).setCell ⟨g, 7, none⟩ (.int .i64 b7)).setCell ⟨g, 8, none⟩ (.int .i64 b8)).setCell ⟨g, 9, none⟩ (.int .i64 b9)).setCell ⟨g, 10, none⟩ (.int .i64 b10)).setCell ⟨g, 11, none⟩ (.int .i64 b11)).setCell ⟨g, 12, none⟩ (.int .i64 b12)).setCell ⟨g, 13, none⟩ (.int .i64 b13)).setCell ⟨g, 14, none⟩ (.int .i64 b14)).setCell ⟨g, 15, none⟩ (.int .i64 b15)) :=
  ⟨(Fq.blk_put (Fq.blk_put (Fq.blk_put (Fq.blk_put (Fq.blk_put (Fq.blk_put (Fq.blk_put (Fq.blk_put (Fq.blk_put (Fq.blk_put (Fq.blk_put (Fq.blk_put (Fq.blk_put (Fq.blk_put (Fq.blk_put (Fq.blk_put h 0 b0) 1 b1) 2 b2) 3 b3) 4 b4) 5 b5) 6 b6) 7 b7) 8 b8) 9 b9) 10 b10) 11 b11) 12 b12) 13 b13) 14 b14) 15 b15), ((((((((((((((((hb.setCell hg _).setCell hg _).setCell hg _).setCell hg _).setCell hg _).setCell hg _).setCell hg _).setCell hg _).setCell hg _).setCell hg _).setCell hg _).setCell hg _).setCell hg _).setCell hg _).setCell hg _).setCell hg _)⟩
/-- the samples so far: k of them clipped, zeros behind -/
def clipL (zs : List Int) (k : Nat) : List Int := (zs.take k).map (fun v => satI v 16) ++ List.replicate (16 - k) 0
theorem clipL_length {zs : List Int} (h : zs.length = 16) {k : Nat} (hk : k ≤ 16) : (clipL zs k).length = 16 := by simp [clipL]; omega
theorem clipL_set {zs : List Int} (h : zs.length = 16) {k : Nat} (hk : k < 16) : (clipL zs k).set k (satI (zs.getD k 0) 16) = clipL zs (k + 1) := by
  unfold clipL
  rw [Fq.take_snocI zs k (by omega), List.map_append, List.set_append_right _ _ (by simp; omega)]
  rw [show k - (List.map (fun v => satI v 16) (zs.take k)).length = 0 by simp; omega]
  rw [show 16 - k = (16 - (k + 1)) + 1 by omega, List.replicate_succ, List.set_cons_zero, List.append_assoc]
  rfl
theorem clipL_all {zs : List Int} (h : zs.length = 16) : clipL zs 16 = zs.map (fun v => satI v 16) := by
  unfold clipL; rw [List.take_of_length_le (by omega)]; simp
def clipV (zs : List Int) : Value :=
  if zs.length = 16 then .tuple #[.agg (Fq.icells (zs.map fun v => satI v 16)), .int .i64 0] else .tuple #[.agg (Fq.icells (List.replicate 16 0)), .int .i64 1]
/-- what Clip keeps -/
def ClS (w : World) (g : Nat) (qs : List Int) (wr : World) : Prop := Blk wr g 25 (Fq.icells (List.replicate 16 0)) ∧ Blk wr (g + 1) 25 (Fq.icells qs) ∧ Below g w wr
theorem ClS.put {w : World} {g : Nat} {qs : List Int} {wr : World} (h : ClS w g qs wr) (k : Nat) (x : Int) : ClS w g (qs.set k x) (wr.setCell ⟨g + 1, k, none⟩ (.int .i64 x)) :=
  ⟨h.1.far (by simp) _, Fq.blk_put h.2.1 k x, h.2.2.setCell (by simp) _⟩
theorem cls_start (w : World) (c : Array Value) (hc : c = Fq.icells (List.replicate 16 0)) : ClS w w.heap.size (List.replicate 16 0) ((w.alloc (.cells c 25)).alloc (.cells c 25)) := by
  subst hc
  exact ⟨(Blk.new w _ _).alloc _, Blk.newAt (by simp), ((Below.refl _ _).alloc (Nat.le_refl _) _).alloc (by simp) _⟩
def ClP (w : World) (zs : List Int) (e : Ending) (w' : World) : Prop := e = .returned (clipV zs) ∧ Below w.heap.size w w'
set_option maxRecDepth 100000 in
set_option maxHeartbeats 4000000 in
theorem pclip_ok (A : Option Addr) (c : Nat) (zs : List Int) (w : World) (hr : Hid (Fq.RdI w A 16 zs)) :
    Calls Try.prog 11 #[.slice A 16 c] w (ClP w zs) := by
  have HL := Lib.hid hr.out.1
  have H0 := Lib.hid (cls_start w #[Value.int IntKind.i64 0, Value.int IntKind.i64 0, Value.int IntKind.i64 0, Value.int IntKind.i64 0, Value.int IntKind.i64 0, Value.int IntKind.i64 0, Value.int IntKind.i64 0, Value.int IntKind.i64 0, Value.int IntKind.i64 0, Value.int IntKind.i64 0, Value.int IntKind.i64 0, Value.int IntKind.i64 0, Value.int IntKind.i64 0, Value.int IntKind.i64 0, Value.int IntKind.i64 0, Value.int IntKind.i64 0] rfl)
  go_enter Try.func11, Try.ntmps11
  go_wp2_with fail
  generalize (w.alloc _).alloc _ = w0 at H0 ⊢
  obtain ⟨g, hg⟩ : ∃ g, g = w.heap.size := ⟨_, rfl⟩
  rw [← hg] at H0 ⊢
  have HG := Lib.hid hg
  clear hg
  go_loopw [13] (fun vi wr => ∃ k : Nat, vi = .int .i64 (k : Int) ∧ k ≤ 16 ∧ Hid (ClS w g (clipL zs k) wr)) (fun vi _ => 16 - (intOf vi).toNat)
  case atStart => exact ⟨0, rfl, by omega, H0⟩
  case round =>
    obtain ⟨k, rfl, hk, HS⟩ := hrel
    clear H0
    by_cases hlt : k < 16
    · obtain ⟨ad, rfl, hlt2, hcell0⟩ := hr.out.at_ hlt
      have hcell := (HS.out.2.2.cell (p := ad.add k) (by rw [block_of_add, HG.out]; exact hlt2)).trans hcell0
      obtain ⟨x, hx⟩ : ∃ x, zs.getD k 0 = x := ⟨_, rfl⟩
      rw [hx] at hcell
      have HX := Lib.hid hx
      clear hx hcell0 hlt2
      obtain ⟨old, hold⟩ : ∃ old, wr.cell? ⟨g + 1, k, none⟩ = some old := ⟨_, Fq.blk_at HS.out.2.1 (by rw [clipL_length HL.out hk]; exact hlt)⟩
      have hfz := HS.out.2.1.frozen k
      go_wp2_with fail
      refine (sat_any x 16 _).mono ?_
      rintro e w' ⟨rfl, rfl⟩
      generalize hsx : satI x 16 = sx
      have HSX := Lib.hid hsx
      clear hsx hcell
      go_wp2
      clear hold hfz
      go_roundw
      case rel =>
        refine ⟨k + 1, by go_num, by omega, Lib.hid ?_⟩
        have := HS.out.put k sx
        rw [← HSX.out, ← HX.out, clipL_set HL.out hlt, HX.out, HSX.out] at this
        exact this
      case measure => simp [intOf]; omega
    · obtain rfl : k = 16 := by omega
      rw [clipL_all HL.out] at HS
      obtain ⟨b0, b1, b2, b3, b4, b5, b6, b7, b8, b9, b10, b11, b12, b13, b14, b15, hbs⟩ := list16 (l := zs.map fun v => satI v 16) (by rw [List.length_map, HL.out])
      rw [hbs] at HS
      have HBS := Lib.hid hbs
      clear hbs
      obtain ⟨x0, x1, x2, x3, x4, x5, x6, x7, x8, x9, x10, x11, x12, x13, x14, x15⟩ := blk16 HS.out.2.1
      obtain ⟨y0, y1, y2, y3, y4, y5, y6, y7, y8, y9, y10, y11, y12, y13, y14, y15⟩ := blk16 HS.out.1
      obtain ⟨f0, f1, f2, f3, f4, f5, f6, f7, f8, f9, f10, f11, f12, f13, f14, f15⟩ := fz16 HS.out.1
      go_wp2_with fail
      have HW := Lib.hid (put16 b0 b1 b2 b3 b4 b5 b6 b7 b8 b9 b10 b11 b12 b13 b14 b15 HS.out.1 HS.out.2.2 (Nat.le_refl g))
      generalize World.setCell _ _ _ = w9 at HW ⊢
      clear x0 x1 x2 x3 x4 x5 x6 x7 x8 x9 x10 x11 x12 x13 x14 x15 y0 y1 y2 y3 y4 y5 y6 y7 y8 y9 y10 y11 y12 y13 y14 y15 f0 f1 f2 f3 f4 f5 f6 f7 f8 f9 f10 f11 f12 f13 f14 f15
      obtain ⟨x0, x1, x2, x3, x4, x5, x6, x7, x8, x9, x10, x11, x12, x13, x14, x15⟩ := blk16 HW.out.1
      refine bodyPost_ret (v := .tuple #[.agg (Fq.icells [b0, b1, b2, b3, b4, b5, b6, b7, b8, b9, b10, b11, b12, b13, b14, b15]), .int .i64 0]) (by simp [results, Try.results11, go_sem, x0, x1, x2, x3, x4, x5, x6, x7, x8, x9, x10, x11, x12, x13, x14, x15, Fq.icells]) rfl ?_
      refine ⟨?_, by rw [← HG.out]; exact HW.out.2⟩
      unfold clipV
      rw [if_pos HL.out, HBS.out]
set_option maxRecDepth 100000 in
set_option maxHeartbeats 4000000 in
theorem rclip_ok (A : Option Addr) (c : Nat) (zs : List Int) (w : World) (hr : Hid (Fq.RdI w A 16 zs)) :
    Calls Try.prog 12 #[.slice A 16 c] w (ClP w zs) := by
  have HL := Lib.hid hr.out.1
  have H0 := Lib.hid (cls_start w #[Value.int IntKind.i64 0, Value.int IntKind.i64 0, Value.int IntKind.i64 0, Value.int IntKind.i64 0, Value.int IntKind.i64 0, Value.int IntKind.i64 0, Value.int IntKind.i64 0, Value.int IntKind.i64 0, Value.int IntKind.i64 0, Value.int IntKind.i64 0, Value.int IntKind.i64 0, Value.int IntKind.i64 0, Value.int IntKind.i64 0, Value.int IntKind.i64 0, Value.int IntKind.i64 0, Value.int IntKind.i64 0] rfl)
  go_enter Try.func12, Try.ntmps12
  go_wp2_with fail
  generalize (w.alloc _).alloc _ = w0 at H0 ⊢
  obtain ⟨g, hg⟩ : ∃ g, g = w.heap.size := ⟨_, rfl⟩
  rw [← hg] at H0 ⊢
  have HG := Lib.hid hg
  clear hg
  go_loopw [13] (fun vi wr => ∃ k : Nat, vi = .int .i64 (k : Int) ∧ k ≤ 16 ∧ Hid (ClS w g (clipL zs k) wr)) (fun vi _ => 16 - (intOf vi).toNat)
  case atStart => exact ⟨0, rfl, by omega, H0⟩
  case round =>
    obtain ⟨k, rfl, hk, HS⟩ := hrel
    clear H0
    by_cases hlt : k < 16
    · obtain ⟨ad, rfl, hlt2, hcell0⟩ := hr.out.at_ hlt
      have hcell := (HS.out.2.2.cell (p := ad.add k) (by rw [block_of_add, HG.out]; exact hlt2)).trans hcell0
      obtain ⟨x, hx⟩ : ∃ x, zs.getD k 0 = x := ⟨_, rfl⟩
      rw [hx] at hcell
      have HX := Lib.hid hx
      clear hx hcell0 hlt2
      obtain ⟨old, hold⟩ : ∃ old, wr.cell? ⟨g + 1, k, none⟩ = some old := ⟨_, Fq.blk_at HS.out.2.1 (by rw [clipL_length HL.out hk]; exact hlt)⟩
      have hfz := HS.out.2.1.frozen k
      go_wp2_with fail
      refine (rsat_any x 16 _).mono ?_
      rintro e w' ⟨rfl, rfl⟩
      generalize hsx : satI x 16 = sx
      have HSX := Lib.hid hsx
      clear hsx hcell
      go_wp2
      clear hold hfz
      go_roundw
      case rel =>
        refine ⟨k + 1, by go_num, by omega, Lib.hid ?_⟩
        have := HS.out.put k sx
        rw [← HSX.out, ← HX.out, clipL_set HL.out hlt, HX.out, HSX.out] at this
        exact this
      case measure => simp [intOf]; omega
    · obtain rfl : k = 16 := by omega
      rw [clipL_all HL.out] at HS
      obtain ⟨b0, b1, b2, b3, b4, b5, b6, b7, b8, b9, b10, b11, b12, b13, b14, b15, hbs⟩ := list16 (l := zs.map fun v => satI v 16) (by rw [List.length_map, HL.out])
      rw [hbs] at HS
      have HBS := Lib.hid hbs
      clear hbs
      obtain ⟨x0, x1, x2, x3, x4, x5, x6, x7, x8, x9, x10, x11, x12, x13, x14, x15⟩ := blk16 HS.out.2.1
      obtain ⟨y0, y1, y2, y3, y4, y5, y6, y7, y8, y9, y10, y11, y12, y13, y14, y15⟩ := blk16 HS.out.1
      obtain ⟨f0, f1, f2, f3, f4, f5, f6, f7, f8, f9, f10, f11, f12, f13, f14, f15⟩ := fz16 HS.out.1
      go_wp2_with fail
      have HW := Lib.hid (put16 b0 b1 b2 b3 b4 b5 b6 b7 b8 b9 b10 b11 b12 b13 b14 b15 HS.out.1 HS.out.2.2 (Nat.le_refl g))
      generalize World.setCell _ _ _ = w9 at HW ⊢
      clear x0 x1 x2 x3 x4 x5 x6 x7 x8 x9 x10 x11 x12 x13 x14 x15 y0 y1 y2 y3 y4 y5 y6 y7 y8 y9 y10 y11 y12 y13 y14 y15 f0 f1 f2 f3 f4 f5 f6 f7 f8 f9 f10 f11 f12 f13 f14 f15
      obtain ⟨x0, x1, x2, x3, x4, x5, x6, x7, x8, x9, x10, x11, x12, x13, x14, x15⟩ := blk16 HW.out.1
      refine bodyPost_ret (v := .tuple #[.agg (Fq.icells [b0, b1, b2, b3, b4, b5, b6, b7, b8, b9, b10, b11, b12, b13, b14, b15]), .int .i64 0]) (by simp [results, Try.results12, go_sem, x0, x1, x2, x3, x4, x5, x6, x7, x8, x9, x10, x11, x12, x13, x14, x15, Fq.icells]) rfl ?_
      refine ⟨?_, by rw [← HG.out]; exact HW.out.2⟩
      unfold clipV
      rw [if_pos HL.out, HBS.out]
end Go.Proofs.Ytcddfmeehehjgaa.Fx
