/-
  Own texts, laid together: Arm, Math, Mem, Fm.
-/
import Derived.Test.YtffapinabidkiaaProg
import Derived.Lib.BitFns
import Derived.Below
import Derived.Laws.OwnMore
import Derived.Deep.Draws
import Derived.Laws.Rows
import Derived.Deep.AppendLies
set_option linter.unusedSimpArgs false
set_option linter.unusedVariables false
/- Arm -/
namespace Go.Proofs.Ytffapinabidkiaa
/-- what is left, out of a hypothesis' sight -/
structure Arm (r : Prop) : Prop where
  out : r
theorem aNw {r p : Prop} (k : r) (h : Arm r → p := by intro hk; (first | refine wl_box (by rfl) _ _ rfl rfl HM ?_ | refine wl_alloc (by rfl) _ rfl (by exact arrOf) HM ?_); exact hk.out) : p := h ⟨k⟩
theorem aLo {r p : Prop} (k : r) (h : Arm r → p := by intro hk; refine wl_load (by rfl) _ _ rfl rfl (by exact arrOf) HM (by exact memOf) (by exact lenOf) ?_; exact hk.out) : p := h ⟨k⟩
theorem aSt {r p : Prop} (k : r) (h : Arm r → p := by intro hk; refine wl_storeM (by rfl) _ _ _ rfl rfl rfl (by exact arrOf) HM (by exact idxOf) (by exact lenOf) (by exact lenOf) ?_; exact hk.out) : p := h ⟨k⟩
theorem aZe {r p : Prop} (k : r) (h : Arm r → p := by intro hk; refine wl_zero (by rfl) _ rfl (by exact arrOf) (by kernel_rfl) ?_; exact hk.out) : p := h ⟨k⟩
theorem aLs {r p : Prop} (k : r) (h : Arm r → p := by intro hk; refine wl_loadS (by rfl) _ _ rfl rfl (by exact arrOf) HM (by exact memOf) (by exact subF) (by exact lenOf) ?_; exact hk.out) : p := h ⟨k⟩
theorem aCf {r p : Prop} (k : r) (h : Arm r → p := by intro hk; refine wl_cellF (by rfl) _ rfl rfl HM (by exact memOf) (by exact celF) ?_; exact hk.out) : p := h ⟨k⟩
theorem aVn {r p : Prop} (k : r) (h : Arm r → p := by intro hk; (first | refine wv_box (by rfl) _ _ rfl rfl HM ?_ | refine wv_alloc (by rfl) _ rfl (by exact rowOf) HM ?_); exact hk.out) : p := h ⟨k⟩
theorem aVl {r p : Prop} (k : r) (h : Arm r → p := by intro hk; refine wv_load (by rfl) _ _ rfl rfl (by exact rowOf) HM (by exact vmemOf) (by exact vsizOf) ?_; exact hk.out) : p := h ⟨k⟩
theorem aVs {r p : Prop} (k : r) (h : Arm r → p := by intro hk; refine wv_store (by rfl) _ _ _ rfl rfl rfl (by exact rowOf) HM (by exact vidxOf) (by exact vsizOf) (by exact vsizOf) (by exact voneOf) ?_; exact hk.out) : p := h ⟨k⟩
theorem aVe {r p : Prop} (k : r) (h : Arm r → p := by intro hk; refine wv_elem (by rfl) _ rfl rfl HM (by exact vmemOf) (by exact velOf) ?_; exact hk.out) : p := h ⟨k⟩
theorem aVp {r p : Prop} (k : r) (h : Arm r → p := by intro hk; refine wv_put (by rfl) _ _ rfl rfl rfl HM (by exact vidxOf) (by exact vltOf) ?_; exact hk.out) : p := h ⟨k⟩
theorem aXl {r p : Prop} (k : r) (h : Arm r → p := by intro hk; refine wv_loadS (by rfl) _ _ rfl rfl (by exact arrOf) HM (by exact vmemOf) (by exact vsubF) (by exact lenOf) ?_; exact hk.out) : p := h ⟨k⟩
theorem aSl {r p : Prop} (k : r) (h : Arm r → p := by intro hk; (first | (refine wv_ldT (by rfl) _ rfl rfl HM (by exact vmemOf) (by exact swOf) ?_) | (refine wv_ldL (by rfl) _ rfl rfl HM (by exact vmemOf) (by exact swOf) ?_) | (refine wv_ldLive (by rfl) _ rfl rfl HM (by exact vmemOf) (by exact swOf) (by with_reducible assumption) ?_) | (refine wv_ldHush (by rfl) _ rfl rfl HM (by exact vmemOf) (by exact swOf) (by with_reducible assumption) ?_) | (refine wv_ldLive (by rfl) _ rfl rfl HM (by exact vmemOf) (by exact swOf) (Lib.hid rfl) ?_) | (refine wv_ldHush (by rfl) _ rfl rfl HM (by exact vmemOf) (by exact swOf) (Lib.hid rfl) ?_) | (refine wv_ldSeed (by rfl) _ rfl rfl HM (by exact vmemOf) (by exact swOf) ?_) | (refine wv_ldS (by rfl) _ rfl rfl HM (by exact vmemOf) (by exact swOf) ?_) | (refine wv_zeroS (by rfl) rfl ?_) | (refine wv_oneS (by rfl) _ rfl rfl ?_) | (refine wv_mouth (by rfl) _ rfl rfl (by exact swOf) ?_)); exact hk.out) : p := h ⟨k⟩
theorem aSt2 {r p : Prop} (k : r) (h : Arm r → p := by intro hk; (first | refine wv_stT (by rfl) _ _ rfl rfl rfl HM (by exact vidxOf) HSW (by exact lenOf) ?_ | refine wv_stL (by rfl) _ _ rfl rfl rfl HM (by exact vidxOf) HSW (by exact lenOf) ?_ | refine wv_stLive (by rfl) _ _ rfl rfl rfl HM (by exact vidxOf) HSW ?_ | refine wv_stHush (by rfl) _ _ rfl rfl rfl HM (by exact vidxOf) HSW ?_ | refine wv_stSeed (by rfl) _ _ rfl rfl rfl HM (by exact vidxOf) HSW (by with_reducible assumption) ?_); exact hk.out) : p := h ⟨k⟩
theorem aSs {r p : Prop} (k : r) (h : Arm r → p := by intro hk; (first | refine wv_stS (by rfl) _ _ rfl rfl rfl HM (by exact vidxOf) (by exact swOf) (by exact swOf) ?_ | refine wv_stM (by rfl) _ _ rfl rfl rfl HM (by exact vidxOf) (by exact swOf) (by exact swOf) ?_); exact hk.out) : p := h ⟨k⟩
theorem aSn {r p : Prop} (k : r) (h : Arm r → p := by intro hk; (first | refine wv_box (by rfl) _ _ rfl rfl HM ?_ | refine wv_alloc (by rfl) _ rfl rowSyn HM ?_ | refine wv_alloc (by rfl) _ rfl rowMou HM ?_ | refine wv_alloc (by rfl) _ rfl (by exact rowOf) HM ?_); exact hk.out) : p := h ⟨k⟩
theorem aBn {r p : Prop} (k : r) (h : Arm r → p := by intro hk; refine wv_boxV (by rfl) _ _ rfl rfl rfl HM ?_; exact hk.out) : p := h ⟨k⟩
theorem aCe {r p : Prop} (k : r) (h : Arm r → p := by intro hk; (first | (refine wl_val (by rfl) (ex_ne _ _ _ _ rfl rfl rfl (by first | exact grdPcm | exact grdSyn | exact grdTail | exact grdLev) (by first | exact HQ1.out _ | exact HQ2.out _ | exact HQ3.out _ | exact HQ4.out _)) ?_) | (refine wl_val (by rfl) (ex_eq _ _ _ _ rfl rfl rfl (by first | exact grdPcm | exact grdSyn | exact grdTail | exact grdLev) (by first | exact HQ1.out _ | exact HQ2.out _ | exact HQ3.out _ | exact HQ4.out _)) ?_)); exact hk.out) : p := h ⟨k⟩
theorem aQl {r p : Prop} (k : r) (h : Arm r → p := by intro hk; show wpList _ _ _ ({ dst := _, op := Op.load _ _, type := _, pos := _, after := _, guard := _ } :: _) _ _; (first | (first | (refine wv_ldT (by rfl) _ rfl rfl HM (by exact vmemOf) (by exact swOf) ?_) | (refine wv_ldL (by rfl) _ rfl rfl HM (by exact vmemOf) (by exact swOf) ?_) | (refine wv_ldLive (by rfl) _ rfl rfl HM (by exact vmemOf) (by exact swOf) (by with_reducible assumption) ?_) | (refine wv_ldHush (by rfl) _ rfl rfl HM (by exact vmemOf) (by exact swOf) (by with_reducible assumption) ?_) | (refine wv_ldLive (by rfl) _ rfl rfl HM (by exact vmemOf) (by exact swOf) (Lib.hid rfl) ?_) | (refine wv_ldHush (by rfl) _ rfl rfl HM (by exact vmemOf) (by exact swOf) (Lib.hid rfl) ?_) | (refine wv_ldSeed (by rfl) _ rfl rfl HM (by exact vmemOf) (by exact swOf) ?_) | (refine wv_ldS (by rfl) _ rfl rfl HM (by exact vmemOf) (by exact swOf) ?_)) | (refine wv_load (by rfl) _ _ rfl rfl (by exact rowOf) HM (by exact vmemOf) (by exact vsizOf) ?_) | (refine wv_loadS (by rfl) _ _ rfl rfl (by exact arrOf) HM (by exact vmemOf) (by exact vsubF) (by exact lenOf) ?_)); exact hk.out) : p := h ⟨k⟩
theorem aQs {r p : Prop} (k : r) (h : Arm r → p := by intro hk; show wpList _ _ _ ({ dst := _, op := Op.store _ _ _, type := _, pos := _, after := _, guard := _ } :: _) _ _; (first | refine wv_stS (by rfl) _ _ rfl rfl rfl HM (by exact vidxOf) (by exact swOf) (by exact swOf) ?_ | refine wv_stM (by rfl) _ _ rfl rfl rfl HM (by exact vidxOf) (by exact swOf) (by exact swOf) ?_); exact hk.out) : p := h ⟨k⟩
theorem aQt {r p : Prop} (k : r) (h : Arm r → p := by intro hk; show wpList _ _ _ ({ dst := _, op := Op.store _ _ _, type := _, pos := _, after := _, guard := _ } :: _) _ _; (first | refine wv_stT (by rfl) _ _ rfl rfl rfl HM (by exact vidxOf) HSW (by exact lenOf) ?_ | refine wv_stL (by rfl) _ _ rfl rfl rfl HM (by exact vidxOf) HSW (by exact lenOf) ?_ | refine wv_stLive (by rfl) _ _ rfl rfl rfl HM (by exact vidxOf) HSW ?_ | refine wv_stHush (by rfl) _ _ rfl rfl rfl HM (by exact vidxOf) HSW ?_ | refine wv_stSeed (by rfl) _ _ rfl rfl rfl HM (by exact vidxOf) HSW (by with_reducible assumption) ?_); exact hk.out) : p := h ⟨k⟩
theorem aQv {r p : Prop} (k : r) (h : Arm r → p := by intro hk; show wpList _ _ _ ({ dst := _, op := Op.store _ _ _, type := _, pos := _, after := _, guard := _ } :: _) _ _; refine wv_store (by rfl) _ _ _ rfl rfl rfl (by exact rowOf) HM (by exact vidxOf) (by exact vsizOf) (by exact vsizOf) (by exact voneOf) ?_; exact hk.out) : p := h ⟨k⟩
theorem aQb {r p : Prop} (k : r) (h : Arm r → p := by intro hk; show wpList _ _ _ ({ dst := _, op := Op.build _ _, type := _, pos := _, after := _, guard := _ } :: _) _ _; (first | (refine wv_zeroS (by rfl) rfl ?_) | (refine wv_oneS (by rfl) _ rfl rfl ?_) | (refine wv_mouth (by rfl) _ rfl rfl (by exact swOf) ?_) | (refine wl_zero (by rfl) _ rfl (by exact arrOf) (by kernel_rfl) ?_)); exact hk.out) : p := h ⟨k⟩
theorem aQn {r p : Prop} (k : r) (h : Arm r → p := by intro hk; (first | show wpList _ _ _ ({ dst := _, op := Op.alloc _, type := _, pos := _, after := _, guard := _ } :: _) _ _ | show wpList _ _ _ ({ dst := _, op := Op.box _ _, type := _, pos := _, after := _, guard := _ } :: _) _ _); (first | refine wv_box (by rfl) _ _ rfl rfl HM ?_ | refine wv_alloc (by rfl) _ rfl rowSyn HM ?_ | refine wv_alloc (by rfl) _ rfl rowMou HM ?_ | refine wv_alloc (by rfl) _ rfl (by exact rowOf) HM ?_); exact hk.out) : p := h ⟨k⟩
theorem tQl {r p : Prop} (k : r) (h : Arm r → p := by intro hk; show wpList _ _ _ ({ dst := _, op := Op.load _ _, type := _, pos := _, after := _, guard := _ } :: _) _ _; (first | refine wt_ldP (by rfl) _ rfl rfl HM (by exact vmemOf) (by exact twOf) ?_ | refine wt_ldL (by rfl) _ rfl rfl HM (by exact vmemOf) (by exact twOf) ?_ | refine wt_ldS (by rfl) _ rfl rfl HM (by exact vmemOf) (by exact twOf) ?_ | refine wt_ldHang (by rfl) _ rfl rfl HM (by exact vmemOf) (by exact twOf) ?_ | refine wt_ldSent (by rfl) _ rfl rfl HM (by exact vmemOf) (by exact twOf) ?_ | refine wt_ldQuiet (by rfl) _ rfl rfl HM (by exact vmemOf) (by exact twOf) ?_ | refine wt_ldT (by rfl) _ rfl rfl HM (by exact vmemOf) (by exact twOf) ?_ | refine wt_ldLive (by rfl) _ rfl rfl HM (by exact vmemOf) (by exact twOf) (by with_reducible assumption) ?_ | refine wt_ldHush (by rfl) _ rfl rfl HM (by exact vmemOf) (by exact twOf) (by with_reducible assumption) ?_); exact hk.out) : p := h ⟨k⟩
theorem tQs {r p : Prop} (k : r) (h : Arm r → p := by intro hk; show wpList _ _ _ ({ dst := _, op := Op.store _ _ _, type := _, pos := _, after := _, guard := _ } :: _) _ _; (first | refine wt_stT (by rfl) _ _ rfl rfl rfl HM (by exact vidxOf) (by exact twOf) (by exact twOf) ?_ | refine wt_stM (by rfl) _ _ rfl rfl rfl HM (by exact vidxOf) (by exact twOf) (by exact twOf) ?_); exact hk.out) : p := h ⟨k⟩
theorem tQt {r p : Prop} (k : r) (h : Arm r → p := by intro hk; show wpList _ _ _ ({ dst := _, op := Op.store _ _ _, type := _, pos := _, after := _, guard := _ } :: _) _ _; (first | refine wt_stP (by rfl) _ _ rfl rfl rfl HM (by exact vidxOf) HTW (by exact lenOf) ?_ | refine wt_stHang (by rfl) _ _ rfl rfl rfl HM (by exact vidxOf) HTW ?_ | refine wt_stSent (by rfl) _ _ rfl rfl rfl HM (by exact vidxOf) HTW ?_ | refine wt_stQuiet (by rfl) _ _ rfl rfl rfl HM (by exact vidxOf) HTW ?_ | refine wt_stS (by rfl) _ _ rfl rfl rfl HM (by exact vidxOf) HTW (by exact swOf) ?_); exact hk.out) : p := h ⟨k⟩
theorem tQb {r p : Prop} (k : r) (h : Arm r → p := by intro hk; show wpList _ _ _ ({ dst := _, op := Op.build _ _, type := _, pos := _, after := _, guard := _ } :: _) _ _; (first | refine wt_zero (by rfl) rfl ?_ | refine wt_talker (by rfl) _ rfl rfl (by exact twOf) ?_); exact hk.out) : p := h ⟨k⟩
theorem tQn {r p : Prop} (k : r) (h : Arm r → p := by intro hk; (first | show wpList _ _ _ ({ dst := _, op := Op.alloc _, type := _, pos := _, after := _, guard := _ } :: _) _ _ | show wpList _ _ _ ({ dst := _, op := Op.box _ _, type := _, pos := _, after := _, guard := _ } :: _) _ _); (first | refine wv_box (by rfl) _ _ rfl rfl HM ?_ | refine wv_alloc (by rfl) _ rfl rowTal HM ?_ | refine wv_alloc (by rfl) _ rfl rowTlk HM ?_ | refine wv_alloc (by rfl) _ rfl rowSyn HM ?_ | refine wv_alloc (by rfl) _ rfl rowMou HM ?_ | refine wv_alloc (by rfl) _ rfl (by exact rowOf) HM ?_); exact hk.out) : p := h ⟨k⟩
end Go.Proofs.Ytffapinabidkiaa
/- Math -/
namespace Go.Proofs.Ytffapinabidkiaa
/-- the number that bits are, the first one the highest -/
def num (l : List Bool) : Nat := l.foldl (fun a b => 2 * a + b.toNat) 0
/-- the byte at place j of the bits that F tells -/
def byteF (F : Nat → Bool) (j : Nat) : Nat :=
  128 * (F (8 * j)).toNat + 64 * (F (8 * j + 1)).toNat + 32 * (F (8 * j + 2)).toNat + 16 * (F (8 * j + 3)).toNat + 8 * (F (8 * j + 4)).toNat + 4 * (F (8 * j + 5)).toNat + 2 * (F (8 * j + 6)).toNat + (F (8 * j + 7)).toNat
def packF (m : Nat) (F : Nat → Bool) : List Nat := (List.range m).map (byteF F)
def bitF (l : List Bool) (i : Nat) : Bool := l.getD i false
def pack (l : List Bool) : List Nat := packF ((l.length + 7) / 8) (bitF l)
/-- the bits of a number, width of them -/
def bitsOf (width v : Nat) : List Bool := (List.range width).map fun i => v.testBit (width - 1 - i)
/-- the first n bits of bytes -/
def bitsIn (bs : List Nat) (n : Nat) : List Bool := (List.range n).map fun i => (bs.getD (i / 8) 0).testBit (7 - i % 8)
theorem byte8 : ∀ a b c d e f g h : Bool, ∀ k : Fin 8,
    (128 * a.toNat + 64 * b.toNat + 32 * c.toNat + 16 * d.toNat + 8 * e.toNat + 4 * f.toNat + 2 * g.toNat + h.toNat).testBit k.val = [h, g, f, e, d, c, b, a].getD k.val false := by
  decide +kernel
theorem byteF_lt (F : Nat → Bool) (j : Nat) : byteF F j < 256 := by
  have t : ∀ b : Bool, b.toNat ≤ 1 := by decide
  unfold byteF
  have := t (F (8 * j)); have := t (F (8 * j + 1)); have := t (F (8 * j + 2)); have := t (F (8 * j + 3)); have := t (F (8 * j + 4)); have := t (F (8 * j + 5)); have := t (F (8 * j + 6)); have := t (F (8 * j + 7))
  omega
theorem byteF_testBit (F : Nat → Bool) (j b : Nat) : (byteF F j).testBit b = (decide (b < 8) && F (8 * j + (7 - b))) := by
  by_cases hb : b < 8
  · have := byte8 (F (8 * j)) (F (8 * j + 1)) (F (8 * j + 2)) (F (8 * j + 3)) (F (8 * j + 4)) (F (8 * j + 5)) (F (8 * j + 6)) (F (8 * j + 7)) ⟨b, hb⟩
    unfold byteF
    rw [this]
    match b, hb with
    | 0, _ => rfl
    | 1, _ => rfl
    | 2, _ => rfl
    | 3, _ => rfl
    | 4, _ => rfl
    | 5, _ => rfl
    | 6, _ => rfl
    | 7, _ => rfl
  · have h : byteF F j < 2 ^ b := Nat.lt_of_lt_of_le (byteF_lt F j) (Nat.pow_le_pow_right (n := 2) (i := 8) (j := b) (by omega) (by omega))
    rw [Nat.testBit_lt_two_pow h]
    simp [hb]
theorem byteF_eq {F G : Nat → Bool} {j : Nat} (h : ∀ i, 8 * j ≤ i → i < 8 * j + 8 → F i = G i) : byteF F j = byteF G j := by
  unfold byteF
  rw [h (8 * j) (by omega) (by omega), h (8 * j + 1) (by omega) (by omega), h (8 * j + 2) (by omega) (by omega), h (8 * j + 3) (by omega) (by omega), h (8 * j + 4) (by omega) (by omega), h (8 * j + 5) (by omega) (by omega), h (8 * j + 6) (by omega) (by omega), h (8 * j + 7) (by omega) (by omega)]
/-- a byte is known by its bits -/
theorem byteF_of_bits {F : Nat → Bool} {j c : Nat} (hc : c < 256) (h : ∀ b, b < 8 → c.testBit b = F (8 * j + (7 - b))) : c = byteF F j := by
  refine Nat.eq_of_testBit_eq fun b => ?_
  rw [byteF_testBit]
  by_cases hb : b < 8
  · simp [hb, h b hb]
  · have h : c < 2 ^ b := Nat.lt_of_lt_of_le hc (Nat.pow_le_pow_right (n := 2) (i := 8) (j := b) (by omega) (by omega))
    rw [Nat.testBit_lt_two_pow h]
    simp [hb]
/-- the bit at a place, as the program reads it -/
theorem byteF_bit (F : Nat → Bool) (i : Nat) : byteF F (i / 8) / 2 ^ (7 - i % 8) % 2 = (F i).toNat := by
  have h := byteF_testBit F (i / 8) (7 - i % 8)
  rw [Nat.testBit_eq_decide_div_mod_eq] at h
  have e : 8 * (i / 8) + (7 - (7 - i % 8)) = i := by omega
  have l : 7 - i % 8 < 8 := by omega
  rw [e] at h
  simp only [l, decide_true, Bool.true_and] at h
  have := Nat.mod_lt (byteF F (i / 8) / 2 ^ (7 - i % 8)) (show 0 < 2 by omega)
  cases hF : F i
  · rw [hF] at h; simp at h; simp; omega
  · rw [hF] at h; simp at h; simp; omega
theorem packF_length (m : Nat) (F : Nat → Bool) : (packF m F).length = m := by simp [packF]
theorem packF_getD (m : Nat) (F : Nat → Bool) (j : Nat) (h : j < m) : (packF m F).getD j 0 = byteF F j := by
  simp [packF, List.getD_eq_getElem?_getD, h]
theorem packF_get? (m : Nat) (F : Nat → Bool) (j : Nat) (h : j < m) : (packF m F)[j]? = some (byteF F j) := by simp [packF, h]
theorem packF_lt (m : Nat) (F : Nat → Bool) : ∀ x ∈ packF m F, x < 256 := by
  intro x hx
  simp only [packF, List.mem_map] at hx
  obtain ⟨j, _, rfl⟩ := hx
  exact byteF_lt F j
theorem packF_congr {m : Nat} {F G : Nat → Bool} (h : ∀ i, i < 8 * m → F i = G i) : packF m F = packF m G := by
  unfold packF
  refine List.map_congr_left fun j hj => ?_
  have := List.mem_range.1 hj
  exact byteF_eq fun i _ h2 => h i (by omega)
theorem pack_length (l : List Bool) : (pack l).length = (l.length + 7) / 8 := packF_length _ _
theorem pack_lt (l : List Bool) : ∀ x ∈ pack l, x < 256 := packF_lt _ _
theorem bitF_of_ge {l : List Bool} {i : Nat} (h : l.length ≤ i) : bitF l i = false := by simp [bitF, List.getD_eq_getElem?_getD, h]
theorem bitF_append (l m : List Bool) (i : Nat) : bitF (l ++ m) i = if i < l.length then bitF l i else bitF m (i - l.length) := by
  unfold bitF
  simp only [List.getD_eq_getElem?_getD, List.getElem?_append]
  split <;> rfl
theorem bitF_drop (l : List Bool) (k i : Nat) : bitF (l.drop k) i = bitF l (k + i) := by simp [bitF, List.getD_eq_getElem?_getD]
theorem bitF_take (l : List Bool) (k i : Nat) : bitF (l.take k) i = if i < k then bitF l i else false := by
  unfold bitF
  simp only [List.getD_eq_getElem?_getD, List.getElem?_take]
  split <;> simp
theorem bitF_ext {l m : List Bool} (hl : l.length = m.length) (h : ∀ i, i < l.length → bitF l i = bitF m i) : l = m := by
  refine List.ext_getElem hl fun i h1 h2 => ?_
  have := h i h1
  simpa [bitF, List.getD_eq_getElem?_getD, h1, h2] using this
theorem bitsOf_length (w v : Nat) : (bitsOf w v).length = w := by simp [bitsOf]
theorem bitF_bitsOf (w v i : Nat) : bitF (bitsOf w v) i = (decide (i < w) && v.testBit (w - 1 - i)) := by
  unfold bitF bitsOf
  by_cases h : i < w <;> simp [List.getD_eq_getElem?_getD, h]
theorem bitsIn_length (bs : List Nat) (n : Nat) : (bitsIn bs n).length = n := by simp [bitsIn]
theorem bitF_bitsIn (bs : List Nat) (n i : Nat) : bitF (bitsIn bs n) i = (decide (i < n) && (bs.getD (i / 8) 0).testBit (7 - i % 8)) := by
  unfold bitF bitsIn
  by_cases h : i < n <;> simp [List.getD_eq_getElem?_getD, h]
/-- bytes that may be are the bytes of their bits -/
theorem pack_bitsIn (bs : List Nat) (n : Nat) (hlen : bs.length = (n + 7) / 8) (hlt : ∀ x ∈ bs, x < 256) (hlast : n % 8 ≠ 0 → bs.getD (bs.length - 1) 0 * 2 ^ (n % 8) % 256 = 0) :
    pack (bitsIn bs n) = bs := by
  refine List.ext_getElem (by rw [pack_length, bitsIn_length, hlen]) fun j h1 h2 => ?_
  have hj : j < (n + 7) / 8 := by omega
  have e1 : (pack (bitsIn bs n))[j] = byteF (bitF (bitsIn bs n)) j := by simp [pack, packF]
  rw [e1]
  symm
  have hb : bs[j] < 256 := hlt _ (List.getElem_mem h2)
  refine byteF_of_bits hb fun b hb8 => ?_
  rw [bitF_bitsIn]
  have e2 : (8 * j + (7 - b)) / 8 = j := by omega
  have e3 : 7 - (8 * j + (7 - b)) % 8 = b := by omega
  rw [e2, e3]
  have e4 : bs.getD j 0 = bs[j] := by simp [List.getD_eq_getElem?_getD, h2]
  rw [e4]
  by_cases hlt' : 8 * j + (7 - b) < n
  · simp [hlt']
  · simp only [hlt', decide_false, Bool.false_and]
    have hn : n % 8 ≠ 0 := by omega
    have hj' : j = bs.length - 1 := by omega
    have := hlast hn
    rw [← hj', e4] at this
    have hd : bs[j] % 2 ^ (8 - n % 8) = 0 := by
      have e : (256 : Nat) = 2 ^ (8 - n % 8) * 2 ^ (n % 8) := by rw [← Nat.pow_add, show 8 - n % 8 + n % 8 = 8 by omega]
      rw [e, Nat.mul_mod_mul_right] at this
      have p : 0 < 2 ^ (n % 8) := Nat.pow_pos (by omega)
      rcases Nat.mul_eq_zero.1 this with h | h
      · exact h
      · omega
    have t := Nat.testBit_mod_two_pow bs[j] (8 - n % 8) b
    rw [hd] at t
    have hlt2 : b < 8 - n % 8 := by omega
    simpa [hlt2] using t.symm
/-- the last byte of bits has zeros behind them -/
theorem pack_last (l : List Bool) (h : l.length % 8 ≠ 0) : (pack l).getD ((pack l).length - 1) 0 * 2 ^ (l.length % 8) % 256 = 0 := by
  have hm : (l.length + 7) / 8 - 1 < (l.length + 7) / 8 := by omega
  rw [pack_length]
  unfold pack
  rw [packF_getD _ _ _ hm]
  refine Nat.eq_of_testBit_eq fun b => ?_
  rw [show (256 : Nat) = 2 ^ 8 from rfl, Nat.testBit_mod_two_pow, Nat.testBit_mul_two_pow, byteF_testBit]
  simp only [Nat.zero_testBit]
  by_cases h1 : b < 8
  · by_cases h2 : l.length % 8 ≤ b
    · rw [bitF_of_ge (by omega)]; simp
    · simp [h2]
  · simp [h1]
theorem bitsIn_pack (l : List Bool) : bitsIn (pack l) l.length = l := by
  refine bitF_ext (bitsIn_length _ _) fun i hi => ?_
  rw [bitsIn_length] at hi
  rw [bitF_bitsIn]
  simp only [hi, decide_true, Bool.true_and]
  unfold pack
  rw [packF_getD _ _ _ (by omega), byteF_testBit]
  have e : 8 * (i / 8) + (7 - (7 - i % 8)) = i := by omega
  have l' : 7 - i % 8 < 8 := by omega
  simp [e, l']
theorem pack_inj {l m : List Bool} (hl : l.length = m.length) (h : pack l = pack m) : l = m := by
  rw [← bitsIn_pack l, ← bitsIn_pack m, h, hl]
/-- whole bytes -/
theorem pack_bitsIn_whole (bs : List Nat) (hlt : ∀ x ∈ bs, x < 256) : pack (bitsIn bs (8 * bs.length)) = bs :=
  pack_bitsIn bs _ (by omega) hlt (fun h => by omega)
theorem num_nil : num [] = 0 := rfl
theorem num_snoc (l : List Bool) (b : Bool) : num (l ++ [b]) = 2 * num l + b.toNat := by simp [num]
theorem num_from (l : List Bool) : ∀ a, l.foldl (fun a b => 2 * a + b.toNat) a = a * 2 ^ l.length + num l := by
  induction l with
  | nil => intro a; simp [num]
  | cons b l ih =>
    intro a
    have h1 := ih (2 * a + b.toNat)
    have h2 := ih (2 * 0 + b.toNat)
    simp only [List.foldl_cons, num, List.length_cons, Nat.pow_succ] at h1 h2 ⊢
    rw [h1, h2, Nat.add_mul, Nat.mul_comm (2 ^ l.length) 2, ← Nat.mul_assoc, Nat.mul_comm a 2]
    simp only [Nat.mul_zero, Nat.zero_add]
    omega
theorem num_cons (b : Bool) (l : List Bool) : num (b :: l) = 2 ^ l.length * b.toNat + num l := by
  have := num_from l (2 * 0 + b.toNat)
  unfold num at this ⊢
  rw [List.foldl_cons, this, Nat.mul_comm]
  simp
theorem num_lt (l : List Bool) : num l < 2 ^ l.length := by
  induction l with
  | nil => simp [num]
  | cons b l ih =>
    rw [num_cons, List.length_cons, Nat.pow_succ]
    cases b <;> simp <;> omega
theorem num_append (l m : List Bool) : num (l ++ m) = num l * 2 ^ m.length + num m := by
  have := num_from m (num l)
  unfold num at this ⊢
  rw [List.foldl_append, this]
theorem bitsOf_succ (w v : Nat) : bitsOf (w + 1) v = v.testBit w :: bitsOf w v := by
  unfold bitsOf
  rw [List.range_succ_eq_map, List.map_cons, List.map_map]
  congr 1
  refine List.map_congr_left fun i hi => ?_
  have := List.mem_range.1 hi
  simp only [Function.comp]
  congr 1
  omega
theorem num_bitsOf (w v : Nat) : num (bitsOf w v) = v % 2 ^ w := by
  induction w with
  | zero => simp [bitsOf, num, Nat.mod_one]
  | succ w ih =>
    rw [bitsOf_succ, num_cons, bitsOf_length, ih, Nat.mod_pow_succ, Nat.toNat_testBit]
    omega
theorem num_testBit (l : List Bool) (i : Nat) : (num l).testBit i = (decide (i < l.length) && bitF l (l.length - 1 - i)) := by
  induction l with
  | nil => simp [num]
  | cons b l ih =>
    rw [num_cons, Nat.testBit_two_pow_mul_add _ (num_lt l), ih]
    by_cases h : i < l.length
    · have h2 : i < l.length + 1 := by omega
      have e : l.length + 1 - 1 - i = (l.length - 1 - i) + 1 := by omega
      simp only [h, h2, List.length_cons, decide_true, Bool.true_and, if_true, e]
      simp [bitF]
    · by_cases h3 : i = l.length
      · subst h3
        cases b <;> simp [bitF]
      · have h4 : ¬ i < l.length + 1 := by omega
        have h5 : i - l.length ≠ 0 := by omega
        simp only [h, h4, List.length_cons, decide_false, Bool.false_and, if_false]
        cases b
        · simp
        · simp only [Bool.toNat_true]
          exact Nat.testBit_lt_two_pow (Nat.lt_of_lt_of_le (show 1 < 2 ^ 1 by omega) (Nat.pow_le_pow_right (by omega) (by omega)))
theorem bitsOf_num (l : List Bool) : bitsOf l.length (num l) = l := by
  refine bitF_ext (bitsOf_length _ _) fun i hi => ?_
  rw [bitsOf_length] at hi
  rw [bitF_bitsOf, num_testBit]
  have h1 : l.length - 1 - i < l.length := by omega
  have e : l.length - 1 - (l.length - 1 - i) = i := by omega
  simp [hi, h1, e]
theorem bitsOf_mod (w v : Nat) : bitsOf w (v % 2 ^ w) = bitsOf w v := by
  have := bitsOf_num (bitsOf w v)
  rw [bitsOf_length, num_bitsOf] at this
  exact this
theorem num_inj {l m : List Bool} (hl : l.length = m.length) (h : num l = num m) : l = m := by
  rw [← bitsOf_num l, ← bitsOf_num m, h, hl]
/-- a number's bits in two parts -/
theorem bitsOf_split (w c v : Nat) (hc : c ≤ w) : bitsOf (w - c) (v / 2 ^ c) ++ bitsOf c v = bitsOf w v := by
  refine bitF_ext (by simp only [List.length_append, bitsOf_length]; omega) fun i hi => ?_
  simp only [List.length_append, bitsOf_length] at hi
  rw [bitF_append, bitsOf_length, bitF_bitsOf, bitF_bitsOf, bitF_bitsOf, Nat.testBit_div_two_pow]
  by_cases h : i < w - c
  · have e : w - c - 1 - i + c = w - 1 - i := by omega
    have h2 : i < w := by omega
    simp only [h, h2, e, if_true]
  · have e : c - 1 - (i - (w - c)) = w - 1 - i := by omega
    have h2 : i < w := by omega
    have h3 : i - (w - c) < c := by omega
    simp only [h, h2, h3, e, if_false]
/-- one byte of a number that is shifted to the top of 64 bits -/
theorem byte_of_number (width v j : Nat) (hw : width ≤ 64) (hj : 8 * j < width) :
    v * 2 ^ (64 - width) / 2 ^ (56 - 8 * j) % 256 = byteF (bitF (bitsOf width v)) j := by
  refine byteF_of_bits (Nat.mod_lt _ (by omega)) fun b hb => ?_
  rw [show (256 : Nat) = 2 ^ 8 from rfl, Nat.testBit_mod_two_pow, Nat.testBit_div_two_pow, Nat.testBit_mul_two_pow, bitF_bitsOf]
  simp only [hb, decide_true, Bool.true_and]
  by_cases h : 8 * j + (7 - b) < width
  · have e1 : 64 - width ≤ b + (56 - 8 * j) := by omega
    have e2 : b + (56 - 8 * j) - (64 - width) = width - 1 - (8 * j + (7 - b)) := by omega
    simp only [h, e1, e2, decide_true, Bool.true_and]
  · have e1 : ¬ 64 - width ≤ b + (56 - 8 * j) := by omega
    simp only [h, e1, decide_false, Bool.false_and]
/-- the first byte that a byte of bits is laid over -/
theorem lay_first (l1 l2 : List Bool) (k : Nat) :
    byteF (bitF (l1 ++ l2.take (8 * k))) (l1.length / 8 + k) ||| byteF (bitF l2) k / 2 ^ (l1.length % 8) = byteF (bitF (l1 ++ l2.take (8 * (k + 1)))) (l1.length / 8 + k) := by
  have hd : byteF (bitF l2) k / 2 ^ (l1.length % 8) < 256 := Nat.lt_of_le_of_lt (Nat.div_le_self _ _) (byteF_lt _ _)
  refine byteF_of_bits (Nat.or_lt_two_pow (n := 8) (byteF_lt _ _) hd) fun b hb => ?_
  rw [Nat.testBit_or, Nat.testBit_div_two_pow, byteF_testBit, byteF_testBit, bitF_append, bitF_append, bitF_take, bitF_take]
  simp only [hb, decide_true, Bool.true_and]
  by_cases h1 : 8 * (l1.length / 8 + k) + (7 - b) < l1.length
  · have h2 : ¬ b + l1.length % 8 < 8 := by omega
    simp [h1, h2]
  · have h4 : 8 * (l1.length / 8 + k) + (7 - b) - l1.length < 8 * (k + 1) := by omega
    by_cases h5 : 8 * (l1.length / 8 + k) + (7 - b) - l1.length < 8 * k
    · have h2 : ¬ b + l1.length % 8 < 8 := by omega
      simp [h1, h2, h4, h5]
    · have h2 : b + l1.length % 8 < 8 := by omega
      have e : 8 * k + (7 - (b + l1.length % 8)) = 8 * (l1.length / 8 + k) + (7 - b) - l1.length := by omega
      simp [h1, h2, h4, h5, e]
/-- the second one -/
theorem lay_second (l1 l2 : List Bool) (k : Nat) :
    byteF (bitF (l1 ++ l2.take (8 * k))) (l1.length / 8 + k + 1) ||| byteF (bitF l2) k * 2 ^ (8 - l1.length % 8) % 256 = byteF (bitF (l1 ++ l2.take (8 * (k + 1)))) (l1.length / 8 + k + 1) := by
  refine byteF_of_bits (Nat.or_lt_two_pow (n := 8) (byteF_lt _ _) (Nat.mod_lt _ (by omega))) fun b hb => ?_
  rw [Nat.testBit_or, show (256 : Nat) = 2 ^ 8 from rfl, Nat.testBit_mod_two_pow, Nat.testBit_mul_two_pow, byteF_testBit, byteF_testBit, bitF_append, bitF_append, bitF_take, bitF_take]
  have h1 : ¬ 8 * (l1.length / 8 + k + 1) + (7 - b) < l1.length := by omega
  have h2 : ¬ 8 * (l1.length / 8 + k + 1) + (7 - b) - l1.length < 8 * k := by omega
  simp only [hb, h1, h2, decide_true, Bool.true_and, if_false, Bool.false_or]
  by_cases h3 : 8 - l1.length % 8 ≤ b
  · have h4 : b - (8 - l1.length % 8) < 8 := by omega
    have h5 : 8 * (l1.length / 8 + k + 1) + (7 - b) - l1.length < 8 * (k + 1) := by omega
    have e : 8 * k + (7 - (b - (8 - l1.length % 8))) = 8 * (l1.length / 8 + k + 1) + (7 - b) - l1.length := by omega
    simp [h3, h4, h5, e]
  · have h5 : ¬ 8 * (l1.length / 8 + k + 1) + (7 - b) - l1.length < 8 * (k + 1) := by omega
    simp [h3, h5]
/-- the others -/
theorem lay_other (l1 l2 : List Bool) (k j : Nat) (h1 : j ≠ l1.length / 8 + k) (h2 : j ≠ l1.length / 8 + k + 1) :
    byteF (bitF (l1 ++ l2.take (8 * k))) j = byteF (bitF (l1 ++ l2.take (8 * (k + 1)))) j := by
  refine byteF_eq fun i hi1 hi2 => ?_
  rw [bitF_append, bitF_append, bitF_take, bitF_take]
  by_cases h : i < l1.length
  · simp [h]
  · by_cases h3 : i - l1.length < 8 * k
    · have h4 : i - l1.length < 8 * (k + 1) := by omega
      simp [h, h3, h4]
    · have h4 : ¬ i - l1.length < 8 * (k + 1) := by omega
      simp [h, h3, h4]
/-- where the second part is not nothing there is a byte for it -/
theorem lay_room (l1 l2 : List Bool) (k m : Nat) (hm : l1.length + l2.length ≤ 8 * m) (hr : byteF (bitF l2) k * 2 ^ (8 - l1.length % 8) % 256 ≠ 0) : l1.length / 8 + k + 1 < m := by
  rcases Nat.lt_or_ge (l1.length / 8 + k + 1) m with h | h
  · exact h
  · refine absurd (Nat.eq_of_testBit_eq fun b => ?_) hr
    rw [show (256 : Nat) = 2 ^ 8 from rfl, Nat.testBit_mod_two_pow, Nat.testBit_mul_two_pow, byteF_testBit, Nat.zero_testBit]
    by_cases h1 : b < 8
    · by_cases h2 : 8 - l1.length % 8 ≤ b
      · rw [bitF_of_ge (by omega)]; simp
      · simp [h2]
    · simp [h1]
theorem lay_step (l1 l2 : List Bool) (k m : Nat)
    (hr : byteF (bitF l2) k * 2 ^ (8 - l1.length % 8) % 256 = 0) :
    (packF m (bitF (l1 ++ l2.take (8 * k)))).set (l1.length / 8 + k) (byteF (bitF (l1 ++ l2.take (8 * k))) (l1.length / 8 + k) ||| byteF (bitF l2) k / 2 ^ (l1.length % 8)) = packF m (bitF (l1 ++ l2.take (8 * (k + 1)))) := by
  have h2 := lay_second l1 l2 k
  rw [hr, Nat.or_zero] at h2
  rw [lay_first]
  refine List.ext_getElem (by simp [packF_length]) fun j h3 h4 => ?_
  rw [List.getElem_set]
  split
  · rename_i e; subst e; simp [packF]
  · rename_i e
    simp only [packF, List.getElem_map, List.getElem_range]
    by_cases e2 : j = l1.length / 8 + k + 1
    · subst e2; exact h2
    · exact lay_other l1 l2 k j (by omega) e2
theorem lay_step2 (l1 l2 : List Bool) (k m : Nat) :
    ((packF m (bitF (l1 ++ l2.take (8 * k)))).set (l1.length / 8 + k) (byteF (bitF (l1 ++ l2.take (8 * k))) (l1.length / 8 + k) ||| byteF (bitF l2) k / 2 ^ (l1.length % 8))).set (l1.length / 8 + k + 1) (byteF (bitF (l1 ++ l2.take (8 * k))) (l1.length / 8 + k + 1) ||| byteF (bitF l2) k * 2 ^ (8 - l1.length % 8) % 256) = packF m (bitF (l1 ++ l2.take (8 * (k + 1)))) := by
  rw [lay_first, lay_second l1 l2 k]
  refine List.ext_getElem (by simp [packF_length]) fun j h3 h4 => ?_
  rw [List.getElem_set, List.getElem_set]
  split
  · rename_i e; subst e; simp [packF]
  · rename_i e
    split
    · rename_i e'; subst e'; simp [packF]
    · rename_i e'
      simp only [packF, List.getElem_map, List.getElem_range]
      exact lay_other l1 l2 k j (by omega) (by omega)
/-- whole bytes behind whole bytes -/
theorem lay_whole (l1 l2 : List Bool) (m : Nat) (hm : l1.length + l2.length ≤ 8 * m) (hs : l1.length % 8 = 0) :
    (packF m (bitF l1)).take (l1.length / 8) ++ (pack l2 ++ (packF m (bitF l1)).drop (l1.length / 8 + (pack l2).length)) = packF m (bitF (l1 ++ l2)) := by
  have hp := pack_length l2
  refine List.ext_getElem? fun j => ?_
  rw [List.getElem?_append, List.length_take, packF_length]
  have hmin : min (l1.length / 8) m = l1.length / 8 := by omega
  rw [hmin]
  split
  · rename_i h
    rw [List.getElem?_take_of_lt h]
    have hj : j < m := by omega
    rw [packF_get? _ _ _ hj, packF_get? _ _ _ hj]
    congr 1
    refine byteF_eq fun i _ hi2 => ?_
    rw [bitF_append, if_pos (by omega)]
  · rename_i h
    rw [List.getElem?_append, hp]
    split
    · rename_i h2
      have hj : j < m := by omega
      unfold pack
      rw [packF_get? _ _ _ h2, packF_get? _ _ _ hj]
      congr 1
      refine byteF_of_bits (byteF_lt _ _) fun b hb => ?_
      rw [byteF_testBit, bitF_append, if_neg (by omega)]
      have e : 8 * j + (7 - b) - l1.length = 8 * (j - l1.length / 8) + (7 - b) := by omega
      simp [hb, e]
    · rename_i h2
      rw [List.getElem?_drop]
      have e : l1.length / 8 + (l2.length + 7) / 8 + (j - l1.length / 8 - (l2.length + 7) / 8) = j := by omega
      rw [e]
      by_cases hj : j < m
      · rw [packF_get? _ _ _ hj, packF_get? _ _ _ hj]
        congr 1
        refine byteF_eq fun i hi1 _ => ?_
        rw [bitF_append, if_neg (by omega), bitF_of_ge (by omega), bitF_of_ge (by omega)]
      · rw [List.getElem?_eq_none (by rw [packF_length]; omega), List.getElem?_eq_none (by rw [packF_length]; omega)]
end Go.Proofs.Ytffapinabidkiaa
/- Mem -/
namespace Go.Proofs.Ytffapinabidkiaa
open Go.RowKit
theorem block_of_add (a : Addr) (n : Nat) : (a.add n).block = a.block := by unfold Addr.add; split <;> rfl
theorem add_of_add (a : Addr) (i j : Nat) : (a.add i).add j = a.add (i + j) := by
  unfold Addr.add
  by_cases hi : i = 0 <;> by_cases hj : j = 0 <;> simp [hi, hj, Nat.add_assoc]
theorem add_own (g j : Nat) : (⟨g, 0, none⟩ : Addr).add j = ⟨g, j, none⟩ := by
  unfold Addr.add
  split
  · rename_i h; subst h; rfl
  · simp
theorem below_drewN {B : Nat} {a w : World} (h : Below B a w) (n : Nat) : Below B a (w.drewN n) := ⟨h.os, h.tape, h.output, h.size, h.block⟩
theorem only_drewN {a w : World} {row : Option Nat} (h : a.grownBy w row) (n : Nat) : a.grownBy (w.drewN n) row := ⟨h.os, h.tape, h.output, h.size, h.block⟩
theorem only_drew {a w : World} {row : Option Nat} (h : a.grownBy w row) : a.grownBy w.drew row := ⟨h.os, h.tape, h.output, h.size, h.block⟩
theorem only_alloc {a w : World} {row : Option Nat} (h : a.grownBy w row) (o : Obj) : a.grownBy (w.alloc o) row :=
  ⟨h.os, h.tape, h.output, Nat.le_trans h.size (by simp), fun i hi hne => (Below.heap_alloc w o i (Nat.lt_of_lt_of_le hi h.size)).trans (h.block i hi hne)⟩
theorem only_setCell {a w : World} {g : Nat} (h : a.grownBy w (some g)) {p : Addr} (hp : p.block = g ∨ a.heap.size ≤ p.block) (u : Value) : a.grownBy (w.setCell p u) (some g) :=
  ⟨h.os, h.tape, h.output, by simpa [World.setCell] using h.size, fun i hi hne => (Below.heap_setCell w p u i (by
    rintro rfl
    rcases hp with hp | hp
    · exact hne (by rw [hp])
    · omega)).trans (h.block i hi hne)⟩
theorem only_of_below {a w : World} (h : Below a.heap.size a w) (row : Option Nat) : a.grownBy w row := ⟨h.os, h.tape, h.output, h.size, fun i hi _ => h.block i hi⟩
/-- a byte as a cell -/
def byteV (n : Nat) : Value := .int .u8 (n : Int)
/-- the slice value '.slice A n c' reads as the bytes bs -/
def Rd (w : World) (A : Option Addr) (n : Nat) (bs : List Nat) : Prop :=
  bs.length = n ∧ (∀ x ∈ bs, x < 256) ∧ (0 < n → ∃ ad, A = some ad ∧ ∀ j x, bs[j]? = some x → w.cell? (ad.add j) = some (byteV x))
section
variable {w w' : World} {A : Option Addr} {n : Nat} {bs : List Nat}
theorem Rd.none_ : Rd w A 0 [] := ⟨rfl, by simp, fun h => absurd h (by omega)⟩
theorem Rd.at_ {k : Nat} (h : Rd w A n bs) (hk : k < n) : ∃ ad, A = some ad ∧ ad.block < w.heap.size ∧ bs.getD k 0 < 256 ∧ w.cell? (ad.add k) = some (.int .u8 ((bs.getD k 0 : Nat) : Int)) := by
  obtain ⟨ad, e, hc⟩ := h.2.2 (by omega)
  have hl : k < bs.length := by have := h.1; omega
  have hg : bs[k]? = some (bs.getD k 0) := by simp [List.getD_eq_getElem?_getD, hl]
  have hcell := hc k _ hg
  have hb := World.block_lt_of_cell? _ _ hcell
  rw [block_of_add] at hb
  refine ⟨ad, e, hb, h.2.1 _ ?_, hcell⟩
  have : bs.getD k 0 = bs[k] := by simp [List.getD_eq_getElem?_getD, hl]
  rw [this]
  exact List.getElem_mem hl
theorem Rd.keep (h : Rd w A n bs) (hk : ∀ p : Addr, p.block < w.heap.size → w'.cell? p = w.cell? p) : Rd w' A n bs :=
  ⟨h.1, h.2.1, fun hn => by
    obtain ⟨ad, e, hc⟩ := h.2.2 hn
    refine ⟨ad, e, fun j x hx => ?_⟩
    have hcell := hc j x hx
    exact (hk _ (World.block_lt_of_cell? _ _ hcell)).trans hcell⟩
theorem Rd.below (h : Rd w A n bs) (hb : Below w.heap.size w w') : Rd w' A n bs := h.keep fun _ hp => hb.cell hp
theorem Rd.only {row : Nat} (h : Rd w A n bs) (hb : w.grownBy w' (some row)) (hA : ∀ ad, A = some ad → 0 < n → ad.block ≠ row) : Rd w' A n bs :=
  ⟨h.1, h.2.1, fun hn => by
    obtain ⟨ad, e, hc⟩ := h.2.2 hn
    refine ⟨ad, e, fun j x hx => ?_⟩
    have hcell := hc j x hx
    have hlt := World.block_lt_of_cell? _ _ hcell
    exact (World.cell?_of_block (hb.block _ hlt (fun e' => hA ad e hn (by rw [block_of_add] at e'; injection e')))).trans hcell⟩
theorem Rd.alloc (h : Rd w A n bs) (o : Obj) : Rd (w.alloc o) A n bs := h.keep fun p hp => World.cell?_alloc_lt w o p (by omega)
theorem Rd.drew (h : Rd w A n bs) : Rd w.drew A n bs := h
theorem Rd.drewN (h : Rd w A n bs) (k : Nat) : Rd (w.drewN k) A n bs := h
end
/-- block g is just the cells cs, none frozen -/
def Blk (w : World) (g : Nat) (t : TypeId) (cs : Array Value) : Prop := w.heap[g]? = some (.cells cs t (0, 0))
section
variable {w w' : World} {g : Nat} {t : TypeId} {cs : Array Value}
theorem Blk.lt (h : Blk w g t cs) : g < w.heap.size := by
  rcases Nat.lt_or_ge g w.heap.size with hlt | hge
  · exact hlt
  · unfold Blk at h; rw [Array.getElem?_eq_none hge] at h; cases h
theorem Blk.cell (h : Blk w g t cs) (i : Nat) : w.cell? ⟨g, i, none⟩ = cs[i]? := cell_of_row w g i cs t (0, 0) h
theorem Blk.frozen (h : Blk w g t cs) (i : Nat) : w.frozen? ⟨g, i, none⟩ = false := by
  unfold Blk at h
  simp [World.frozen?, h]
theorem Blk.new (w : World) (t : TypeId) (cs : Array Value) : Blk (w.alloc (.cells cs t)) w.heap.size t cs := heap_alloc_new w _
theorem Blk.newAt {w : World} {g : Nat} {t : TypeId} {cs : Array Value} (hg : g = w.heap.size) : Blk (w.alloc (.cells cs t)) g t cs := by subst hg; exact Blk.new w t cs
theorem Blk.drew (h : Blk w g t cs) : Blk w.drew g t cs := h
theorem Blk.drewN (h : Blk w g t cs) (n : Nat) : Blk (w.drewN n) g t cs := h
theorem Blk.alloc (h : Blk w g t cs) (o : Obj) : Blk (w.alloc o) g t cs := (Below.heap_alloc w o g h.lt).trans h
theorem Blk.set_ (h : Blk w g t cs) (i : Nat) (u : Value) : Blk (w.setCell ⟨g, i, none⟩ u) g t (cs.setIfInBounds i u) := by
  unfold Blk at h ⊢
  simp [World.setCell, Array.getElem?_modify, h]
theorem Blk.far (h : Blk w g t cs) {p : Addr} (hp : g ≠ p.block) (u : Value) : Blk (w.setCell p u) g t cs := (Below.heap_setCell w p u g hp).trans h
theorem Blk.only {row : Nat} (h : Blk w g t cs) (hb : w.grownBy w' (some row)) (hg : g ≠ row) : Blk w' g t cs := (hb.block g h.lt (fun e => hg (by injection e))).trans h
theorem Blk.below {B : Nat} (h : Blk w g t cs) (hb : Below B w w') (hg : g < B) : Blk w' g t cs := (hb.block g hg).trans h
end
/-- bytes as a block's cells -/
def bcells (bs : List Nat) : Array Value := (bs.map byteV).toArray
theorem bcells_size (bs : List Nat) : (bcells bs).size = bs.length := by simp [bcells]
theorem bcells_get {bs : List Nat} {i : Nat} (h : i < bs.length) : (bcells bs)[i]? = some (.int .u8 ((bs.getD i 0 : Nat) : Int)) := by
  simp [bcells, byteV, List.getD_eq_getElem?_getD, h]
theorem bcells_set (bs : List Nat) (i x : Nat) : (bcells bs).setIfInBounds i (.int .u8 (x : Int)) = bcells (bs.set i x) := by
  simp [bcells, byteV, List.map_set]
theorem bcells_zero (m : Nat) : madeCells (Value.int .u8 0).cells m = bcells (packF m (bitF [])) := by
  refine Array.ext (by simp [madeCells, bcells_size, packF_length]) fun i h1 h2 => ?_
  have hi : i < m := by simpa [madeCells] using h1
  have e : byteF (bitF []) i = 0 := by simp [byteF, bitF]
  simp [madeCells, bcells, packF, byteV, e, Value.cells, Nat.mod_one]
theorem Rd.of_blk {w : World} {g : Nat} {t : TypeId} {bs : List Nat} (h : Blk w g t (bcells bs)) (hlt : ∀ x ∈ bs, x < 256) : Rd w (some ⟨g, 0, none⟩) bs.length bs := by
  refine ⟨rfl, hlt, fun _ => ⟨_, rfl, fun j x hx => ?_⟩⟩
  rw [add_own, h.cell]
  simp [bcells, hx]
/-- the value v is bits that may be, and they are l -/
def IsB (w : World) (v : Value) (l : List Bool) : Prop :=
  ∃ A c, v = .agg #[.slice A (pack l).length c, .int .i64 (l.length : Int)] ∧ Rd w A (pack l).length (pack l) ∧ l.length ≤ 65536
section
variable {w w' : World} {v : Value} {l : List Bool}
theorem IsB.below (h : IsB w v l) (hb : Below w.heap.size w w') : IsB w' v l := by
  obtain ⟨A, c, rfl, hr, hl⟩ := h
  exact ⟨A, c, rfl, hr.below hb, hl⟩
theorem IsB.alloc (h : IsB w v l) (o : Obj) : IsB (w.alloc o) v l := by
  obtain ⟨A, c, rfl, hr, hl⟩ := h
  exact ⟨A, c, rfl, hr.alloc o, hl⟩
theorem IsB.nil_ (w : World) : IsB w (.agg #[.slice none 0 0, .int .i64 0]) [] := ⟨none, 0, rfl, Rd.none_, by simp⟩
end
/-- whether bytes and a number of bits may be -/
def okB (bs : List Nat) (N : Int) : Bool :=
  decide (0 ≤ N ∧ N ≤ 65536 ∧ (bs.length : Int) = (N + 7) / 8 ∧ (N % 8 ≠ 0 → bs.getD (bs.length - 1) 0 * 2 ^ (N % 8).toNat % 256 = 0))
theorem okB_pack (l : List Bool) (h : l.length ≤ 65536) : okB (pack l) (l.length : Int) = true := by
  unfold okB
  have e : ((l.length : Int) % 8).toNat = l.length % 8 := by omega
  have hp := pack_length l
  refine decide_eq_true ⟨by omega, by omega, by omega, fun h8 => ?_⟩
  rw [e]
  exact pack_last l (by omega)
theorem okB_some {bs : List Nat} {N : Int} (h : okB bs N = true) (hlt : ∀ x ∈ bs, x < 256) : ∃ l : List Bool, l.length ≤ 65536 ∧ bs = pack l ∧ N = (l.length : Int) := by
  unfold okB at h
  obtain ⟨h0, h1, h2, h3⟩ := of_decide_eq_true h
  refine ⟨bitsIn bs N.toNat, by rw [bitsIn_length]; omega, (pack_bitsIn bs N.toNat (by omega) hlt fun h8 => ?_).symm, by rw [bitsIn_length]; omega⟩
  have e : (N % 8).toNat = N.toNat % 8 := by omega
  have := h3 (by omega)
  rw [e] at this
  exact this
theorem IsB.of_ok {w : World} {A : Option Addr} {n c : Nat} {N : Int} {bs : List Nat} (h : okB bs N = true) (hr : Rd w A n bs) : ∃ l, IsB w (.agg #[.slice A n c, .int .i64 N]) l ∧ bs = pack l ∧ N = (l.length : Int) := by
  obtain ⟨l, hl, rfl, rfl⟩ := okB_some h hr.2.1
  obtain ⟨rfl, h2⟩ := hr
  exact ⟨l, ⟨A, c, rfl, ⟨rfl, h2⟩, hl⟩, rfl, rfl⟩
end Go.Proofs.Ytffapinabidkiaa
/- Fm -/
namespace Go.Proofs.Ytffapinabidkiaa.Fq
open Go.RowKit
/-- the slice value '.slice A n c' reads as the ints zs -/
def RdI (w : World) (A : Option Addr) (n : Nat) (zs : List Int) : Prop :=
  zs.length = n ∧ (0 < n → ∃ ad, A = some ad ∧ ∀ j x, zs[j]? = some x → w.cell? (ad.add j) = some (.int .i64 x))
section
variable {w w' : World} {A : Option Addr} {n : Nat} {zs : List Int}
theorem RdI.none_ : RdI w A 0 [] := ⟨rfl, fun h => absurd h (by omega)⟩
theorem get_of_lt {k : Nat} (h : k < zs.length) : zs[k]? = some (zs.getD k 0) := by simp [List.getD_eq_getElem?_getD, h]
theorem RdI.at_ {k : Nat} (h : RdI w A n zs) (hk : k < n) : ∃ ad, A = some ad ∧ ad.block < w.heap.size ∧ w.cell? (ad.add k) = some (.int .i64 (zs.getD k 0)) := by
  obtain ⟨ad, e, hc⟩ := h.2 (by omega)
  have hcell := hc k _ (get_of_lt (by have := h.1; omega))
  have hb := World.block_lt_of_cell? _ _ hcell
  rw [block_of_add] at hb
  exact ⟨ad, e, hb, hcell⟩
theorem RdI.keep (h : RdI w A n zs) (hk : ∀ p : Addr, p.block < w.heap.size → w'.cell? p = w.cell? p) : RdI w' A n zs :=
  ⟨h.1, fun hn => by
    obtain ⟨ad, e, hc⟩ := h.2 hn
    refine ⟨ad, e, fun j x hx => ?_⟩
    have hcell := hc j x hx
    exact (hk _ (World.block_lt_of_cell? _ _ hcell)).trans hcell⟩
theorem RdI.below (h : RdI w A n zs) (hb : Below w.heap.size w w') : RdI w' A n zs := h.keep fun _ hp => hb.cell hp
theorem RdI.only {row : Nat} (h : RdI w A n zs) (hb : w.grownBy w' (some row)) (hA : ∀ ad, A = some ad → 0 < n → ad.block ≠ row) : RdI w' A n zs :=
  ⟨h.1, fun hn => by
    obtain ⟨ad, e, hc⟩ := h.2 hn
    refine ⟨ad, e, fun j x hx => ?_⟩
    have hcell := hc j x hx
    have hlt := World.block_lt_of_cell? _ _ hcell
    exact (World.cell?_of_block (hb.block _ hlt (fun e' => hA ad e hn (by rw [block_of_add] at e'; injection e')))).trans hcell⟩
theorem RdI.alloc (h : RdI w A n zs) (o : Obj) : RdI (w.alloc o) A n zs := h.keep fun p hp => World.cell?_alloc_lt w o p (by omega)
theorem RdI.drew (h : RdI w A n zs) : RdI w.drew A n zs := h
theorem RdI.drewN (h : RdI w A n zs) (k : Nat) : RdI (w.drewN k) A n zs := h
theorem RdI.zero {c : Nat} (h : RdI w A 0 zs) (_ : c = c) : zs = [] := List.eq_nil_of_length_eq_zero h.1
end
theorem RdI.cell {w : World} {ad : Addr} {n k : Nat} {zs : List Int} (h : RdI w (some ad) n zs) (hk : k < n) : w.cell? (ad.add k) = some (.int .i64 (zs.getD k 0)) := by
  obtain ⟨ad', e, _, hc⟩ := h.at_ hk
  injection e with e
  subst e
  exact hc
theorem RdI.cell0 {w : World} {ad : Addr} {n : Nat} {zs : List Int} (h : RdI w (some ad) n zs) (hk : 0 < n) : w.cell? ad = some (.int .i64 (zs.getD 0 0)) := by
  have := h.cell hk
  rwa [show ad.add 0 = ad by unfold Addr.add; simp] at this
theorem RdI.cellS {w : World} {ad : Addr} {n k : Nat} {zs : List Int} (h : RdI w (some ad) n zs) (hk : k + 1 < n) : w.cell? ⟨ad.block, ad.off + (k + 1), none⟩ = some (.int .i64 (zs.getD (k + 1) 0)) := by
  have := h.cell hk
  rwa [show ad.add (k + 1) = ⟨ad.block, ad.off + (k + 1), none⟩ by unfold Addr.add; simp] at this
/-- ints as a block's cells -/
def icells (zs : List Int) : Array Value := (zs.map fun x => Value.int .i64 x).toArray
theorem icells_size (zs : List Int) : (icells zs).size = zs.length := by simp [icells]
theorem icells_get {zs : List Int} {i : Nat} (h : i < zs.length) : (icells zs)[i]? = some (.int .i64 (zs.getD i 0)) := by
  simp [icells, List.getD_eq_getElem?_getD, h]
theorem icells_set (zs : List Int) (i : Nat) (x : Int) : (icells zs).setIfInBounds i (.int .i64 x) = icells (zs.set i x) := by
  simp [icells, List.map_set]
theorem icells_zero (m : Nat) : madeCells #[Value.int .i64 0] m = icells (List.replicate m 0) := by
  refine Array.ext (by simp [madeCells, icells_size]) fun i h1 h2 => ?_
  simp [madeCells, icells, Nat.mod_one]
theorem RdI.of_blk {w : World} {g : Nat} {t : TypeId} {zs : List Int} (h : Blk w g t (icells zs)) {n : Nat} (hn : zs.length = n) : RdI w (some ⟨g, 0, none⟩) n zs := by
  refine ⟨hn, fun _ => ⟨_, rfl, fun j x hx => ?_⟩⟩
  rw [add_own, h.cell]
  simp [icells, hx]
theorem blk_at {w : World} {g : Nat} {t : TypeId} {zs : List Int} (h : Blk w g t (icells zs)) {i : Nat} (hi : i < zs.length) : w.cell? ⟨g, i, none⟩ = some (.int .i64 (zs.getD i 0)) := (h.cell i).trans (icells_get hi)
theorem blk_put {w : World} {g : Nat} {t : TypeId} {zs : List Int} (h : Blk w g t (icells zs)) (i : Nat) (x : Int) : Blk (w.setCell ⟨g, i, none⟩ (.int .i64 x)) g t (icells (zs.set i x)) := by
  have := h.set_ i (.int .i64 x)
  rwa [icells_set] at this
/-- all together -/
def tot (l : List Int) : Int := l.foldr (· + ·) 0
theorem tot_nil : tot [] = 0 := rfl
theorem tot_cons (x : Int) (l : List Int) : tot (x :: l) = x + tot l := rfl
theorem tot_append (a b : List Int) : tot (a ++ b) = tot a + tot b := by
  induction a with
  | nil => simp [tot_nil]
  | cons x a ih => rw [List.cons_append, tot_cons, tot_cons, ih]; omega
theorem take_snocI (l : List Int) (k : Nat) (h : k < l.length) : l.take (k + 1) = l.take k ++ [l.getD k 0] := by
  rw [List.take_succ_eq_append_getElem h]
  simp [List.getD_eq_getElem?_getD, h]
theorem tot_snoc (l : List Int) (k : Nat) (h : k < l.length) : tot (l.take (k + 1)) = tot (l.take k) + l.getD k 0 := by
  rw [take_snocI l k h, tot_append, tot_cons, tot_nil]; omega
theorem tot_bd (l : List Int) (M : Int) (h : ∀ x ∈ l, 0 ≤ x ∧ x ≤ M) : 0 ≤ tot l ∧ tot l ≤ M * (l.length : Int) := by
  induction l with
  | nil => simp [tot_nil]
  | cons x l ih =>
    have h1 := h x (by simp)
    have h2 := ih fun y hy => h y (by simp [hy])
    rw [tot_cons, List.length_cons, Int.natCast_add, Int.mul_add]
    simp only [Int.mul_one, Int.natCast_one]
    omega
theorem mem_getD {l : List Int} {k : Nat} (h : k < l.length) : l.getD k 0 ∈ l := by
  have e : l.getD k 0 = l[k] := by simp [List.getD_eq_getElem?_getD, h]
  rw [e]; exact List.getElem_mem h
theorem take_bd {l : List Int} {M : Int} {n : Nat} (h : ∀ x ∈ l, 0 ≤ x ∧ x ≤ M) (hn : l.length ≤ n) (hM : 0 ≤ M) (k : Nat) : 0 ≤ tot (l.take k) ∧ tot (l.take k) ≤ M * (n : Int) := by
  have := tot_bd (l.take k) M fun x hx => h x (List.mem_of_mem_take hx)
  refine ⟨this.1, Int.le_trans this.2 (Int.mul_le_mul_of_nonneg_left ?_ hM)⟩
  have := List.length_take_le k l
  have : (l.take k).length ≤ l.length := by rw [List.length_take]; omega
  omega
/-- the table of counts, one on top of the other -/
def acc (l : List Int) : List Int := (List.range (l.length + 1)).map fun k => tot (l.take k)
theorem acc_length (l : List Int) : (acc l).length = l.length + 1 := by simp [acc]
theorem acc_getD (l : List Int) (k : Nat) (h : k ≤ l.length) : (acc l).getD k 0 = tot (l.take k) := by
  simp [acc, List.getD_eq_getElem?_getD, List.getElem?_range (show k < l.length + 1 by omega)]
/-- counts that may be -/
def okN (l : List Int) : Bool := decide (1 ≤ l.length ∧ l.length ≤ 256 ∧ (∀ x ∈ l, 1 ≤ x ∧ x ≤ 16384) ∧ tot l ≤ 16384)
/-- a table that may be -/
def okF (l : List Int) : Bool := decide (2 ≤ l.length ∧ l.length ≤ 257 ∧ l.getD 0 0 = 0 ∧ l.getD (l.length - 1) 0 ≤ 16384 ∧ ∀ k, k < l.length - 1 → l.getD k 0 < l.getD (k + 1) 0)
theorem okF_mono {l : List Int} (h : okF l = true) {i j : Nat} (hij : i < j) (hj : j < l.length) : l.getD i 0 < l.getD j 0 := by
  unfold okF at h
  obtain ⟨_, _, _, _, hs⟩ := of_decide_eq_true h
  induction j with
  | zero => omega
  | succ j ih =>
    have h1 := hs j (by omega)
    rcases Nat.lt_or_ge i j with hlt | hge
    · have := ih hlt (by omega); omega
    · have : i = j := by omega
      subst this; exact h1
theorem okF_bd {l : List Int} (h : okF l = true) {i : Nat} (hi : i < l.length) : 0 ≤ l.getD i 0 ∧ l.getD i 0 ≤ 16384 := by
  have h' := h
  unfold okF at h'
  obtain ⟨h2, _, h0, hl, _⟩ := of_decide_eq_true h'
  constructor
  · rcases Nat.eq_zero_or_pos i with e | e
    · subst e; omega
    · have := okF_mono h e hi; omega
  · rcases Nat.lt_or_ge i (l.length - 1) with e | e
    · have := okF_mono h e (by omega); omega
    · have : i = l.length - 1 := by omega
      subst this; exact hl
theorem okF_acc {l : List Int} (h : okN l = true) : okF (acc l) = true := by
  unfold okN at h
  obtain ⟨h1, h2, h3, h4⟩ := of_decide_eq_true h
  unfold okF
  refine decide_eq_true ⟨by rw [acc_length]; omega, by rw [acc_length]; omega, by rw [acc_getD _ _ (by omega)]; rfl, ?_, fun k hk => ?_⟩
  · rw [acc_length, acc_getD _ _ (by omega)]
    simpa using h4
  · rw [acc_length] at hk
    rw [acc_getD _ _ (by omega), acc_getD _ _ (by omega), tot_snoc _ _ (by omega)]
    have := h3 _ (mem_getD (l := l) (k := k) (by omega))
    omega
end Go.Proofs.Ytffapinabidkiaa.Fq
