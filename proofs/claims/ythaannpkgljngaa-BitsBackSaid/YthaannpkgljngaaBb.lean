/-
  The statement's own put, for any item: what it answers.
-/
import Derived.Test.YthaannpkgljngaaBa
namespace Go.Proofs.Ythaannpkgljngaa
open Go.RowKit

def itemCode (V : Nat) (W : Int) : Option (List Bool) :=
  if 0 ≤ W then (if W ≤ 64 ∧ V < 2 ^ W.toNat then some (bitsOf W.toNat V) else none)
  else if W < -1 then some (codeOf (zig ((V : Int) % 2147483648 - 1073741824)))
  else if V < 2 ^ 32 then some (codeOf V) else none
def itemWhat (l : List Bool) : Option (List Bool) → Int × Int × List Nat
  | none => (0, 1, [])
  | some c => pWhat (l ++ c)
theorem put_item (A : Option Addr) (n c : Nat) (l : List Bool) (V : Nat) (W N E : Int) (bs : List Nat) (w : World) (hr : Rd w A n (pack l)) (hl : l.length ≤ 65536) (hV : V < 18446744073709551616) (hp : itemWhat l (itemCode V W) = (N, E, bs)) :
    Calls Try.prog 23 #[.agg #[.slice A n c, .int .i64 (l.length : Int)], .agg #[.int .u64 (V : Int), .int .i64 W]] w (SOut w N E bs) := by
  have hok := okB_pack l hl
  have hib : ∀ U, Rd U A n (pack l) → IsB U (.agg #[.slice A n c, .int .i64 (l.length : Int)]) l := fun U hu => ⟨A, c, by rw [hu.1], by rw [hu.1]; exact hu, hl⟩
  unfold itemCode at hp
  by_cases h0 : 0 ≤ W
  · rw [if_pos h0] at hp
    obtain ⟨wd, rfl⟩ : ∃ wd : Nat, W = (wd : Int) := ⟨W.toNat, by omega⟩
    refine item_w A n c _ _ _ _ _ (pack l) bs w (Lib.hid hr) h0 (Lib.hid fun U hu => ?_)
    by_cases hg : (wd : Int) ≤ 64 ∧ V < 2 ^ (wd : Int).toNat
    · rw [if_pos hg] at hp
      exact (put_any _ l V wd U (hib U hu) (by omega) hg.2).mono fun _ _ h => h.sout hp
    · rw [if_neg hg] at hp
      simp only [itemWhat, Prod.mk.injEq] at hp
      obtain ⟨rfl, rfl, rfl⟩ := hp
      by_cases hw : (wd : Int) ≤ 64
      · have hk : ¬ Lib.bitLen V ≤ wd := fun h => hg ⟨hw, (bitLen_le_iff V wd hV (by omega)).1 h⟩
        exact (put_bad3 A n c _ V (Lib.bitLen V) wd (pack l) U (Lib.hid hu) (Lib.hid hok) (by omega) (by omega) (Lib.hid hV) (Lib.hid rfl) (by omega)).mono fun _ _ h => h.sout
      · exact (put_bad2 A n c _ V wd (pack l) U (Lib.hid hu) (Lib.hid hok) (Lib.hid (by omega))).mono fun _ _ h => h.sout
  · rw [if_neg h0] at hp
    by_cases h1 : W < -1
    · rw [if_pos h1] at hp
      refine item_s A n c V _ W _ _ _ (pack l) bs w (Lib.hid hr) h1 hV (Lib.hid rfl) (Lib.hid fun U si hu hsi => ?_)
      subst hsi
      refine putSigned_in A n c _ _ _ _ (pack l) bs _ U (Lib.hid hu) (by omega) (by omega) (Lib.hid rfl) (Lib.hid fun U' xi hu' hxi => ?_)
      subst hxi
      exact (putCode_any _ l _ U' (hib U' hu') (zig_lt _ (by omega) (by omega))).mono fun _ _ h => h.sout hp
    · rw [if_neg h1] at hp
      obtain rfl : W = -1 := by omega
      refine item_c A n c _ _ _ _ (pack l) bs w (Lib.hid hr) (Lib.hid fun U hu => ?_)
      by_cases hv : V < 2 ^ 32
      · rw [if_pos hv] at hp
        exact (putCode_any _ l V U (hib U hu) hv).mono fun _ _ h => h.sout hp
      · rw [if_neg hv] at hp
        simp only [itemWhat, Prod.mk.injEq] at hp
        obtain ⟨rfl, rfl, rfl⟩ := hp
        exact (putCode_bad2 A n c _ V (pack l) U (Lib.hid hu) (Lib.hid hok) (by omega)).mono fun _ _ h => h.sout

/-- put, where it is well: the bits, and where their bytes lie -/
def GoodP (w : World) (l : List Bool) (n N : Nat) (e : Ending) (w' : World) : Prop :=
  ∃ A c, e = .returned (.tuple #[.agg #[.slice A n c, .int .i64 (N : Int)], .int .i64 0]) ∧ Below w.heap.size w w' ∧ Rd w' A n (pack l) ∧ ∀ ad, A = some ad → 0 < n → w.heap.size ≤ ad.block
theorem put_good_item (A : Option Addr) (n c : Nat) (l cs : List Bool) (V m M : Nat) (W N : Int) (w : World) (hr : Rd w A n (pack l)) (hl : l.length ≤ 65536) (hN : N = (l.length : Int)) (hV : V < 18446744073709551616) (hc : itemCode V W = some cs) (hlen : (l ++ cs).length ≤ 65536) (hm : m = (pack (l ++ cs)).length) (hM : M = (l ++ cs).length) :
    Calls Try.prog 23 #[.agg #[.slice A n c, .int .i64 N], .agg #[.int .u64 (V : Int), .int .i64 W]] w (GoodP w (l ++ cs) m M) := by
  subst hN hm hM
  refine (put_item A n c l V W ((l ++ cs).length : Int) 0 (pack (l ++ cs)) w hr hl hV (by rw [hc]; exact pWhat_fit hlen)).mono ?_
  rintro e w' ⟨A', n', c', rfl, hb, hr', ho⟩
  have e1 := hr'.1
  refine ⟨A', c', by rw [e1], hb, by rw [e1]; exact hr', fun ad ha hpos => ?_⟩
  rcases ho with h | ⟨g, e, hg, _⟩
  · omega
  · rw [e] at ha
    injection ha with ha
    subst ha
    exact hg
theorem put_bad_item (A : Option Addr) (n c : Nat) (l : List Bool) (V : Nat) (W N : Int) (w : World) (hr : Rd w A n (pack l)) (hl : l.length ≤ 65536) (hN : N = (l.length : Int)) (hV : V < 18446744073709551616) (hc : ∀ cs, itemCode V W = some cs → ¬ (l ++ cs).length ≤ 65536) :
    Calls Try.prog 23 #[.agg #[.slice A n c, .int .i64 N], .agg #[.int .u64 (V : Int), .int .i64 W]] w fun e w' => ∃ A n c E, e = .returned (.tuple #[.agg #[.slice A n c, .int .i64 0], .int .i64 E]) ∧ (E == 0) = false ∧ Below w.heap.size w w' := by
  subst hN
  cases hi : itemCode V W with
  | none =>
    refine (put_item A n c l V W 0 1 [] w hr hl hV (by rw [hi]; rfl)).mono ?_
    rintro e w' ⟨A', n', c', rfl, hb, _, _⟩
    exact ⟨_, _, _, _, rfl, rfl, hb⟩
  | some cs =>
    refine (put_item A n c l V W 0 2 [] w hr hl hV (by rw [hi]; exact pWhat_long (hc cs hi))).mono ?_
    rintro e w' ⟨A', n', c', rfl, hb, _, _⟩
    exact ⟨_, _, _, _, rfl, rfl, hb⟩
theorem Rd.row {w w' : World} {A : Option Addr} {n : Nat} {bs : List Nat} {row : Option Nat} (h : Rd w A n bs) (hb : w.grownBy w' row) (hA : ∀ ad, A = some ad → 0 < n → row ≠ some ad.block) : Rd w' A n bs := by
  refine ⟨h.1, h.2.1, fun hn => ?_⟩
  obtain ⟨ad, e, hc⟩ := h.2.2 hn
  refine ⟨ad, e, fun j x hx => ?_⟩
  have h1 := hc j x hx
  have hlt := World.block_lt_of_cell? _ _ h1
  exact (World.cell?_of_block (hb.block _ hlt (fun e' => hA ad e hn (by rw [block_of_add] at e'; exact e'.symm)))).trans h1
end Go.Proofs.Ythaannpkgljngaa
