/-
  Texts of bytes.
-/
import Derived.Test.YtffapinabidkiaaUX
import Derived.Laws.BytesString
import Derived.Lib.Strings
set_option linter.unusedSimpArgs false
set_option linter.unusedVariables false
/- UY -/
namespace Go.Proofs.Ytffapinabidkiaa.Lp
open Go.RowKit Go.Proofs.Ytffapinabidkiaa.Fq
/-- the text of bytes -/
def strOf (bs : List Nat) : ByteArray := (bs.map fun n => ((n : Nat) : Int)).foldl (fun r n => r.push (UInt8.ofNat n.toNat)) ByteArray.empty
theorem run_str {w : World} {A : Option Addr} {n : Nat} {bs : List Nat} (c : Nat) (h : Rd w A n bs) : (convert 41 9 (.slice A n c)).run Try.prog w = .ok (.string (strOf bs)) w := by
  rw [run_convert_bytes_string w 41 9 5 A n c Try.underlying41 Try.underlying5 Try.underlying9]
  obtain ⟨rfl, hlt, hc⟩ := h
  cases A with
  | none =>
    have h0 : bs = [] := by
      cases bs with
      | nil => rfl
      | cons b bs =>
        obtain ⟨ad, e, _⟩ := hc (by simp)
        cases e
    subst h0
    rfl
  | some ad =>
    have hload : (loadCells ad bs.length).run Try.prog w = .ok ((bs.map fun n => ((n : Nat) : Int)).map (Value.int .u8)).toArray w := by
      have := run_loadCells_list (P := Try.prog) w ad (bs.map byteV) (fun j v hv => by
        rw [List.getElem?_map] at hv
        obtain ⟨x, hx, rfl⟩ := Option.map_eq_some_iff.1 hv
        have hpos : 0 < bs.length := by
          have := (List.getElem?_eq_some_iff.1 hx).1
          omega
        obtain ⟨ad', e, hc'⟩ := hc hpos
        injection e with e
        subst e
        exact hc' j x hx)
      rw [List.length_map] at this
      rw [this, List.map_map]
      rfl
    exact run_bytesToString w ad _ c _ hload
theorem push_list (l : List Int) (r : ByteArray) : (l.foldl (fun r n => r.push (UInt8.ofNat n.toNat)) r).data.toList = r.data.toList ++ l.map fun n => UInt8.ofNat n.toNat := by
  induction l generalizing r with
  | nil => simp
  | cons x l ih =>
    rw [List.foldl_cons, ih]
    have : (r.push (UInt8.ofNat x.toNat)).data = r.data.push (UInt8.ofNat x.toNat) := rfl
    rw [this, Array.toList_push]
    simp
theorem strOf_inj (a b : List Nat) (ha : ∀ x ∈ a, x < 256) (hb : ∀ x ∈ b, x < 256) (h : strOf a = strOf b) : a = b := by
  have h1 := congrArg (fun s : ByteArray => s.data.toList.map UInt8.toNat) h
  unfold strOf at h1
  simp only [push_list, List.map_append, List.map_map] at h1
  have key : ∀ l : List Nat, (∀ x ∈ l, x < 256) → l.map (UInt8.toNat ∘ (fun n : Int => UInt8.ofNat n.toNat) ∘ fun n : Nat => (n : Int)) = l := by
    intro l hl
    refine (List.map_congr_left fun x hx => ?_).trans (List.map_id l)
    have := hl x hx
    simp; omega
  have e : ∀ l : List Nat, List.map (UInt8.toNat ∘ (fun n : Int => UInt8.ofNat n.toNat)) (List.map (fun n : Nat => (n : Int)) l) = l.map (UInt8.toNat ∘ (fun n : Int => UInt8.ofNat n.toNat) ∘ fun n : Nat => (n : Int)) := fun l => by rw [List.map_map]; rfl
  have h2 := List.append_cancel_left h1
  simp only [← List.map_map] at h2
  have k1 := key a ha
  have k2 := key b hb
  simp only [← List.map_map] at k1 k2
  rw [← k1, ← k2]
  exact h2
theorem strOf_iff (a b : List Nat) (ha : ∀ x ∈ a, x < 256) (hb : ∀ x ∈ b, x < 256) : strOf a = strOf b ↔ a = b := ⟨strOf_inj a b ha hb, fun h => by rw [h]⟩
theorem str_beq (a b : List Nat) (ha : ∀ x ∈ a, x < 256) (hb : ∀ x ∈ b, x < 256) : ((strOf a).toList == (strOf b).toList) = decide (a = b) := by
  by_cases h : a = b
  · subst h
    simp
  · rw [decide_eq_false h]
    refine beq_eq_false_iff_ne.2 fun e => h (strOf_inj a b ha hb ?_)
    rw [ByteArray.toList_eq, ByteArray.toList_eq] at e
    exact ByteArray.ext (Array.toList_inj.1 e)
theorem ex_str {o : Oper} {a : Act} {w : World} (x : Operand) (ho : o.op = .convert 41 9 x) {A : Option Addr} {n c : Nat} (hx : a.eval x = .slice A n c) {bs : List Nat} (h : Rd w A n bs) : (execOp a.eval o).run Try.prog w = .ok (.value (.string (strOf bs))) w := by
  unfold execOp
  simp only [ho, hx, Sem.run_bind, Sem.run_pure, Result.andThen_ok, run_str c h]
end Go.Proofs.Ytffapinabidkiaa.Lp
