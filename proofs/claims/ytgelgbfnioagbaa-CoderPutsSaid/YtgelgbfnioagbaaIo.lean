/-
  Own texts, laid together: Io.
-/
import Derived.Test.YtgelgbfnioagbaaHo
import Derived.Test.YtgelgbfnioagbaaCe
/- Io -/
namespace Go.Proofs.Ytgelgbfnioagbaa.Cd
open Go.ChangeShapes Go.WideShapes Go.ChangeAt Go.RowKit Go.Joins Go.Deep
theorem cells_dec : Try.prog.cellsOf 45 = 6 := by kernel_rfl
theorem cells_enc : Try.prog.cellsOf 27 = 5 := by kernel_rfl
section
variable {H : Type} {enc : TypeId × Value → H} {W : World} {base : Nat} {spare : Nat → Bool} {held : Bool}
set_option maxRecDepth 100000 in
/-- two cells that were read as bits -/
theorem open_pairC {fuel : Nat} {cs : List Value} {y : DataW H × List MemPlace} (h : DataW.trod enc Try.prog W base spare held fuel 25 cs = some y) :
    ∃ A n c N bs, cs = [.slice A n c, .int .i64 N] ∧ Rd W A n bs ∧ n ≤ maxLen := by
  obtain ⟨y0, y1, m, _, hl, h0, h1⟩ := trod_struct2 Try.underlying25 h
  rw [cells_bits] at hl
  match cs, hl with
  | [c0, c1], _ =>
    have h0' : DataW.trod enc Try.prog W base spare held m 23 [c0] = some y0 := h0
    have h1' : DataW.trod enc Try.prog W base spare held m 3 [c1] = some y1 := h1
    obtain ⟨A, n, c, bs, rfl, hr, hn⟩ := open_bytes h0'
    obtain ⟨N, e, _, _⟩ := DataW.trod_int Try.underlying3 h1'
    simp only [List.cons.injEq, and_true] at e
    subst e
    exact ⟨A, n, c, N, bs, rfl, hr, hn⟩
/-- a number of 32 bits that was read -/
theorem open_u32 {fuel : Nat} {v : Value} {y : DataW H × List MemPlace} (h : DataW.trod enc Try.prog W base spare held fuel 22 [v] = some y) : ∃ k : Nat, v = .int .u32 (k : Int) ∧ k < 4294967296 := by
  obtain ⟨N, e, _, hw⟩ := DataW.trod_int Try.underlying22 h
  simp only [List.cons.injEq, and_true] at e
  have hb := bounds_u32 hw
  exact ⟨N.toNat, by rw [e]; congr 1; omega, by omega⟩
set_option maxRecDepth 100000 in
theorem open_dec {b0 : Nat} {r : Reach} {v : Value} {d : DataW H} {p : List MemPlace} (hv : Value.okWide Try.prog W r b0 45 v) (h : DataW.Trod enc Try.prog W base spare held 45 v d p) :
    ∃ low high code A n c N At bs, v = decV low high code A n c N At ∧ low < 4294967296 ∧ high < 4294967296 ∧ code < 4294967296 ∧ Rd W A n bs ∧ n ≤ maxLen := by
  obtain ⟨cs, rfl, hsz⟩ := okWide_struct Try.underlying45 hv
  obtain ⟨l⟩ := cs
  match l, hsz.trans cells_dec with
  | [c0, c1, c2, c3, c4, c5], _ =>
    obtain ⟨fuel, hf⟩ := h
    obtain ⟨xs, n, _, hx, _, hlen, hg⟩ := DataW.trod_struct Try.underlying45 hf
    match xs, hlen with
    | [y0, y1, y2, y3, y4], _ =>
      have h0 : DataW.trod enc Try.prog W base spare held n 22 [c0] = some y0 := hg 0 _ rfl
      have h1 : DataW.trod enc Try.prog W base spare held n 22 [c1] = some y1 := hg 1 _ rfl
      have h2 : DataW.trod enc Try.prog W base spare held n 22 [c2] = some y2 := hg 2 _ rfl
      have h3 : DataW.trod enc Try.prog W base spare held n 25 [c3, c4] = some y3 := hg 3 _ rfl
      have h4 : DataW.trod enc Try.prog W base spare held n 3 [c5] = some y4 := hg 4 _ rfl
      obtain ⟨low, rfl, b1⟩ := open_u32 h0
      obtain ⟨high, rfl, b2⟩ := open_u32 h1
      obtain ⟨code, rfl, b3⟩ := open_u32 h2
      obtain ⟨A, m, c, N, bs, e, hr, hm⟩ := open_pairC h3
      simp only [List.cons.injEq, and_true] at e
      obtain ⟨rfl, rfl⟩ := e
      obtain ⟨At, e, _, _⟩ := DataW.trod_int Try.underlying3 h4
      simp only [List.cons.injEq, and_true] at e
      subst e
      exact ⟨low, high, code, A, m, c, N, At, bs, rfl, b1, b2, b3, hr, hm⟩
set_option maxRecDepth 100000 in
theorem open_enc {b0 : Nat} {r : Reach} {v : Value} {d : DataW H} {p : List MemPlace} (hv : Value.okWide Try.prog W r b0 27 v) (h : DataW.Trod enc Try.prog W base spare held 27 v d p) :
    ∃ low high wt A n c N bs, v = encV low high wt A n c N ∧ low < 4294967296 ∧ high < 4294967296 ∧ Rd W A n bs ∧ n ≤ maxLen := by
  obtain ⟨cs, rfl, hsz⟩ := okWide_struct Try.underlying27 hv
  obtain ⟨l⟩ := cs
  match l, hsz.trans cells_enc with
  | [c0, c1, c2, c3, c4], _ =>
    obtain ⟨fuel, hf⟩ := h
    obtain ⟨xs, n, _, hx, _, hlen, hg⟩ := DataW.trod_struct Try.underlying27 hf
    match xs, hlen with
    | [y0, y1, y2, y3], _ =>
      have h0 : DataW.trod enc Try.prog W base spare held n 22 [c0] = some y0 := hg 0 _ rfl
      have h1 : DataW.trod enc Try.prog W base spare held n 22 [c1] = some y1 := hg 1 _ rfl
      have h2 : DataW.trod enc Try.prog W base spare held n 3 [c2] = some y2 := hg 2 _ rfl
      have h3 : DataW.trod enc Try.prog W base spare held n 25 [c3, c4] = some y3 := hg 3 _ rfl
      obtain ⟨low, rfl, b1⟩ := open_u32 h0
      obtain ⟨high, rfl, b2⟩ := open_u32 h1
      obtain ⟨A, m, c, N, bs, e, hr, hm⟩ := open_pairC h3
      simp only [List.cons.injEq, and_true] at e
      obtain ⟨rfl, rfl⟩ := e
      obtain ⟨wt, e, _, _⟩ := DataW.trod_int Try.underlying3 h2
      simp only [List.cons.injEq, and_true] at e
      subst e
      exact ⟨low, high, wt, A, m, c, N, bs, rfl, b1, b2, hr, hm⟩
set_option maxRecDepth 100000 in
/-- a table that was read -/
theorem open_frC {b0 : Nat} {r : Reach} {v : Value} {d : DataW H} {p : List MemPlace} (hv : Value.okWide Try.prog W r b0 30 v) (h : DataW.Trod enc Try.prog W base spare held 30 v d p) :
    ∃ A n c zs, v = .agg #[.slice A n c] ∧ Fq.RdI W A n zs ∧ n ≤ maxLen := by
  obtain ⟨cs, rfl, hsz⟩ := okWide_struct Try.underlying30 hv
  have h1 : cs.size = 1 := hsz.trans cells_freq
  obtain ⟨c0, rfl⟩ : ∃ c0, cs = #[c0] := by
    cases cs with
    | mk l =>
      match l, h1 with
      | [a], _ => exact ⟨a, rfl⟩
  obtain ⟨fuel, hf⟩ := h
  obtain ⟨t, e, hr, hm⟩ := open_tc hf
  simp only [Value.cells, List.cons.injEq, and_true] at e
  subst e
  exact ⟨t.C, t.m, t.d, t.xs, rfl, hr, hm⟩
end
end Go.Proofs.Ytgelgbfnioagbaa.Cd
