/-
  All that waits, made one's own.
-/
import Derived.Test.YtffapinabidkiaaUG
set_option linter.unusedSimpArgs false
set_option linter.unusedVariables false
/- UH -/
namespace Go.Proofs.Ytffapinabidkiaa.Lp
open Go.RowKit Go.Proofs.Ytffapinabidkiaa.Fq
/-- what waits, of one's own -/
def OwnJ (w : World) (on : Bool) (nx dp dr : Int) (ls : List Pk) (e : Ending) (w' : World) : Prop :=
  ∃ g os cs, e = .returned (jtV on nx dp dr (some ⟨g, 0, none⟩) os.length os.length) ∧ Alike os ls ∧ w.heap.size ≤ g ∧ Blk w' g 46 cs ∧ RowOk os.length cs os ∧ OwnL w.heap.size w' [g] os ∧ Below w.heap.size w w'
/-- a row of n, k of which were made -/
def rowK (n : Nat) (os : List Pk) : Array Value := (pcs os ++ (List.replicate (n - os.length) [Value.int .i64 0, Value.slice none 0 0]).flatten).toArray
theorem rowK_size {n : Nat} {os : List Pk} (h : os.length ≤ n) : (rowK n os).size = n * 2 := by
  unfold rowK
  simp [pcs_length]
  omega
theorem rowK_snoc {n : Nat} {os : List Pk} (h : os.length < n) (x : Pk) : ((rowK n os).setIfInBounds (os.length * 2) (.int .i64 x.s)).setIfInBounds (os.length * 2 + 1) (.slice x.A x.n x.c) = rowK n (os ++ [x]) := by
  unfold rowK
  obtain ⟨m, hm⟩ : ∃ m, n - os.length = m + 1 := ⟨n - os.length - 1, by omega⟩
  have h2 : n - (os ++ [x]).length = m := by simp; omega
  have hl := pcs_length os
  rw [hm, h2, List.replicate_succ, List.flatten_cons, pcs_append]
  simp only [List.setIfInBounds_toArray]
  congr 1
  rw [List.set_append_right _ _ (by omega), hl, Nat.sub_self, List.set_append_right _ _ (by omega), hl]
  rw [show os.length * 2 + 1 - os.length * 2 = 1 by omega]
  simp [pcs]
theorem rowK_all {os : List Pk} {n : Nat} (h : os.length = n) : rowK n os = (pcs os).toArray := by
  unfold rowK
  rw [show n - os.length = 0 by omega]
  simp
theorem rowK_ok {os : List Pk} {n : Nat} (h : os.length = n) (hn : n ≤ maxLen) : RowOk os.length (rowK n os) os := by
  rw [rowK_all h]
  refine ⟨Nat.le_refl _, by omega, by simp [pcs_length], ?_⟩
  rw [List.toList_toArray, ← pcs_length, List.take_length]
theorem two_rep (a b : Value) (n : Nat) : (List.range (n * 2)).map (fun i => (#[a, b] : Array Value)[i % 2]!) = (List.replicate n [a, b]).flatten := by
  induction n with
  | zero => rfl
  | succ n ih =>
    rw [show (n + 1) * 2 = n * 2 + 1 + 1 by omega, List.range_succ, List.range_succ, List.map_append, List.map_append, ih, List.replicate_succ', List.flatten_append, List.append_assoc]
    congr 1
    have e1 : n * 2 % 2 = 0 := by omega
    have e2 : (n * 2 + 1) % 2 = 1 := by omega
    simp [e1, e2]
theorem rowK_zero (n : Nat) : madeCells (Value.agg #[.int .i64 0, .slice none 0 0]).cells (n * 2) = rowK n [] := by
  unfold rowK
  have h := two_rep (.int .i64 0) (.slice none 0 0) n
  rw [pcs_nil, List.nil_append, List.length_nil, Nat.sub_zero, ← h]
  refine Array.ext' ?_
  simp [madeCells, Value.cells]
theorem OwnL.less {B : Nat} {w : World} {gs hs : List Nat} {ls : List Pk} (h : OwnL B w gs ls) (hs' : ∀ g ∈ hs, g ∈ gs) : OwnL B w hs ls :=
  ⟨fun x hx => by
    obtain ⟨gx, e, h1, h2, h3⟩ := h.1 x hx
    exact ⟨gx, e, h1, fun hm => h2 (hs' _ hm), h3⟩, h.2⟩
theorem own_snoc {B : Nat} {w : World} {gs : List Nat} {os : List Pk} {y : Pk} (h : OwnL B w gs os) (hy : Byt B w gs y) (hn : ∀ z ∈ os, blkOf z < blkOf y) : OwnL B w gs (os ++ [y]) := by
  refine ⟨fun x hx => ?_, ?_⟩
  · rcases List.mem_append.1 hx with hx | hx
    · exact h.1 x hx
    · rw [List.mem_singleton.1 hx]; exact hy
  · rw [List.map_append, List.nodup_append]
    refine ⟨h.2, by simp, fun a ha b hb => ?_⟩
    obtain ⟨z, hz, rfl⟩ := List.mem_map.1 ha
    rw [List.map_singleton, List.mem_singleton] at hb
    subst hb
    exact Nat.ne_of_lt (hn z hz)
theorem alike_snoc {os ls : List Pk} {x y : Pk} (h : Alike os (ls.take os.length)) (hx : ls[os.length]? = some x) (h1 : y.s = x.s) (h2 : y.n = x.n) (h3 : y.bs = x.bs) : Alike (os ++ [y]) (ls.take (os ++ [y]).length) := by
  have e : ls.take (os ++ [y]).length = ls.take os.length ++ [x] := by
    rw [List.length_append, List.length_singleton, List.take_add_one, hx]; rfl
  rw [e]
  refine ⟨?_, ?_⟩
  · rw [List.map_append, List.map_append, h.1]; simp [pl, h1, h3]
  · rw [List.map_append, List.map_append, h.2]; simp [h2]
set_option maxRecDepth 100000 in
set_option maxHeartbeats 4000000 in
theorem own_any (on : Bool) (nx dp dr : Int) (A : Option Addr) (n c : Nat) (ls : List Pk) (w : World) (h : Hid (RdP w A n ls)) (hn : n ≤ 1000) (hw : Hid (∀ x ∈ ls, 0 < x.n ∧ x.n ≤ 40)) :
    Calls Try.prog 34 #[jtV on nx dp dr A n c] w (OwnJ w on nx dp dr ls) := by
  have HM := Lib.hid (MV.start w)
  have HN := Lib.hid hn
  have HN2 := Lib.hid (show n ≤ 100000 by omega)
  have hlen := Lib.hid h.out.1
  obtain ⟨i0, HI0, HZ0, hz1, hz2⟩ := info_partsT info_pk
  have HY0 : i0.bytes ≤ 1000 := by omega
  have HS := Lib.hid hz1
  clear hn hz1 hz2
  go_enter Try.func34, Try.ntmps34
  go_wp2_with (first | (first | (refine jL ?_) | (refine jS ?_; clear HM; intro us HM; simp only [List.set, List.setIfInBounds_toArray, List.set_cons_zero, List.set_cons_succ] at HM) | (refine jN ?_; first | (have q : dV HM = 0 := rfl; clear q HM; intro g1 u1 HG1 HM) | (have q : dV HM = 1 := rfl; clear q HM; intro g2 u2 HG2 HM) | (have q : dV HM = 2 := rfl; clear q HM; intro g3 u3 HG3 HM) | (have q : dV HM = 3 := rfl; clear q HM; intro g4 u4 HG4 HM) | (have q : dV HM = 4 := rfl; clear q HM; intro g5 u5 HG5 HM) | (have q : dV HM = 5 := rfl; clear q HM; intro g6 u6 HG6 HM) | (have q : dV HM = 6 := rfl; clear q HM; intro g7 u7 HG7 HM) | (have q : dV HM = 7 := rfl; clear q HM; intro g8 u8 HG8 HM) | (have q : dV HM = 8 := rfl; clear q HM; intro g9 u9 HG9 HM) | (have q : dV HM = 9 := rfl; clear q HM; intro g10 u10 HG10 HM) | (have q : dV HM = 10 := rfl; clear q HM; intro g11 u11 HG11 HM) | (have q : dV HM = 11 := rfl; clear q HM; intro g12 u12 HG12 HM) | (have q : dV HM = 12 := rfl; clear q HM; intro g13 u13 HG13 HM) | (have q : dV HM = 13 := rfl; clear q HM; intro g14 u14 HG14 HM))) | (refine wv_stP (by rfl) _ _ rfl rfl rfl HM (by exact vidxOf) (by with_reducible assumption) ?_; clear HM; intro us HM; dsimp only [List.set] at HM) | (refine wv_make (by rfl) _ _ _ rfl rfl rfl _ _ _ (by first | exact Try.underlying22 | exact Try.underlying35) HI0 HZ0 HY0 HM (by with_reducible assumption) ?_; first | (have q : dV HM = 0 := rfl; clear q HM; intro g1 u1 HG1 HM) | (have q : dV HM = 1 := rfl; clear q HM; intro g2 u2 HG2 HM) | (have q : dV HM = 2 := rfl; clear q HM; intro g3 u3 HG3 HM) | (have q : dV HM = 3 := rfl; clear q HM; intro g4 u4 HG4 HM) | (have q : dV HM = 4 := rfl; clear q HM; intro g5 u5 HG5 HM) | (have q : dV HM = 5 := rfl; clear q HM; intro g6 u6 HG6 HM) | (have q : dV HM = 6 := rfl; clear q HM; intro g7 u7 HG7 HM) | (have q : dV HM = 7 := rfl; clear q HM; intro g8 u8 HG8 HM) | (have q : dV HM = 8 := rfl; clear q HM; intro g9 u9 HG9 HM) | (have q : dV HM = 9 := rfl; clear q HM; intro g10 u10 HG10 HM) | (have q : dV HM = 10 := rfl; clear q HM; intro g11 u11 HG11 HM) | (have q : dV HM = 11 := rfl; clear q HM; intro g12 u12 HG12 HM) | (have q : dV HM = 12 := rfl; clear q HM; intro g13 u13 HG13 HM) | (have q : dV HM = 13 := rfl; clear q HM; intro g14 u14 HG14 HM)))
  have HM2 := Lib.hid (show MV w w [(g3, 46, rowK n []), (g2, 24, #[.bool false, .int .i64 0, .int .i64 0, .int .i64 0, .slice none 0 0]), (g1, 24, #[.bool on, .int .i64 nx, .int .i64 dp, .int .i64 dr, .slice A n c])] u3 by rw [← rowK_zero]; have := HM.out; rw [HS.out] at this; exact this)
  clear HM HI0 HZ0 HY0 HS HN2
  have HM := HM2
  clear HM2
  go_loopw [4, 13] (fun _ vi wr => ∃ os : List Pk, vi = .int .i64 (os.length : Int) ∧ Hid (os.length ≤ n) ∧ Hid (Alike os (ls.take os.length)) ∧ Hid (OwnL w.heap.size wr [g3, g2, g1] os) ∧ Hid (MV w w [(g3, 46, rowK n os), (g2, 24, #[.bool false, .int .i64 0, .int .i64 0, .int .i64 0, .slice none 0 0]), (g1, 24, #[.bool on, .int .i64 nx, .int .i64 dp, .int .i64 dr, .slice A n c])] wr)) (fun _ vi _ => n - (intOf vi).toNat)
  case atStart => exact ⟨[], rfl, Lib.hid (Nat.zero_le _), Lib.hid ⟨rfl, rfl⟩, Lib.hid ⟨fun x hx => (nomatch hx), List.nodup_nil⟩, HM⟩
  case round =>
    clear HM
    obtain ⟨os, rfl, HK, HA, HO, HM⟩ := hrel
    by_cases hlt : os.length < n
    · have kn : (os.length : Int) < (n : Int) := by omega
      have n9 : n ≤ 1000 := HN.out
      obtain ⟨L, x, rfl, hL, hx, c0, c1, -, -⟩ := (h.out.keep HM.out.1).at_ hlt
      have hL2 : (L.add (os.length * 2)).block < wr.heap.size := by rw [block_of_add]; exact hL
      have HX := Lib.hid hx
      have HR := Lib.hid (h.out.len (List.mem_of_getElem? hx)).2
      have HXN := Lib.hid (hw.out x (List.mem_of_getElem? hx))
      have HMB := Lib.hid HM.out.base
      clear hx HM
      have HM := HMB
      clear HMB
      go_wp2_with (first | (first | (refine jL ?_) | (refine jS ?_; clear HM; intro us HM; simp only [List.set, List.setIfInBounds_toArray, List.set_cons_zero, List.set_cons_succ] at HM) | (refine jN ?_; first | (have q : dV HM = 0 := rfl; clear q HM; intro g1 u1 HG1 HM) | (have q : dV HM = 1 := rfl; clear q HM; intro g2 u2 HG2 HM) | (have q : dV HM = 2 := rfl; clear q HM; intro g3 u3 HG3 HM) | (have q : dV HM = 3 := rfl; clear q HM; intro g4 u4 HG4 HM) | (have q : dV HM = 4 := rfl; clear q HM; intro g5 u5 HG5 HM) | (have q : dV HM = 5 := rfl; clear q HM; intro g6 u6 HG6 HM) | (have q : dV HM = 6 := rfl; clear q HM; intro g7 u7 HG7 HM) | (have q : dV HM = 7 := rfl; clear q HM; intro g8 u8 HG8 HM) | (have q : dV HM = 8 := rfl; clear q HM; intro g9 u9 HG9 HM) | (have q : dV HM = 9 := rfl; clear q HM; intro g10 u10 HG10 HM) | (have q : dV HM = 10 := rfl; clear q HM; intro g11 u11 HG11 HM) | (have q : dV HM = 11 := rfl; clear q HM; intro g12 u12 HG12 HM) | (have q : dV HM = 12 := rfl; clear q HM; intro g13 u13 HG13 HM) | (have q : dV HM = 13 := rfl; clear q HM; intro g14 u14 HG14 HM))) | (refine wv_stP (by rfl) _ _ rfl rfl rfl HM (by exact vidxOf) (by with_reducible assumption) ?_; clear HM; intro us HM; dsimp only [List.set] at HM) | (refine wv_make (by rfl) _ _ _ rfl rfl rfl _ _ _ (by first | exact Try.underlying22 | exact Try.underlying35) HI0 HZ0 HY0 HM (by with_reducible assumption) ?_; first | (have q : dV HM = 0 := rfl; clear q HM; intro g1 u1 HG1 HM) | (have q : dV HM = 1 := rfl; clear q HM; intro g2 u2 HG2 HM) | (have q : dV HM = 2 := rfl; clear q HM; intro g3 u3 HG3 HM) | (have q : dV HM = 3 := rfl; clear q HM; intro g4 u4 HG4 HM) | (have q : dV HM = 4 := rfl; clear q HM; intro g5 u5 HG5 HM) | (have q : dV HM = 5 := rfl; clear q HM; intro g6 u6 HG6 HM) | (have q : dV HM = 6 := rfl; clear q HM; intro g7 u7 HG7 HM) | (have q : dV HM = 7 := rfl; clear q HM; intro g8 u8 HG8 HM) | (have q : dV HM = 8 := rfl; clear q HM; intro g9 u9 HG9 HM) | (have q : dV HM = 9 := rfl; clear q HM; intro g10 u10 HG10 HM) | (have q : dV HM = 10 := rfl; clear q HM; intro g11 u11 HG11 HM) | (have q : dV HM = 11 := rfl; clear q HM; intro g12 u12 HG12 HM) | (have q : dV HM = 12 := rfl; clear q HM; intro g13 u13 HG13 HM) | (have q : dV HM = 13 := rfl; clear q HM; intro g14 u14 HG14 HM)))
      refine (ownPacket_any x _ (Lib.hid (HR.out.below HM.out.1)) HXN.out.1 (by have := HXN.out.2; omega)).mono ?_
      rintro e w5 ⟨gx, cx, rfl, hgx, hr5, h1⟩
      have l3 := (HM.out.get (g := g3) (by exact vmemOf)).lt
      have l2 := (HM.out.get (g := g2) (by exact vmemOf)).lt
      have l1 := (HM.out.get (g := g1) (by exact vmemOf)).lt
      have HO5 := Lib.hid (own_snoc ((HO.out.keep HM.out (fun e he => by
        simp only [List.mem_cons, List.not_mem_nil, or_false] at he ⊢
        rcases he with rfl | rfl | rfl | rfl
        · exact .inr HG4.out
        · exact .inl (.inl rfl)
        · exact .inl (.inr (.inl rfl))
        · exact .inl (.inr (.inr rfl)))).below h1) (y := ⟨x.s, some ⟨gx, 0, none⟩, x.n, cx, x.bs⟩) ⟨gx, rfl, Nat.le_trans HM.out.1.size hgx, by
          simp only [List.mem_cons, List.not_mem_nil, or_false]; omega, hr5, HXN.out⟩ (fun z hz => by
          have := ((HO.out.1 z hz).blk).1
          have := HM.out.2.2.2.2.1
          show blkOf z < gx
          omega))
      have HM2 := Lib.hid ((HM.out.below h1).sub (List.sublist_cons_self _ _))
      have HA2 := Lib.hid (alike_snoc HA.out HX.out (y := ⟨x.s, some ⟨gx, 0, none⟩, x.n, cx, x.bs⟩) rfl rfl rfl)
      clear h1 HM HO hr5 hgx l1 l2 l3 c0 c1 hL hL2
      have HM := HM2
      clear HM2
      have HKK := Lib.hid (show os.length * 2 + 1 < (rowK n os).size by rw [rowK_size (by omega)]; omega)
      go_wp2_with (first | (first | (refine jL ?_) | (refine jS ?_; clear HM; intro us HM; simp only [List.set, List.setIfInBounds_toArray, List.set_cons_zero, List.set_cons_succ] at HM) | (refine jN ?_; first | (have q : dV HM = 0 := rfl; clear q HM; intro g1 u1 HG1 HM) | (have q : dV HM = 1 := rfl; clear q HM; intro g2 u2 HG2 HM) | (have q : dV HM = 2 := rfl; clear q HM; intro g3 u3 HG3 HM) | (have q : dV HM = 3 := rfl; clear q HM; intro g4 u4 HG4 HM) | (have q : dV HM = 4 := rfl; clear q HM; intro g5 u5 HG5 HM) | (have q : dV HM = 5 := rfl; clear q HM; intro g6 u6 HG6 HM) | (have q : dV HM = 6 := rfl; clear q HM; intro g7 u7 HG7 HM) | (have q : dV HM = 7 := rfl; clear q HM; intro g8 u8 HG8 HM) | (have q : dV HM = 8 := rfl; clear q HM; intro g9 u9 HG9 HM) | (have q : dV HM = 9 := rfl; clear q HM; intro g10 u10 HG10 HM) | (have q : dV HM = 10 := rfl; clear q HM; intro g11 u11 HG11 HM) | (have q : dV HM = 11 := rfl; clear q HM; intro g12 u12 HG12 HM) | (have q : dV HM = 12 := rfl; clear q HM; intro g13 u13 HG13 HM) | (have q : dV HM = 13 := rfl; clear q HM; intro g14 u14 HG14 HM))) | (refine wv_stP (by rfl) _ _ rfl rfl rfl HM (by exact vidxOf) (by with_reducible assumption) ?_; clear HM; intro us HM; dsimp only [List.set] at HM) | (refine wv_make (by rfl) _ _ _ rfl rfl rfl _ _ _ (by first | exact Try.underlying22 | exact Try.underlying35) HI0 HZ0 HY0 HM (by with_reducible assumption) ?_; first | (have q : dV HM = 0 := rfl; clear q HM; intro g1 u1 HG1 HM) | (have q : dV HM = 1 := rfl; clear q HM; intro g2 u2 HG2 HM) | (have q : dV HM = 2 := rfl; clear q HM; intro g3 u3 HG3 HM) | (have q : dV HM = 3 := rfl; clear q HM; intro g4 u4 HG4 HM) | (have q : dV HM = 4 := rfl; clear q HM; intro g5 u5 HG5 HM) | (have q : dV HM = 5 := rfl; clear q HM; intro g6 u6 HG6 HM) | (have q : dV HM = 6 := rfl; clear q HM; intro g7 u7 HG7 HM) | (have q : dV HM = 7 := rfl; clear q HM; intro g8 u8 HG8 HM) | (have q : dV HM = 8 := rfl; clear q HM; intro g9 u9 HG9 HM) | (have q : dV HM = 9 := rfl; clear q HM; intro g10 u10 HG10 HM) | (have q : dV HM = 10 := rfl; clear q HM; intro g11 u11 HG11 HM) | (have q : dV HM = 11 := rfl; clear q HM; intro g12 u12 HG12 HM) | (have q : dV HM = 12 := rfl; clear q HM; intro g13 u13 HG13 HM) | (have q : dV HM = 13 := rfl; clear q HM; intro g14 u14 HG14 HM)))
      have HF := Lib.hid (HO5.out.keep HM.out (fun e he => by
        simp only [List.mem_cons, List.not_mem_nil, or_false] at he ⊢
        rcases he with rfl | rfl | rfl
        · exact .inl (.inl rfl)
        · exact .inl (.inr (.inl rfl))
        · exact .inl (.inr (.inr rfl))))
      go_roundw
      case rel =>
        refine ⟨_, by first | rfl | (simp; done) | go_num, Lib.hid (by rw [List.length_append, List.length_singleton]; omega), HA2, HF, Lib.hid ?_⟩
        have := HM.out.root (List.Sublist.refl _)
        rw [rowK_snoc hlt ⟨x.s, some ⟨gx, 0, none⟩, x.n, cx, x.bs⟩] at this
        exact this
      case measure => simp [intOf]; omega
    · obtain rfl : os.length = n := by have := HK.out; omega
      have HA2 := Lib.hid (show Alike os ls by have := HA.out; rwa [← hlen.out, List.take_length] at this)
      have HMB := Lib.hid HM.out.base
      clear HM
      have HM := HMB
      clear HMB
      go_wp2_with (first | (first | (refine jL ?_) | (refine jS ?_; clear HM; intro us HM; simp only [List.set, List.setIfInBounds_toArray, List.set_cons_zero, List.set_cons_succ] at HM) | (refine jN ?_; first | (have q : dV HM = 0 := rfl; clear q HM; intro g1 u1 HG1 HM) | (have q : dV HM = 1 := rfl; clear q HM; intro g2 u2 HG2 HM) | (have q : dV HM = 2 := rfl; clear q HM; intro g3 u3 HG3 HM) | (have q : dV HM = 3 := rfl; clear q HM; intro g4 u4 HG4 HM) | (have q : dV HM = 4 := rfl; clear q HM; intro g5 u5 HG5 HM) | (have q : dV HM = 5 := rfl; clear q HM; intro g6 u6 HG6 HM) | (have q : dV HM = 6 := rfl; clear q HM; intro g7 u7 HG7 HM) | (have q : dV HM = 7 := rfl; clear q HM; intro g8 u8 HG8 HM) | (have q : dV HM = 8 := rfl; clear q HM; intro g9 u9 HG9 HM) | (have q : dV HM = 9 := rfl; clear q HM; intro g10 u10 HG10 HM) | (have q : dV HM = 10 := rfl; clear q HM; intro g11 u11 HG11 HM) | (have q : dV HM = 11 := rfl; clear q HM; intro g12 u12 HG12 HM) | (have q : dV HM = 12 := rfl; clear q HM; intro g13 u13 HG13 HM) | (have q : dV HM = 13 := rfl; clear q HM; intro g14 u14 HG14 HM))) | (refine wv_stP (by rfl) _ _ rfl rfl rfl HM (by exact vidxOf) (by with_reducible assumption) ?_; clear HM; intro us HM; dsimp only [List.set] at HM) | (refine wv_make (by rfl) _ _ _ rfl rfl rfl _ _ _ (by first | exact Try.underlying22 | exact Try.underlying35) HI0 HZ0 HY0 HM (by with_reducible assumption) ?_; first | (have q : dV HM = 0 := rfl; clear q HM; intro g1 u1 HG1 HM) | (have q : dV HM = 1 := rfl; clear q HM; intro g2 u2 HG2 HM) | (have q : dV HM = 2 := rfl; clear q HM; intro g3 u3 HG3 HM) | (have q : dV HM = 3 := rfl; clear q HM; intro g4 u4 HG4 HM) | (have q : dV HM = 4 := rfl; clear q HM; intro g5 u5 HG5 HM) | (have q : dV HM = 5 := rfl; clear q HM; intro g6 u6 HG6 HM) | (have q : dV HM = 6 := rfl; clear q HM; intro g7 u7 HG7 HM) | (have q : dV HM = 7 := rfl; clear q HM; intro g8 u8 HG8 HM) | (have q : dV HM = 8 := rfl; clear q HM; intro g9 u9 HG9 HM) | (have q : dV HM = 9 := rfl; clear q HM; intro g10 u10 HG10 HM) | (have q : dV HM = 10 := rfl; clear q HM; intro g11 u11 HG11 HM) | (have q : dV HM = 11 := rfl; clear q HM; intro g12 u12 HG12 HM) | (have q : dV HM = 12 := rfl; clear q HM; intro g13 u13 HG13 HM) | (have q : dV HM = 13 := rfl; clear q HM; intro g14 u14 HG14 HM)))
      have HF := Lib.hid (HO.out.keep HM.out (fun e he => by
        simp only [List.mem_cons, List.not_mem_nil, or_false] at he ⊢
        rcases he with rfl | rfl | rfl
        · exact .inl (.inl rfl)
        · exact .inl (.inr (.inl rfl))
        · exact .inl (.inr (.inr rfl))))
      refine bodyPost_ret (v := jtV on nx dp dr (some ⟨g3, 0, none⟩) os.length os.length) (vres_one rfl _ rfl rowJt HM (by exact vmemOf) (Lib.hid rfl)) rfl ⟨g3, os, rowK os.length os, rfl, HA2.out, HG3.out, HM.out.get (by exact vmemOf), rowK_ok rfl (by have := HN.out; unfold maxLen; omega), HF.out.less (by simp), HM.out.1⟩
end Go.Proofs.Ytffapinabidkiaa.Lp
