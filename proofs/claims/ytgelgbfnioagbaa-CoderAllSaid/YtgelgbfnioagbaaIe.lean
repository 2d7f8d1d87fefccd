/-
  Own texts, laid together: Ie.
-/
import Derived.Test.YtgelgbfnioagbaaId
import Derived.Test.YtgelgbfnioagbaaIb
/- Ie -/
namespace Go.Proofs.Ytgelgbfnioagbaa.Cd
open Go.RowKit
theorem NeS.grown {w : World} {b p : Nat} {cs : Array Value} {C : Option Addr} {m dd : Nat} {xs : List Int} {u u' : World} (h : NeS w b cs C m dd xs u) (hg : u.grownBy u' (some p)) (hp : b + 1 + 1 < p) (hC : ∀ ad, C = some ad → 0 < m → ad.block ≠ p) : NeS w b cs C m dd xs u' :=
  ⟨h.box.only hg (by omega), h.fr.only hg (by omega), h.res.only hg (by omega), h.rd.only hg hC, h.hb, h.blw.grown hg h.blw.size (fun j hj => by injection hj with hj; have := h.hb; omega)⟩
/-- a store into cells that hold no bytes -/
theorem rd_six {w : World} {A : Option Addr} {n g : Nat} {bs : List Nat} {t : TypeId} {a0 a1 a2 a4 a5 : Int} {v0 : Option Addr} {v1 v2 : Nat} (h : Rd w A n bs) (hb : Blk w g t #[.int .u32 a0, .int .u32 a1, .int .u32 a2, .slice v0 v1 v2, .int .i64 a4, .int .i64 a5]) (x0 x1 x2 x3 x4 x5 : Value) :
    Rd ((((((w.setCell ⟨g, 0, none⟩ x0).setCell ⟨g, 1, none⟩ x1).setCell ⟨g, 2, none⟩ x2).setCell ⟨g, 3, none⟩ x3).setCell ⟨g, 4, none⟩ x4).setCell ⟨g, 5, none⟩ x5) A n bs := by
  have h0 := h.setCell (p := ⟨g, 0, none⟩) x0 (fun x => by rw [hb.cell 0]; simp [byteV])
  have b0 := hb.set_ 0 x0
  have h1 := h0.setCell (p := ⟨g, 1, none⟩) x1 (fun x => by rw [b0.cell 1]; simp [byteV])
  have b1 := b0.set_ 1 x1
  have h2 := h1.setCell (p := ⟨g, 2, none⟩) x2 (fun x => by rw [b1.cell 2]; simp [byteV])
  have b2 := b1.set_ 2 x2
  have h3 := h2.setCell (p := ⟨g, 3, none⟩) x3 (fun x => by rw [b2.cell 3]; simp [byteV])
  have b3 := b2.set_ 3 x3
  have h4 := h3.setCell (p := ⟨g, 4, none⟩) x4 (fun x => by rw [b3.cell 4]; simp [byteV])
  have b4 := b3.set_ 4 x4
  exact h4.setCell (p := ⟨g, 5, none⟩) x5 (fun x => by rw [b4.cell 5]; simp [byteV])
theorem below6a {g : Nat} {w u : World} (h : Below w.heap.size w u) (hg : w.heap.size ≤ g) (a b c d e f : Value) (o : Obj) : Below w.heap.size w (((((((u.setCell ⟨g, 0, none⟩ a).setCell ⟨g, 1, none⟩ b).setCell ⟨g, 2, none⟩ c).setCell ⟨g, 3, none⟩ d).setCell ⟨g, 4, none⟩ e).setCell ⟨g, 5, none⟩ f).alloc o) :=
  (below6 h hg a b c d e f).alloc (below6 h hg a b c d e f).size o
theorem rdI_lt {w : World} {C : Option Addr} {m : Nat} {xs : List Int} (h : Fq.RdI w C m xs) : ∀ ad, C = some ad → 0 < m → ad.block < w.heap.size := by
  intro ad ha h0
  obtain ⟨ad', e, hlt, _⟩ := h.at_ h0
  rw [ha] at e
  injection e with e
  rw [e]; exact hlt
set_option maxRecDepth 100000 in
set_option maxHeartbeats 2000000 in
theorem pnext_arg (low high code : Nat) (A : Option Addr) (n c : Nat) (N At : Int) (bs : List Nat) (C : Option Addr) (m dd : Nat) (xs : List Int) (w : World) (hl : low < 4294967296) (hh : high < 4294967296) (hc : code < 4294967296) (hr : Hid (Rd w A n bs)) (hx : Hid (Fq.RdI w C m xs)) (hbad : Hid (okD low high code bs N At = false)) :
    Calls Try.prog 21 #[decV low high code A n c N At, .agg #[.slice C m dd]] w (NOut w 0 0 0 0 0 0 1 []) := by
  have HS0 := Lib.hid (nes_start w #[.int .u32 (low : Int), .int .u32 (high : Int), .int .u32 (code : Int), .slice A n c, .int .i64 N, .int .i64 At] C m dd xs hx.out)
  have hcon := fun u (hb : Below w.heap.size w u) => reopen_any low high code A n c N At bs false u hl hh hc (Lib.hid (hr.out.below hb)) hbad
  unfold decV at hcon
  have HCON := Lib.hid hcon
  clear hcon
  unfold decV
  go_enter Try.func21, Try.ntmps21
  go_wp2_with fail
  generalize ((w.alloc (.cells #[.int .u32 (low : Int), .int .u32 (high : Int), .int .u32 (code : Int), .slice A n c, .int .i64 N, .int .i64 At] 45)).alloc (.cells #[.slice C m dd] 30)).alloc (.cells #[.int .u32 0, .int .u32 0, .int .u32 0, .slice none 0 0, .int .i64 0, .int .i64 0] 45) = w0 at HS0 ⊢
  obtain ⟨b, hb⟩ : ∃ b, b = w.heap.size := ⟨_, rfl⟩
  rw [← hb] at HS0 ⊢
  have HB := Lib.hid (show w.heap.size ≤ b by omega)
  clear hb
  refine (HCON.out w0 HS0.out.blw).mono ?_
  rintro e w2 (⟨h, -⟩ | ⟨-, rfl, hb2⟩)
  · cases h
  have HS2 := Lib.hid (HS0.out.next hb2)
  clear hb2 HS0 HCON
  obtain ⟨y1, y2, y3, y4, y5, y6⟩ := blk6 HS2.out.res
  obtain ⟨z1, z2, z3, z4, z5, z6⟩ := frz6 HS2.out.res
  go_wp2
  exact bodyPost_ret (v := .tuple #[decV 0 0 0 none 0 0 0 0, .int .i64 0, .int .i64 1]) (by simp [results, Try.results21, go_sem, decV, y1, y2, y3, y4, y5, y6]) rfl (NOut.err (below6 HS2.out.blw (by have := HB.out; omega) _ _ _ _ _ _))
/-- which error there is behind a state that may be: 1, 20, or none -/
def nxErr (d : De) (L : Nat) (xs : List Int) : Int := if Fq.okF xs = true then (if L + 32 < d.at_ then 20 else 0) else 1
set_option maxRecDepth 100000 in
set_option maxHeartbeats 4000000 in
theorem pnext_err (d : De) (A : Option Addr) (n c L : Nat) (l : List Bool) (C : Option Addr) (m dd : Nat) (xs : List Int) (E : Int) (w : World) (hI : Hid (IsB w (.agg #[.slice A n c, .int .i64 (L : Int)]) l)) (hd : Hid (FineD d)) (h32 : 32 ≤ d.at_) (hat : d.at_ ≤ 65600) (hx : Hid (Fq.RdI w C m xs)) (hm : Hid (m ≤ maxLen)) (hE : Hid (nxErr d L xs = E)) (hE0 : ¬ E = 0) :
    Calls Try.prog 21 #[decV d.low d.high d.code A n c (L : Int) (d.at_ : Int), .agg #[.slice C m dd]] w (NOut w 0 0 0 0 0 0 E []) := by
  obtain ⟨hn, hN, hr, hl⟩ := isB_parts hI.out
  have HOK := Lib.hid (show okD d.low d.high d.code (pack l) (L : Int) (d.at_ : Int) = true by rw [hN]; exact okD_mk hd.out hl h32 hat)
  have Lb : L ≤ 65536 := by omega
  have HR := Lib.hid hr
  have o1 := hd.out.1.1
  have o2 := hd.out.1.2
  have k1 := hd.out.2.2.1
  have k2 := hd.out.2.2.2
  clear hn hN hr hl
  have HS0 := Lib.hid (nes_start w #[.int .u32 (d.low : Int), .int .u32 (d.high : Int), .int .u32 (d.code : Int), .slice A n c, .int .i64 (L : Int), .int .i64 (d.at_ : Int)] C m dd xs hx.out)
  have hcon := fun u (hb : Below w.heap.size w u) => reopen_any d.low d.high d.code A n c (L : Int) (d.at_ : Int) (pack l) true u (by omega) (by omega) (by omega) (Lib.hid (HR.out.below hb)) HOK
  unfold decV at hcon
  have HCON := Lib.hid hcon
  clear hcon
  unfold decV
  go_enter Try.func21, Try.ntmps21
  go_wp2_with fail
  generalize ((w.alloc (.cells #[.int .u32 (d.low : Int), .int .u32 (d.high : Int), .int .u32 (d.code : Int), .slice A n c, .int .i64 (L : Int), .int .i64 (d.at_ : Int)] 45)).alloc (.cells #[.slice C m dd] 30)).alloc (.cells #[.int .u32 0, .int .u32 0, .int .u32 0, .slice none 0 0, .int .i64 0, .int .i64 0] 45) = w0 at HS0 ⊢
  obtain ⟨b, hb⟩ : ∃ b, b = w.heap.size := ⟨_, rfl⟩
  rw [← hb] at HS0 ⊢
  have HB := Lib.hid (show w.heap.size ≤ b by omega)
  clear hb
  refine (HCON.out w0 HS0.out.blw).mono ?_
  rintro e w2 (⟨-, p, rfl, hp, hP, hb2⟩ | ⟨h, -⟩)
  case inr => cases h
  have HS2 := Lib.hid (HS0.out.next hb2)
  have HP2 := Lib.hid (show RdS w2 p d A n c (L : Int) from hP)
  clear hb2 hp hP HS0 HCON
  have x7 := Fq.blk0 HS2.out.fr
  go_wp2_with fail
  clear x7
  cases hF : Fq.okF xs with
  | false =>
    have HF := Lib.hid hF
    have HE1 := Lib.hid (show E = 1 by rw [← hE.out]; unfold nxErr; rw [hF]; rfl)
    clear hF
    refine (next_bad p d A n c (L : Int) C m dd xs w2 HP2 (Lib.hid HS2.out.rd) hm HF).mono ?_
    rintro e w3 ⟨rfl, hb3⟩
    have HS3 := Lib.hid (HS2.out.next hb3)
    clear hb3 HS2
    obtain ⟨y1, y2, y3, y4, y5, y6⟩ := blk6 HS3.out.res
    obtain ⟨z1, z2, z3, z4, z5, z6⟩ := frz6 HS3.out.res
    go_wp2
    refine bodyPost_ret (v := .tuple #[decV 0 0 0 none 0 0 0 0, .int .i64 0, .int .i64 1]) (by simp [results, Try.results21, go_sem, decV, y1, y2, y3, y4, y5, y6]) rfl ?_
    rw [HE1.out]
    exact NOut.err (below6 HS3.out.blw (by have := HB.out; omega) _ _ _ _ _ _)
  | true =>
    have HF := Lib.hid hF
    have hsh : L + 32 < d.at_ := by
      rcases Nat.lt_or_ge (L + 32) d.at_ with h | h
      · exact h
      · exfalso
        apply hE0
        rw [← hE.out]; unfold nxErr; rw [if_pos hF, if_neg (by omega)]
    have HE1 := Lib.hid (show E = 20 by rw [← hE.out]; unfold nxErr; rw [if_pos hF, if_pos hsh])
    clear hF
    refine (next_short p d A n c L C m dd xs w2 HP2 Lb hsh (by omega) (Lib.hid HS2.out.rd) hm HF).mono ?_
    rintro e w3 ⟨rfl, hb3⟩
    have HS3 := Lib.hid (HS2.out.next hb3)
    clear hb3 HS2
    obtain ⟨y1, y2, y3, y4, y5, y6⟩ := blk6 HS3.out.res
    obtain ⟨z1, z2, z3, z4, z5, z6⟩ := frz6 HS3.out.res
    go_wp2
    refine bodyPost_ret (v := .tuple #[decV 0 0 0 none 0 0 0 0, .int .i64 0, .int .i64 20]) (by simp [results, Try.results21, go_sem, decV, y1, y2, y3, y4, y5, y6]) rfl ?_
    rw [HE1.out]
    exact NOut.err (below6 HS3.out.blw (by have := HB.out; omega) _ _ _ _ _ _)
set_option maxRecDepth 100000 in
set_option maxHeartbeats 4000000 in
theorem pnext_ok (d : De) (A : Option Addr) (n c L : Nat) (l : List Bool) (C : Option Addr) (m dd : Nat) (xs : List Int) (fin : De) (w : World) (hI : Hid (IsB w (.agg #[.slice A n c, .int .i64 (L : Int)]) l)) (hd : Hid (FineD d)) (h32 : 32 ≤ d.at_) (hat : d.at_ ≤ 65600) (ha : d.at_ ≤ L + 32) (hx : Hid (Fq.RdI w C m xs)) (hm : Hid (m ≤ maxLen)) (hok : Hid (Fq.okF xs = true)) (hfin : Hid (nxE l d xs = fin)) :
    Calls Try.prog 21 #[decV d.low d.high d.code A n c (L : Int) (d.at_ : Int), .agg #[.slice C m dd]] w (NOut w fin.low fin.high fin.code (fin.at_ : Int) (L : Int) (nxK d xs : Int) 0 (pack l)) := by
  obtain ⟨hn, hN, hr, hl⟩ := isB_parts hI.out
  have HOK := Lib.hid (show okD d.low d.high d.code (pack l) (L : Int) (d.at_ : Int) = true by rw [hN]; exact okD_mk hd.out hl h32 hat)
  have Lb : L ≤ 65536 := by omega
  have HR := Lib.hid hr
  have o1 := hd.out.1.1
  have o2 := hd.out.1.2
  have k1 := hd.out.2.2.1
  have k2 := hd.out.2.2.2
  clear hn hN hr hl
  have HS0 := Lib.hid (nes_start w #[.int .u32 (d.low : Int), .int .u32 (d.high : Int), .int .u32 (d.code : Int), .slice A n c, .int .i64 (L : Int), .int .i64 (d.at_ : Int)] C m dd xs hx.out)
  have hcon := fun u (hb : Below w.heap.size w u) => reopen_any d.low d.high d.code A n c (L : Int) (d.at_ : Int) (pack l) true u (by omega) (by omega) (by omega) (Lib.hid (HR.out.below hb)) HOK
  unfold decV at hcon
  have HCON := Lib.hid hcon
  clear hcon
  unfold decV
  go_enter Try.func21, Try.ntmps21
  go_wp2_with fail
  generalize ((w.alloc (.cells #[.int .u32 (d.low : Int), .int .u32 (d.high : Int), .int .u32 (d.code : Int), .slice A n c, .int .i64 (L : Int), .int .i64 (d.at_ : Int)] 45)).alloc (.cells #[.slice C m dd] 30)).alloc (.cells #[.int .u32 0, .int .u32 0, .int .u32 0, .slice none 0 0, .int .i64 0, .int .i64 0] 45) = w0 at HS0 ⊢
  obtain ⟨b, hb⟩ : ∃ b, b = w.heap.size := ⟨_, rfl⟩
  rw [← hb] at HS0 ⊢
  have HB := Lib.hid (show w.heap.size ≤ b by omega)
  clear hb
  refine (HCON.out w0 HS0.out.blw).mono ?_
  rintro e w2 (⟨-, p, rfl, hp, hP, hb2⟩ | ⟨h, -⟩)
  case inr => cases h
  have HS2 := Lib.hid (HS0.out.next hb2)
  have HP2 := Lib.hid (show RdS w2 p d A n c (L : Int) from hP)
  have HLP := Lib.hid (show b + 1 + 1 < p from Nat.lt_of_lt_of_le HS0.out.res.lt hp)
  have HAP := Lib.hid (show ∀ ad, A = some ad → 0 < n → ad.block ≠ p from fun ad ha h0 => by have := HR.out.lies h0 ad ha; have := HLP.out; have := HB.out; omega)
  have HCP := Lib.hid (show ∀ ad, C = some ad → 0 < m → ad.block ≠ p from fun ad ha h0 => by have := rdI_lt hx.out ad ha h0; have := HLP.out; have := HB.out; omega)
  clear hb2 hp hP HS0 HCON
  have x7 := Fq.blk0 HS2.out.fr
  go_wp2_with fail
  clear x7
  obtain ⟨K, hK⟩ : ∃ K, K = nxK d xs := ⟨_, rfl⟩
  refine (next_ok p d A n c L l C m dd xs w2 HP2 (Lib.hid (hI.out.below HS2.out.blw)) HAP Lb hd ha (Lib.hid HS2.out.rd) hm hok).mono ?_
  rw [← hK, hfin.out]
  have HKK := Lib.hid hK
  clear hK
  rintro e w3 ⟨rfl, hs3, hg3⟩
  have HS3 := Lib.hid (HS2.out.grown hg3 HLP.out HCP.out)
  have HP3 := Lib.hid hs3
  have HI3 := Lib.hid (isB_only (hI.out.below HS2.out.blw) hg3 HAP.out)
  clear hs3 hg3 HS2 HP2
  go_wp2_with fail
  refine (rstate_any p fin A n c L l w3 HP3 HI3).mono ?_
  rintro e w4 ⟨A4, n4, c4, rfl, hb4, hr4⟩
  have HS4 := Lib.hid (HS3.out.next hb4)
  have HR4 := Lib.hid hr4
  clear hb4 hr4 HS3 HP3 HI3
  unfold decV
  have l4 := HS4.out.res.lt
  obtain ⟨y1, y2, y3, y4, y5, y6⟩ := blk6 HS4.out.res
  obtain ⟨z1, z2, z3, z4, z5, z6⟩ := frz6 HS4.out.res
  go_wp2
  exact bodyPost_ret (v := .tuple #[decV fin.low fin.high fin.code A4 n4 c4 (L : Int) (fin.at_ : Int), .int .i64 (K : Int), .int .i64 0]) (by simp [results, Try.results21, go_sem, decV, y1, y2, y3, y4, y5, y6, l4]) rfl ⟨A4, n4, c4, by rw [HKK.out], below6a HS4.out.blw (by have := HB.out; omega) _ _ _ _ _ _ _, (rd_six HR4.out HS4.out.res _ _ _ _ _ _).alloc _⟩
end Go.Proofs.Ytgelgbfnioagbaa.Cd
