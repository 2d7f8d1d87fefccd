/-
  Where a packet of a number is, or would be; whether one would stand too far.
-/
import Derived.Test.YtffapinabidkiaaUD
set_option linter.unusedSimpArgs false
set_option linter.unusedVariables false
/- UE -/
namespace Go.Proofs.Ytffapinabidkiaa.Lp
open Go.RowKit Go.Proofs.Ytffapinabidkiaa.Fq
/-- the place of the first packet whose number is not less -/
def atP (seq : Int) (ls : List Pk) : Nat := ls.findIdx (fromP seq)
def thereP (seq : Int) (ls : List Pk) : Bool := match ls[atP seq ls]? with | some x => x.s == seq | none => false
theorem atP_le (seq : Int) (ls : List Pk) : atP seq ls ≤ ls.length := List.findIdx_le_length
theorem idx_at {seq : Int} {ls : List Pk} (h : atP seq ls < ls.length) : idxP (fromP seq) ls = (atP seq ls : Int) := by
  unfold idxP
  rw [show ls.findIdx? (fromP seq) = some (atP seq ls) from List.findIdx?_eq_some_iff_findIdx_eq.2 ⟨h, rfl⟩]
theorem idx_no {seq : Int} {ls : List Pk} (h : ¬ atP seq ls < ls.length) : idxP (fromP seq) ls = -1 := by
  unfold idxP
  rw [show ls.findIdx? (fromP seq) = none from List.findIdx?_eq_none_iff_findIdx_eq.2 (by have := atP_le seq ls; unfold atP at *; omega)]
set_option maxRecDepth 100000 in
set_option maxHeartbeats 4000000 in
theorem find_any (A : Option Addr) (n c : Nat) (ls : List Pk) (seq : Int) (w : World) (h : Hid (RdP w A n ls)) (hn : n ≤ 281474976710656) :
    Calls Try.prog 48 #[.slice A n c, .int .i64 seq] w (ValQ w (.tuple #[.int .i64 (atP seq ls : Int), .bool (thereP seq ls)])) := by
  have HM := Lib.hid (MV.start w)
  have HN := Lib.hid hn
  have hmk : ∀ fn first cap u, (Instr.makeFunc fn first cap).run Try.prog u = .ok (.func fn first cap) u := fun _ _ _ _ => rfl
  have hlen := Lib.hid h.out.1
  clear hn
  go_enter Try.func48, Try.ntmps48
  go_wp2_with (first | (refine jL ?_) | (refine jS ?_; clear HM; intro us HM; simp only [List.set, List.setIfInBounds_toArray, List.set_cons_zero, List.set_cons_succ] at HM) | (refine jN ?_; first | (have q : dV HM = 0 := rfl; clear q HM; intro g1 u1 HG1 HM) | (have q : dV HM = 1 := rfl; clear q HM; intro g2 u2 HG2 HM) | (have q : dV HM = 2 := rfl; clear q HM; intro g3 u3 HG3 HM) | (have q : dV HM = 3 := rfl; clear q HM; intro g4 u4 HG4 HM) | (have q : dV HM = 4 := rfl; clear q HM; intro g5 u5 HG5 HM) | (have q : dV HM = 5 := rfl; clear q HM; intro g6 u6 HG6 HM) | (have q : dV HM = 6 := rfl; clear q HM; intro g7 u7 HG7 HM) | (have q : dV HM = 7 := rfl; clear q HM; intro g8 u8 HG8 HM) | (have q : dV HM = 8 := rfl; clear q HM; intro g9 u9 HG9 HM) | (have q : dV HM = 9 := rfl; clear q HM; intro g10 u10 HG10 HM) | (have q : dV HM = 10 := rfl; clear q HM; intro g11 u11 HG11 HM) | (have q : dV HM = 11 := rfl; clear q HM; intro g12 u12 HG12 HM) | (have q : dV HM = 12 := rfl; clear q HM; intro g13 u13 HG13 HM) | (have q : dV HM = 13 := rfl; clear q HM; intro g14 u14 HG14 HM)))
  have bB := HM.out.get (g := g1) (T := 3) (cs := #[.int .i64 seq]) (by exact vmemOf)
  refine (idxFrom_any A n c ls seq g1 3 _ (Lib.hid (h.out.keep HM.out.1)) HN.out bB.lt (Lib.hid ((bB.cell 0).trans rfl))).mono ?_
  rintro e w2 ⟨rfl, h1⟩
  have HM2 := Lib.hid (HM.out.below h1)
  clear h1 HM bB
  have HM := HM2
  clear HM2
  by_cases hat : atP seq ls < ls.length
  · rw [idx_at hat]
    have HAT := Lib.hid hat
    have hx := List.getElem?_eq_getElem hat
    have HV := Lib.hid (show thereP seq ls = (ls[atP seq ls].s == seq) by unfold thereP; rw [hx]; rfl)
    generalize ls[atP seq ls] = x at hx HV
    generalize atP seq ls = k at *
    have kn : k < n := by have := hlen.out; omega
    have kn' : (k : Int) < (n : Int) := by omega
    have k0 : decide ((k : Int) < 0) = false := decide_eq_false (by omega)
    have k1 : (0 : Int) ≤ (k : Int) := by omega
    obtain ⟨L, y, rfl, hL, hy, c0, -, -⟩ := (h.out.keep HM.out.1).at_ kn
    obtain rfl : y = x := by rw [hx] at hy; injection hy with hy; exact hy.symm
    have hL2 : (L.add (k * 2)).block < w2.heap.size := by rw [block_of_add]; exact hL
    have c1 := HM.out.cell (g := g1) (k := 0) (v := .int .i64 seq) (by exact vmemOf) rfl
    have HC := Lib.hid c0
    clear hx hy hat
    go_wp2_with fail
    go_quiet (fail)
    go_wp2_with fail
    go_ret2
    exact ⟨by rw [HV.out]; rfl, below_drewN HM.out.1 nq⟩
  · rw [idx_no hat]
    have hlen' := hlen.out
    have HV := Lib.hid (show atP seq ls = n by have := atP_le seq ls; omega)
    have HV2 := Lib.hid (show thereP seq ls = false by unfold thereP; rw [List.getElem?_eq_none (by omega)])
    clear hat hlen'
    go_wp2_with fail
    go_ret2
    exact ⟨by rw [HV.out, HV2.out]; rfl, HM.out.1⟩
/-- whether a packet of that number would stand too far -/
def farP (on : Bool) (nx seq : Int) (q : List Pq) : Bool :=
  if q = [] then !fitsB on nx seq seq else !fitsB on nx (min seq (q.headD (0, [])).1) (max seq (q.getLastD (0, [])).1)
set_option maxRecDepth 100000 in
set_option maxHeartbeats 4000000 in
theorem isFar_any (on : Bool) (nx dp dr : Int) (A : Option Addr) (n c : Nat) (ls : List Pk) (seq : Int) (w : World) (h : Hid (RdP w A n ls)) (hn : n ≤ 281474976710656) (h1 : 0 ≤ nx) (h2 : nx ≤ 2199023255552) (h3 : 0 ≤ seq) (h4 : seq ≤ 1099511627776) (hb : Hid (∀ p ∈ ls.map pl, badP p = false)) :
    Calls Try.prog 49 #[jtV on nx dp dr A n c, .int .i64 seq] w (ValQ w (.bool (farP on nx seq (ls.map pl)))) := by
  have HM := Lib.hid (MV.start w)
  have HN := Lib.hid hn
  have HX1 := Lib.hid h1
  have HX2 := Lib.hid h2
  have HS1 := Lib.hid h3
  have HS2 := Lib.hid h4
  have hlen := Lib.hid h.out.1
  clear hn h1 h2 h3 h4
  rcases Nat.eq_zero_or_pos n with h0 | h0
  · subst h0
    have hls : ls = [] := List.eq_nil_of_length_eq_zero hlen.out
    have HV := Lib.hid (show farP on nx seq (ls.map pl) = !fitsB on nx seq seq by rw [hls]; rfl)
    clear hls
    go_enter Try.func49, Try.ntmps49
    go_wp2_with (first | (refine jL ?_) | (refine jS ?_; clear HM; intro us HM; simp only [List.set, List.setIfInBounds_toArray, List.set_cons_zero, List.set_cons_succ] at HM) | (refine jN ?_; first | (have q : dV HM = 0 := rfl; clear q HM; intro g1 u1 HG1 HM) | (have q : dV HM = 1 := rfl; clear q HM; intro g2 u2 HG2 HM) | (have q : dV HM = 2 := rfl; clear q HM; intro g3 u3 HG3 HM) | (have q : dV HM = 3 := rfl; clear q HM; intro g4 u4 HG4 HM) | (have q : dV HM = 4 := rfl; clear q HM; intro g5 u5 HG5 HM) | (have q : dV HM = 5 := rfl; clear q HM; intro g6 u6 HG6 HM) | (have q : dV HM = 6 := rfl; clear q HM; intro g7 u7 HG7 HM) | (have q : dV HM = 7 := rfl; clear q HM; intro g8 u8 HG8 HM) | (have q : dV HM = 8 := rfl; clear q HM; intro g9 u9 HG9 HM) | (have q : dV HM = 9 := rfl; clear q HM; intro g10 u10 HG10 HM) | (have q : dV HM = 10 := rfl; clear q HM; intro g11 u11 HG11 HM) | (have q : dV HM = 11 := rfl; clear q HM; intro g12 u12 HG12 HM) | (have q : dV HM = 12 := rfl; clear q HM; intro g13 u13 HG13 HM) | (have q : dV HM = 13 := rfl; clear q HM; intro g14 u14 HG14 HM)))
    refine (fits_any on nx dp dr seq seq A 0 c _ HX1.out HX2.out HS1.out HS2.out).mono ?_
    rintro e w2 ⟨rfl, h1⟩
    have HB := Lib.hid (HM.out.1.trans (h1.mono HM.out.1.size))
    clear h1
    go_wp2_with fail
    go_ret
    exact ⟨by rw [HV.out]; rfl, HB.out⟩
  · have n0 : ((n : Int) == 0) = false := by simp; omega
    obtain ⟨L, y, rfl, hL, hy, c0, -, -⟩ := h.out.at_ (k := 0) h0
    obtain ⟨L', x, e, -, hx, -⟩ := h.out.at_ (k := n - 1) (by omega)
    injection e with e
    subst e
    rw [Nat.zero_mul, Addr.add_zero'] at c0
    have HYB := Lib.hid (bad_iff (hb.out (pl y) (List.mem_map.2 ⟨y, List.mem_of_getElem? hy, rfl⟩)))
    have HV := Lib.hid (show farP on nx seq (ls.map pl) = !fitsB on nx (min seq y.s) (max seq x.s) by
      have e1 : ls.map pl ≠ [] := by intro he; rw [List.map_eq_nil_iff] at he; rw [he] at hy; cases hy
      have e2 : ((ls.map pl).headD (0, [])) = pl y := by cases ls with | nil => cases hy | cons a l => simp at hy; simp [hy]
      have e3 : ((ls.map pl).getLastD (0, [])) = pl x := by
        rw [List.getLastD_eq_getLast?, List.getLast?_eq_getElem?, List.length_map, hlen.out, List.getElem?_map, hx]; rfl
      unfold farP
      rw [if_neg e1, e2, e3]
      rfl)
    have HX := Lib.hid hx
    have hc0 := c0
    have hL0 := hL
    have n00 : 0 < n := h0
    have e0 : ¬ ((n : Int) = 0) := by omega
    clear hx hy c0
    go_enter Try.func49, Try.ntmps49
    go_wp2_with (first | (refine jL ?_) | (refine jS ?_; clear HM; intro us HM; simp only [List.set, List.setIfInBounds_toArray, List.set_cons_zero, List.set_cons_succ] at HM) | (refine jN ?_; first | (have q : dV HM = 0 := rfl; clear q HM; intro g1 u1 HG1 HM) | (have q : dV HM = 1 := rfl; clear q HM; intro g2 u2 HG2 HM) | (have q : dV HM = 2 := rfl; clear q HM; intro g3 u3 HG3 HM) | (have q : dV HM = 3 := rfl; clear q HM; intro g4 u4 HG4 HM) | (have q : dV HM = 4 := rfl; clear q HM; intro g5 u5 HG5 HM) | (have q : dV HM = 5 := rfl; clear q HM; intro g6 u6 HG6 HM) | (have q : dV HM = 6 := rfl; clear q HM; intro g7 u7 HG7 HM) | (have q : dV HM = 7 := rfl; clear q HM; intro g8 u8 HG8 HM) | (have q : dV HM = 8 := rfl; clear q HM; intro g9 u9 HG9 HM) | (have q : dV HM = 9 := rfl; clear q HM; intro g10 u10 HG10 HM) | (have q : dV HM = 10 := rfl; clear q HM; intro g11 u11 HG11 HM) | (have q : dV HM = 11 := rfl; clear q HM; intro g12 u12 HG12 HM) | (have q : dV HM = 12 := rfl; clear q HM; intro g13 u13 HG13 HM) | (have q : dV HM = 13 := rfl; clear q HM; intro g14 u14 HG14 HM)))
    have HW := Lib.hid HM.out.1
    have bJ := HM.out.get (g := g1) (T := 24) (cs := #[.bool on, .int .i64 nx, .int .i64 dp, .int .i64 dr, .slice (some L) n c]) (by exact vmemOf)
    have HLQ := Lib.hid (fun (u : World) (hu : Below u1.heap.size u1 u) => run_load_one (T := 22) (ad := ⟨g1, 4, none⟩) (v := .slice (some L) n c) onePacks (((bJ.below hu bJ.lt).cell 4).trans rfl))
    have HLJ := Lib.hid (fun (u : World) (hu : Below u1.heap.size u1 u) => run_load_blk (T := 24) rowJt (bJ.below hu bJ.lt) rfl)
    have hc1 : u1.cell? L = some (.int .i64 y.s) := (HW.out.cell hL0).trans hc0
    have hL1 : L.block < u1.heap.size := Nat.lt_of_lt_of_le hL0 HW.out.size
    have HLY := Lib.hid (fun (u : World) (hu : Below u1.heap.size u1 u) => run_load_one (T := 3) (ad := L) (v := .int .i64 y.s) oneInt ((hu.cell hL1).trans hc1))
    have HRR := Lib.hid (h.out.keep HW.out)
    clear bJ hc1 hc0 hL1 hL0 e0 n0 HM
    have nn : (0 : Int) < (n : Int) := by omega
    refine wp_region_held_drew (S := fun u => Below u1.heap.size u1 u) (by kernel_rfl) (Below.drew (Below.refl _ _)) (fun hHeld => ?_); have HB := Lib.hid (show Below u1.heap.size u1 (World.drew u1) from Below.drew (Below.refl _ _)); generalize World.drew u1 = u0 at HB hHeld ⊢
    (refine wa_take (i := 0) rfl (by kernel_rfl) (by kernel_rfl) (by kernel_rfl) (fun _ _ _ h => h) (yv_load rfl _ _ rfl rfl (HLJ.out)) hHeld rfl ?_; (try simp only [Act.put, List.setIfInBounds_toArray, List.set_cons_zero, List.set_cons_succ]))
    (refine wa_take (i := 1) (v := .int .i64 seq) rfl (by kernel_rfl) (by kernel_rfl) (by kernel_rfl) (fun _ _ _ h => h) (yi_free rfl (fun u => rfl)) hHeld rfl ?_; (try simp only [Act.put, List.setIfInBounds_toArray, List.set_cons_zero, List.set_cons_succ]))
    (refine wa_take (i := 2) (v := .pointer (some ⟨g1, 4, none⟩)) rfl (by kernel_rfl) (by kernel_rfl) (by kernel_rfl) (fun _ _ _ h => h) (yi_free rfl (fun u => by go_simp)) hHeld rfl ?_; (try simp only [Act.put, List.setIfInBounds_toArray, List.set_cons_zero, List.set_cons_succ]))
    (refine wa_take (i := 3) rfl (by kernel_rfl) (by kernel_rfl) (by kernel_rfl) (fun _ _ _ h => h) (yv_load rfl _ _ rfl rfl (HLQ.out)) hHeld rfl ?_; (try simp only [Act.put, List.setIfInBounds_toArray, List.set_cons_zero, List.set_cons_succ]))
    (refine wa_take (i := 4) (v := .pointer (some L)) rfl (by kernel_rfl) (by kernel_rfl) (by kernel_rfl) (fun _ _ _ h => h) (yi_free rfl (fun u => by go_simp)) hHeld rfl ?_; (try simp only [Act.put, List.setIfInBounds_toArray, List.set_cons_zero, List.set_cons_succ]))
    (refine wa_take (i := 5) (v := .pointer (some L)) rfl (by kernel_rfl) (by kernel_rfl) (by kernel_rfl) (fun _ _ _ h => h) (yi_free rfl (fun u => by go_simp)) hHeld rfl ?_; (try simp only [Act.put, List.setIfInBounds_toArray, List.set_cons_zero, List.set_cons_succ]))
    (refine wa_take (i := 6) rfl (by kernel_rfl) (by kernel_rfl) (by kernel_rfl) (fun _ _ _ h => h) (yv_load rfl _ _ rfl rfl (HLY.out)) hHeld rfl ?_; (try simp only [Act.put, List.setIfInBounds_toArray, List.set_cons_zero, List.set_cons_succ]))
    (refine wa_take (i := 7) (v := .int .i64 (min seq y.s)) rfl (by kernel_rfl) (by kernel_rfl) (by kernel_rfl) (fun _ _ _ h => h) (yi_free rfl (fun u => by go_simp)) hHeld rfl ?_; (try simp only [Act.put, List.setIfInBounds_toArray, List.set_cons_zero, List.set_cons_succ]))
    (refine wa_take (i := 8) (v := .int .i64 seq) rfl (by kernel_rfl) (by kernel_rfl) (by kernel_rfl) (fun _ _ _ h => h) (yi_free rfl (fun u => rfl)) hHeld rfl ?_; (try simp only [Act.put, List.setIfInBounds_toArray, List.set_cons_zero, List.set_cons_succ]))
    (refine wa_take (i := 9) rfl (by kernel_rfl) (by kernel_rfl) (by kernel_rfl) (fun _ _ _ h => h) (yv_load rfl _ _ rfl rfl (HLJ.out)) hHeld rfl ?_; (try simp only [Act.put, List.setIfInBounds_toArray, List.set_cons_zero, List.set_cons_succ]))
    refine wpAnyH_ready (rs := [10]) (by kernel_rfl) (by simp) ?_; refine AllReadyH.cons rfl (fun K hK => ?_) (AllReadyH.nil)
    rw [if_pos (by rfl)]; go_simp
    refine (last_any on nx dp dr (some L) n c ls x _ (Lib.hid (HRR.out.keep HB.out)) HN.out h0 HX).mono ?_
    rintro e u4 ⟨rfl, hb⟩
    have HB1 := Lib.hid (HB.out.trans (hb.mono HB.out.size)); clear hb HB; have HB := HB1; clear HB1; go_wp2_with fail; refine hK.out _ _ HB.out (fun hHeld => ?_); clear hK K; (try simp only [Act.put, List.setIfInBounds_toArray, List.set_cons_zero, List.set_cons_succ])
    (refine wa_take (i := 11) (v := .int .i64 (max seq x.s)) rfl (by kernel_rfl) (by kernel_rfl) (by kernel_rfl) (fun _ _ _ h => h) (yi_free rfl (fun u => by go_simp)) hHeld rfl ?_; (try simp only [Act.put, List.setIfInBounds_toArray, List.set_cons_zero, List.set_cons_succ]))
    refine wpAnyH_ready (rs := [12]) (by kernel_rfl) (by simp) ?_; refine AllReadyH.cons rfl (fun K hK => ?_) (AllReadyH.nil)
    rw [if_pos (by rfl)]; go_simp
    refine (fits_any on nx dp dr (min seq y.s) (max seq x.s) (some L) n c _ HX1.out HX2.out (by have := HYB.out.1; have := HS1.out; unfold pl at *; simp only at *; omega) (by have := HS2.out; omega)).mono ?_
    rintro e u5 ⟨rfl, hb⟩
    have HB1 := Lib.hid (HB.out.trans (hb.mono HB.out.size)); clear hb HB; have HB := HB1; clear HB1; go_wp2_with fail; refine hK.out _ _ HB.out (fun hHeld => ?_); clear hK K; (try simp only [Act.put, List.setIfInBounds_toArray, List.set_cons_zero, List.set_cons_succ])
    (refine wa_take (i := 13) (v := .bool (!fitsB on nx (min seq y.s) (max seq x.s))) rfl (by kernel_rfl) (by kernel_rfl) (by kernel_rfl) (fun _ _ _ h => h) (yi_free rfl (fun u => by go_simp)) hHeld rfl ?_; (try simp only [Act.put, List.setIfInBounds_toArray, List.set_cons_zero, List.set_cons_succ]))
    (refine wa_take (i := 14) (v := .bool (!fitsB on nx (min seq y.s) (max seq x.s))) rfl (by kernel_rfl) (by kernel_rfl) (by kernel_rfl) (fun _ _ _ h => h) (yi_free rfl (fun u => rfl)) hHeld rfl ?_; (try simp only [Act.put, List.setIfInBounds_toArray, List.set_cons_zero, List.set_cons_succ]))
    refine wpAnyH_done (by kernel_rfl) ?_ _
    go_wp2_with fail
    go_ret
    exact ⟨by rw [HV.out]; rfl, HW.out.trans (HB.out.mono HW.out.size)⟩
end Go.Proofs.Ytffapinabidkiaa.Lp
