/-
  What the document's own Join answers.
-/
import Derived.Test.YthaannpkgljngaaRb
import Derived.Test.YthaannpkgljngaaSplit
namespace Go.Proofs.Ythaannpkgljngaa
open Go.RowKit

theorem own_ne {w : World} {base g : Nat} {v : Value} {l : List Bool} {t : TypeId} {cs : Array Value} (h : OwnB w base v l) (hb : Blk w g t cs) (ht : 5 ≠ t) : v.ownBlock ≠ some g := by
  rcases h.2 with ⟨rfl, _⟩ | ⟨g', cap, cur, rfl, _, hh, _⟩
  · simp [Value.ownBlock]
  · intro e
    simp only [Value.ownBlock, Option.some.injEq] at e
    subst e
    exact Blk.ne_ (t := 5) hh hb ht rfl
theorem Blk.row {w w' : World} {g : Nat} {t : TypeId} {cs : Array Value} {row : Option Nat} (h : Blk w g t cs) (hb : w.grownBy w' row) (hg : row ≠ some g) : Blk w' g t cs := (hb.block g h.lt (fun e => hg e.symm)).trans h
theorem OwnB.keep {w w' : World} {base : Nat} {v : Value} {l : List Bool} (h : OwnB w base v l) (hb : Below w.heap.size w w') : OwnB w' base v l :=
  World.ownsRow.kept h (only_of_below hb none) (by cases hv : v.ownBlock with | none => exact .inl rfl | some k => exact .inr (by simp))
/-- what the outer loop knows -/
def RO (w : World) (g7 : Nat) (l : List Bool) (wr : World) : Prop :=
  Blk wr w.heap.size 24 #[.slice none 0 0, .int .i64 0] ∧ Below w.heap.size w wr ∧
  ∃ A n c, Blk wr g7 24 #[.slice A n c, .int .i64 ((l.length : Nat) : Int)] ∧ OwnB wr w.heap.size (.slice A n c) l
theorem RO.alloc {w wr : World} {g7 : Nat} {l : List Bool} (h : RO w g7 l wr) (o : Obj) : RO w g7 l (wr.alloc o) := by
  obtain ⟨h1, h2, A, n, c, h3, h4⟩ := h
  exact ⟨h1.alloc o, h2.alloc h2.size o, A, n, c, h3.alloc o, h4.alloc o⟩

theorem ro_below {w wr w2 : World} {g7 : Nat} {l : List Bool} (h : RO w g7 l wr) (hb : Below wr.heap.size wr w2) : RO w g7 l w2 := by
  obtain ⟨h1, h2, A, n, c, h3, h4⟩ := h
  exact ⟨h1.below hb h1.lt, h2.trans (hb.mono h2.size), A, n, c, h3.below hb h3.lt, h4.keep hb⟩
/-- behind a push -/
theorem ro_push {w w2 w3 : World} {g7 g9 n c : Nat} {A : Option Addr} {l : List Bool} {N a b : Value} (h1 : Blk w2 w.heap.size 24 #[.slice none 0 0, .int .i64 0]) (h2 : Below w.heap.size w w2) (h3 : Blk w2 g7 24 #[.slice A n c, N]) (h4 : OwnB w2 w.heap.size (.slice A n c) l)
    (h9 : Blk w2 g9 24 #[a, b]) (hg : w2.grownBy w3 (Value.slice A n c).ownBlock) :
    Blk w3 w.heap.size 24 #[.slice none 0 0, .int .i64 0] ∧ Below w.heap.size w w3 ∧ Blk w3 g7 24 #[.slice A n c, N] ∧ Blk w3 g9 24 #[a, b] :=
  ⟨h1.row hg (own_ne h4 h1 (by decide)), h2.grown hg h2.size (fun k hk => (World.ownsRow.lt h4 k hk).1), h3.row hg (own_ne h4 h3 (by decide)), h9.row hg (own_ne h4 h9 (by decide))⟩
theorem ro_store {w w3 : World} {g7 g9 n c : Nat} {A : Option Addr} {l : List Bool} {v0 N a b : Value} {N' : Int} (h1 : Blk w3 w.heap.size 24 #[.slice none 0 0, .int .i64 0]) (h2 : Below w.heap.size w w3) (h3 : Blk w3 g7 24 #[v0, N]) (h4 : OwnB w3 w.heap.size (.slice A n c) l)
    (h9 : Blk w3 g9 24 #[a, b]) (e7 : w.heap.size < g7) (e9 : g7 < g9) (hN : N' = ((l.length : Nat) : Int)) :
    RO w g7 l ((w3.setCell ⟨g7, 0, none⟩ (.slice A n c)).setCell ⟨g7, 1, none⟩ (.int .i64 N')) ∧ Blk ((w3.setCell ⟨g7, 0, none⟩ (.slice A n c)).setCell ⟨g7, 1, none⟩ (.int .i64 N')) g9 24 #[a, b] := by
  subst hN
  refine ⟨⟨(h1.far (by simp; omega) _).far (by simp; omega) _, (h2.setCell (by simp; omega) _).setCell (by simp; omega) _, A, n, c, ?_, ?_⟩, (h9.far (by simp; omega) _).far (by simp; omega) _⟩
  · have := (h3.set_ 0 (.slice A n c)).set_ 1 (.int .i64 ((l.length : Nat) : Int))
    simpa using this
  · exact ownsRow_setCell_other (ownsRow_setCell_other h4 (own_ne h4 h3 (by decide)) _) (own_ne h4 h3 (by decide)) _

set_option maxHeartbeats 1000000 in
theorem rjoin_any (AL : Option Addr) (n cap : Nat) (xs : List It) (w : World) (hn : n ≤ 1000000) (hR : Hid (RdL w AL n xs)) :
    Calls Try.prog 22 #[.slice AL n cap] w (JoinPost w xs) := by
  go_enter Try.func22, Try.ntmps22
  go_wp2
  go_loopw [4, 13] (fun s i wr => ∃ (k : Nat) (S : Int), k ≤ n ∧ i = .int .i64 k ∧ s = .int .i64 S ∧ S = sumN (xs.take k) ∧ (∀ x ∈ xs.take k, x.ok = true) ∧ Blk wr w.heap.size 24 #[.slice none 0 0, .int .i64 0] ∧ Below w.heap.size w wr)
    (fun _ i _ => n - (intOf i).toNat)
  case atStart =>
    refine ⟨0, 0, Nat.zero_le _, rfl, rfl, rfl, by simp, Blk.new _ _ _, (Below.refl _ _).alloc (Nat.le_refl _) _⟩
  case round =>
    obtain ⟨k, S, hk, rfl, rfl, hS, hok, hres, hbl⟩ := hrel
    have hb := sum_bound _ hok
    rw [← hS, List.length_take] at hb
    have hS0 : 0 ≤ S := hb.1
    have hS1 : S ≤ 65536 * 1000000 := by have := hb.2; omega
    by_cases hlt : k < n
    · have hRr := hR.out.below hbl
      obtain ⟨L, hL, hc⟩ := hRr.2 (by omega)
      subst hL
      have hkx : k < xs.length := by have := hRr.1; omega
      obtain ⟨x, hx⟩ : ∃ x, xs[k]? = some x := ⟨_, List.getElem?_eq_getElem hkx⟩
      obtain ⟨c0, c1, hrd⟩ := hc k x hx
      have HR := Lib.hid hrd
      have HS := Lib.hid hS
      have HX := Lib.hid hx
      have HO := Lib.hid hok
      have HRES := Lib.hid hres
      have HBL := Lib.hid hbl
      clear hb hc hrd hS hx hok hres hbl hRr
      cases hxo : x.ok
      · have HXO := Lib.hid hxo
        clear hxo
        go_wp2_with fail
        refine (rcheck_no _ _ _ _ x.bs _ (HR.out.alloc _) HXO.out).mono ?_
        rintro e w1 ⟨rfl, hb1⟩
        obtain ⟨z0, z1, f0, f1, hb2⟩ := join_res HRES.out HBL.out hb1
        have HB2 := Lib.hid hb2
        clear hb1 hb2
        go_wp2
        refine bodyPost_ret (v := .tuple #[zeroB, .int .i64 1]) (by simp [results, Try.results22, go_sem, z0, z1, zeroB]) rfl ⟨?_, .inl ⟨⟨x, List.mem_of_getElem? HX.out, HXO.out⟩, rfl⟩⟩
        exact (HB2.out.setCell (by simp) _).setCell (by simp) _
      · have HXO := Lib.hid hxo
        clear hxo
        have hN := It.ok_N HXO.out
        have hN0 : 0 ≤ x.N := hN.1
        have hN1 : x.N ≤ 65536 := hN.2
        clear hN
        go_wp2_with fail
        refine (rcheck_yes _ _ _ _ x.bs _ (HR.out.alloc _) HXO.out).mono ?_
        rintro e w1 ⟨rfl, hb1⟩
        have y1 := join_box hb1
        have hb2 := join_below HBL.out hb1
        have hr1 := join_blk HRES.out hb1
        have HB2 := Lib.hid hb2
        have HR1 := Lib.hid hr1
        clear hb1 hb2 hr1
        go_wp2
        go_roundw
        case rel =>
          refine ⟨k + 1, S + x.N, by omega, by go_num, rfl, ?_, ?_, HR1.out, HB2.out⟩
          · rw [take_snoc _ _ _ HX.out, sumN_snoc, ← HS.out]
          · rw [take_snoc _ _ _ HX.out]
            intro y hy
            rcases List.mem_append.1 hy with hy | hy
            · exact HO.out y hy
            · rw [List.mem_singleton.1 hy]; exact HXO.out
        case measure => simp [intOf]; omega
    · obtain rfl : k = n := by omega
      have ht : xs.take k = xs := List.take_of_length_le (by have := hR.out.1; omega)
      rw [ht] at hS hok
      have hS' : S = ((allBits xs).length : Int) := by rw [hS, allBits_length xs hok]
      have z0 : wr.cell? ⟨w.heap.size, 0, none⟩ = some (.slice none 0 0) := hres.cell 0
      have z1 : wr.cell? ⟨w.heap.size, 1, none⟩ = some (.int .i64 0) := hres.cell 1
      have f0 := hres.frozen 0
      have f1 := hres.frozen 1
      have HS := Lib.hid hS
      have HO := Lib.hid hok
      have HRES := Lib.hid hres
      have HBL := Lib.hid hbl
      by_cases hlong : 65536 < S
      · clear hb hS hok hres hbl ht hS'
        go_wp2
        refine bodyPost_ret (v := .tuple #[zeroB, .int .i64 2]) (by simp [results, Try.results22, go_sem, z0, z1, zeroB]) rfl ⟨?_, .inr (.inl ⟨HO.out, by rw [← HS.out]; exact hlong, rfl⟩)⟩
        exact (HBL.out.setCell (by simp) _).setCell (by simp) _
      · obtain ⟨T, hT⟩ : ∃ T : Nat, T = (allBits xs).length := ⟨_, rfl⟩
        rw [← hT] at hS'
        subst hS'
        have hT1 : T ≤ 65536 := by omega
        have HT := Lib.hid hT
        have hd : decide (65536 < (T : Int)) = false := by simp; omega
        clear hb hS hok hres hbl ht hT hlong z0 z1 f0 f1
        go_wp2
        have hgw : w.heap.size < wr.heap.size := HRES.out.lt
        have hst : Blk (wr.alloc (.cells #[.slice none 0 0, .int .i64 0] 24)) wr.heap.size 24 #[.slice none 0 0, .int .i64 0] := Blk.new _ _ _
        generalize wr.heap.size = g7 at hgw hst ⊢
        have HST := Lib.hid hst
        clear hst
        go_loopw [32] (fun i w2 => ∃ j : Nat, j ≤ k ∧ i = .int .i64 (j : Int) ∧ RO w g7 (allBits (xs.take j)) w2)
          (fun i _ => k - (intOf i).toNat)
        case atStart =>
          exact ⟨0, Nat.zero_le _, rfl, HRES.out.alloc _, HBL.out.alloc HBL.out.size _, none, 0, 0, HST.out, OwnB.nil_ _ _⟩
        case round =>
          obtain ⟨j, hj, rfl, hro⟩ := hrel
          by_cases hlt : j < k
          · have hRr := hR.out.below hro.2.1
            obtain ⟨L, hL, hc⟩ := hRr.2 (by omega)
            subst hL
            have hkx : j < xs.length := by have := hRr.1; omega
            obtain ⟨x, hx⟩ : ∃ x, xs[j]? = some x := ⟨_, List.getElem?_eq_getElem hkx⟩
            obtain ⟨c0, c1, hrd⟩ := hc j x hx
            obtain ⟨e1, e2, e3⟩ := It.ok_pack (HO.out x (List.mem_of_getElem? hx)) hrd
            have hl : (allBits (xs.take (j + 1))).length ≤ T := by have := allBits_take_le xs (j + 1); have := HT.out; omega
            rw [take_snoc _ _ _ hx, allBits_snoc, List.length_append] at hl
            obtain ⟨Nx, hNx⟩ : ∃ Nx : Nat, Nx = x.bits.length := ⟨_, rfl⟩
            rw [← hNx] at e2 hl
            have HRO := Lib.hid hro
            have HX := Lib.hid hx
            have HE1 := Lib.hid e1
            have HE2 := Lib.hid e2
            have HE3 := Lib.hid e3
            have HNx := Lib.hid hNx
            have HLL := Lib.hid hl
            rw [e2] at c1
            have hrdw : Rd w x.A x.n x.bs := by
              obtain ⟨L', _, hc'⟩ := hR.out.2 (by omega)
              exact (hc' j x hx).2.2
            have HRDW := Lib.hid hrdw
            clear hc hrd hx hro hRr e1 e2 e3 hNx hl hrdw
            go_wp2
            have hg79 : g7 < wr.heap.size := by obtain ⟨_, _, A, n, c, hb7, _⟩ := HRO.out; exact hb7.lt
            have hst9 : Blk (wr.alloc (.cells #[.slice x.A x.n x.c, .int .i64 (Nx : Int)] 24)) wr.heap.size 24 #[.slice x.A x.n x.c, .int .i64 (Nx : Int)] := Blk.new _ _ _
            have hro9 := HRO.out.alloc (.cells #[.slice x.A x.n x.c, .int .i64 (Nx : Int)] 24)
            generalize wr.heap.size = g9 at hg79 hst9 hro9 ⊢
            have HST9 := Lib.hid hst9
            have HRO9 := Lib.hid hro9
            clear hst9 hro9
            go_loopw [38] (fun i w2 => ∃ q : Nat, q ≤ Nx ∧ i = .int .i64 (q : Int) ∧ RO w g7 (allBits (xs.take j) ++ x.bits.take q) w2 ∧ Blk w2 g9 24 #[.slice x.A x.n x.c, .int .i64 (Nx : Int)])
              (fun i _ => Nx - (intOf i).toNat)
            case atStart =>
              refine ⟨0, Nat.zero_le _, rfl, ?_, HST9.out⟩
              rw [List.take_zero, List.append_nil]
              exact HRO9.out
            case round =>
              obtain ⟨q, hq, rfl, hro, hb9⟩ := hrel
              by_cases hqlt : q < Nx
              · obtain ⟨r1, r2, A, n, c, r3, r4⟩ := hro
                obtain ⟨NL, hNL⟩ : ∃ NL : Nat, NL = (allBits (xs.take j) ++ x.bits.take q).length := ⟨_, rfl⟩
                have hNLl : NL ≤ 65536 := by
                  rw [hNL, List.length_append, List.length_take]
                  have := HLL.out; have := HNx.out
                  omega
                rw [← hNL] at r3
                have o0 : wr.cell? ⟨g7, 0, none⟩ = some (.slice A n c) := r3.cell 0
                have o1 : wr.cell? ⟨g7, 1, none⟩ = some (.int .i64 (NL : Int)) := r3.cell 1
                have q0 : wr.cell? ⟨g9, 0, none⟩ = some (.slice x.A x.n x.c) := hb9.cell 0
                have q1 : wr.cell? ⟨g9, 1, none⟩ = some (.int .i64 (Nx : Int)) := hb9.cell 1
                obtain ⟨t, ht⟩ : ∃ t, t = (bitF x.bits q).toNat := ⟨_, rfl⟩
                have hbr : t = bitR x.bs q := by
                  rw [ht, HE1.out, bitR_pack]
                  have := pack_length x.bits
                  have := HNx.out
                  omega
                have hqn : q < 8 * x.n := by
                  have := HE3.out; have := pack_length x.bits; have := HNx.out
                  omega
                have HR1 := Lib.hid r1
                have HR2 := Lib.hid r2
                have HR3 := Lib.hid r3
                have HR4 := Lib.hid r4
                have HB9 := Lib.hid hb9
                have HT1 := Lib.hid ht
                have HBR := Lib.hid hbr
                have HQN := Lib.hid hqn
                have HNL := Lib.hid hNL
                have HRDX := Lib.hid (HRDW.out.below r2)
                have HQ6 := Lib.hid (show q ≤ 600000 by have := HLL.out; omega)
                have HNL7 := Lib.hid (show NL ≤ 70000 by omega)
                have hNx6 : Nx ≤ 65536 := by have := HLL.out; omega
                have HEN := Lib.hid (show ((allBits (xs.take j) ++ x.bits.take q) ++ [bitF x.bits q]).length = NL + 1 by rw [List.length_append, ← hNL]; rfl)
                clear r1 r2 r3 r4 hb9 ht hbr hqn hNL
                go_wp2
                go_region_with (first
                  | (go_at_call 34
                     refine (rbit_any x.A x.n x.c _ _ x.bs q t _ HRDX.out.drew HQN.out HQ6.out rfl HBR.out).mono ?_
                     rintro e w2 ⟨rfl, hb2⟩
                     have K1 := Lib.hid (HR1.out.below (undrew hb2) HR1.out.lt)
                     have K2 := Lib.hid (HR2.out.trans ((undrew hb2).mono HR2.out.size))
                     have K3 := Lib.hid (HR3.out.below (undrew hb2) HR3.out.lt)
                     have K4 := Lib.hid (HR4.out.keep (undrew hb2))
                     have K9 := Lib.hid (HB9.out.below (undrew hb2) HB9.out.lt)
                     have o20 : w2.cell? ⟨g7, 0, none⟩ = some (.slice A n c) := K3.out.cell 0
                     have o21 : w2.cell? ⟨g7, 1, none⟩ = some (.int .i64 (NL : Int)) := K3.out.cell 1
                     clear hb2)
                  | (go_at_call 31
                     refine (push_any A n c (allBits (xs.take j) ++ x.bits.take q) _ (bitF x.bits q) t w.heap.size _ K4.out (by rw [HNL.out]) HT1.out (by rw [← HNL.out]; exact HNL7.out) K2.out.size).mono ?_
                     rintro e w3 ⟨g, n3, cap3, rfl, ho3, hg3, hat3⟩
                     rw [HEN.out]
                     have P := ro_push K1.out K2.out K3.out K4.out K9.out hg3
                     have p0 : w3.cell? ⟨g7, 0, none⟩ = some (.slice A n c) := P.2.2.1.cell 0
                     have p1 : w3.cell? ⟨g7, 1, none⟩ = some (.int .i64 (NL : Int)) := P.2.2.1.cell 1
                     have p2 := P.2.2.1.frozen 0
                     have p3 := P.2.2.1.frozen 1
                     have HP := Lib.hid P
                     have HO3 := Lib.hid ho3
                     clear P ho3 hg3 hat3))
                all_goals
                  go_wp2
                  go_roundw
                  case rel =>
                    go_light
                    have S := ro_store HP.out.1 HP.out.2.1 HP.out.2.2.1 HO3.out HP.out.2.2.2 hgw hg79 (show ((NL : Int) + 1) = _ by rw [HEN.out]; rfl)
                    have et : x.bits.take (q + 1) = x.bits.take q ++ [bitF x.bits q] := by
                      have h : q < x.bits.length := by have := HNx.out; omega
                      rw [List.take_succ_eq_append_getElem h]
                      simp [bitF, List.getD_eq_getElem?_getD, h]
                    refine ⟨q + 1, by omega, by go_num, ?_, ?_⟩
                    · rw [et, ← List.append_assoc]
                      exact S.1
                    · exact S.2
                  case measure => simp [intOf]; omega
              · obtain rfl : q = Nx := by omega
                have et : x.bits.take q = x.bits := List.take_of_length_le (by have := HNx.out; omega)
                rw [et] at hro
                have HRO2 := Lib.hid hro
                clear hro hb9
                go_wp2
                go_roundw
                case rel =>
                  refine ⟨j + 1, by omega, by go_num, ?_⟩
                  rw [take_snoc _ _ _ HX.out, allBits_snoc]
                  exact HRO2.out
                case measure => simp [intOf]; omega
          · obtain rfl : j = k := by omega
            have ht : xs.take j = xs := List.take_of_length_le (by have := hR.out.1; omega)
            rw [ht] at hro
            obtain ⟨r1, r2, A, n, c, r3, r4⟩ := hro
            rw [← HT.out] at r3
            have z0 : wr.cell? ⟨w.heap.size, 0, none⟩ = some (.slice none 0 0) := r1.cell 0
            have z1 : wr.cell? ⟨w.heap.size, 1, none⟩ = some (.int .i64 0) := r1.cell 1
            have f0 := r1.frozen 0
            have f1 := r1.frozen 1
            have o0 : wr.cell? ⟨g7, 0, none⟩ = some (.slice A n c) := r3.cell 0
            have o1 : wr.cell? ⟨g7, 1, none⟩ = some (.int .i64 (T : Int)) := r3.cell 1
            have HR2 := Lib.hid r2
            have HR4 := Lib.hid r4
            clear r1 r2 r3 r4 ht
            go_wp2
            refine bodyPost_ret (v := .tuple #[.agg #[.slice A n c, .int .i64 (T : Int)], .int .i64 0]) (by simp [results, Try.results22, go_sem, z0, z1]) rfl ⟨?_, .inr (.inr ⟨HO.out, by rw [← HS.out]; omega, _, rfl, ?_⟩)⟩
            · exact (HR2.out.setCell (by simp) _).setCell (by simp) _
            · obtain ⟨hrd, hn⟩ := HR4.out.rd
              have hib : IsB wr (.agg #[.slice A n c, .int .i64 (T : Int)]) (allBits xs) := ⟨A, c, by rw [hn, HT.out], by rw [← hn]; exact hrd, by have := HT.out; omega⟩
              exact hib.res z0 z1 _ _

end Go.Proofs.Ythaannpkgljngaa
