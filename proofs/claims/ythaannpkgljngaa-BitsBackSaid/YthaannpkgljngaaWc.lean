/-
  What lay writes: bits behind bits.
-/
import Derived.Test.YthaannpkgljngaaWb
import Derived.Laws.CopyOwn
import Derived.Deep.Light
namespace Go.Proofs.Ythaannpkgljngaa
open Go.RowKit

theorem size_u8 : (Try.prog.info? 5).map (·.size) = some 1 := by kernel_rfl
set_option maxHeartbeats 400000 in
theorem lay_nothing (g m at_ c : Nat) (A : Option Addr) (w : World) (_hm : m ≤ 8192) (h8 : (((at_ : Int) % 8) == 0) = true) (_hat : at_ / 8 ≤ m) (_hat2 : at_ ≤ 65536) :
    Calls Try.prog 35 #[.slice (some ⟨g, 0, none⟩) m m, .int .i64 (at_ : Int), .slice A 0 c] w fun e w' => e = .returned (.tuple #[]) ∧ w = w' := by
  have hr := fun dp dl dc => run_copy_none (P := Try.prog) w 22 22 3 5 dp A dl dc 0 c Try.underlying22 size_u8 (Nat.zero_min _)
  go_enter Try.func35, Try.ntmps35
  go_wp2
  all_goals exact bodyPost_ret (results_none rfl _ _ _) rfl ⟨rfl, rfl⟩
set_option maxHeartbeats 400000 in
theorem lay_copy (g m at_ n c : Nat) (ad : Addr) (w : World) (cur : Array Value) (cs : List Value) (_hm : m ≤ 8192) (h8 : (((at_ : Int) % 8) == 0) = true) (_hat : at_ / 8 < m) (_hat2 : at_ ≤ 65536)
    (hb : Hid (Blk w g 5 cur)) (hn : Hid (cs.length = Nat.min n (m - at_ / 8))) (hsrc : Hid (∀ j v, cs[j]? = some v → w.cell? (ad.add j) = some v)) (hfit : Hid (at_ / 8 + cs.length ≤ cur.size)) (h1 : Hid (∀ v ∈ cs, v.oneCell' = true)) :
    Calls Try.prog 35 #[.slice (some ⟨g, 0, none⟩) m m, .int .i64 (at_ : Int), .slice (some ad) n c] w fun e w' => e = .returned (.tuple #[]) ∧ w.setRow g (cur.toList.take (at_ / 8) ++ (cs ++ cur.toList.drop (at_ / 8 + cs.length))).toArray = w' := by
  have hr := run_copy_row (P := Try.prog) w 22 22 3 5 g (at_ / 8) (m - at_ / 8) (m - at_ / 8) ad n c cur 5 cs Try.underlying22 size_u8 hb.out hn.out hsrc.out hfit.out h1.out
  go_enter Try.func35, Try.ntmps35
  go_wp2
  exact bodyPost_ret (results_none rfl _ _ _) rfl ⟨rfl, by simp⟩

theorem lay_or1 (x y k : Nat) (hx : x < 256) (hy : y < 256) : bits BinOp.or IntKind.u8 (y : Int) ((x : Int) / 2 ^ k) = ((y ||| x / 2 ^ k : Nat) : Int) := by
  have e : ((x : Int) / 2 ^ k) = ((x / 2 ^ k : Nat) : Int) := by simp
  have hl : x / 2 ^ k ≤ x := Nat.div_le_self _ _
  rw [e, u8_or_nat _ _ hy (by omega)]
theorem lay_or2 (x y k : Nat) (hy : y < 256) : bits BinOp.or IntKind.u8 (y : Int) ((x : Int) * 2 ^ k % 256) = ((y ||| x * 2 ^ k % 256 : Nat) : Int) := by
  have e : ((x : Int) * 2 ^ k % 256) = ((x * 2 ^ k % 256 : Nat) : Int) := by simp
  rw [e, u8_or_nat _ _ hy (Nat.mod_lt _ (by omega))]

set_option maxHeartbeats 400000 in
theorem lay_shift (g m at_ n c : Nat) (A : Option Addr) (l1 l2 : List Bool) (w : World) (_hm : m ≤ 8192) (h8 : (((at_ : Int) % 8) == 0) = false) (_hat2 : at_ ≤ 65536)
    (hl1 : Hid (at_ = l1.length)) (hroom : Hid (at_ + l2.length ≤ 8 * m)) (hn : Hid (n = (l2.length + 7) / 8)) (hn' : n ≤ 8192)
    (hb : Hid (Blk w g 5 (bcells (packF m (bitF l1))))) (hr : Hid (Rd w A n (pack l2))) (hA : Hid (∀ ad, A = some ad → 0 < n → ad.block ≠ g)) :
    Calls Try.prog 35 #[.slice (some ⟨g, 0, none⟩) m m, .int .i64 (at_ : Int), .slice A n c] w fun e w' => e = .returned (.tuple #[]) ∧ Blk w' g 5 (bcells (packF m (bitF (l1 ++ l2)))) ∧ w.grownBy w' (some g) := by
  go_enter Try.func35, Try.ntmps35
  go_wp2
  go_loopw [6, 24] (fun i j wr => ∃ k p : Nat, p = at_ / 8 + k ∧ k ≤ n ∧ j = .int .i64 k ∧ i = .int .i64 p ∧ Blk wr g 5 (bcells (packF m (bitF (l1 ++ l2.take (8 * k))))) ∧ w.grownBy wr (some g))
    (fun _ j _ => n - (intOf j).toNat)
  case atStart =>
    refine ⟨0, at_ / 8, rfl, Nat.zero_le _, rfl, by simp, ?_, World.grownBy.refl _ _⟩
    simpa using hb.out
  case round =>
    obtain ⟨k, p, hp, hk, rfl, rfl, hbk, hgk⟩ := hrel
    have hpm : k < n → p < m := fun h => by have := hroom.out; have := hn.out; omega
    by_cases hlt : k < n
    · have hpm' : p < m := hpm hlt
      clear hpm
      have hrk := hr.out.only hgk hA.out
      obtain ⟨ad, had, hadb, h256, hcs⟩ := hrk.at_ hlt
      obtain ⟨x, hx⟩ : ∃ x, x = (pack l2).getD k 0 := ⟨_, rfl⟩
      rw [← hx] at h256 hcs
      have hlt' : p < (packF m (bitF (l1 ++ l2.take (8 * k)))).length := by rw [packF_length]; exact hpm'
      have hco := (hbk.cell p).trans (bcells_get hlt')
      obtain ⟨y, hy⟩ : ∃ y, y = (packF m (bitF (l1 ++ l2.take (8 * k)))).getD p 0 := ⟨_, rfl⟩
      rw [← hy] at hco
      have hfr := hbk.frozen p
      subst had
      have hx255 : (x : Int) ≤ 255 := by omega
      have hy256 : y < 256 := by rw [hy]; rw [packF_getD _ _ _ hpm']; exact byteF_lt _ _
      have hx' : x = byteF (bitF l2) k := by rw [hx]; exact packF_getD _ _ _ (by have := hn.out; omega)
      have hy' : y = byteF (bitF (l1 ++ l2.take (8 * k))) (l1.length / 8 + k) := by rw [hy, packF_getD _ _ _ hpm', hp, hl1.out]
      by_cases ht : ((x : Int) * 2 ^ (8 - at_ % 8) % 256 != 0) = true
      · have hne : x * 2 ^ (8 - at_ % 8) % 256 ≠ 0 := by
          intro h
          have e : ((x : Int) * 2 ^ (8 - at_ % 8) % 256) = ((x * 2 ^ (8 - at_ % 8) % 256 : Nat) : Int) := by simp
          rw [e, h] at ht
          simp at ht
        have hpm2 : p + 1 < m := by
          have := lay_room l1 l2 k m (by have := hroom.out; have := hl1.out; omega) (by rw [← hx', ← hl1.out]; exact hne)
          have := hl1.out
          omega
        have hco2 := (hbk.cell (p + 1)).trans (bcells_get (by rw [packF_length]; exact hpm2))
        obtain ⟨z, hz⟩ : ∃ z, z = (packF m (bitF (l1 ++ l2.take (8 * k)))).getD (p + 1) 0 := ⟨_, rfl⟩
        rw [← hz] at hco2
        have hfr2 := hbk.frozen (p + 1)
        have hz256 : z < 256 := by rw [hz]; rw [packF_getD _ _ _ hpm2]; exact byteF_lt _ _
        have hz' : z = byteF (bitF (l1 ++ l2.take (8 * k))) (l1.length / 8 + k + 1) := by rw [hz, packF_getD _ _ _ hpm2, hp, hl1.out]
        have HX := Lib.hid hx'
        have HY := Lib.hid hy'
        have HZ := Lib.hid hz'
        have HP := Lib.hid hp
        have HB := Lib.hid hbk
        have HG := Lib.hid hgk
        have hneH := Lib.hid hne
        clear hx hx' hy hy' hz hz' hp hbk hgk hrk hlt' hne hr hA
        go_wp2
        go_region
        all_goals
          go_wp2
          go_roundw
          case rel =>
            go_light
            refine ⟨k + 1, p + 1, by have := HP.out; omega, by omega, by go_num, by go_num, ?_, ?_⟩
            · have := (HB.out.set_ p (.int .u8 ((y ||| x / 2 ^ (at_ % 8) : Nat) : Int))).set_ (p + 1) (.int .u8 ((z ||| x * 2 ^ (8 - at_ % 8) % 256 : Nat) : Int))
              rw [bcells_set, bcells_set] at this
              rw [lay_or1 _ _ _ h256 hy256, lay_or2 _ _ _ hz256]
              rw [HP.out, HX.out, HY.out, HZ.out, hl1.out] at this ⊢
              rw [lay_step2] at this
              exact this
            · exact only_drew (only_setCell (only_setCell HG.out (.inl rfl) _) (.inl rfl) _)
          case measure => simp [intOf]; omega
      · have ht0 : ((x : Int) * 2 ^ (8 - at_ % 8) % 256 != 0) = false := by simpa using ht
        clear ht
        have h0 : x * 2 ^ (8 - at_ % 8) % 256 = 0 := by
          have e : ((x : Int) * 2 ^ (8 - at_ % 8) % 256) = ((x * 2 ^ (8 - at_ % 8) % 256 : Nat) : Int) := by simp
          rw [e] at ht0
          have h := bne_eq_false_iff_eq.1 ht0
          omega
        have HX := Lib.hid hx'
        have HY := Lib.hid hy'
        have HP := Lib.hid hp
        have HB := Lib.hid hbk
        have HG := Lib.hid hgk
        have H0 := Lib.hid h0
        clear hx hx' hy hy' hp hbk hgk hrk hlt' h0 hr hA
        go_wp2
        go_region
        all_goals
          go_wp2
          go_roundw
          case rel =>
            go_light
            refine ⟨k + 1, p + 1, by have := HP.out; omega, by omega, by go_num, by go_num, ?_, ?_⟩
            · have := HB.out.set_ p (.int .u8 ((y ||| x / 2 ^ (at_ % 8) : Nat) : Int))
              have h0 := H0.out
              rw [bcells_set] at this
              rw [lay_or1 _ _ _ h256 hy256]
              rw [HX.out, hl1.out] at h0
              rw [HP.out, HX.out, HY.out, hl1.out] at this ⊢
              rw [lay_step _ _ _ _ h0] at this
              exact this
            · exact only_drew (only_setCell HG.out (.inl rfl) _)
          case measure => simp [intOf]; omega
    · obtain rfl : k = n := by omega
      have HB := Lib.hid hbk
      have HG := Lib.hid hgk
      clear hbk hgk hpm hr hA hp
      go_wp2
      go_light
      go_end0
      refine ⟨rfl, ?_, HG.out⟩
      have e : l2.take (8 * k) = l2 := List.take_of_length_le (by have := hn.out; omega)
      have := HB.out
      rw [e] at this
      exact this

/-- lay writes bits behind bits, where behind them is nothing yet -/
theorem lay_any (g m c : Nat) (A : Option Addr) (l1 l2 : List Bool) (w : World) (hm : m ≤ 8192) (hroom : l1.length + l2.length ≤ 8 * m)
    (hb : Blk w g 5 (bcells (packF m (bitF l1)))) (hr : Rd w A (pack l2).length (pack l2)) (hA : ∀ ad, A = some ad → 0 < (pack l2).length → ad.block ≠ g) :
    Calls Try.prog 35 #[.slice (some ⟨g, 0, none⟩) m m, .int .i64 (l1.length : Int), .slice A (pack l2).length c] w fun e w' => e = .returned (.tuple #[]) ∧ Blk w' g 5 (bcells (packF m (bitF (l1 ++ l2)))) ∧ w.grownBy w' (some g) := by
  have hp := pack_length l2
  by_cases h8 : l1.length % 8 = 0
  · have h8' : (((l1.length : Int) % 8) == 0) = true := by simp only [beq_iff_eq]; omega
    by_cases h0 : l2.length = 0
    · obtain rfl : l2 = [] := List.eq_nil_of_length_eq_zero h0
      refine (lay_nothing g m l1.length c A w hm h8' (by omega) (by omega)).mono ?_
      rintro e w' ⟨rfl, rfl⟩
      exact ⟨rfl, by simpa using hb, World.grownBy.refl _ _⟩
    · obtain ⟨ad, rfl, hc⟩ := hr.2.2 (by omega)
      refine (lay_copy g m l1.length _ c ad w (bcells (packF m (bitF l1))) ((pack l2).map byteV) hm h8' (by omega) (by omega) (Lib.hid hb) (Lib.hid ?_) (Lib.hid ?_) (Lib.hid ?_) (Lib.hid ?_)).mono ?_
      · rw [List.length_map]
        show _ = min _ _
        omega
      · intro j v hv
        rw [List.getElem?_map] at hv
        obtain ⟨x, hx, rfl⟩ := Option.map_eq_some_iff.1 hv
        exact hc j x hx
      · rw [List.length_map, bcells_size, packF_length]; omega
      · intro v hv
        obtain ⟨x, _, rfl⟩ := List.mem_map.1 hv
        rfl
      · rintro e w' ⟨rfl, rfl⟩
        refine ⟨rfl, ?_, ⟨rfl, rfl, rfl, by simp [World.setRow], fun k _ hk => setRow_other w g k _ (fun e => hk (by rw [e]))⟩⟩
        have e1 : (bcells (packF m (bitF l1))).toList.take (l1.length / 8) ++ ((pack l2).map byteV ++ (bcells (packF m (bitF l1))).toList.drop (l1.length / 8 + ((pack l2).map byteV).length)) = (packF m (bitF (l1 ++ l2))).map byteV := by
          rw [← lay_whole l1 l2 m hroom h8, List.map_append, List.map_append, List.map_take, List.map_drop, List.length_map]
          simp [bcells]
        rw [e1]
        exact setRow_heap w g _ _ _ _ hb
  · have h8' : (((l1.length : Int) % 8) == 0) = false := by simp only [beq_eq_false_iff_ne]; omega
    exact lay_shift g m l1.length _ c A l1 l2 w hm h8' (by omega) (Lib.hid rfl) (Lib.hid hroom) (Lib.hid hp) (by omega) (Lib.hid hb) (Lib.hid hr) (Lib.hid hA)

end Go.Proofs.Ythaannpkgljngaa
