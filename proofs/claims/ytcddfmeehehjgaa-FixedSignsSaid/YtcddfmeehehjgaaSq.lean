/-
  Own texts, laid together: Sq.
-/
import Derived.Test.YtcddfmeehehjgaaSn
import Derived.Laws.AppendOwn
import Derived.Laws.AppendOwnNone
import Derived.Maps.AppendAt
import Derived.OwnWalk
/- Sq -/
namespace Go.Proofs.Ytcddfmeehehjgaa.Fx
open Go.RowKit
theorem divI_neg (a b : Int) : divI (-a) b = -divI a b := by
  have e1 : divI (-a) b = divQ b (-(a.tdiv b)) (-(a.tmod b)) := by show divQ b ((-a).tdiv b) ((-a).tmod b) = _; rw [Int.neg_tdiv, Int.neg_tmod]
  have e2 : divI a b = divQ b (a.tdiv b) (a.tmod b) := rfl
  rw [e1, e2]
  generalize a.tdiv b = q
  generalize a.tmod b = r
  unfold divQ
  split <;> split <;> (try split) <;> (try split) <;> omega
theorem divI_in (a b : Int) (hb : 1 ≤ b) (ha : -1152921504606846976 < a ∧ a < 1152921504606846976) : -1152921504606846976 ≤ divI a b ∧ divI a b ≤ 1152921504606846976 := by
  have e2 : divI a b = divQ b (a.tdiv b) (a.tmod b) := rfl
  obtain ⟨h1, h2⟩ := tdm a b hb
  rw [e2]
  generalize a.tdiv b = q at *
  generalize a.tmod b = r at *
  unfold divQ
  split
  · omega
  · split <;> omega
theorem mulI_comm (a b s : Int) : mulI a b s = mulI b a s := by unfold mulI; rw [Int.mul_comm]
theorem satI_satI (v b : Int) : satI (satI v b) b = satI v b := by
  obtain ⟨p1, p2⟩ := p61 (bwN_le b)
  have h := holdI_in v (-((2 ^ bwN b : Nat) : Int)) (((2 ^ bwN b : Nat) : Int) - 1) (by omega)
  exact holdI_again _ _ _ h.1 h.2
theorem satI_zero (b : Int) : satI 0 b = 0 := by
  obtain ⟨p1, p2⟩ := p61 (bwN_le b)
  exact holdI_again _ _ _ (by omega) (by omega)
theorem satI_addI (b : Int) (l : List Int) : satI (addI b l) b = addI b l := by
  rcases List.eq_nil_or_concat l with h | ⟨m, x, h⟩
  · subst h; exact satI_zero b
  · rw [h, List.concat_eq_append, addI_snoc, satI_satI]
theorem addI_zero (b : Int) (l : List Int) : addI b (l ++ [0]) = addI b l := by
  rw [addI_snoc, satI_zero, Int.add_zero, satI_addI]
theorem info_int : (Try.prog.info? 3).map (fun i => (i.zero, i.size, i.bytes)) = some (some (.int .i64 0), 1, 8) := by kernel_rfl
theorem info_parts {o : Option TypeInfo} {z : Option Value} {s b : Nat} (h : o.map (fun i => (i.zero, i.size, i.bytes)) = some (z, s, b)) : ∃ i, o = some i ∧ i.zero = z ∧ i.size = s ∧ i.bytes = b := by
  obtain ⟨i, hi, e⟩ := Option.map_eq_some_iff.1 h
  simp only [Prod.mk.injEq] at e
  exact ⟨i, hi, e.1, e.2.1, e.2.2⟩
def iV (x : Int) : Value := .int .i64 x
theorem one_ints (l : List Int) : ∀ u ∈ l.map iV, u.oneCell' = true := by
  intro u hu
  obtain ⟨x, _, rfl⟩ := List.mem_map.1 hu
  rfl
theorem rd_newsI {w : World} {ad : Addr} {n : Nat} {zs : List Int} (h : Fq.RdI w (some ad) n zs) : ∀ j u, (zs.map iV)[j]? = some u → w.cell? (ad.add j) = some u := by
  intro j u hu
  rw [List.getElem?_map] at hu
  obtain ⟨x, hx, rfl⟩ := Option.map_eq_some_iff.1 hu
  have hpos : 0 < n := by have := h.1; have := (List.getElem?_eq_some_iff.1 hx).1; omega
  obtain ⟨ad', e, hc⟩ := h.2 hpos
  injection e with e
  subst e
  exact hc j x hx
/-- a slice of ints of one's own, read -/
theorem own_rdI {w : World} {base n : Nat} {v : Value} {zs : List Int} (h : w.ownsRow base 3 1 v n (zs.map iV)) : ∃ A c, v = .slice A n c ∧ Fq.RdI w A n zs := by
  have hlen : zs.length = n := by have := h.1; rw [List.length_map, Nat.mul_one] at this; exact this
  rcases h.2 with ⟨rfl, h0⟩ | ⟨g, cap, cur, rfl, hb, hh, hnc, hcm, hcs, ht⟩
  · subst h0
    exact ⟨none, 0, rfl, ⟨hlen, fun h => by omega⟩⟩
  · refine ⟨_, _, rfl, hlen, fun _ => ⟨_, rfl, fun j x hx => ?_⟩⟩
    exact World.ownsRow.cells h (g := g) rfl j (iV x) (by rw [List.getElem?_map, hx]; rfl)
theorem own_snoc {w : World} {base n : Nat} {v : Value} {zs : List Int} (h : w.ownsRow base 3 1 v (0 + n + 1) ([] ++ zs.map iV ++ [.int .i64 0])) : ∃ A c, v = .slice A (n + 1) c ∧ Fq.RdI w A (n + 1) (zs ++ [0]) := by
  have e : [] ++ zs.map iV ++ [.int .i64 0] = (zs ++ [0]).map iV := by rw [List.nil_append, List.map_append]; rfl
  rw [e, Nat.zero_add] at h
  exact own_rdI h
theorem own_one {w : World} {base : Nat} {v : Value} (h : w.ownsRow base 3 1 v (0 + 1) ([] ++ [.int .i64 0])) : ∃ A c, v = .slice A 1 c ∧ Fq.RdI w A 1 [0] := own_rdI (zs := [0]) h
theorem grow_belowI {w w2 w3 : World} {o : Obj} {t : TypeId} {size n : Nat} {v : Value} {xs : List Value} (hb : Below w.heap.size w w2) (h : w2.ownsRow w.heap.size t size v n xs) (hg : (w2.alloc o).grownBy w3 v.ownBlock) : Below w.heap.size w w3 :=
  (hb.alloc hb.size o).grown hg (hb.alloc hb.size o).size (fun k hk => (World.ownsRow.lt h k hk).1)
/-- append under a guard that holds: the slice v of one's own, grown by news -/
theorem append_held {P : Program} {w : World} {ops : Array Oper} {rest : List Oper} {o : Oper} {a : Act} {Q : Exit → Act → World → Prop} (hgd : Region.wanted o (yielded ops a.tmps) = true) (s x : Operand) (t : TypeId)
    (ho : o.op = .call { callee := .builtin .append, args := #[s, x], argTypes := #[t, t] })
    (base : Nat) (e : TypeId) (i : TypeInfo) (z : Value) (size bytes : Nat) (ht : P.underlying t = some (.slice e)) (hi : P.info? e = some i) (hz : i.zero = some z) (hsize : i.size = size) (hby : i.bytes = bytes) (hzs : z.cells.size = size) (hsz : 0 < size)
    (v : Value) (n : Nat) (xs : List Value) (hs : a.eval s = v) (hown : w.ownsRow base e size v n xs) (ad : Addr) (m c : Nat) (news : List Value) (hx : a.eval x = .slice (some ad) m c) (hl : news.length = m * size)
    (hnews : ∀ j u, news[j]? = some u → w.cell? (ad.add j) = some u) (h1 : ∀ u ∈ news, u.oneCell' = true) (h63 : n + m ≤ maxLen) (hbytes : (n + m) * bytes ≤ 140737488355328) (hbase : base ≤ w.heap.size)
    (h : ∀ v' w', w'.ownsRow base e size v' (n + m) (xs ++ news) → w.grownBy w' v.ownBlock → wpList P ops Q rest (a.put o.dst v') w') : wpList P ops Q (o :: rest) a w := by
  obtain ⟨v', w', hr, h2, h3, -, -⟩ := run_append_own_at (P := P) w base t o.type e i z size bytes ht hi hz hsize hby hzs hsz v n xs hown ad m c news hl hnews h1 h63 hbytes hbase
  refine wpList_step fun K hK => ?_
  rw [if_pos hgd]
  unfold Oper.wp execOp
  simp only [ho, resolve, invoke, builtin, Sem.run_bind, Sem.run_pure, Result.andThen_ok, List.map_toArray, List.map_cons, List.map_nil, hs, hx, hr]
  exact hK _ _ (h v' w' h2 h3)
/-- what the two answers of Div are -/
theorem div_two (V b : Int) (hV : -1152921504606846976 < V ∧ V < 1152921504606846976) : ∃ D E e : Int, divV V b = .tuple #[.int .i64 D, .int .i64 e] ∧ divV (-V) b = .tuple #[.int .i64 E, .int .i64 e] ∧ (e = 0 ∧ E = -D ∨ e = 1) ∧ -1152921504606846976 ≤ D ∧ D ≤ 1152921504606846976 ∧ -1152921504606846976 ≤ E ∧ E ≤ 1152921504606846976 := by
  unfold divV
  by_cases h : b < 1
  · rw [if_pos h, if_pos h]
    exact ⟨0, 0, 1, rfl, rfl, Or.inr rfl, by omega, by omega, by omega, by omega⟩
  · rw [if_neg h, if_neg h]
    have h1 := divI_in V b (by omega) hV
    have h2 := divI_neg V b
    exact ⟨_, _, 0, rfl, rfl, Or.inl ⟨rfl, h2⟩, h1.1, h1.2, by omega, by omega⟩
set_option maxRecDepth 100000 in
set_option maxHeartbeats 4000000 in
theorem signs_law (a b s : Int) (A : Option Addr) (n c : Nat) (zs : List Int) (w : World) (hb : b ≤ 9223372036854775807) (hn : n ≤ maxLen) (hr : Hid (Fq.RdI w A n zs)) :
    Calls Try.prog 9 #[.int .i64 a, .int .i64 b, .int .i64 s, .slice A n c] w fun e w' => e = .returned (.bool true) ∧ Below w.heap.size w w' := by
  have hn' : n ≤ 9223372036854775807 := by unfold maxLen at hn; exact hn
  obtain ⟨V, hV⟩ : ∃ V, a.tmod 1152921504606846976 = V := ⟨_, rfl⟩
  obtain ⟨v1, v2⟩ : -1152921504606846976 < a.tmod 1152921504606846976 ∧ a.tmod 1152921504606846976 < 1152921504606846976 := by
    have h := (tdm a 1152921504606846976 (by omega)).2
    generalize a.tmod 1152921504606846976 = t at h
    omega
  rw [hV] at v1 v2
  obtain ⟨t, k, ht, t1, t2, hk, k2⟩ := rem_up s 62 (by omega)
  rw [show ((62 : Nat) : Int) = 62 from rfl] at ht hk t1 t2
  obtain ⟨B, hB⟩ : ∃ B, 1 + (k : Int) = B := ⟨_, rfl⟩
  obtain ⟨D, E, er, hd1, hd2, hde, D1, D2, E1, E2⟩ := div_two V b ⟨v1, v2⟩
  have HD1 := Lib.hid hd1
  have HD2 := Lib.hid hd2
  have HDE := Lib.hid hde
  have HBB := Lib.hid hb
  obtain ⟨S, hS⟩ : ∃ S, addI B zs = S := ⟨_, rfl⟩
  have HS := Lib.hid hS
  have HS2 := Lib.hid (show satI S B = S by rw [← hS]; exact satI_addI B zs)
  have HS3 := Lib.hid (show addI B (zs ++ [0]) = S by rw [addI_zero]; exact hS)
  obtain ⟨M, hM⟩ : ∃ M, mulI V b s = M := ⟨_, rfl⟩
  have HM := Lib.hid hM
  have HM2 := Lib.hid (show mulI b V s = M by rw [mulI_comm]; exact hM)
  clear hd1 hd2 hde hb hS hM hn
  by_cases h500 : n ≤ 500
  · have hd : decide ((500 : Int) < (n : Int)) = false := by simp; omega
    go_enter Try.func9, Try.ntmps9
    go_wp2_with fail
    refine (live_any _).mono ?_
    rintro e w1 ⟨rfl, hb1⟩
    have H1 := Lib.hid hb1
    clear hb1
    go_wp2_with fail
    refine (div_any V b _ (by omega) HBB.out).mono ?_
    rintro e w2 ⟨rfl, q, hw⟩
    have H2 := Lib.hid (show Below w.heap.size w w2 by rw [hw]; exact below_drewN H1.out q)
    clear hw H1
    rw [HD1.out]
    go_wp2_with fail
    refine (div_any (-V) b _ (by omega) HBB.out).mono ?_
    rintro e w3 ⟨rfl, q', hw⟩
    have H3 := Lib.hid (show Below w.heap.size w w3 by rw [hw]; exact below_drewN H2.out q')
    clear hw H2
    rw [HD2.out]
    have HR3 := Lib.hid (hr.out.below H3.out)
    have EN := Lib.hid (show er = 0 → -E = D by intro h; rcases HDE.out with ⟨_, h2⟩ | h2 <;> omega)
    obtain ⟨i0, hi0, hz0, hz1, hz2⟩ := info_parts info_int
    have HLN := Lib.hid (show (zs.map iV).length = n * 1 by rw [List.length_map, hr.out.1, Nat.mul_one])
    have her : er = 0 ∨ er = 1 := by rcases HDE.out with ⟨h1, _⟩ | h1 <;> omega
    rcases her with rfl | rfl
    all_goals
      try have en : -E = D := EN.out rfl
      go_wp2_with fail
      refine (add_any B A n c zs _ (by omega) HR3).mono ?_
      rintro e w' ⟨rfl, rfl⟩
      rw [HS.out]
      go_wp2_with fail
      refine (mul_any V b s _).mono ?_
      rintro e w' ⟨rfl, rfl⟩
      rw [HM.out]
      go_wp2_with fail
      refine (mul_any b V s _).mono ?_
      rintro e w' ⟨rfl, rfl⟩
      rw [HM2.out]
      go_wp2_with fail
      refine (sat_any S B _).mono ?_
      rintro e w' ⟨rfl, rfl⟩
      rw [HS2.out]
      by_cases h0 : 0 < n
      · obtain ⟨ad, rfl, -, -⟩ := HR3.out.at_ h0
        go_wp2_with (first
          | (go_at_call 15; refine (add_any B A6 (n + 1) c6 (zs ++ [0]) _ (by omega) HR6).mono ?_; rintro e w' ⟨rfl, rfl⟩; rw [HS3.out])
          | (at_builtin; refine append_held rfl (.tmp 81) (.tmp 82) 22 rfl w.heap.size 3 i0 _ 1 8 Try.underlying22 hi0 hz0 hz1 hz2 rfl (by omega) va (0 + n) ([] ++ zs.map iV) rfl (World.ownsRow.alloc HO4.out _) ⟨w4.heap.size, 0, none⟩ 1 1 [.int .i64 0] rfl rfl (cell_one_new _ _ _) (by intro u hu; simp at hu; subst hu; rfl) (by unfold maxLen; omega) (by omega) (H4.out.alloc H4.out.size _).size ?_; intro vb w5 ho5 hg5; have HO5 := Lib.hid ho5; have H5 := Lib.hid (grow_belowI H4.out HO4.out hg5); clear ho5 hg5
             obtain ⟨A6, c6, hv6, hr6⟩ := own_snoc HO5.out; subst hv6; have HR6 := Lib.hid hr6; clear hr6)
          | (at_builtin; refine append_held rfl (.const (.slice none 0 0)) (.tmp 80) 22 rfl w.heap.size 3 i0 _ 1 8 Try.underlying22 hi0 hz0 hz1 hz2 rfl (by omega) (.slice none 0 0) 0 [] rfl (World.ownsRow_nil _ _ _ _) ad n c (zs.map iV) rfl HLN.out (rd_newsI HR3.out) (one_ints _) (by unfold maxLen; omega) (by omega) H3.out.size ?_; intro va w4 ho4 hg4; have HO4 := Lib.hid ho4; have H4 := Lib.hid (H3.out.grown hg4 H3.out.size (fun k hk => by simp [Value.ownBlock] at hk)); clear ho4 hg4))
        go_ret
        exact ⟨rfl, H5.out⟩
      · obtain rfl : n = 0 := by omega
        have hz0' : zs = [] := List.eq_nil_of_length_eq_zero hr.out.1
        subst hz0'
        cases A
        all_goals
          go_wp2_with (first
            | (go_at_call 15; refine (add_any B A6 1 c6 [0] _ (by omega) HR6).mono ?_; rintro e w' ⟨rfl, rfl⟩; rw [show addI B [0] = S from HS3.out])
            | (at_builtin; refine append_held rfl (.tmp 81) (.tmp 82) 22 rfl w.heap.size 3 i0 _ 1 8 Try.underlying22 hi0 hz0 hz1 hz2 rfl (by omega) (.slice none 0 0) 0 [] rfl (World.ownsRow_nil _ _ _ _) ⟨w3.heap.size, 0, none⟩ 1 1 [.int .i64 0] rfl rfl (cell_one_new _ _ _) (by intro u hu; simp at hu; subst hu; rfl) (by unfold maxLen; omega) (by omega) (H3.out.alloc H3.out.size _).size ?_; intro vb w5 ho5 hg5; have HO5 := Lib.hid ho5; have H5 := Lib.hid ((H3.out.alloc H3.out.size _).grown hg5 (H3.out.alloc H3.out.size _).size (fun k hk => by simp [Value.ownBlock] at hk)); clear ho5 hg5
               obtain ⟨A6, c6, hv6, hr6⟩ := own_one HO5.out; subst hv6; have HR6 := Lib.hid hr6; clear hr6))
          go_ret
          exact ⟨rfl, H5.out⟩
  · have hd : decide ((500 : Int) < (n : Int)) = true := by simp; omega
    go_enter Try.func9, Try.ntmps9
    go_wp2_with fail
    refine (live_any _).mono ?_
    rintro e w1 ⟨rfl, hb1⟩
    have H1 := Lib.hid hb1
    clear hb1
    go_wp2
    go_ret
    exact ⟨rfl, H1.out⟩
end Go.Proofs.Ytcddfmeehehjgaa.Fx
