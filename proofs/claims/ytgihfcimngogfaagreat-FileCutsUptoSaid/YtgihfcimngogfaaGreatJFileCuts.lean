/- Law 04's FileCuts, on the contracts of the document's Write and Parse. -/
import Derived.Test.YtgihfcimngogfaaGreatM17
import Derived.Test.YtgihfcimngogfaaGreatJFileCut0
import Derived.ArgAppend
namespace Go.Proofs.YtgihfcimngogfaaGreat
open Go.RowKit Go
set_option linter.unusedVariables false
theorem byV_cell {w : World} {b o : Nat} {l : Bs} (h : ∀ (i : Nat) (c : UInt8), l[i]? = some c → w.cell? ⟨b, o + i, none⟩ = some (.int .u8 (c.toNat : Int))) {j : Nat} {u : Value} (hj : (byV l)[j]? = some u) : w.cell? ⟨b, o + j, none⟩ = some u := by
 simp only [byV, List.getElem?_map, Option.map_eq_some_iff] at hj
 obtain ⟨c, h1, rfl⟩ := hj
 exact h j c h1
theorem rem_any (n : Int) (L : Nat) (h0 : 0 < L) (h1 : L ≤ 5000) : ∃ K : Nat, K < L ∧ wrap64 (n.tmod L + L) = n.tmod L + L ∧ (n.tmod L + L).tmod L = K := by
 have a := Int.tmod_lt_of_pos n (show (0 : Int) < L by omega)
 have b := Int.lt_tmod_of_pos n (show (0 : Int) < L by omega)
 have c := Int.tmod_nonneg (a := n.tmod L + L) (L : Int) (by omega)
 have d := Int.tmod_lt_of_pos (n.tmod L + L) (show (0 : Int) < L by omega)
 exact ⟨((n.tmod L + L).tmod L).toNat, by omega, IntWalk.wrap64_in _ (by omega), by omega⟩
set_option maxHeartbeats 8000000 in
set_option maxRecDepth 100000 in
theorem FileCuts_walk (hparse : Hid HParse) (c : ClI) (hwrite : Hid (HWrite c)) (cv : Value) (n : Int) (mv : Value) (M : Bs) (w : World) (h : Hid (ClIV w c cv)) (hn : I64 n) (hm : Hid (RdB w mv M)) (hM : M.length ≤ 1048576) :
  Calls Tryz.prog 3 #[cv, .int .i64 n, mv] w fun e w' => e = .returned (.bool true) ∧ Below w.heap.size w w' := by
 obtain ⟨M1, mc, rfl, hmx⟩ := rdB_form hm.out
 have HV0 := lhid h.out
 obtain ⟨a1, a2, a3, a4, rfl, g1, g2, g3, g4⟩ := h.out
 obtain ⟨A1, e1, rfl⟩ := g1.shape
 obtain ⟨A2, e2, rfl⟩ := g2.shape
 obtain ⟨A3, e3, rfl⟩ := g3.shape
 obtain ⟨A4, e4, rfl⟩ := g4.shape
 clear g1 g2 g3 g4 h
 have HX0 := lhid (heap_alloc_new w (.cells #[.int .i64 c.flags, .string (tx c.name), .string (tx c.super), .slice A1 c.ifaces.length e1, .slice A2 c.pool.length e2, .slice A3 c.fields.length e3, .slice A4 c.methods.length e4] 27))
 have HB0 := lhid ((Below.refl w.heap.size w).alloc (Nat.le_refl _) (.cells #[.int .i64 c.flags, .string (tx c.name), .string (tx c.super), .slice A1 c.ifaces.length e1, .slice A2 c.pool.length e2, .slice A3 c.fields.length e3, .slice A4 c.methods.length e4] 27))
 go_enter Tryz.func3, Tryz.ntmps3
 go_wp2_with fail
 with_reducible refine (fholds_any hparse _).mono ?_
 rintro e w1 ⟨rfl, hb⟩
 have HB1 := lhid (HB0.out.trans (below_lt hb HB0.out.size))
 have HX1 : Hid (w1.heap[w.heap.size]? = some (.cells #[.int .i64 c.flags, .string (tx c.name), .string (tx c.super), .slice A1 c.ifaces.length e1, .slice A2 c.pool.length e2, .slice A3 c.fields.length e3, .slice A4 c.methods.length e4] 27)) := lhid ((hb.block _ (heap_lt HX0.out)).trans HX0.out)
 have HV1 := lhid (HV0.out.below HB1.out)
 clear hb
 have x0 := heap_cell (i := 0) HX1.out rfl
 have x1 := heap_cell (i := 1) HX1.out rfl
 have x2 := heap_cell (i := 2) HX1.out rfl
 have x3 := heap_cell (i := 3) HX1.out rfl
 have x4 := heap_cell (i := 4) HX1.out rfl
 have x5 := heap_cell (i := 5) HX1.out rfl
 have x6 := heap_cell (i := 6) HX1.out rfl
 go_wp2_with fail
 with_reducible refine (hwrite.out _ w1 HV1).mono ?_
 clear x0 x1 x2 x3 x4 x5 x6
 rintro e w2 ⟨hb, rfl | ⟨v, l, d, r, rfl, ho, hp, hd⟩⟩
 ·have HB2 := lhid (HB1.out.trans (below_lt hb HB1.out.size))
  clear hb
  go_wp2_with fail
  go_ret
  exact ⟨rfl, HB2.out⟩
 ·have HB2 := lhid (HB1.out.trans (below_lt hb HB1.out.size))
  have HX2 : Hid (w2.heap[w.heap.size]? = some (.cells #[.int .i64 c.flags, .string (tx c.name), .string (tx c.super), .slice A1 c.ifaces.length e1, .slice A2 c.pool.length e2, .slice A3 c.fields.length e3, .slice A4 c.methods.length e4] 27)) := lhid ((hb.block _ (heap_lt HX1.out)).trans HX1.out)
  have HR2 := lhid (own_rdB ho)
  have hne : l ≠ [] := by
   rintro rfl
   have := (parP_inv hp).2.1
   simp at this
  rcases HR2.out with ⟨_, h0⟩ | ⟨B, O, vc, rfl, hcap, hmax, hcell⟩
  ·exact absurd h0 hne
  have hpos : 0 < l.length := List.length_pos_iff.2 hne
  have HP := lhid hp
  have HD := lhid hd
  have HG := lhid (parP_good hp).small
  clear hb ho hp hd
  by_cases hl : 5000 < l.length
  ·have t0 : ((5000 : Int) < l.length) := by omega
   go_wp2_with fail
   go_ret
   exact ⟨rfl, HB2.out⟩
  ·obtain ⟨K, hK, hw1, hw2⟩ := rem_any n l.length hpos (by omega)
   have t0 : ¬ ((5000 : Int) < l.length) := by omega
   have t1 : ¬ ((l.length : Int) = 0) := by omega
   have t2 : (K : Int) ≤ vc := by omega
   have HRK : Hid (RdB w2 (.slice (some ⟨B, O, none⟩) K vc) (l.take K)) := lhid (.inr ⟨B, O, vc, by rw [List.length_take, Nat.min_eq_left (by omega)], by rw [List.length_take]; omega, hmax, fun i x hi => hcell i x (by
    rw [List.getElem?_take] at hi
    split at hi
    ·exact hi
    ·cases hi)⟩)
   have HPK := lhid (parP_cut HP.out K hK)
   have HPM := lhid (fun t ht => parP_more (t := t) HP.out ht)
   go_wp2_with fail
   with_reducible refine (parse_any _ _ _ HRK).mono ?_
   rintro e w3 ⟨hb, hx⟩
   rw [HPK.out] at hx
   obtain rfl := hx
   have HB3 := lhid ((HB2.out.trans (below_lt hb HB2.out.size)).alloc (HB2.out.trans (below_lt hb HB2.out.size)).size zC)
   have HR3 := lhid (rdB_below HR2.out (rdB_low HR2.out) (hb.alloc hb.size zC))
   have HM3 := lhid (rdB_below hm.out (rdB_low hm.out) HB3.out)
   clear hb hcell
   obtain ⟨i0, hi0, hz0, hz1, hz2⟩ := info_parts infoU8
   have HC3 : Hid (∀ (i : Nat) (c : UInt8), l[i]? = some c → (w3.alloc zC).cell? ⟨B, O + i, none⟩ = some (.int .u8 (c.toNat : Int))) := lhid (by
    rcases HR3.out with ⟨_, h0⟩ | ⟨_, _, _, e0, _, _, h0⟩
    ·exact absurd h0 hne
    ·cases e0
     exact h0)
   have HRL : Hid (RdB (w3.alloc zC) (.slice (some ⟨B, O, none⟩) l.length l.length) l) := lhid (.inr ⟨B, O, l.length, rfl, Nat.le_refl _, by unfold maxLen; omega, HC3.out⟩)
   by_cases h4 : K < 4
   ·rw [if_pos h4]
    have t3 : ¬ ((4 : Int) ≤ K) := by omega
    rcases HM3.out with ⟨e0, hM0⟩ | ⟨b', o', cap', e0, c1, c2, hc'⟩
    ·injection e0 with q1 q2 q3
     subst q1 q3 hM0
     go_wp2_with fail
     with_reducible refine (parse_any _ l _ HRL).mono ?_
     rintro e w4 ⟨hb, hx⟩
     rw [HP.out] at hx
     obtain ⟨dv, g, rfl, xa, xb, xd, rfl, v1, v2, v3, v4⟩ := hx
     obtain ⟨B1, f1, rfl⟩ := slO_shape v1
     obtain ⟨B3, f3, rfl⟩ := slO_shape v3
     obtain ⟨B4, f4, rfl⟩ := slO_shape v4
     have HB4 := lhid (HB3.out.trans (below_lt hb HB3.out.size))
     clear hb v1 v2 v3 v4
     go_wp2_with fail
     go_ret
     exact ⟨by simp, HB4.out.alloc HB4.out.size _⟩
    ·injection e0 with q1 q2 q3
     subst q1 q3
     go_wp2_with (at_builtin; refine wpList_append_arg _ rfl (.tmp 60) (.tmp 61) 28 rfl 5 i0 (.int .u8 0) 1 1 Tryz.underlying28 hi0 hz0 hz1 hz2 rfl (by decide) B O l.length l.length (byV l) rfl (by simp [byV]) ?a2 ⟨b', o', none⟩ M.length mc (byV M) rfl (by simp [byV]) ?a4 ?a5 ?a6 ?a7 ?a8 ?room ?grow)
     case a2 =>
      intro j u hj
      exact byV_cell HC3.out hj
     case a4 =>
      intro j u hj
      rw [Addr.add_lit]
      exact byV_cell hc' hj
     case a5 =>
      intro u hu
      obtain ⟨c, _, rfl⟩ := List.mem_map.1 hu
      rfl
     case a6 =>
      intro hle j hj
      have : M.length = 0 := by omega
      simp [byV, this] at hj
     case a7 => unfold maxLen; omega
     case a8 => omega
     case room =>
      intro hle
      obtain rfl : M = [] := List.eq_nil_of_length_eq_zero (by omega)
      have hset : ∀ (W : World) (b o : Nat), W.setCells b o (byV []) = W := fun W b o => by simp [byV, World.setCells]
      rw [hset]
      go_wp2_with fail
      with_reducible refine (parse_any _ l _ HRL).mono ?_
      rintro e w4 ⟨hb, hx⟩
      rw [HP.out] at hx
      obtain ⟨dv, g, rfl, xa, xb, xd, rfl, v1, v2, v3, v4⟩ := hx
      obtain ⟨B1, f1, rfl⟩ := slO_shape v1
      obtain ⟨B3, f3, rfl⟩ := slO_shape v3
      obtain ⟨B4, f4, rfl⟩ := slO_shape v4
      have HB4 := lhid (HB3.out.trans (below_lt hb HB3.out.size))
      clear hb v1 v2 v3 v4
      go_wp2_with fail
      go_ret
      exact ⟨by simp, HB4.out.alloc HB4.out.size _⟩
     case grow =>
      intro hlt v' w4 hown hgrow
      obtain ⟨A6, c6, rfl⟩ := own_shape hown
      have HB4 := lhid (HB3.out.trans (grownBelow hgrow (fun k hk => by cases hk) HB3.out.size))
      have HR4 : Hid (RdB w4 (.slice A6 (l.length + M.length) c6) (l ++ M)) := lhid (by
       have := own_rdB (l := l ++ M) (v := .slice A6 (l.length + M.length) c6) (B := w3.heap.size + 1) (by rw [List.length_append, byV_app]; exact hown)
       exact this)
      have hM0 : M ≠ [] := by
       rintro rfl
       simp at hlt
      clear hown hgrow
      go_wp2_with fail
      with_reducible refine (parse_any _ _ _ HR4).mono ?_
      rintro e w5 ⟨hb, hx⟩
      rw [HPM.out M hM0] at hx
      have HB5 := lhid (HB4.out.trans (below_lt hb HB4.out.size))
      have m0 : ((M.length : Int) == 0) = false := by simpa using hM0
      clear hb
      by_cases h6 : 65536 < l.length + M.length
      ·rw [if_pos h6] at hx
       obtain rfl := hx
       have m1 : (65536 : Int) < (l.length : Int) + M.length := by omega
       go_wp2_with fail
       all_goals go_ret
       all_goals exact ⟨by simp, HB5.out.alloc HB5.out.size _⟩
      ·rw [if_neg h6] at hx
       obtain rfl := hx
       go_wp2_with fail
       all_goals go_ret
       all_goals exact ⟨by simp, HB5.out.alloc HB5.out.size _⟩
   ·rw [if_neg h4]
    have t3 : ((4 : Int) ≤ K) := by omega
    rcases HM3.out with ⟨e0, hM0⟩ | ⟨b', o', cap', e0, c1, c2, hc'⟩
    ·injection e0 with q1 q2 q3
     subst q1 q3 hM0
     go_wp2_with fail
     with_reducible refine (parse_any _ l _ HRL).mono ?_
     rintro e w4 ⟨hb, hx⟩
     rw [HP.out] at hx
     obtain ⟨dv, g, rfl, xa, xb, xd, rfl, v1, v2, v3, v4⟩ := hx
     obtain ⟨B1, f1, rfl⟩ := slO_shape v1
     obtain ⟨B3, f3, rfl⟩ := slO_shape v3
     obtain ⟨B4, f4, rfl⟩ := slO_shape v4
     have HB4 := lhid (HB3.out.trans (below_lt hb HB3.out.size))
     clear hb v1 v2 v3 v4
     go_wp2_with fail
     go_ret
     exact ⟨by simp, HB4.out.alloc HB4.out.size _⟩
    ·injection e0 with q1 q2 q3
     subst q1 q3
     go_wp2_with (at_builtin; refine wpList_append_arg _ rfl (.tmp 60) (.tmp 61) 28 rfl 5 i0 (.int .u8 0) 1 1 Tryz.underlying28 hi0 hz0 hz1 hz2 rfl (by decide) B O l.length l.length (byV l) rfl (by simp [byV]) ?a2 ⟨b', o', none⟩ M.length mc (byV M) rfl (by simp [byV]) ?a4 ?a5 ?a6 ?a7 ?a8 ?room ?grow)
     case a2 =>
      intro j u hj
      exact byV_cell HC3.out hj
     case a4 =>
      intro j u hj
      rw [Addr.add_lit]
      exact byV_cell hc' hj
     case a5 =>
      intro u hu
      obtain ⟨c, _, rfl⟩ := List.mem_map.1 hu
      rfl
     case a6 =>
      intro hle j hj
      have : M.length = 0 := by omega
      simp [byV, this] at hj
     case a7 => unfold maxLen; omega
     case a8 => omega
     case room =>
      intro hle
      obtain rfl : M = [] := List.eq_nil_of_length_eq_zero (by omega)
      have hset : ∀ (W : World) (b o : Nat), W.setCells b o (byV []) = W := fun W b o => by simp [byV, World.setCells]
      rw [hset]
      go_wp2_with fail
      with_reducible refine (parse_any _ l _ HRL).mono ?_
      rintro e w4 ⟨hb, hx⟩
      rw [HP.out] at hx
      obtain ⟨dv, g, rfl, xa, xb, xd, rfl, v1, v2, v3, v4⟩ := hx
      obtain ⟨B1, f1, rfl⟩ := slO_shape v1
      obtain ⟨B3, f3, rfl⟩ := slO_shape v3
      obtain ⟨B4, f4, rfl⟩ := slO_shape v4
      have HB4 := lhid (HB3.out.trans (below_lt hb HB3.out.size))
      clear hb v1 v2 v3 v4
      go_wp2_with fail
      go_ret
      exact ⟨by simp, HB4.out.alloc HB4.out.size _⟩
     case grow =>
      intro hlt v' w4 hown hgrow
      obtain ⟨A6, c6, rfl⟩ := own_shape hown
      have HB4 := lhid (HB3.out.trans (grownBelow hgrow (fun k hk => by cases hk) HB3.out.size))
      have HR4 : Hid (RdB w4 (.slice A6 (l.length + M.length) c6) (l ++ M)) := lhid (by
       have := own_rdB (l := l ++ M) (v := .slice A6 (l.length + M.length) c6) (B := w3.heap.size + 1) (by rw [List.length_append, byV_app]; exact hown)
       exact this)
      have hM0 : M ≠ [] := by
       rintro rfl
       simp at hlt
      clear hown hgrow
      go_wp2_with fail
      with_reducible refine (parse_any _ _ _ HR4).mono ?_
      rintro e w5 ⟨hb, hx⟩
      rw [HPM.out M hM0] at hx
      have HB5 := lhid (HB4.out.trans (below_lt hb HB4.out.size))
      have m0 : ((M.length : Int) == 0) = false := by simpa using hM0
      clear hb
      by_cases h6 : 65536 < l.length + M.length
      ·rw [if_pos h6] at hx
       obtain rfl := hx
       have m1 : (65536 : Int) < (l.length : Int) + M.length := by omega
       go_wp2_with fail
       all_goals go_ret
       all_goals exact ⟨by simp, HB5.out.alloc HB5.out.size _⟩
      ·rw [if_neg h6] at hx
       obtain rfl := hx
       go_wp2_with fail
       all_goals go_ret
       all_goals exact ⟨by simp, HB5.out.alloc HB5.out.size _⟩
end Go.Proofs.YtgihfcimngogfaaGreat
