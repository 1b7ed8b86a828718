/- FoldChains: the law walked. -/
import Derived.Test.YtbkeneadoccodaaM15
import Derived.Test.YtbkeneadoccodaaJCFolEnd
import Derived.Test.YtbkeneadoccodaaM17
import Derived.Deep.AppendLies
namespace Go.Proofs.Ytbkeneadoccodaa
open Go.RowKit Go
set_option linter.unusedVariables false
set_option linter.unusedSimpArgs false
theorem info_ins9 : (Try.prog.info? 29).map (fun i => (i.zero, i.size, i.bytes)) = some (some (.agg #[.int .i64 0, .int .i64 0, .int .i64 0, .int .i64 0, .int .i64 0, .int .i64 0, .int .i64 0, .string ⟨#[]⟩, .slice none 0 0]), 9, 96) := by kernel_rfl
theorem seven_at (n : Int) : ∃ j : Nat, (n.tmod 7 + 7).tmod 7 = (j : Int) ∧ j < 7 ∧ -7 < n.tmod 7 ∧ n.tmod 7 < 7 := by
 have h1 := Int.tmod_lt_of_pos n (show (0 : Int) < 7 by decide)
 have h2 : -7 < n.tmod 7 := by
  by_cases hn : 0 ≤ n
  ·have := Int.tmod_nonneg 7 hn
   omega
  ·have h4 := Int.tmod_lt_of_pos (-n) (show (0 : Int) < 7 by decide)
   rw [Int.neg_tmod] at h4
   omega
 have h3 : 0 ≤ n.tmod 7 + 7 := by omega
 have h5 := Int.tmod_lt_of_pos (n.tmod 7 + 7) (show (0 : Int) < 7 by decide)
 have h6 := Int.tmod_nonneg 7 h3
 exact ⟨((n.tmod 7 + 7).tmod 7).toNat, by omega, by omega, h2, h1⟩
def tab7 (j : Nat) : Int := ([97, 101, 105, 109, 127, 129, 131] : List Int).getD j 0
theorem tab7_in (j : Nat) (h : j < 7) : I64 (tab7 j) := by
 have h7 : j = 0 ∨ j = 1 ∨ j = 2 ∨ j = 3 ∨ j = 4 ∨ j = 5 ∨ j = 6 := by omega
 rcases h7 with rfl | rfl | rfl | rfl | rfl | rfl | rfl <;> exact ⟨by decide, by decide⟩
theorem idx7 (j : Nat) (h : j < 7) : ∀ w' : World, (Instr.index 36 (.agg #[.int .i64 97, .int .i64 101, .int .i64 105, .int .i64 109, .int .i64 127, .int .i64 129, .int .i64 131]) (.int .i64 (j : Int))).run Try.prog w' = .ok (.int .i64 (tab7 j)) w' := by
 have h7 : j = 0 ∨ j = 1 ∨ j = 2 ∨ j = 3 ∨ j = 4 ∨ j = 5 ∨ j = 6 := by omega
 intro w'
 rcases h7 with rfl | rfl | rfl | rfl | rfl | rfl | rfl <;> kernel_rfl
def PsQ (ps : List (Int × Int)) : Prop := ∀ p ∈ ps, I64 p.1 ∧ I64 p.2
theorem rows_bare {P : Nat → Prop} {w : World} : ∀ l : List InI, (∀ x ∈ l, x.ref = [] ∧ x.args = []) → RowsE 9 (InE P w) l (l.flatMap bareC)
 | [], _ => rowsE_nil _ _
 | x :: l, h => by
  have h0 := h x (by simp)
  have h1 : InE P w x (bareC x) := ⟨.slice none 0 0, by rw [h0.1]; rfl, by rw [h0.2]; exact rdX_nil _ _ _ _ _ _ (fun _ => rfl)⟩
  exact (rowsE_one h1 rfl).app (rows_bare l (fun y hy => h y (by simp [hy])))
theorem code_FC {n0 : Int} {ps : List (Int × Int)} {x : InI} (hx : x ∈ (FC n0 ps).code) : (∃ r n, x = kC r n ∧ (r = 0 ∨ r = 1) ∧ (n = n0 ∨ ∃ p ∈ ps, n = p.2)) ∨ (∃ p ∈ ps, x = kB p.1) ∨ x = kR := by
 have hx : x ∈ chL n0 ps ++ [kR] := hx
 rcases List.mem_append.1 hx with h | h
 ·unfold chL bodC at h
  rcases List.mem_cons.1 h with rfl | h
  ·exact .inl ⟨0, n0, rfl, .inl rfl, .inl rfl⟩
  ·obtain ⟨p, hp, h⟩ := List.mem_flatMap.1 h
   rcases List.mem_cons.1 h with rfl | h
   ·exact .inl ⟨1, p.2, rfl, .inr rfl, .inr ⟨p, hp, rfl⟩⟩
   ·exact .inr (.inl ⟨p, hp, List.mem_singleton.1 h⟩)
 ·exact .inr (.inr (List.mem_singleton.1 h))
theorem bare_FC {n0 : Int} {ps : List (Int × Int)} : ∀ x ∈ (FC n0 ps).code, x.ref = [] ∧ x.args = [] := by
 intro x hx
 rcases code_FC hx with ⟨r, n, rfl, _⟩ | ⟨p, _, rfl⟩ | rfl <;> exact ⟨rfl, rfl⟩
theorem fq_FC {n0 : Int} {ps : List (Int × Int)} (h0 : I64 n0) (hp : PsQ ps) : FuQ (FC n0 ps) := by
 refine ⟨fun x hx => ?_, fun x hx => by rw [(bare_FC x hx).1]; exact Nat.zero_le _⟩
 rcases code_FC hx with ⟨r, n, rfl, _, h⟩ | ⟨p, h, rfl⟩ | rfl
 ·rcases h with rfl | ⟨p, h, rfl⟩
  ·exact h0
  ·exact (hp p h).2
 ·exact (hp p h).1
 ·exact (⟨by decide, by decide⟩ : I64 0)
theorem i6_FC {n0 : Int} {ps : List (Int × Int)} : ∀ x ∈ (FC n0 ps).code, I6 x.a ∧ I6 x.b ∧ I6 x.dst := by
 intro x hx
 have z : I6 0 := ⟨by decide, by decide⟩
 have o : I6 1 := ⟨by decide, by decide⟩
 rcases code_FC hx with ⟨r, n, rfl, h, _⟩ | ⟨p, h, rfl⟩ | rfl
 ·refine ⟨z, z, ?_⟩
  rcases h with rfl | rfl
  ·exact z
  ·exact o
 ·exact ⟨z, o, z⟩
 ·exact ⟨z, z, z⟩
theorem FC_len (n0 : Int) (ps : List (Int × Int)) : (FC n0 ps).code.length = 2 * ps.length + 2 := by
 show (chL n0 ps ++ [kR]).length = _
 rw [List.length_append, chL_len]
 rfl
theorem cp_FC {n0 : Int} {ps : List (Int × Int)} (h : ps.length ≤ 100) : CpQ (FC n0 ps) := by
 refine ⟨by show 2 * 8 ≤ _; decide, by show 0 * 8 ≤ _; decide, by rw [FC_len]; omega, by show 0 * 40 ≤ _; decide, fun x hx => by rw [(bare_FC x hx).2]; exact Nat.zero_le _⟩
theorem own_ne {w : World} {B e size n g T : Nat} {v : Value} {xs : List Value} {cur : Array Value} (h : w.ownsRow B e size v n xs) (hg : w.heap[g]? = some (.cells cur T (0, 0))) (hT : e ≠ T) : ∀ b, v.ownBlock = some b → b ≠ g := by
 intro b hb e1
 subst e1
 rcases h.2 with ⟨rfl, _⟩ | ⟨g', cap, c2, rfl, _, h3, _⟩
 ·cases hb
 ·injection hb with hb
  have hb : g' = b := hb
  subst hb
  rw [hg] at h3
  injection h3 with h3
  injection h3 with _ h3
  exact hT h3.symm
structure ChS (w : World) (RG FB : Nat) (v : Value) (l : List InI) : Prop where
 regs : w.heap[RG]? = some (.cells #[.int .i64 2, .int .i64 2] 3 (0, 0))
 box : FBox w FB (.slice (some ⟨RG, 0, none⟩) 2 2) (.slice none 0 0) 2 v (.slice none 0 0)
 own : w.ownsRow (RG + 1) 29 9 v l.length (l.flatMap bareC)
theorem ChS.below {w w' : World} {RG FB : Nat} {v : Value} {l : List InI} (h : ChS w RG FB v l) (hb : Below w.heap.size w w') : ChS w' RG FB v l := ⟨heap_keep h.regs hb, heap_keep h.box hb, own_below h.own hb⟩
theorem ChS.push {w wl w6 : World} {RG FB g cap : Nat} {v : Value} {l m : List InI} (h : ChS w RG FB v l) (hl : Below w.heap.size w wl) (hown : w6.ownsRow (RG + 1) 29 9 (.slice (some ⟨g, 0, none⟩) (l.length + m.length) cap) (l.length + m.length) (l.flatMap bareC ++ m.flatMap bareC)) (hg : wl.grownBy w6 v.ownBlock) :
  ChS (w6.setCell ⟨FB, 3, none⟩ (.slice (some ⟨g, 0, none⟩) (l.length + m.length) cap)) RG FB (.slice (some ⟨g, 0, none⟩) (l ++ m).length cap) (l ++ m) := by
 have hl2 := h.below hl
 have hc : Ch (fun b => v.ownBlock = some b) wl w6 := (Ch.refl _ wl).grown hg (fun k e _ => e)
 have n1 : ∀ b, v.ownBlock = some b → b ≠ RG := own_ne hl2.own hl2.regs (by decide)
 have n2 : ∀ b, v.ownBlock = some b → b ≠ FB := own_ne hl2.own hl2.box (by decide)
 have hr6 := hc.keep hl2.regs (fun e => n1 RG e rfl)
 have hb6 := hc.keep hl2.box (fun e => n2 FB e rfl)
 have hne : RG ≠ FB := by
  rintro rfl
  have h1 := h.regs
  have h2 : w.heap[RG]? = _ := h.box
  rw [h1] at h2
  injection h2 with h2
  injection h2 with _ h2
  exact absurd h2 (by decide)
 refine ⟨(Below.heap_setCell _ _ _ _ hne).trans hr6, ?_, ?_⟩
 ·have := xset2 (show FBox w6 FB _ _ _ _ _ from hb6) 3 (.slice (some ⟨g, 0, none⟩) (l.length + m.length) cap) rfl
  rw [List.length_append]
  exact this
 ·rw [List.length_append, List.flatMap_append]
  exact own_of hown fun b hb => Below.heap_setCell _ _ _ _ (own_ne hown (show w6.heap[FB]? = _ from hb6) (by decide) b hb)
set_option maxHeartbeats 32000000 in
set_option maxRecDepth 100000 in
theorem FoldChains_walk (vc vn : Value) (lc ln : List Int) (w : World) (hC : Hid (RdX Tru 1 NuE w vc lc)) (hN : Hid (RdX Tru 1 NuE w vn ln)) (hn6 : Hid (∀ z ∈ ln, I64 z)) :
  Calls Try.prog 5 #[vc, vn] w fun e w' => e = .returned (.bool true) ∧ Below w.heap.size w w' := by
 obtain ⟨AC, cc, hv⟩ := hC.out.shape
 subst hv
 obtain ⟨AN, cn, hv⟩ := hN.out.shape
 subst hv
 have hnl := hN.out.len
 have hcl := hC.out.len
 obtain ⟨n, hn⟩ : ∃ n, lc.length = n := ⟨_, rfl⟩
 obtain ⟨m, hm⟩ : ∃ m, ln.length = m := ⟨_, rfl⟩
 have HN := lhid hn
 have HM := lhid hm
 have hC0 := hC.out
 have hN0 := hN.out
 rw [hn] at hC0 hcl ⊢
 rw [hm] at hN0 hnl ⊢
 have HCC := lhid hC0
 have HNN := lhid hN0
 clear hn hm hC0 hN0 hC hN
 go_enter Try.func5, Try.ntmps5
 go_wp2_with fail
 with_reducible refine (holds15_any w).mono ?_
 rintro e w1 ⟨rfl, hb1⟩
 have HB1 := lhid hb1
 clear hb1
 by_cases h100 : n ≤ 100
 rotate_left
 ·have k1 : (100 : Int) < n := by omega
  go_wp2_with fail
  go_ret
  exact ⟨rfl, HB1.out⟩
 have k1 : ¬ (100 : Int) < n := by omega
 by_cases hm0 : m = 0
 ·subst hm0
  go_wp2_with fail
  go_ret
  exact ⟨rfl, HB1.out⟩
 have k2 : ((m : Int) == 0) = false := by rw [beq_eq_false_iff_ne]; omega
 have k4 : (0 : Int) < m := by omega
 have HMP : Hid (0 < m) := lhid (by omega)
 have H100 : Hid (n ≤ 100) := lhid h100
 obtain ⟨n0, hn0⟩ : ∃ n0, ln[0]? = some n0 := ⟨_, List.getElem?_eq_getElem (by rw [HM.out]; omega)⟩
 have H06 : Hid (I64 n0) := lhid (hn6.out n0 (List.mem_of_getElem? hn0))
 have HNU : Hid (∀ (i : Nat) z, ln[i]? = some z → ∃ g o, AN = some ⟨g, o, none⟩ ∧ w.cell? ⟨g, o + i, none⟩ = some (.int .i64 z)) := lhid (fun i z hi => by
  obtain ⟨g, o, c, h1, _, h2, h3⟩ := HNN.out.at' hi
  subst h2
  refine ⟨g, o, h1, ?_⟩
  have := h3 0 _ rfl
  rwa [Nat.mul_one, Nat.add_zero] at this)
 obtain ⟨gn, on_, hAN, _⟩ := HNU.out 0 n0 hn0
 subst hAN
 have HNU2 : Hid (∀ (i : Nat) z, ln[i]? = some z → w.cell? ⟨gn, on_ + i, none⟩ = some (.int .i64 z)) := lhid (fun i z hi => by
  obtain ⟨g, o, h1, h2⟩ := HNU.out i z hi
  injection h1 with h1
  injection h1 with h1 h3 _
  subst h1 h3
  exact h2)
 have c0 : w1.cell? ⟨gn, on_, none⟩ = some (.int .i64 n0) := (HB1.out.cell (p := ⟨gn, on_, none⟩) (cell_lt (HNU2.out 0 n0 hn0))).trans (HNU2.out 0 n0 hn0)
 have hgl : gn < w1.heap.size := cell_lt c0
 have HGL := lhid hgl
 clear h100 hm0 hn0 HNU
 go_upto_region 6 with fail
 generalize hW : World.alloc _ _ = w2
 obtain ⟨RG, hRG⟩ : ∃ RG, RG = w1.heap.size := ⟨_, rfl⟩
 try rw [← hRG]
 have hb2 : Below w1.heap.size w1 w2 := by rw [← hW]; exact (((Below.refl w1.heap.size w1).alloc (Nat.le_refl _) _).alloc (by simp) _).alloc (by simp; omega) _
 have hS2 : ChS w2 RG (RG + 1 + 1) (.slice (some ⟨RG + 1, 0, none⟩) 1 1) (chL n0 []) := by
  rw [← hW, hRG]
  refine ⟨(Below.heap_alloc _ _ _ (by simp; omega)).trans ((Below.heap_alloc _ _ _ (by simp)).trans (heap_alloc_new w1 _)), heap_alloc_new' _ _ _ (by simp), ?_⟩
  have h0 := World.ownsRow_lit (e := 29) (size := 9) (base := w1.heap.size + 1) (w1.alloc (.cells #[.int .i64 2, .int .i64 2] 3)) (bareC (kC 0 n0)).toArray 1 (by simp) (by decide) rfl
  have h1 := own_below h0 ((Below.refl _ _).alloc (Nat.le_refl _) (.cells #[.slice (some ⟨w1.heap.size, 0, none⟩) 2 2, .slice none 0 0, .int .i64 2, .slice (some ⟨w1.heap.size + 1, 0, none⟩) 1 1, .slice none 0 0] 27))
  simp only [World.size_alloc] at h1
  exact h1
 have HS2 := lhid hS2
 have HB2 : Hid (Below w.heap.size w w2) := lhid (HB1.out.trans (hb2.mono HB1.out.size))
 have c0 : w2.cell? ⟨gn, on_, none⟩ = some (.int .i64 n0) := (hb2.cell (p := ⟨gn, on_, none⟩) (cell_lt c0)).trans c0
 have HRG : Hid (w.heap.size ≤ RG) := lhid (by have := HB1.out.size; omega)
 have hgl2 : gn < w2.heap.size := cell_lt c0
 clear hW hb2 hS2 hRG HB1 hgl
 go_wp2_with fail
 clear c0 hgl2
 go_loopw [6, 35] (fun wv i wr => ∃ (k : Nat) (ps : List (Int × Int)) (v : Value), i = .int .i64 k ∧ k ≤ n ∧ ps.length = k ∧ wv = .int .i64 (wnC n0 ps) ∧ Hid (PsQ ps) ∧ Hid (ChS wr RG (RG + 1 + 1) v (chL n0 ps)) ∧ Hid (Below w.heap.size w wr)) (fun _ i _ => n - (intOf i).toNat)
 case atStart => exact ⟨0, [], _, rfl, Nat.zero_le _, rfl, rfl, lhid (fun p hp => by cases hp), HS2, HB2⟩
 case round =>
  clear HS2 HB2
  obtain ⟨k, ps, v, rfl, hk, hps, rfl, HP, HS, HB⟩ := hrel
  have HPS := lhid hps
  by_cases hlt : k < n
  ·
   obtain ⟨c, hc⟩ : ∃ c, lc[k]? = some c := ⟨_, List.getElem?_eq_getElem (by rw [HN.out]; exact hlt)⟩
   obtain ⟨gc, oc, cs, hAC, _, hcs, hcc⟩ := HCC.out.at' hc
   subst hAC hcs
   have d0 : wr.cell? ⟨gc, oc + k, none⟩ = some (.int .i64 c) := by
    have h0 := hcc 0 _ rfl
    rw [Nat.mul_one, Nat.add_zero] at h0
    exact (HB.out.cell (p := ⟨gc, oc + k, none⟩) (cell_lt h0)).trans h0
   obtain ⟨j, hj, hj7, hm1, hm2⟩ := seven_at c
   have e1 : wrap64 (c.tmod 7) = c.tmod 7 := IntWalk.wrap64_in _ (by omega)
   have e2 : wrap64 (c.tmod 7 + 7) = c.tmod 7 + 7 := IntWalk.wrap64_in _ (by omega)
   have e3 : wrap64 (j : Int) = (j : Int) := IntWalk.wrap64_in _ (by omega)
   have hix := idx7 j hj7
   have k3 : (k : Int) < n := by omega
   have j1 : (j : Int) < 7 := by omega
   have HK1 : Hid (k + 1 ≤ n ∧ n - (k + 1) < n - k) := lhid ⟨hlt, by omega⟩
   have hwk : wrap64 ((k : Int) + 1) = (k : Int) + 1 := IntWalk.wrap64_in _ (by omega)
   have HT7 := lhid (tab7_in j hj7)
   clear hc hcc hps hj7 hm1 hm2
   go_upto_region 11 with fail
   clear d0 e1 e2 e3 hix hj j1
   obtain ⟨cd, hcd⟩ : ∃ cd, tab7 j = cd := ⟨_, rfl⟩
   rw [hcd] at HT7
   try rw [hcd]
   clear hcd
   obtain ⟨x, hx⟩ : ∃ x, ln[(k + 1) % m]? = some x := ⟨_, List.getElem?_eq_getElem (by rw [HM.out]; exact Nat.mod_lt _ HMP.out)⟩
   have HX6 : Hid (I64 x) := lhid (hn6.out x (List.mem_of_getElem? hx))
   have d0 : wr.cell? ⟨gn, on_ + (k + 1) % m, none⟩ = some (.int .i64 x) := (HB.out.cell (p := ⟨gn, on_ + (k + 1) % m, none⟩) (cell_lt (HNU2.out _ x hx))).trans (HNU2.out _ x hx)
   obtain ⟨q, hq⟩ : ∃ q, (k + 1) % m = q := ⟨_, rfl⟩
   have hrem : ((k : Int) + 1).tmod (m : Int) = (q : Int) := by
    rw [← hq, show ((k : Int) + 1) = ((k + 1 : Nat) : Int) by simp]
    exact (Int.ofNat_tmod _ _).symm
   have hq1 : (q : Int) < m := by rw [← hq]; have := Nat.mod_lt (k + 1) HMP.out; omega
   have hq2 : wrap64 (q : Int) = (q : Int) := IntWalk.wrap64_in _ (by omega)
   have hm9 : ¬ (m : Int) = 0 := by omega
   rw [hq] at d0
   clear hx hq
   go_upto_region 12 with fail
   clear d0 hrem hq1 hq2 hm9
   obtain ⟨VA, vcap, hvA⟩ := own_shape HS.out.own
   subst hvA
   have hle : (chL n0 ps).length ≤ 201 := by rw [chL_len, HPS.out]; have := H100.out; omega
   have HLE := lhid hle
   obtain ⟨i0, hi0, hz0, hz1, hz2⟩ := info_parts info_ins9
   have HW6 : Hid (RG + 1 + 1 < wr.heap.size) := lhid (heap_lt HS.out.box)
   obtain ⟨p0, p1, p2, p3, p4⟩ := HS.out.box.cells
   have h63 : (chL n0 ps).length + 2 ≤ maxLen := by unfold maxLen; omega
   have hby : ((chL n0 ps).length + 2) * 96 ≤ 140737488355328 := by omega
   clear hle
   go_wp2_with (at_builtin; refine wpList_append_lies _ rfl (.tmp 55) (.tmp 60) 24 rfl (RG + 1) 29 i0 (.agg #[.int .i64 0, .int .i64 0, .int .i64 0, .int .i64 0, .int .i64 0, .int .i64 0, .int .i64 0, .string ⟨#[]⟩, .slice none 0 0]) 9 96 Try.underlying24 hi0 hz0 hz1 hz2 rfl (by decide) (.slice VA (chL n0 ps).length vcap) (chL n0 ps).length ((chL n0 ps).flatMap bareC) rfl (HS.out.own.alloc _) ⟨wr.heap.size, 0, none⟩ 2 2 [.int .i64 1, .int .i64 1, .int .i64 0, .int .i64 0, .int .i64 0, .int .i64 x, .int .i64 0, .string ⟨#[]⟩, .slice none 0 0, .int .i64 5, .int .i64 0, .int .i64 0, .int .i64 1, .int .i64 0, .int .i64 cd, .int .i64 0, .string ⟨#[]⟩, .slice none 0 0] rfl rfl (World.news_of_block (heap_alloc_new wr (.cells #[.int .i64 1, .int .i64 1, .int .i64 0, .int .i64 0, .int .i64 0, .int .i64 x, .int .i64 0, .string ⟨#[]⟩, .slice none 0 0, .int .i64 5, .int .i64 0, .int .i64 0, .int .i64 1, .int .i64 0, .int .i64 cd, .int .i64 0, .string ⟨#[]⟩, .slice none 0 0] 29))) (by simp [Value.oneCell']) (by decide) h63 hby (by have := HW6.out; simp; omega) _ rfl ?_)
   intro g cap w6 hown hgrow hat hlt6
   have hbl : Below wr.heap.size wr (wr.alloc (.cells #[.int .i64 1, .int .i64 1, .int .i64 0, .int .i64 0, .int .i64 0, .int .i64 x, .int .i64 0, .string ⟨#[]⟩, .slice none 0 0, .int .i64 5, .int .i64 0, .int .i64 0, .int .i64 1, .int .i64 0, .int .i64 cd, .int .i64 0, .string ⟨#[]⟩, .slice none 0 0] 29)) := (Below.refl _ _).alloc (Nat.le_refl _) _
   have hl2 := HS.out.below hbl
   have hc6 : Ch (fun b => (Value.slice VA (chL n0 ps).length vcap).ownBlock = some b) (wr.alloc (.cells #[.int .i64 1, .int .i64 1, .int .i64 0, .int .i64 0, .int .i64 0, .int .i64 x, .int .i64 0, .string ⟨#[]⟩, .slice none 0 0, .int .i64 5, .int .i64 0, .int .i64 0, .int .i64 1, .int .i64 0, .int .i64 cd, .int .i64 0, .string ⟨#[]⟩, .slice none 0 0] 29)) w6 := (Ch.refl _ _).grown hgrow (fun k e _ => e)
   have hx6 := hc6.keep (show _ = _ from hl2.box) (fun e => own_ne hl2.own (show _ = _ from hl2.box) (by decide) _ e rfl)
   have z6 := heap_thaw hx6
   have q3 := heap_cell (i := 3) hx6 rfl
   have HB6 : Hid (Below w.heap.size w w6) := lhid (by
    have h1 : Below w.heap.size w (wr.alloc (.cells #[.int .i64 1, .int .i64 1, .int .i64 0, .int .i64 0, .int .i64 0, .int .i64 x, .int .i64 0, .string ⟨#[]⟩, .slice none 0 0, .int .i64 5, .int .i64 0, .int .i64 0, .int .i64 1, .int .i64 0, .int .i64 cd, .int .i64 0, .string ⟨#[]⟩, .slice none 0 0] 29)) := HB.out.trans (hbl.mono HB.out.size)
    exact Below.grown h1 hgrow (by have := HB.out.size; simp; omega) (fun b hb => by have := (HS.out.own.lt b hb).1; have := HRG.out; omega))
   have hpush := @ChS.push wr _ w6 RG (RG + 1 + 1) g cap _ (chL n0 ps) [kC 1 x, kB cd] HS.out hbl hown hgrow
   rw [← chL_snoc n0 ps (cd, x)] at hpush
   have HPU := lhid hpush
   clear hpush hown hgrow hat hl2 hbl hc6 hx6 p0 p1 p2 p3 p4 h63 hby hi0 hz0 hz1 hz2
   go_upto_region 13 with fail
   generalize hW : World.setCell _ _ _ = w7
   have HS7 : Hid (ChS w7 RG (RG + 1 + 1) (.slice (some ⟨g, 0, none⟩) (chL n0 (ps ++ [(cd, x)])).length cap) (chL n0 (ps ++ [(cd, x)]))) := lhid (by rw [← hW]; exact HPU.out)
   have HB7 : Hid (Below w.heap.size w w7) := lhid (by rw [← hW]; exact HB6.out.setCell (by have := HRG.out; show w.heap.size ≤ RG + 1 + 1; omega) _)
   clear hW HPU HB6 z6 q3 HS
   go_wp2_with fail
   with_reducible refine (rtwo_w cd (wnC n0 ps) x w7 HT7 (lhid (wnC_64 ps n0 H06.out)) HX6).mono ?_
   rintro e w8 ⟨rfl, hb8⟩
   have HS8 := lhid (HS7.out.below hb8)
   have HB8 : Hid (Below w.heap.size w w8) := lhid (HB7.out.trans (hb8.mono HB7.out.size))
   have HP8 : Hid (PsQ (ps ++ [(cd, x)])) := lhid (fun p hp => by
    rcases List.mem_append.1 hp with h | h
    ·exact HP.out p h
    ·rw [List.mem_singleton.1 h]; exact ⟨HT7.out, HX6.out⟩)
   clear hb8
   go_wp2_with fail
   go_roundw
   case rel => exact ⟨k + 1, ps ++ [(cd, x)], _, by go_num, HK1.out.1, by rw [List.length_append, HPS.out]; rfl, by rw [wnC_snoc], HP8, HS8, HB8⟩
   case measure => first | exact HK1.out.2 | (rw [hwk]; exact HK1.out.2)
  ·have k3 : ¬ (k : Int) < n := by omega
   have hkn : k = n := by omega
   subst hkn
   obtain ⟨VA, vcap, hvA⟩ := own_shape HS.out.own
   subst hvA
   have hle : (chL n0 ps).length ≤ 201 := by rw [chL_len, HPS.out]; have := H100.out; omega
   obtain ⟨i0, hi0, hz0, hz1, hz2⟩ := info_parts info_ins9
   have HW6 : Hid (RG + 1 + 1 < wr.heap.size) := lhid (heap_lt HS.out.box)
   obtain ⟨p0, p1, p2, p3, p4⟩ := HS.out.box.cells
   have h63 : (chL n0 ps).length + 1 ≤ maxLen := by unfold maxLen; omega
   have hby : ((chL n0 ps).length + 1) * 96 ≤ 140737488355328 := by omega
   clear hle hlt hps hk
   go_wp2_with (at_builtin; refine wpList_append_lies _ rfl (.tmp 69) (.tmp 71) 24 rfl (RG + 1) 29 i0 (.agg #[.int .i64 0, .int .i64 0, .int .i64 0, .int .i64 0, .int .i64 0, .int .i64 0, .int .i64 0, .string ⟨#[]⟩, .slice none 0 0]) 9 96 Try.underlying24 hi0 hz0 hz1 hz2 rfl (by decide) (.slice VA (chL n0 ps).length vcap) (chL n0 ps).length ((chL n0 ps).flatMap bareC) rfl (HS.out.own.alloc _) ⟨wr.heap.size, 0, none⟩ 1 1 [.int .i64 30, .int .i64 0, .int .i64 0, .int .i64 0, .int .i64 0, .int .i64 0, .int .i64 0, .string ⟨#[]⟩, .slice none 0 0] rfl rfl (World.news_of_block (heap_alloc_new wr (.cells #[.int .i64 30, .int .i64 0, .int .i64 0, .int .i64 0, .int .i64 0, .int .i64 0, .int .i64 0, .string ⟨#[]⟩, .slice none 0 0] 29))) (by simp [Value.oneCell']) (by decide) h63 hby (by have := HW6.out; simp; omega) _ rfl ?_)
   intro g cap w6 hown hgrow hat hlt6
   have hbl : Below wr.heap.size wr (wr.alloc (.cells #[.int .i64 30, .int .i64 0, .int .i64 0, .int .i64 0, .int .i64 0, .int .i64 0, .int .i64 0, .string ⟨#[]⟩, .slice none 0 0] 29)) := (Below.refl _ _).alloc (Nat.le_refl _) _
   have hl2 := HS.out.below hbl
   have hc6 : Ch (fun b => (Value.slice VA (chL n0 ps).length vcap).ownBlock = some b) (wr.alloc (.cells #[.int .i64 30, .int .i64 0, .int .i64 0, .int .i64 0, .int .i64 0, .int .i64 0, .int .i64 0, .string ⟨#[]⟩, .slice none 0 0] 29)) w6 := (Ch.refl _ _).grown hgrow (fun k e _ => e)
   have hx6 := hc6.keep (show _ = _ from hl2.box) (fun e => own_ne hl2.own (show _ = _ from hl2.box) (by decide) _ e rfl)
   have z6 := heap_thaw hx6
   have q3 := heap_cell (i := 3) hx6 rfl
   have HB6 : Hid (Below w.heap.size w w6) := lhid (by
    have h1 : Below w.heap.size w (wr.alloc (.cells #[.int .i64 30, .int .i64 0, .int .i64 0, .int .i64 0, .int .i64 0, .int .i64 0, .int .i64 0, .string ⟨#[]⟩, .slice none 0 0] 29)) := HB.out.trans (hbl.mono HB.out.size)
    exact Below.grown h1 hgrow (by have := HB.out.size; simp; omega) (fun b hb => by have := (HS.out.own.lt b hb).1; have := HRG.out; omega))
   have hpush := @ChS.push wr _ w6 RG (RG + 1 + 1) g cap _ (chL n0 ps) [kR] HS.out hbl hown hgrow
   have HPU := lhid hpush
   clear hpush hown hgrow hat hl2 hbl hc6 hx6 p0 p1 p2 p3 p4 h63 hby hi0 hz0 hz1 hz2
   go_upto_region 16 with fail
   generalize hW : World.setCell _ _ _ = w7
   have HS7 : Hid (ChS w7 RG (RG + 1 + 1) (.slice (some ⟨g, 0, none⟩) (chL n0 ps ++ [kR]).length cap) (chL n0 ps ++ [kR])) := lhid (by rw [← hW]; exact HPU.out)
   have HB7 : Hid (Below w.heap.size w w7) := lhid (by rw [← hW]; exact HB6.out.setCell (by have := HRG.out; show w.heap.size ≤ RG + 1 + 1; omega) _)
   have hl7 : (chL n0 ps ++ [kR]).length = (chL n0 ps).length + 1 := by simp
   clear hW HPU HB6 z6 q3 HS
   have hN2 : (chL n0 ps ++ [kR]).length = 2 * k + 2 := by rw [hl7, chL_len, HPS.out]
   have HU7 : Hid (FuV Tru w7 (FC n0 ps) (.slice (some ⟨RG, 0, none⟩) 2 2) (.slice none 0 0) (.slice (some ⟨g, 0, none⟩) (chL n0 ps ++ [kR]).length cap) (.slice none 0 0)) := lhid ⟨lit_nu (l := [2, 2]) HS7.out.regs rfl (by simp), rdX_nil _ _ _ _ _ _ (fun _ => rfl), (rdX_own (l := chL n0 ps ++ [kR]) HS7.out.own (by rw [hN2]; have := H100.out; omega) (rows_bare _ bare_FC)).any (fun _ _ => trivial), rdX_nil _ _ _ _ _ _ (fun _ => rfl)⟩
   obtain ⟨N, hN⟩ : ∃ N, (chL n0 ps ++ [kR]).length = N := ⟨_, rfl⟩
   obtain ⟨M, hM⟩ : ∃ M, 2 * k = M := ⟨_, rfl⟩
   have hBox := HS7.out.box
   rw [hN] at HU7 hBox hN2
   have HBX := lhid hBox
   have HNE : Hid (N = 2 * k + 2 ∧ 2 * k = M ∧ M < N) := lhid ⟨hN2, hM, by omega⟩
   have hsub : wrap64 ((N : Int) - 2) = (M : Int) := by
    rw [show (N : Int) - 2 = (M : Int) by omega]
    exact IntWalk.wrap64_in _ (by have := H100.out; omega)
   have hMN : (M : Int) < N := by omega
   have HSUB := lhid hsub
   have HMN := lhid hMN
   try rw [hN]
   obtain ⟨W0, hW0⟩ : ∃ W0, wnC n0 ps = W0 := ⟨_, rfl⟩
   try rw [hW0]
   have HWW := lhid hW0
   have HL7 : Hid (RG + 1 + 1 < w7.heap.size) := lhid (heap_lt hBox)
   obtain ⟨p0, p1, p2, p3, p4⟩ := hBox.cells
   clear hN hM hN2 hl7 hW0 hBox HS7 hsub hMN
   go_wp2_with fail
   refine (pass_any (FC n0 ps) _ _ _ _ w7 HU7 (lhid (fq_FC H06.out HP.out)) nil_cap (lhid (cp_FC (by rw [HPS.out]; exact H100.out))) (lhid i6_FC)).mono ?_
   rintro e w8 ⟨va, vb, vd, ve, rfl, hcv, hb8⟩
   obtain ⟨F, hF⟩ : ∃ F, foldF (FC n0 ps) = F := ⟨_, rfl⟩
   have hregs : F.regs = [2, 2] ∧ F.params = [] ∧ F.rows = [] ∧ F.ret = 2 ∧ F.code.length = N := by
    rw [← hF]
    have e : (FC n0 ps).code.length = N := by rw [FC_len, HPS.out]; exact HNE.out.1.symm
    unfold foldF
    split
    ·exact ⟨rfl, rfl, rfl, rfl, (foC_len _).trans e⟩
    ·exact ⟨rfl, rfl, rfl, rfl, e⟩
   obtain ⟨L, hL, hLL⟩ := fold_last n0 ps
   have HEND : Hid ((endS F.code).1 = W0) := lhid (by rw [← hF, ← HWW.out]; exact end_fold n0 ps)
   have HQF : Hid (FuQ F) := lhid (by
    rw [← hF]
    by_cases h0 : chkN (FC n0 ps) = 0
    ·rw [foldF_yes h0]; exact fq_foF h0 (fq_FC H06.out HP.out)
    ·rw [foldF_no h0]; exact fq_FC H06.out HP.out)
   have hargs : ∀ x ∈ F.code, x.args.length ≤ 140737488355328 := by
    rw [← hF]
    by_cases h0 : chkN (FC n0 ps) = 0
    ·rw [foldF_yes h0]; exact args_foF (fun x hx => by rw [(bare_FC x hx).2]; exact Nat.zero_le _)
    ·rw [foldF_no h0]; exact (fun x hx => by rw [(bare_FC x hx).2]; exact Nat.zero_le _)
   rw [hF] at hcv hL ⊢
   rw [HPS.out, HNE.out.2.1] at hL
   rw [HWW.out] at hLL
   have HLL := lhid hLL
   obtain ⟨CA, ca, ha⟩ := own_shape hcv.a
   obtain ⟨CB, cb, hb⟩ := own_shape hcv.b
   obtain ⟨CE, ce, he⟩ : ∃ A c9, ve = .slice A F.rows.length c9 := by obtain ⟨xs, h5, _⟩ := hcv.e; exact own_shape h5
   subst ha hb he
   obtain ⟨g2, cd2, hd, hco⟩ : ∃ g2 cd2, vd = .slice (some ⟨g2, 0, none⟩) N cd2 ∧ CoO w7.heap.size w8 g2 cd2 F.code := by
    rcases hcv.d with ⟨_, h7⟩ | ⟨g2, cap2, h7, _, _, _, h8⟩
    ·have h9 := hregs.2.2.2.2
     rw [h7] at h9
     have := HNE.out
     simp at h9
     omega
    ·exact ⟨g2, cap2, by rw [h7, hregs.2.2.2.2], h8⟩
   subst hd
   have HFU8 := lhid (hcv.fu (by rw [hregs.1]; simp) (by rw [hregs.2.1]; simp) (by rw [hregs.2.2.2.2]; have := HNE.out; have := H100.out; omega) (by rw [hregs.2.2.1]; simp) hargs)
   obtain ⟨v9, hv9, c0, c1, c2, c3, c4, c5, c6, c7, c8⟩ := hco.at_ hL
   obtain ⟨VL, vl, hvl⟩ := own_shape hv9
   subst hvl
   have HB8 : Hid (Below w.heap.size w w8) := lhid (HB7.out.trans (hb8.mono HB7.out.size))
   have HBX8 : Hid (FBox w8 (RG + 1 + 1) (.slice (some ⟨RG, 0, none⟩) 2 2) (.slice none 0 0) 2 (.slice (some ⟨g, 0, none⟩) N cap) (.slice none 0 0)) := lhid (heap_keep HBX.out hb8)
   have HG2 : Hid (g2 < w8.heap.size) := lhid hco.lt
   have HCE : Hid (w8.cell? ⟨g2, M * 9, none⟩ = some (.int .i64 L.op) ∧ w8.cell? ⟨g2, M * 9 + 1, none⟩ = some (.int .i64 L.dst) ∧ w8.cell? ⟨g2, M * 9 + 2, none⟩ = some (.int .i64 L.a) ∧ w8.cell? ⟨g2, M * 9 + 3, none⟩ = some (.int .i64 L.b) ∧ w8.cell? ⟨g2, M * 9 + 4, none⟩ = some (.int .i64 L.c) ∧ w8.cell? ⟨g2, M * 9 + 5, none⟩ = some (.int .i64 L.num) ∧ w8.cell? ⟨g2, M * 9 + 6, none⟩ = some (.int .i64 L.too) ∧ w8.cell? ⟨g2, M * 9 + 7, none⟩ = some (.string (tx L.ref)) ∧ w8.cell? ⟨g2, M * 9 + 8, none⟩ = some (.slice VL L.args.length vl)) := lhid ⟨c0, c1, c2, c3, c4, c5, c6, c7, c8⟩
   clear hcv hb8 hF hregs hL hLL hargs hco hv9 c0 c1 c2 c3 c4 c5 c6 c7 c8 p0 p1 p2 p3 p4 HU7 HBX HL7
   go_upto_region 17 with fail
   generalize hW : World.alloc _ _ = w9
   obtain ⟨G, hG⟩ : ∃ G, G = w8.heap.size := ⟨_, rfl⟩
   try rw [← hG]
   have hb9 : Below w8.heap.size w8 w9 := by rw [← hW]; exact (Below.refl _ _).alloc (Nat.le_refl _) _
   have HG9 : Hid (FBox w9 G (.slice CA F.regs.length ca) (.slice CB F.params.length cb) F.ret (.slice (some ⟨g2, 0, none⟩) N cd2) (.slice CE F.rows.length ce)) := lhid (by rw [← hW, hG]; exact heap_alloc_new w8 _)
   have HFU9 := lhid (HFU8.out.below hb9)
   have HBX9 : Hid (FBox w9 (RG + 1 + 1) (.slice (some ⟨RG, 0, none⟩) 2 2) (.slice none 0 0) 2 (.slice (some ⟨g, 0, none⟩) N cap) (.slice none 0 0)) := lhid (heap_keep HBX8.out hb9)
   have HB9 : Hid (Below w.heap.size w w9) := lhid (HB8.out.trans (hb9.mono HB8.out.size))
   have kc : ∀ {j : Nat} {u : Value}, w8.cell? ⟨g2, j, none⟩ = some u → w9.cell? ⟨g2, j, none⟩ = some u := fun {j u} h => (hb9.cell (p := ⟨g2, j, none⟩) HG2.out).trans h
   obtain ⟨c0, c1, c2, c3, c4, c5, c6, c7, c8⟩ := HCE.out
   replace c0 := kc c0
   replace c1 := kc c1
   replace c2 := kc c2
   replace c3 := kc c3
   replace c4 := kc c4
   replace c5 := kc c5
   replace c6 := kc c6
   replace c7 := kc c7
   replace c8 := kc c8
   obtain ⟨q0, q1, q2, q3, q4⟩ := HG9.out.cells
   have hsub := HSUB.out
   have hMN := HMN.out
   clear kc hW hG hb9 HFU8 HBX8 HB8 HCE HG2
   go_upto_region 18 with fail
   generalize hW : World.alloc _ _ = w10
   obtain ⟨LB, hLB⟩ : ∃ LB, LB = w9.heap.size := ⟨_, rfl⟩
   try rw [← hLB]
   have hb10 : Below w9.heap.size w9 w10 := by rw [← hW]; exact (Below.refl _ _).alloc (Nat.le_refl _) _
   have HX10 : Hid (XBox w10 LB L.op L.dst L.a L.b L.c L.num L.too L.ref (.slice VL L.args.length vl)) := lhid (by rw [← hW, hLB]; exact heap_alloc_new w9 _)
   have HG10 : Hid (FBox w10 G (.slice CA F.regs.length ca) (.slice CB F.params.length cb) F.ret (.slice (some ⟨g2, 0, none⟩) N cd2) (.slice CE F.rows.length ce)) := lhid (heap_keep HG9.out hb10)
   have HFU10 := lhid (HFU9.out.below hb10)
   have HBX10 : Hid (FBox w10 (RG + 1 + 1) (.slice (some ⟨RG, 0, none⟩) 2 2) (.slice none 0 0) 2 (.slice (some ⟨g, 0, none⟩) N cap) (.slice none 0 0)) := lhid (heap_keep HBX9.out hb10)
   have HB10 : Hid (Below w.heap.size w w10) := lhid (HB9.out.trans (hb10.mono HB9.out.size))
   clear hW hLB hb10 c0 c1 c2 c3 c4 c5 c6 c7 c8 q0 q1 q2 q3 q4 hsub hMN HG9 HFU9 HBX9 HB9
   obtain ⟨x0, x1, x2, x3, x4, x5, x6, x7, x8⟩ := HX10.out.cells
   obtain ⟨q0, q1, q2, q3, q4⟩ := HG10.out.cells
   obtain ⟨p0, p1, p2, p3, p4⟩ := HBX10.out.cells
   obtain ⟨z, hz⟩ : ∃ z, (endS F.code).1 = z := ⟨_, rfl⟩
   have HZW : Hid (z = W0) := lhid (by rw [← hz]; exact HEND.out)
   have HZZ := lhid hz
   clear hz
   by_cases hk0 : k = 0
   ·have e0 : ((k : Int) == 0) = true := by rw [hk0]; rfl
    have HK0 := lhid hk0
    clear hk0
    go_wp2_with fail
    with_reducible refine (end_any F _ _ _ _ w10 HFU10 HQF).mono ?_
    rintro e w11 ⟨rfl, hb11⟩
    have HB11 : Hid (Below w.heap.size w w11) := lhid (HB10.out.trans (hb11.mono HB10.out.size))
    rw [HEND.out]
    clear hb11 x0 x1 x2 x3 x4 x5 x6 x7 x8 q0 q1 q2 q3 q4 p0 p1 p2 p3 p4
    go_wp2_with fail
    go_ret
    exact ⟨rfl, HB11.out⟩
   have e0 : ((k : Int) == 0) = false := by rw [beq_eq_false_iff_ne]; omega
   clear hk0
   by_cases h5 : L.op = 5
   ·have e5 : (L.op == 5) = true := by rw [h5]; rfl
    clear h5
    go_wp2_with fail
    with_reducible refine (end_any F _ _ _ _ w10 HFU10 HQF).mono ?_
    rintro e w11 ⟨rfl, hb11⟩
    have HB11 : Hid (Below w.heap.size w w11) := lhid (HB10.out.trans (hb11.mono HB10.out.size))
    rw [HEND.out]
    clear hb11 x0 x1 x2 x3 x4 x5 x6 x7 x8 q0 q1 q2 q3 q4 p0 p1 p2 p3 p4
    go_wp2_with fail
    go_ret
    exact ⟨rfl, HB11.out⟩
   ·have e5 : (L.op == 5) = false := by rw [beq_eq_false_iff_ne]; exact h5
    have h3 : L.op = 1 ∧ L.num = W0 ∧ L.dst = 0 := HLL.out.resolve_left h5
    have e1 : (L.op == 1) = true := by rw [h3.1]; rfl
    have e2 : (L.num == W0) = true := by rw [h3.2.1]; simp
    have e3 : (L.dst == 0) = true := by rw [h3.2.2]; rfl
    clear h5 h3
    go_wp2_with fail
    with_reducible refine (end_any F _ _ _ _ w10 HFU10 HQF).mono ?_
    rintro e w11 ⟨rfl, hb11⟩
    have HB11 : Hid (Below w.heap.size w w11) := lhid (HB10.out.trans (hb11.mono HB10.out.size))
    rw [HEND.out]
    clear hb11 x0 x1 x2 x3 x4 x5 x6 x7 x8 q0 q1 q2 q3 q4 p0 p1 p2 p3 p4
    go_wp2_with fail
    go_ret
    exact ⟨rfl, HB11.out⟩
end Go.Proofs.Ytbkeneadoccodaa
