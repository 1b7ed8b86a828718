/- Contracts of codeFits: its head. -/
import Derived.Test.YtbkeneadoccodaaJCInsChk5
import Derived.Deep.Cut
import Derived.Deep.CutRange
namespace Go.Proofs.Ytbkeneadoccodaa
open Go.RowKit Go
set_option linter.unusedVariables false
set_option linter.unusedSimpArgs false
theorem in_cells {P : Nat → Prop} {w : World} {A : Option Addr} {n cap : Nat} {l : List InI} {i : Nat} {x : InI} (h : RdX P 9 (InE P) w (.slice A n cap) l) (hi : l[i]? = some x) : ∃ g o v, A = some ⟨g, o, none⟩ ∧ P g ∧ RdX P 1 NuE w v x.args ∧
  w.cell? ⟨g, o + i * 9, none⟩ = some (.int .i64 x.op) ∧ w.cell? ⟨g, o + i * 9 + 1, none⟩ = some (.int .i64 x.dst) ∧ w.cell? ⟨g, o + i * 9 + 2, none⟩ = some (.int .i64 x.a) ∧ w.cell? ⟨g, o + i * 9 + 3, none⟩ = some (.int .i64 x.b) ∧ w.cell? ⟨g, o + i * 9 + 4, none⟩ = some (.int .i64 x.c) ∧ w.cell? ⟨g, o + i * 9 + 5, none⟩ = some (.int .i64 x.num) ∧ w.cell? ⟨g, o + i * 9 + 6, none⟩ = some (.int .i64 x.too) ∧ w.cell? ⟨g, o + i * 9 + 7, none⟩ = some (.string (tx x.ref)) ∧ w.cell? ⟨g, o + i * 9 + 8, none⟩ = some v := by
 obtain ⟨g, o, cc, rfl, hP, ⟨v, rfl, hv⟩, hc⟩ := h.at' hi
 exact ⟨g, o, v, rfl, hP, hv, hc 0 _ rfl, hc 1 _ rfl, hc 2 _ rfl, hc 3 _ rfl, hc 4 _ rfl, hc 5 _ rfl, hc 6 _ rfl, hc 7 _ rfl, hc 8 _ rfl⟩
theorem in_cells2 {P : Nat → Prop} {w : World} {g o n cap : Nat} {l : List InI} {i : Nat} {x : InI} (h : RdX P 9 (InE P) w (.slice (some ⟨g, o, none⟩) n cap) l) (hi : l[i]? = some x) : ∃ v, P g ∧ RdX P 1 NuE w v x.args ∧
  w.cell? ⟨g, o + i * 9, none⟩ = some (.int .i64 x.op) ∧ w.cell? ⟨g, o + i * 9 + 1, none⟩ = some (.int .i64 x.dst) ∧ w.cell? ⟨g, o + i * 9 + 2, none⟩ = some (.int .i64 x.a) ∧ w.cell? ⟨g, o + i * 9 + 3, none⟩ = some (.int .i64 x.b) ∧ w.cell? ⟨g, o + i * 9 + 4, none⟩ = some (.int .i64 x.c) ∧ w.cell? ⟨g, o + i * 9 + 5, none⟩ = some (.int .i64 x.num) ∧ w.cell? ⟨g, o + i * 9 + 6, none⟩ = some (.int .i64 x.too) ∧ w.cell? ⟨g, o + i * 9 + 7, none⟩ = some (.string (tx x.ref)) ∧ w.cell? ⟨g, o + i * 9 + 8, none⟩ = some v := by
 obtain ⟨g', o', v, e, h1, h2⟩ := in_cells h hi
 injection e with e
 injection e with e1 e2
 subst e1 e2
 exact ⟨v, h1, h2⟩
abbrev IBox (w : World) (g : Nat) (x : InI) (v : Value) : Prop := XBox w g x.op x.dst x.a x.b x.c x.num x.too x.ref v
theorem opAt_some {c : List InI} {i : Nat} {x : InI} (h : c[i]? = some x) : opAt c (i : Int) = x.op := by
 unfold opAt
 rw [if_pos (by omega)]
 simp [h]
theorem ends_r (x : InI) (v : Value) (z : Bool) (w : World) (h : Hid (endsB x.op = z)) : Calls Try.prog 58 #[inA x v] w fun e w' => e = .returned (.bool z) ∧ Below w.heap.size w w' := by
 have := ends_any x v w
 rwa [h.out] at this
theorem leads_r (x : InI) (v : Value) (z : Bool) (w : World) (h : Hid (leadsB x.op = z)) : Calls Try.prog 57 #[inA x v] w fun e w' => e = .returned (.bool z) ∧ Below w.heap.size w w' := by
 have := leads_any x v w
 rwa [h.out] at this
theorem codeB_bad {f : FuI} {k : Nat} {x : InI} (hx : f.code[k]? = some x) (h : oneB f k x = false) : codeB f = false := by
 unfold codeB
 have hk : k < f.code.length := (List.getElem?_eq_some_iff.1 hx).1
 rw [all_bad (range_get hk) (by rw [hx]; exact h), Bool.and_false]
theorem codeB_ok {f : FuI} (h1 : 1 ≤ f.code.length) (h2 : f.code.length ≤ 20000) (h3 : endsB (opAt f.code ((f.code.length : Int) - 1)) = true) (h : ∀ (i : Nat) x, i < f.code.length → f.code[i]? = some x → oneB f i x = true) : codeB f = true := by
 unfold codeB
 rw [decide_eq_true h1, decide_eq_true h2, h3]
 simp only [Bool.true_and]
 refine all_of fun i z hi hz => ?_
 rw [List.length_range] at hi
 rw [range_get hi] at hz
 rw [← Option.some.inj hz, List.getElem?_eq_getElem hi]
 exact h i _ hi (List.getElem?_eq_getElem hi)
set_option maxHeartbeats 4000000 in
set_option maxRecDepth 100000 in
theorem codeFits_any {P : Nat → Prop} (f : FuI) (fa fb fd fe : Value) (w : World) (h : Hid (FuV P w f fa fb fd fe)) (hk : Hid (KR f.regs)) (hq : Hid (FuQ f)) :
  Calls Try.prog 41 #[fuL fa fb f.ret fd fe] w fun e w' => e = .returned (.bool (codeB f)) ∧ Below w.heap.size w w' := by
 obtain ⟨D, dcap, hD⟩ := h.out.d.shape
 subst hD
 have hdl := h.out.d.len
 by_cases h0 : f.code.length = 0
 ·have q0 : (f.code.length : Int) < 1 := by omega
  have HB := lhid (show codeB f = false by unfold codeB; rw [decide_eq_false (show ¬ 1 ≤ f.code.length by omega)]; rfl)
  clear h0
  go_enter Try.func41, Try.ntmps41
  go_wp2_with fail
  go_ret
  exact ⟨by rw [HB.out]; rfl, (Below.refl w.heap.size w).alloc (Nat.le_refl _) _⟩
 have q0 : ¬ (f.code.length : Int) < 1 := by omega
 by_cases h2 : 20000 < f.code.length
 ·have q1 : (20000 : Int) < f.code.length := by omega
  have HB := lhid (show codeB f = false by unfold codeB; rw [decide_eq_false (show ¬ f.code.length ≤ 20000 by omega)]; simp)
  clear h0 h2
  go_enter Try.func41, Try.ntmps41
  go_wp2_with fail
  go_ret
  exact ⟨by rw [HB.out]; rfl, (Below.refl w.heap.size w).alloc (Nat.le_refl _) _⟩
 have q1 : ¬ (20000 : Int) < f.code.length := by omega
 obtain ⟨n, hn⟩ : ∃ n, f.code.length = n := ⟨_, rfl⟩
 have HN := lhid hn
 rw [hn] at q0 q1 h0 h2 hdl ⊢
 have hd := h.out.d
 rw [hn] at hd
 obtain ⟨x, hx⟩ : ∃ x, f.code[n - 1]? = some x := ⟨_, List.getElem?_eq_getElem (by omega)⟩
 have hlast : opAt f.code ((f.code.length : Int) - 1) = x.op := by rw [hn, show (n : Int) - 1 = ((n - 1 : Nat) : Int) by omega]; exact opAt_some hx
 obtain ⟨g, o, v, rfl, _, hv, c0, c1, c2, c3, c4, c5, c6, c7, c8⟩ := in_cells hd hx
 have hg : g < w.heap.size := cell_lt c0
 have hg2 : ¬ g = w.heap.size := by omega
 have n1 : 1 ≤ n := by omega
 obtain ⟨z, hz⟩ : ∃ z, endsB x.op = z := ⟨_, rfl⟩
 have HZ := lhid hz
 have HLST := lhid (hlast ▸ hz : endsB (opAt f.code ((f.code.length : Int) - 1)) = z)
 have HX := lhid hx
 clear h0 h2 hx hlast hz hn hd
 cases z with
 | false =>
  have HB := lhid (show codeB f = false by unfold codeB; rw [HLST.out]; simp)
  go_enter Try.func41, Try.ntmps41
  go_wp2_with fail
  with_reducible refine (ends_r x v false _ HZ).mono ?_
  rintro e w1 ⟨rfl, hb⟩
  have HB1 := lhid (((Below.refl w.heap.size w).alloc (Nat.le_refl _) _).trans (hb.mono (by simp)))
  clear hb
  go_wp2_with fail
  go_ret
  exact ⟨by rw [HB.out]; rfl, HB1.out⟩
 | true =>
  go_enter Try.func41, Try.ntmps41
  go_wp2_with fail
  with_reducible refine (ends_r x v true _ HZ).mono ?_
  rintro e w1 ⟨rfl, hb⟩
  have hF : FBox w1 w.heap.size fa fb f.ret (.slice (some ⟨g, o, none⟩) n dcap) fe := (hb.block w.heap.size (by simp)).trans (heap_alloc_new w _)
  obtain ⟨p0, p1, p2, p3, p4⟩ := hF.cells
  have HF1 := lhid hF
  have HB1 := lhid (((Below.refl w.heap.size w).alloc (Nat.le_refl _) _).trans (hb.mono (by simp)))
  clear hb hF
  go_wp2_with fail
  clear c0 c1 c2 c3 c4 c5 c6 c7 c8 p0 p1 p2 p3 p4
  go_loopw [28] (fun i wr => ∃ k : Nat, i = .int .i64 k ∧ k ≤ n ∧ Hid (∀ (i : Nat) x, i < k → f.code[i]? = some x → oneB f i x = true) ∧ Hid (Below w.heap.size w wr) ∧ Hid (FBox wr w.heap.size fa fb f.ret (.slice (some ⟨g, o, none⟩) n dcap) fe)) (fun i _ => n - (intOf i).toNat)
  case atStart => exact ⟨0, rfl, Nat.zero_le _, lhid (fun i z hi => absurd hi (by omega)), HB1, HF1⟩
  case round =>
   obtain ⟨k, rfl, hk', HP, HB, HF⟩ := hrel
   by_cases hlt : k < n
   ·
    obtain ⟨x, hx⟩ : ∃ x, f.code[k]? = some x := ⟨_, List.getElem?_eq_getElem (by have := HN.out; omega)⟩
    have hd := h.out.d.below (keptX_in _) HB.out
    rw [HN.out] at hd
    obtain ⟨v, _, hv1, c0, c1, c2, c3, c4, c5, c6, c7, c8⟩ := in_cells2 hd hx
    obtain ⟨VA, vc, rfl⟩ := hv1.shape
    obtain ⟨v, hvv⟩ : ∃ v, v = Value.slice VA x.args.length vc := ⟨_, rfl⟩
    obtain ⟨p0, p1, p2, p3, p4⟩ := HF.out.cells
    have k3 : (k : Int) < n := by omega
    have HXX := lhid hx
    have HBAD : oneB f k x = false → Hid (codeB f = false) := fun e => lhid (codeB_bad HXX.out e)
    have HV0 := lhid hv1
    have HQN := lhid (hq.out.num x (List.mem_of_getElem? hx))
    have HQR := lhid (hq.out.ref x (List.mem_of_getElem? hx))
    have hlw : w.heap.size < wr.heap.size := by have := heap_lt HF.out; omega
    clear hx hd hv1
    go_upto_region 7 with fail
    generalize hW : World.alloc _ _ = w2
    rw [← hvv] at hW c8 HV0 ⊢
    clear hvv
    have hb2 : Below w.heap.size w w2 := by rw [← hW]; exact HB.out.alloc HB.out.size _
    have hF : FBox w2 w.heap.size fa fb f.ret (.slice (some ⟨g, o, none⟩) n dcap) fe := by rw [← hW]; exact (Below.heap_alloc _ _ _ (heap_lt HF.out)).trans HF.out
    have hX : IBox w2 wr.heap.size x v := by rw [← hW]; exact heap_alloc_new wr _
    have hV : RdX P 1 NuE w2 v x.args := HV0.out.below (keptX_nu _) (by rw [← hW]; exact (Below.refl _ _).alloc (Nat.le_refl _) _)
    have HVG : Hid (∀ w' : World, Below w2.heap.size w2 w' → RdX P 1 NuE w' v x.args) := lhid (fun w' hw' => hV.below (keptX_nu _) hw')
    have HB2 := lhid hb2
    have HF2 := lhid hF
    have HX2 := lhid hX
    have hs2 : wr.heap.size + 1 ≤ w2.heap.size := by rw [← hW]; simp
    clear c0 c1 c2 c3 c4 c5 c6 c7 c8 p0 p1 p2 p3 p4 hW hb2 hV
    obtain ⟨p0, p1, p2, p3, p4⟩ := hF.cells
    obtain ⟨y0, y1, y2, y3, y4, y5, y6, y7, y8⟩ := hX.cells
    clear hF hX
    by_cases o1 : x.op < 1
    ·
     have e1 := o1
     go_wp2_with fail
     go_ret
     exact ⟨by rw [(HBAD (by unfold oneB; rw [decide_eq_false (show ¬ 1 ≤ x.op by omega)]; rfl)).out]; rfl, HB2.out⟩
    by_cases o2 : 33 < x.op
    ·
     go_wp2_with fail
     go_ret
     exact ⟨by rw [(HBAD (by unfold oneB; rw [decide_eq_false (show ¬ x.op ≤ 33 by omega)]; simp)).out]; rfl, HB2.out⟩
    have HOP : Hid (1 ≤ x.op ∧ x.op ≤ 33) := lhid (by omega)
    obtain ⟨zk, hzk⟩ : ∃ z, kindsB f.regs x = z := ⟨_, rfl⟩
    have HK := lhid hzk
    clear hzk
    cases zk
    ·
     go_wp2_with fail
     with_reducible refine (kindsFit_r f.regs fa fb f.ret (.slice (some ⟨g, o, none⟩) n dcap) fe x v false _ (lhid (h.out.a.below (keptX_nu _) HB2.out)) hk HK).mono ?_
     rintro e w3 ⟨rfl, hb⟩
     have HB3 := lhid (HB2.out.trans (hb.mono HB2.out.size))
     have hF : FBox w3 w.heap.size fa fb f.ret (.slice (some ⟨g, o, none⟩) n dcap) fe := heap_keep HF2.out hb
     have hX : IBox w3 wr.heap.size x v := heap_keep HX2.out hb
     obtain ⟨p0, p1, p2, p3, p4⟩ := hF.cells
     obtain ⟨y0, y1, y2, y3, y4, y5, y6, y7, y8⟩ := hX.cells
     have HF3 := lhid hF
     have HX3 := lhid hX
     clear hb hF hX
     go_wp2_with fail
     go_ret
     exact ⟨by rw [(HBAD (by unfold oneB; rw [HK.out]; simp)).out]; rfl, HB3.out⟩
    obtain ⟨zr, hzr⟩ : ∃ z, restB f.regs f.ret x = z := ⟨_, rfl⟩
    have HR := lhid hzr
    clear hzr
    cases zr
    ·
     go_wp2_with fail
     with_reducible refine (kindsFit_r f.regs fa fb f.ret (.slice (some ⟨g, o, none⟩) n dcap) fe x v true _ (lhid (h.out.a.below (keptX_nu _) HB2.out)) hk HK).mono ?_
     rintro e w3 ⟨rfl, hb⟩
     have HB3 := lhid (HB2.out.trans (hb.mono HB2.out.size))
     have hF : FBox w3 w.heap.size fa fb f.ret (.slice (some ⟨g, o, none⟩) n dcap) fe := heap_keep HF2.out hb
     have hX : IBox w3 wr.heap.size x v := heap_keep HX2.out hb
     obtain ⟨p0, p1, p2, p3, p4⟩ := hF.cells
     obtain ⟨y0, y1, y2, y3, y4, y5, y6, y7, y8⟩ := hX.cells
     have HF3 := lhid hF
     have HX3 := lhid hX
     have HV3 := lhid (HVG.out _ hb)
     clear hb hF hX
     go_wp2_with fail
     with_reducible refine (restFits_r f.regs fa fb f.ret (.slice (some ⟨g, o, none⟩) n dcap) fe x v false _ (lhid (h.out.a.below (keptX_nu _) HB3.out)) HV3 HQN HQR HK HOP HR).mono ?_
     rintro e w4 ⟨rfl, hb⟩
     have HB4 := lhid (HB3.out.trans (hb.mono HB3.out.size))
     have hF : FBox w4 w.heap.size fa fb f.ret (.slice (some ⟨g, o, none⟩) n dcap) fe := heap_keep HF3.out hb
     have hX : IBox w4 wr.heap.size x v := heap_keep HX3.out hb
     obtain ⟨p0, p1, p2, p3, p4⟩ := hF.cells
     obtain ⟨y0, y1, y2, y3, y4, y5, y6, y7, y8⟩ := hX.cells
     have HF4 := lhid hF
     have HX4 := lhid hX
     clear hb hF hX
     go_wp2_with fail
     go_ret
     exact ⟨by rw [(HBAD (by unfold oneB; rw [HR.out]; simp)).out]; rfl, HB4.out⟩
    obtain ⟨zl, hzl⟩ : ∃ z, leadsB x.op = z := ⟨_, rfl⟩
    have HL := lhid hzl
    clear hzl
    have HONE : Hid (oneB f k x = ((!zl || (decide (0 ≤ x.too) && decide (x.too < f.code.length) && !(opAt f.code x.too == 32))) && (!(x.op == 32) || (!(k == 0) && endsB (opAt f.code ((k : Int) - 1)))))) := lhid (by unfold oneB; rw [HK.out, HR.out, HL.out, decide_eq_true HOP.out.1, decide_eq_true HOP.out.2]; simp)
    cases zl
    ·
     go_wp2_with fail
     with_reducible refine (kindsFit_r f.regs fa fb f.ret (.slice (some ⟨g, o, none⟩) n dcap) fe x v true _ (lhid (h.out.a.below (keptX_nu _) HB2.out)) hk HK).mono ?_
     rintro e w3 ⟨rfl, hb⟩
     have HB3 := lhid (HB2.out.trans (hb.mono HB2.out.size))
     have hF : FBox w3 w.heap.size fa fb f.ret (.slice (some ⟨g, o, none⟩) n dcap) fe := heap_keep HF2.out hb
     have hX : IBox w3 wr.heap.size x v := heap_keep HX2.out hb
     obtain ⟨p0, p1, p2, p3, p4⟩ := hF.cells
     obtain ⟨y0, y1, y2, y3, y4, y5, y6, y7, y8⟩ := hX.cells
     have HF3 := lhid hF
     have HX3 := lhid hX
     have HV3 := lhid (HVG.out _ hb)
     clear hb hF hX
     go_wp2_with fail
     with_reducible refine (restFits_r f.regs fa fb f.ret (.slice (some ⟨g, o, none⟩) n dcap) fe x v true _ (lhid (h.out.a.below (keptX_nu _) HB3.out)) HV3 HQN HQR HK HOP HR).mono ?_
     rintro e w4 ⟨rfl, hb⟩
     have HB4 := lhid (HB3.out.trans (hb.mono HB3.out.size))
     have hF : FBox w4 w.heap.size fa fb f.ret (.slice (some ⟨g, o, none⟩) n dcap) fe := heap_keep HF3.out hb
     have hX : IBox w4 wr.heap.size x v := heap_keep HX3.out hb
     obtain ⟨p0, p1, p2, p3, p4⟩ := hF.cells
     obtain ⟨y0, y1, y2, y3, y4, y5, y6, y7, y8⟩ := hX.cells
     have HF4 := lhid hF
     have HX4 := lhid hX
     clear hb hF hX
     go_wp2_with fail
     with_reducible refine (leads_r x v false _ HL).mono ?_
     rintro e w5 ⟨rfl, hb⟩
     have HB5 := lhid (HB4.out.trans (hb.mono HB4.out.size))
     have hF : FBox w5 w.heap.size fa fb f.ret (.slice (some ⟨g, o, none⟩) n dcap) fe := heap_keep HF4.out hb
     have hX : IBox w5 wr.heap.size x v := heap_keep HX4.out hb
     obtain ⟨p0, p1, p2, p3, p4⟩ := hF.cells
     obtain ⟨y0, y1, y2, y3, y4, y5, y6, y7, y8⟩ := hX.cells
     have HF5 := lhid hF
     have HX5 := lhid hX
     clear hb hF hX
     go_upto_region 11 with fail
     by_cases oc : x.op = 32
     ·
      have oc2 : (x.op == 32) = true := by rw [beq_iff_eq]; exact oc
      have OC := lhid oc
      have OC2 := lhid oc2
      clear oc
      by_cases k0 : k = 0
      ·
       subst k0
       go_wp2_with fail
       go_ret
       exact ⟨by rw [(HBAD (by rw [HONE.out, OC2.out]; simp)).out]; rfl, HB5.out⟩
      obtain ⟨y, hy⟩ : ∃ y, f.code[k - 1]? = some y := ⟨_, List.getElem?_eq_getElem (by have := HN.out; omega)⟩
      have hoy : opAt f.code ((k : Int) - 1) = y.op := by rw [show (k : Int) - 1 = ((k - 1 : Nat) : Int) by omega]; exact opAt_some hy
      obtain ⟨ze, hze⟩ : ∃ z, endsB y.op = z := ⟨_, rfl⟩
      have HE := lhid hze
      have HOY := lhid hoy
      have HYY := lhid hy
      have kk1 : 1 ≤ k := by omega
      have kk2 : ((k : Int) == 0) = false := by rw [beq_eq_false_iff_ne]; omega
      clear hy hoy hze
      cases ze
      ·
       have hd := h.out.d.below (keptX_in _) HB5.out
       rw [HN.out] at hd
       obtain ⟨vy, _, _, b0, b1, b2, b3, b4, b5, b6, b7, b8⟩ := in_cells2 hd HYY.out
       clear hd
       go_wp2_with fail
       with_reducible refine (ends_r y vy false _ HE).mono ?_
       rintro e w6 ⟨rfl, hb⟩
       have HB6 := lhid (HB5.out.trans (hb.mono HB5.out.size))
       have hF : FBox w6 w.heap.size fa fb f.ret (.slice (some ⟨g, o, none⟩) n dcap) fe := heap_keep HF5.out hb
       have hX : IBox w6 wr.heap.size x v := heap_keep HX5.out hb
       obtain ⟨p0, p1, p2, p3, p4⟩ := hF.cells
       obtain ⟨y0, y1, y2, y3, y4, y5, y6, y7, y8⟩ := hX.cells
       have HF6 := lhid hF
       have HX6 := lhid hX
       clear hb hF hX b0 b1 b2 b3 b4 b5 b6 b7 b8
       go_wp2_with fail
       go_ret
       exact ⟨by rw [(HBAD (by rw [HONE.out, HOY.out, HE.out, OC2.out]; simp)).out]; rfl, HB6.out⟩
      ·
       have HM2 : Hid (∀ (i : Nat) x, i < k + 1 → f.code[i]? = some x → oneB f i x = true) := lhid (fun i z hi hz => by
        rcases Nat.lt_or_ge i k with h | h
        ·exact HP.out i z h hz
        ·have e : i = k := by omega
         subst e
         have e2 : x = z := Option.some.inj (HXX.out.symm.trans hz)
         subst e2
         rw [HONE.out, HOY.out, HE.out]; simp [k0])
       have hd := h.out.d.below (keptX_in _) HB5.out
       rw [HN.out] at hd
       obtain ⟨vy, _, _, b0, b1, b2, b3, b4, b5, b6, b7, b8⟩ := in_cells2 hd HYY.out
       clear hd
       go_wp2_with fail
       with_reducible refine (ends_r y vy true _ HE).mono ?_
       rintro e w6 ⟨rfl, hb⟩
       have HB6 := lhid (HB5.out.trans (hb.mono HB5.out.size))
       have hF : FBox w6 w.heap.size fa fb f.ret (.slice (some ⟨g, o, none⟩) n dcap) fe := heap_keep HF5.out hb
       have hX : IBox w6 wr.heap.size x v := heap_keep HX5.out hb
       obtain ⟨p0, p1, p2, p3, p4⟩ := hF.cells
       obtain ⟨y0, y1, y2, y3, y4, y5, y6, y7, y8⟩ := hX.cells
       have HF6 := lhid hF
       have HX6 := lhid hX
       clear hb hF hX b0 b1 b2 b3 b4 b5 b6 b7 b8
       go_wp2_with fail
       go_roundw
       case rel => exact ⟨k + 1, by go_num, by omega, HM2, HB6, HF6⟩
       case measure => simp [intOf]; omega
     ·
      have oc2 : (x.op == 32) = false := by rw [beq_eq_false_iff_ne]; exact oc
      have OC2 := lhid oc2
      have HM2 : Hid (∀ (i : Nat) x, i < k + 1 → f.code[i]? = some x → oneB f i x = true) := lhid (fun i z hi hz => by
       rcases Nat.lt_or_ge i k with h | h
       ·exact HP.out i z h hz
       ·have e : i = k := by omega
        subst e
        have e2 : x = z := Option.some.inj (HXX.out.symm.trans hz)
        subst e2
        rw [HONE.out, OC2.out]; simp)
      go_wp2_with fail
      go_roundw
      case rel => exact ⟨k + 1, by go_num, by omega, HM2, HB5, HF5⟩
      case measure => simp [intOf]; omega
    by_cases t1 : 0 ≤ x.too ∧ x.too < n
    ·
     obtain ⟨tn, htn⟩ : ∃ tn : Nat, x.too = tn := ⟨x.too.toNat, by omega⟩
     obtain ⟨q, hq2⟩ : ∃ q, f.code[tn]? = some q := ⟨_, List.getElem?_eq_getElem (by have := HN.out; omega)⟩
     have HAT : Hid ((decide (0 ≤ x.too) && decide (x.too < (n : Int))) = true) := lhid (by simp [t1.1, t1.2])
     have HAT2 : Hid ((decide (0 ≤ x.too) && decide (x.too < (f.code.length : Int))) = true) := lhid (by rw [HN.out]; exact HAT.out)
     have HTO : Hid (opAt f.code x.too = q.op) := lhid (by rw [htn]; exact opAt_some hq2)
     have HTN := lhid htn
     have HQ2 := lhid hq2
     have tb : (tn : Int) < n := by omega
     have tb2 : tn < n := by omega
     clear htn hq2 t1
     by_cases to32 : q.op = 32
     ·
      have to2 : (q.op == 32) = true := by rw [beq_iff_eq]; exact to32
      clear to32
      go_wp2_with fail
      with_reducible refine (kindsFit_r f.regs fa fb f.ret (.slice (some ⟨g, o, none⟩) n dcap) fe x v true _ (lhid (h.out.a.below (keptX_nu _) HB2.out)) hk HK).mono ?_
      rintro e w3 ⟨rfl, hb⟩
      have HB3 := lhid (HB2.out.trans (hb.mono HB2.out.size))
      have hF : FBox w3 w.heap.size fa fb f.ret (.slice (some ⟨g, o, none⟩) n dcap) fe := heap_keep HF2.out hb
      have hX : IBox w3 wr.heap.size x v := heap_keep HX2.out hb
      obtain ⟨p0, p1, p2, p3, p4⟩ := hF.cells
      obtain ⟨y0, y1, y2, y3, y4, y5, y6, y7, y8⟩ := hX.cells
      have HF3 := lhid hF
      have HX3 := lhid hX
      have HV3 := lhid (HVG.out _ hb)
      clear hb hF hX
      go_wp2_with fail
      with_reducible refine (restFits_r f.regs fa fb f.ret (.slice (some ⟨g, o, none⟩) n dcap) fe x v true _ (lhid (h.out.a.below (keptX_nu _) HB3.out)) HV3 HQN HQR HK HOP HR).mono ?_
      rintro e w4 ⟨rfl, hb⟩
      have HB4 := lhid (HB3.out.trans (hb.mono HB3.out.size))
      have hF : FBox w4 w.heap.size fa fb f.ret (.slice (some ⟨g, o, none⟩) n dcap) fe := heap_keep HF3.out hb
      have hX : IBox w4 wr.heap.size x v := heap_keep HX3.out hb
      obtain ⟨p0, p1, p2, p3, p4⟩ := hF.cells
      obtain ⟨y0, y1, y2, y3, y4, y5, y6, y7, y8⟩ := hX.cells
      have HF4 := lhid hF
      have HX4 := lhid hX
      clear hb hF hX
      go_wp2_with fail
      with_reducible refine (leads_r x v true _ HL).mono ?_
      rintro e w5 ⟨rfl, hb⟩
      have HB5 := lhid (HB4.out.trans (hb.mono HB4.out.size))
      have hF : FBox w5 w.heap.size fa fb f.ret (.slice (some ⟨g, o, none⟩) n dcap) fe := heap_keep HF4.out hb
      have hX : IBox w5 wr.heap.size x v := heap_keep HX4.out hb
      obtain ⟨p0, p1, p2, p3, p4⟩ := hF.cells
      obtain ⟨y0, y1, y2, y3, y4, y5, y6, y7, y8⟩ := hX.cells
      have HF5 := lhid hF
      have HX5 := lhid hX
      clear hb hF hX
      go_wp2_with fail
      with_reducible refine (isAt_r _ _ true _ HAT).mono ?_
      rintro e w6 ⟨rfl, rfl⟩
      have hd := h.out.d.below (keptX_in _) HB5.out
      rw [HN.out] at hd
      obtain ⟨vq, _, _, b0, b1, b2, b3, b4, b5, b6, b7, b8⟩ := in_cells2 hd HQ2.out
      rw [HTN.out] at y6 ⊢
      clear hd
      go_wp2_with fail
      clear b0 b1 b2 b3 b4 b5 b6 b7 b8
      go_ret
      exact ⟨by rw [(HBAD (by rw [HONE.out, HAT2.out, HTO.out, to2]; simp)).out]; rfl, HB5.out⟩
     have to2 : (q.op == 32) = false := by rw [beq_eq_false_iff_ne]; exact to32
     clear to32
     go_wp2_with fail
     with_reducible refine (kindsFit_r f.regs fa fb f.ret (.slice (some ⟨g, o, none⟩) n dcap) fe x v true _ (lhid (h.out.a.below (keptX_nu _) HB2.out)) hk HK).mono ?_
     rintro e w3 ⟨rfl, hb⟩
     have HB3 := lhid (HB2.out.trans (hb.mono HB2.out.size))
     have hF : FBox w3 w.heap.size fa fb f.ret (.slice (some ⟨g, o, none⟩) n dcap) fe := heap_keep HF2.out hb
     have hX : IBox w3 wr.heap.size x v := heap_keep HX2.out hb
     obtain ⟨p0, p1, p2, p3, p4⟩ := hF.cells
     obtain ⟨y0, y1, y2, y3, y4, y5, y6, y7, y8⟩ := hX.cells
     have HF3 := lhid hF
     have HX3 := lhid hX
     have HV3 := lhid (HVG.out _ hb)
     clear hb hF hX
     go_wp2_with fail
     with_reducible refine (restFits_r f.regs fa fb f.ret (.slice (some ⟨g, o, none⟩) n dcap) fe x v true _ (lhid (h.out.a.below (keptX_nu _) HB3.out)) HV3 HQN HQR HK HOP HR).mono ?_
     rintro e w4 ⟨rfl, hb⟩
     have HB4 := lhid (HB3.out.trans (hb.mono HB3.out.size))
     have hF : FBox w4 w.heap.size fa fb f.ret (.slice (some ⟨g, o, none⟩) n dcap) fe := heap_keep HF3.out hb
     have hX : IBox w4 wr.heap.size x v := heap_keep HX3.out hb
     obtain ⟨p0, p1, p2, p3, p4⟩ := hF.cells
     obtain ⟨y0, y1, y2, y3, y4, y5, y6, y7, y8⟩ := hX.cells
     have HF4 := lhid hF
     have HX4 := lhid hX
     clear hb hF hX
     go_wp2_with fail
     with_reducible refine (leads_r x v true _ HL).mono ?_
     rintro e w5 ⟨rfl, hb⟩
     have HB5 := lhid (HB4.out.trans (hb.mono HB4.out.size))
     have hF : FBox w5 w.heap.size fa fb f.ret (.slice (some ⟨g, o, none⟩) n dcap) fe := heap_keep HF4.out hb
     have hX : IBox w5 wr.heap.size x v := heap_keep HX4.out hb
     obtain ⟨p0, p1, p2, p3, p4⟩ := hF.cells
     obtain ⟨y0, y1, y2, y3, y4, y5, y6, y7, y8⟩ := hX.cells
     have HF5 := lhid hF
     have HX5 := lhid hX
     clear hb hF hX
     go_wp2_with fail
     with_reducible refine (isAt_r _ _ true _ HAT).mono ?_
     rintro e w6 ⟨rfl, rfl⟩
     have hd := h.out.d.below (keptX_in _) HB5.out
     rw [HN.out] at hd
     obtain ⟨vq, _, _, b0, b1, b2, b3, b4, b5, b6, b7, b8⟩ := in_cells2 hd HQ2.out
     rw [HTN.out] at y6 ⊢
     clear hd
     go_upto_region 11 with fail
     clear b0 b1 b2 b3 b4 b5 b6 b7 b8
     by_cases oc : x.op = 32
     ·
      have oc2 : (x.op == 32) = true := by rw [beq_iff_eq]; exact oc
      have OC := lhid oc
      have OC2 := lhid oc2
      clear oc
      by_cases k0 : k = 0
      ·
       subst k0
       go_wp2_with fail
       go_ret
       exact ⟨by rw [(HBAD (by rw [HONE.out, OC2.out]; simp)).out]; rfl, HB5.out⟩
      obtain ⟨y, hy⟩ : ∃ y, f.code[k - 1]? = some y := ⟨_, List.getElem?_eq_getElem (by have := HN.out; omega)⟩
      have hoy : opAt f.code ((k : Int) - 1) = y.op := by rw [show (k : Int) - 1 = ((k - 1 : Nat) : Int) by omega]; exact opAt_some hy
      obtain ⟨ze, hze⟩ : ∃ z, endsB y.op = z := ⟨_, rfl⟩
      have HE := lhid hze
      have HOY := lhid hoy
      have HYY := lhid hy
      have kk1 : 1 ≤ k := by omega
      have kk2 : ((k : Int) == 0) = false := by rw [beq_eq_false_iff_ne]; omega
      clear hy hoy hze
      cases ze
      ·
       have hd := h.out.d.below (keptX_in _) HB5.out
       rw [HN.out] at hd
       obtain ⟨vy, _, _, b0, b1, b2, b3, b4, b5, b6, b7, b8⟩ := in_cells2 hd HYY.out
       clear hd
       go_wp2_with fail
       with_reducible refine (ends_r y vy false _ HE).mono ?_
       rintro e w6 ⟨rfl, hb⟩
       have HB6 := lhid (HB5.out.trans (hb.mono HB5.out.size))
       have hF : FBox w6 w.heap.size fa fb f.ret (.slice (some ⟨g, o, none⟩) n dcap) fe := heap_keep HF5.out hb
       have hX : IBox w6 wr.heap.size x v := heap_keep HX5.out hb
       obtain ⟨p0, p1, p2, p3, p4⟩ := hF.cells
       obtain ⟨y0, y1, y2, y3, y4, y5, y6, y7, y8⟩ := hX.cells
       have HF6 := lhid hF
       have HX6 := lhid hX
       clear hb hF hX b0 b1 b2 b3 b4 b5 b6 b7 b8
       go_wp2_with fail
       go_ret
       exact ⟨by rw [(HBAD (by rw [HONE.out, HOY.out, HE.out, OC2.out]; simp)).out]; rfl, HB6.out⟩
      ·
       have HM2 : Hid (∀ (i : Nat) x, i < k + 1 → f.code[i]? = some x → oneB f i x = true) := lhid (fun i z hi hz => by
        rcases Nat.lt_or_ge i k with h | h
        ·exact HP.out i z h hz
        ·have e : i = k := by omega
         subst e
         have e2 : x = z := Option.some.inj (HXX.out.symm.trans hz)
         subst e2
         rw [HONE.out, HOY.out, HE.out, HAT2.out, HTO.out, to2]; simp [k0])
       have hd := h.out.d.below (keptX_in _) HB5.out
       rw [HN.out] at hd
       obtain ⟨vy, _, _, b0, b1, b2, b3, b4, b5, b6, b7, b8⟩ := in_cells2 hd HYY.out
       clear hd
       go_wp2_with fail
       with_reducible refine (ends_r y vy true _ HE).mono ?_
       rintro e w6 ⟨rfl, hb⟩
       have HB6 := lhid (HB5.out.trans (hb.mono HB5.out.size))
       have hF : FBox w6 w.heap.size fa fb f.ret (.slice (some ⟨g, o, none⟩) n dcap) fe := heap_keep HF5.out hb
       have hX : IBox w6 wr.heap.size x v := heap_keep HX5.out hb
       obtain ⟨p0, p1, p2, p3, p4⟩ := hF.cells
       obtain ⟨y0, y1, y2, y3, y4, y5, y6, y7, y8⟩ := hX.cells
       have HF6 := lhid hF
       have HX6 := lhid hX
       clear hb hF hX b0 b1 b2 b3 b4 b5 b6 b7 b8
       go_wp2_with fail
       go_roundw
       case rel => exact ⟨k + 1, by go_num, by omega, HM2, HB6, HF6⟩
       case measure => simp [intOf]; omega
     ·
      have oc2 : (x.op == 32) = false := by rw [beq_eq_false_iff_ne]; exact oc
      have OC2 := lhid oc2
      have HM2 : Hid (∀ (i : Nat) x, i < k + 1 → f.code[i]? = some x → oneB f i x = true) := lhid (fun i z hi hz => by
       rcases Nat.lt_or_ge i k with h | h
       ·exact HP.out i z h hz
       ·have e : i = k := by omega
        subst e
        have e2 : x = z := Option.some.inj (HXX.out.symm.trans hz)
        subst e2
        rw [HONE.out, OC2.out, HAT2.out, HTO.out, to2]; simp)
      go_wp2_with fail
      go_roundw
      case rel => exact ⟨k + 1, by go_num, by omega, HM2, HB5, HF5⟩
      case measure => simp [intOf]; omega
    have HAT : Hid ((decide (0 ≤ x.too) && decide (x.too < (n : Int))) = false) := lhid (by rw [Bool.and_eq_false_iff, decide_eq_false_iff_not, decide_eq_false_iff_not]; omega)
    have HAT2 : Hid ((decide (0 ≤ x.too) && decide (x.too < (f.code.length : Int))) = false) := lhid (by rw [HN.out]; exact HAT.out)
    go_wp2_with fail
    with_reducible refine (kindsFit_r f.regs fa fb f.ret (.slice (some ⟨g, o, none⟩) n dcap) fe x v true _ (lhid (h.out.a.below (keptX_nu _) HB2.out)) hk HK).mono ?_
    rintro e w3 ⟨rfl, hb⟩
    have HB3 := lhid (HB2.out.trans (hb.mono HB2.out.size))
    have hF : FBox w3 w.heap.size fa fb f.ret (.slice (some ⟨g, o, none⟩) n dcap) fe := heap_keep HF2.out hb
    have hX : IBox w3 wr.heap.size x v := heap_keep HX2.out hb
    obtain ⟨p0, p1, p2, p3, p4⟩ := hF.cells
    obtain ⟨y0, y1, y2, y3, y4, y5, y6, y7, y8⟩ := hX.cells
    have HF3 := lhid hF
    have HX3 := lhid hX
    have HV3 := lhid (HVG.out _ hb)
    clear hb hF hX
    go_wp2_with fail
    with_reducible refine (restFits_r f.regs fa fb f.ret (.slice (some ⟨g, o, none⟩) n dcap) fe x v true _ (lhid (h.out.a.below (keptX_nu _) HB3.out)) HV3 HQN HQR HK HOP HR).mono ?_
    rintro e w4 ⟨rfl, hb⟩
    have HB4 := lhid (HB3.out.trans (hb.mono HB3.out.size))
    have hF : FBox w4 w.heap.size fa fb f.ret (.slice (some ⟨g, o, none⟩) n dcap) fe := heap_keep HF3.out hb
    have hX : IBox w4 wr.heap.size x v := heap_keep HX3.out hb
    obtain ⟨p0, p1, p2, p3, p4⟩ := hF.cells
    obtain ⟨y0, y1, y2, y3, y4, y5, y6, y7, y8⟩ := hX.cells
    have HF4 := lhid hF
    have HX4 := lhid hX
    clear hb hF hX
    go_wp2_with fail
    with_reducible refine (leads_r x v true _ HL).mono ?_
    rintro e w5 ⟨rfl, hb⟩
    have HB5 := lhid (HB4.out.trans (hb.mono HB4.out.size))
    have hF : FBox w5 w.heap.size fa fb f.ret (.slice (some ⟨g, o, none⟩) n dcap) fe := heap_keep HF4.out hb
    have hX : IBox w5 wr.heap.size x v := heap_keep HX4.out hb
    obtain ⟨p0, p1, p2, p3, p4⟩ := hF.cells
    obtain ⟨y0, y1, y2, y3, y4, y5, y6, y7, y8⟩ := hX.cells
    have HF5 := lhid hF
    have HX5 := lhid hX
    clear hb hF hX
    go_wp2_with fail
    with_reducible refine (isAt_r _ _ false _ HAT).mono ?_
    rintro e w6 ⟨rfl, rfl⟩
    go_wp2_with fail
    go_ret
    exact ⟨by rw [(HBAD (by rw [HONE.out, HAT2.out]; simp)).out]; rfl, HB5.out⟩
   ·have k3 : ¬ (k : Int) < n := by omega
    have HC := lhid (codeB_ok (by have := HN.out; omega) (by have := HN.out; omega) HLST.out (fun i x hi hx => HP.out i x (by have := HN.out; omega) hx))
    go_wp2_with fail
    go_ret
    exact ⟨by rw [HC.out]; rfl, HB.out⟩
end Go.Proofs.Ytbkeneadoccodaa
