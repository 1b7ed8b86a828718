/- Contract of the document's method. Written by gen_ref7.py. -/
import Derived.Test.YtgihfcimngogfaaGreatJFileRef6
import Derived.Test.YtgihfcimngogfaaGreatM11
namespace Go.Proofs.YtgihfcimngogfaaGreat
open Go.RowKit Go
set_option linter.unusedVariables false
def rMetA (cl f : Nat) (τ : Sg) : Sg := if f = 1032 ∨ (cl = 1536 ∧ f ≠ 1024) then wrS 22 τ else τ
def rMetB (L : List Con) (f : Nat) (m : Bs × Bs) (τ : Sg) : Met × Sg := if f ≠ 1024 then rBdy L f m τ else (⟨f, m.1, m.2, 0, 0, [], [], []⟩, τ)
def rMetC (cl f : Nat) (τ : Sg) : Sg := if f = 1024 ∧ cl = 0 then wrS 22 τ else τ
def rMet (L : List Con) (cl : Nat) (σ : Sg) : Met × Sg := ((rMetB L (rFlg 1032 σ).1 (rMem L true (rFlg 1032 σ).2).1 (rMetA cl (rFlg 1032 σ).1 (rMem L true (rFlg 1032 σ).2).2)).1, rMetC cl (rFlg 1032 σ).1 (rMetB L (rFlg 1032 σ).1 (rMem L true (rFlg 1032 σ).2).1 (rMetA cl (rFlg 1032 σ).1 (rMem L true (rFlg 1032 σ).2).2)).2)
theorem rf_cells {ρ : Rc} {σ : Sg} {b : Nat} {t : TypeId} (ht : t ∉ tR) (hB : ρ.B ≤ b) : ∀ (vs : List Value) (o : Nat) (w : World), Boxed w b t → Rf ρ σ w → Rf ρ σ (w.setCells b o vs)
 | [], _, _, _, h => h
 | v :: vs, o, w, hb, h => by
  have h1 := h.set hb ht hB o v
  obtain ⟨c, f, hc⟩ := hb
  exact rf_cells ht hB vs (o + 1) _ ⟨_, _, heap_set hc _⟩ h1
theorem Only.two {R P : Nat} {a w w' : World} (h : Only R a w) (hP : a.heap.size ≤ P) (k : Two P R w w') : Only R a w' :=
 ⟨k.os.trans h.os, k.tape.trans h.tape, k.output.trans h.output, Nat.le_trans h.size k.size, fun i hi hr => (k.block i (Nat.lt_of_lt_of_le hi h.size) hr (by omega)).trans (h.block i hi hr)⟩
set_option maxHeartbeats 8000000 in
set_option maxRecDepth 100000 in
theorem rmethod_any (ρ : Rc) (σ : Sg) (cl : Nat) (cl' : Int) (w : World) (h : Hid (Rf ρ σ w)) (hcl : Hid (cl' = cl)) :
  Calls Tryz.prog 53 #[.pointer (some ⟨ρ.M, 0, none⟩), .int .i64 cl'] w fun e w' => ∃ vs : List Value, e = .returned (.agg vs.toArray) ∧ MetE w' (rMet ρ.L cl σ).1 vs ∧ Rf ρ (rMet ρ.L cl σ).2 w' ∧ Only ρ.M w w' := by
 rw [hcl.out]
 have HO0 := lhid ((Only.refl ρ.M w).alloc (.cells #[.int .i64 0, .string ⟨#[]⟩, .string ⟨#[]⟩, .int .i64 0, .int .i64 0, .slice none 0 0, .slice none 0 0, .slice none 0 0] 62 (0, 0)))
 have HR0 := lhid (h.out.alloc (.cells #[.int .i64 0, .string ⟨#[]⟩, .string ⟨#[]⟩, .int .i64 0, .int .i64 0, .slice none 0 0, .slice none 0 0, .slice none 0 0] 62 (0, 0)))
 have HX0 := lhid (heap_alloc_new w (.cells #[.int .i64 0, .string ⟨#[]⟩, .string ⟨#[]⟩, .int .i64 0, .int .i64 0, .slice none 0 0, .slice none 0 0, .slice none 0 0] 62 (0, 0)))
 have HXM : Hid (w.heap.size ≠ ρ.M) := lhid (Nat.ne_of_gt h.out.lt)
 have HBW : Hid (ρ.B ≤ w.heap.size) := lhid h.out.d.bw
 obtain ⟨⟨f, τ1⟩, hk1⟩ : ∃ p, rFlg 1032 σ = p := ⟨_, rfl⟩
 obtain ⟨⟨m, τ2⟩, hk2⟩ : ∃ p, rMem ρ.L true τ1 = p := ⟨_, rfl⟩
 have HK1 := lhid hk1
 have HK2 := lhid hk2
 clear hk1 hk2
 go_enter Tryz.func53, Tryz.ntmps53
 go_wp2_with fail
 with_reducible refine (rflags_any ρ σ 1032 1032 (by decide) _ HR0 (lhid rfl)).mono ?_
 rintro e w1 ⟨rfl, hr, ho⟩
 rw [HK1.out] at hr ⊢
 have HR1 := lhid hr
 have HO1 := lhid (HO0.out.trans ho)
 have HX1 := lhid (Only.keep ho HX0.out HXM.out)
 clear hr ho
 go_wp2_with fail
 have HRa := lhid (HR1.out.alloc (.cells #[.int .i64 f, .string ⟨#[]⟩, .string ⟨#[]⟩, .int .i64 0, .int .i64 0, .slice none 0 0, .slice none 0 0, .slice none 0 0] 62 (0, 0)))
 have HOa := lhid (HO1.out.alloc (.cells #[.int .i64 f, .string ⟨#[]⟩, .string ⟨#[]⟩, .int .i64 0, .int .i64 0, .slice none 0 0, .slice none 0 0, .slice none 0 0] 62 (0, 0)))
 have HXa := lhid ((Below.heap_alloc w1 (.cells #[.int .i64 f, .string ⟨#[]⟩, .string ⟨#[]⟩, .int .i64 0, .int .i64 0, .slice none 0 0, .slice none 0 0, .slice none 0 0] 62 (0, 0)) _ (heap_lt HX1.out)).trans HX1.out)
 have HYa := lhid (heap_alloc_new w1 (.cells #[.int .i64 f, .string ⟨#[]⟩, .string ⟨#[]⟩, .int .i64 0, .int .i64 0, .slice none 0 0, .slice none 0 0, .slice none 0 0] 62 (0, 0)))
 have HYM : Hid (w1.heap.size ≠ ρ.M) := lhid (Nat.ne_of_gt HR1.out.lt)
 have HYw : Hid (w.heap.size ≤ w1.heap.size) := lhid (by have := heap_lt HX1.out; omega)
 have HXY : Hid (w.heap.size ≠ w1.heap.size) := lhid (Nat.ne_of_lt (heap_lt HX1.out))
 have HYB : Hid (ρ.B ≤ w1.heap.size) := lhid (Nat.le_trans HBW.out HYw.out)
 generalize w1.alloc (.cells #[.int .i64 f, .string ⟨#[]⟩, .string ⟨#[]⟩, .int .i64 0, .int .i64 0, .slice none 0 0, .slice none 0 0, .slice none 0 0] 62 (0, 0)) = wa at *
 generalize w1.heap.size = Y at *
 with_reducible refine (rmember_any true ρ τ1 _ HRa).mono ?_
 rintro e w2 ⟨rfl, hr, ho⟩
 rw [HK2.out] at hr ⊢
 have HR2 := lhid hr
 have HO2 := lhid (HOa.out.trans ho)
 have HX2 := lhid (Only.keep ho HXa.out HXM.out)
 have HY2 := lhid (Only.keep ho HYa.out HYM.out)
 clear hr ho
 have q1 := heap_cell (i := 1) HY2.out rfl
 have z1 := heap_thaw HY2.out 1
 have HY3 : Hid ((w2.setCell ⟨Y, 1, none⟩ (.string (tx m.1))).heap[Y]? = some (.cells #[.int .i64 f, .string (tx m.1), .string ⟨#[]⟩, .int .i64 0, .int .i64 0, .slice none 0 0, .slice none 0 0, .slice none 0 0] 62 (0, 0))) := lhid (heap_set HY2.out _)
 have q2 := heap_cell (i := 2) HY3.out rfl
 have z2 := heap_thaw HY3.out 2
 have HY4 : Hid (((w2.setCell ⟨Y, 1, none⟩ (.string (tx m.1))).setCell ⟨Y, 2, none⟩ (.string (tx m.2))).heap[Y]? = some (.cells #[.int .i64 f, .string (tx m.1), .string (tx m.2), .int .i64 0, .int .i64 0, .slice none 0 0, .slice none 0 0, .slice none 0 0] 62 (0, 0))) := lhid (heap_set HY3.out _)
 have HR3 := lhid (Rf.set HR2.out (show Boxed _ _ 62 from ⟨_, _, HY2.out⟩) (by decide) HYB.out 1 (.string (tx m.1)))
 have HR4 := lhid (Rf.set HR3.out (show Boxed _ _ 62 from ⟨_, _, HY3.out⟩) (by decide) HYB.out 2 (.string (tx m.2)))
 have HO4 := lhid ((HO2.out.setCell (p := ⟨Y, 1, none⟩) (.inr HYw.out) (.string (tx m.1))).setCell (p := ⟨Y, 2, none⟩) (.inr HYw.out) (.string (tx m.2)))
 have HX4 := lhid ((Below.heap_setCell (w2.setCell ⟨Y, 1, none⟩ (.string (tx m.1))) ⟨Y, 2, none⟩ (.string (tx m.2)) w.heap.size HXY.out).trans ((Below.heap_setCell w2 ⟨Y, 1, none⟩ (.string (tx m.1)) w.heap.size HXY.out).trans HX2.out))
 go_upto_region 3 with fail
 clear q1 z1 q2 z2 HR3 HY3 HO2 HX2 HY2 HR2
 generalize (w2.setCell ⟨Y, 1, none⟩ (.string (tx m.1))).setCell ⟨Y, 2, none⟩ (.string (tx m.2)) = w4 at *
 have y0 := heap_cell (i := 0) HY4.out rfl
 by_cases hf : f = 1032
 ·have t1 : ((f : Int) == 1032) = true := by rw [beq_iff_eq]; omega
  have t3 : ((f : Int) != 1024) = true := by rw [bne_iff_ne]; omega
  have t4 : ((f : Int) == 1024) = false := by rw [beq_eq_false_iff_ne]; omega
  have HA : Hid (rMetA cl f τ2 = wrS 22 τ2) := lhid (by unfold rMetA; rw [if_pos (by omega)])
  have HC : ∀ τ, rMetC cl f τ = τ := fun τ => by unfold rMetC; rw [if_neg (by omega)]
  have HCh := lhid HC
  clear HC
  have HB : Hid (rMetB ρ.L f m (wrS 22 τ2) = rBdy ρ.L f m (wrS 22 τ2)) := lhid (by unfold rMetB; rw [if_pos (by omega)])
  clear hf 
  go_wp2_with fail
  with_reducible refine (rwrong_any ρ τ2 22 22 (by decide) _ HR4 (lhid rfl)).mono ?_
  rintro e w5 ⟨rfl, hr, ho⟩
  have HR5 := lhid hr
  have HO5 := lhid (HO4.out.trans ho)
  have HX5 := lhid (Only.keep ho HX4.out HXM.out)
  have HY5 := lhid (Only.keep ho HY4.out HYM.out)
  clear hr ho y0
  have y0 := heap_cell (i := 0) HY5.out rfl
  obtain ⟨⟨mm, τ4⟩, hk4⟩ : ∃ p, rBdy ρ.L f m (wrS 22 τ2) = p := ⟨_, rfl⟩
  have HK4 := lhid hk4
  have hfl : mm.flags = f := by have := congrArg (fun p => p.1.flags) hk4; exact this.symm
  have HFL := lhid hfl
  clear hk4 hfl
  have hyl := heap_lt HY5.out
  go_wp2_with fail
  with_reducible refine (rbody_any ρ (wrS 22 τ2) Y f m _ HR5 HY5 HYM.out HYB.out).mono ?_
  rintro e w6 ⟨rfl, ho, hr, cs, hcs, va, vb, vd, rfl, hv1, hv2, hv3⟩
  rw [HK4.out] at hr hcs hv1 hv2 hv3
  dsimp only at hcs
  rw [HFL.out] at hcs
  have HR6 := lhid hr
  have HO6 := lhid (Only.two HO5.out HYw.out ho)
  have HX6 := lhid (ho.keep HX5.out HXM.out HXY.out)
  have HY6 := lhid hcs
  have HV1 := lhid hv1
  have HV2 := lhid hv2
  have HV3 := lhid hv3
  clear hr ho hcs hv1 hv2 hv3 y0 hyl
  obtain ⟨xA, xc, rfl⟩ := byts_shape HV1.out
  obtain ⟨yA, yc, rfl⟩ := slO_shape HV2.out
  obtain ⟨zA, zc, rfl⟩ := slO_shape HV3.out
  have y0 := heap_cell (i := 0) HY6.out rfl
  have p0 := heap_cell (i := 0) HX6.out rfl
  have zp0 := heap_thaw HX6.out 0
  have y1 := heap_cell (i := 1) HY6.out rfl
  have p1 := heap_cell (i := 1) HX6.out rfl
  have zp1 := heap_thaw HX6.out 1
  have y2 := heap_cell (i := 2) HY6.out rfl
  have p2 := heap_cell (i := 2) HX6.out rfl
  have zp2 := heap_thaw HX6.out 2
  have y3 := heap_cell (i := 3) HY6.out rfl
  have p3 := heap_cell (i := 3) HX6.out rfl
  have zp3 := heap_thaw HX6.out 3
  have y4 := heap_cell (i := 4) HY6.out rfl
  have p4 := heap_cell (i := 4) HX6.out rfl
  have zp4 := heap_thaw HX6.out 4
  have y5 := heap_cell (i := 5) HY6.out rfl
  have p5 := heap_cell (i := 5) HX6.out rfl
  have zp5 := heap_thaw HX6.out 5
  have y6 := heap_cell (i := 6) HY6.out rfl
  have p6 := heap_cell (i := 6) HX6.out rfl
  have zp6 := heap_thaw HX6.out 6
  have y7 := heap_cell (i := 7) HY6.out rfl
  have p7 := heap_cell (i := 7) HX6.out rfl
  have zp7 := heap_thaw HX6.out 7
  have HMET : Hid (rMet ρ.L cl σ = (mm, τ4)) := lhid (by simp only [rMet, HK1.out, HK2.out, HA.out, HB.out, HCh.out, HK4.out])
  go_wp2_with fail
  refine bodyPost_ret (v := .agg #[.int .i64 f, .string (tx mm.name), .string (tx mm.desc), .int .i64 mm.stack, .int .i64 mm.locals, .slice xA mm.code.length xc, .slice yA mm.rows.length yc, .slice zA mm.frames.length zc]) (by simp [results, Tryz.results53, go_sem, p0, p1, p2, p3, p4, p5, p6, p7]) rfl ?_
  rw [HMET.out]
  exact ⟨[.int .i64 f, .string (tx mm.name), .string (tx mm.desc), .int .i64 mm.stack, .int .i64 mm.locals, .slice xA mm.code.length xc, .slice yA mm.rows.length yc, .slice zA mm.frames.length zc], rfl, ⟨_, _, _, by rw [HFL.out], byts_cells HV1.out ⟨_, _, HX6.out⟩ (by decide) [.int .i64 f, .string (tx mm.name), .string (tx mm.desc), .int .i64 mm.stack, .int .i64 mm.locals, .slice xA mm.code.length xc, .slice yA mm.rows.length yc, .slice zA mm.frames.length zc] 0, rws_cells HV2.out ⟨_, _, HX6.out⟩ (by decide) [.int .i64 f, .string (tx mm.name), .string (tx mm.desc), .int .i64 mm.stack, .int .i64 mm.locals, .slice xA mm.code.length xc, .slice yA mm.rows.length yc, .slice zA mm.frames.length zc] 0, frms_cells HV3.out ⟨_, _, HX6.out⟩ (by decide) [.int .i64 f, .string (tx mm.name), .string (tx mm.desc), .int .i64 mm.stack, .int .i64 mm.locals, .slice xA mm.code.length xc, .slice yA mm.rows.length yc, .slice zA mm.frames.length zc] 0⟩, rf_cells (t := 62) (by decide) HBW.out [.int .i64 f, .string (tx mm.name), .string (tx mm.desc), .int .i64 mm.stack, .int .i64 mm.locals, .slice xA mm.code.length xc, .slice yA mm.rows.length yc, .slice zA mm.frames.length zc] 0 _ ⟨_, _, HX6.out⟩ HR6.out, only_cells (Nat.le_refl _) [.int .i64 f, .string (tx mm.name), .string (tx mm.desc), .int .i64 mm.stack, .int .i64 mm.locals, .slice xA mm.code.length xc, .slice yA mm.rows.length yc, .slice zA mm.frames.length zc] 0 _ HO6.out⟩
 ·by_cases hg : f = 1024
  ·by_cases hc : cl = 0
   ·have t1 : ((f : Int) == 1032) = false := by rw [beq_eq_false_iff_ne]; omega
    have t2 : ((cl : Int) == 1536) = false := by rw [beq_eq_false_iff_ne]; omega
    have t3 : ((f : Int) != 1024) = false := by rw [bne_eq_false_iff_eq]; omega
    have t4 : ((f : Int) == 1024) = true := by rw [beq_iff_eq]; omega
    have t5 : ((cl : Int) == 0) = true := by rw [beq_iff_eq]; omega
    have HA : Hid (rMetA cl f τ2 = τ2) := lhid (by unfold rMetA; rw [if_neg (by omega)])
    have HC : ∀ τ, rMetC cl f τ = wrS 22 τ := fun τ => by unfold rMetC; rw [if_pos (by omega)]
    have HCh := lhid HC
    clear HC
    have HB : Hid (rMetB ρ.L f m (τ2) = (⟨f, m.1, m.2, 0, 0, [], [], []⟩, τ2)) := lhid (by unfold rMetB; rw [if_neg (by omega)])
    clear hf hg hc
    have y0 := heap_cell (i := 0) HY4.out rfl
    go_wp2_with fail
    with_reducible refine (rwrong_any ρ (τ2) 22 22 (by decide) _ HR4 (lhid rfl)).mono ?_
    rintro e w7 ⟨rfl, hr, ho⟩
    have HR7 := lhid hr
    have HO7 := lhid (HO4.out.trans ho)
    have HX7 := lhid (Only.keep ho HX4.out HXM.out)
    have HY7 := lhid (Only.keep ho HY4.out HYM.out)
    clear hr ho y0
    have y0 := heap_cell (i := 0) HY7.out rfl
    have p0 := heap_cell (i := 0) HX7.out rfl
    have zp0 := heap_thaw HX7.out 0
    have y1 := heap_cell (i := 1) HY7.out rfl
    have p1 := heap_cell (i := 1) HX7.out rfl
    have zp1 := heap_thaw HX7.out 1
    have y2 := heap_cell (i := 2) HY7.out rfl
    have p2 := heap_cell (i := 2) HX7.out rfl
    have zp2 := heap_thaw HX7.out 2
    have y3 := heap_cell (i := 3) HY7.out rfl
    have p3 := heap_cell (i := 3) HX7.out rfl
    have zp3 := heap_thaw HX7.out 3
    have y4 := heap_cell (i := 4) HY7.out rfl
    have p4 := heap_cell (i := 4) HX7.out rfl
    have zp4 := heap_thaw HX7.out 4
    have y5 := heap_cell (i := 5) HY7.out rfl
    have p5 := heap_cell (i := 5) HX7.out rfl
    have zp5 := heap_thaw HX7.out 5
    have y6 := heap_cell (i := 6) HY7.out rfl
    have p6 := heap_cell (i := 6) HX7.out rfl
    have zp6 := heap_thaw HX7.out 6
    have y7 := heap_cell (i := 7) HY7.out rfl
    have p7 := heap_cell (i := 7) HX7.out rfl
    have zp7 := heap_thaw HX7.out 7
    have HMET : Hid (rMet ρ.L cl σ = ((⟨f, m.1, m.2, 0, 0, [], [], []⟩ : Met), wrS 22 (τ2))) := lhid (by simp only [rMet, HK1.out, HK2.out, HA.out, HB.out, HCh.out])
    go_wp2_with fail
    refine bodyPost_ret (v := .agg #[.int .i64 f, .string (tx m.1), .string (tx m.2), .int .i64 0, .int .i64 0, .slice none 0 0, .slice none 0 0, .slice none 0 0]) (by simp [results, Tryz.results53, go_sem, p0, p1, p2, p3, p4, p5, p6, p7]) rfl ?_
    rw [HMET.out]
    exact ⟨[.int .i64 f, .string (tx m.1), .string (tx m.2), .int .i64 0, .int .i64 0, .slice none 0 0, .slice none 0 0, .slice none 0 0], rfl, ⟨_, _, _, rfl, .inl ⟨rfl, rfl⟩, ⟨[], World.ownsRow_nil _ _ _ _, rfl⟩, ⟨[], World.ownsRow_nil _ _ _ _, rfl⟩⟩, rf_cells (t := 62) (by decide) HBW.out [.int .i64 f, .string (tx m.1), .string (tx m.2), .int .i64 0, .int .i64 0, .slice none 0 0, .slice none 0 0, .slice none 0 0] 0 _ ⟨_, _, HX7.out⟩ HR7.out, only_cells (Nat.le_refl _) [.int .i64 f, .string (tx m.1), .string (tx m.2), .int .i64 0, .int .i64 0, .slice none 0 0, .slice none 0 0, .slice none 0 0] 0 _ HO7.out⟩
   ·by_cases hd : cl = 1536
    ·have t1 : ((f : Int) == 1032) = false := by rw [beq_eq_false_iff_ne]; omega
     have t2 : ((cl : Int) == 1536) = true := by rw [beq_iff_eq]; omega
     have t3 : ((f : Int) != 1024) = false := by rw [bne_eq_false_iff_eq]; omega
     have t4 : ((f : Int) == 1024) = true := by rw [beq_iff_eq]; omega
     have t5 : ((cl : Int) == 0) = false := by rw [beq_eq_false_iff_ne]; omega
     have HA : Hid (rMetA cl f τ2 = τ2) := lhid (by unfold rMetA; rw [if_neg (by omega)])
     have HC : ∀ τ, rMetC cl f τ = τ := fun τ => by unfold rMetC; rw [if_neg (by omega)]
     have HCh := lhid HC
     clear HC
     have HB : Hid (rMetB ρ.L f m (τ2) = (⟨f, m.1, m.2, 0, 0, [], [], []⟩, τ2)) := lhid (by unfold rMetB; rw [if_neg (by omega)])
     clear hf hg hc hd
     have y0b := heap_cell (i := 0) HY4.out rfl
     have p0 := heap_cell (i := 0) HX4.out rfl
     have zp0 := heap_thaw HX4.out 0
     have y1 := heap_cell (i := 1) HY4.out rfl
     have p1 := heap_cell (i := 1) HX4.out rfl
     have zp1 := heap_thaw HX4.out 1
     have y2 := heap_cell (i := 2) HY4.out rfl
     have p2 := heap_cell (i := 2) HX4.out rfl
     have zp2 := heap_thaw HX4.out 2
     have y3 := heap_cell (i := 3) HY4.out rfl
     have p3 := heap_cell (i := 3) HX4.out rfl
     have zp3 := heap_thaw HX4.out 3
     have y4 := heap_cell (i := 4) HY4.out rfl
     have p4 := heap_cell (i := 4) HX4.out rfl
     have zp4 := heap_thaw HX4.out 4
     have y5 := heap_cell (i := 5) HY4.out rfl
     have p5 := heap_cell (i := 5) HX4.out rfl
     have zp5 := heap_thaw HX4.out 5
     have y6 := heap_cell (i := 6) HY4.out rfl
     have p6 := heap_cell (i := 6) HX4.out rfl
     have zp6 := heap_thaw HX4.out 6
     have y7 := heap_cell (i := 7) HY4.out rfl
     have p7 := heap_cell (i := 7) HX4.out rfl
     have zp7 := heap_thaw HX4.out 7
     have HMET : Hid (rMet ρ.L cl σ = ((⟨f, m.1, m.2, 0, 0, [], [], []⟩ : Met), τ2)) := lhid (by simp only [rMet, HK1.out, HK2.out, HA.out, HB.out, HCh.out])
     go_wp2_with fail
     refine bodyPost_ret (v := .agg #[.int .i64 f, .string (tx m.1), .string (tx m.2), .int .i64 0, .int .i64 0, .slice none 0 0, .slice none 0 0, .slice none 0 0]) (by simp [results, Tryz.results53, go_sem, p0, p1, p2, p3, p4, p5, p6, p7]) rfl ?_
     rw [HMET.out]
     exact ⟨[.int .i64 f, .string (tx m.1), .string (tx m.2), .int .i64 0, .int .i64 0, .slice none 0 0, .slice none 0 0, .slice none 0 0], rfl, ⟨_, _, _, rfl, .inl ⟨rfl, rfl⟩, ⟨[], World.ownsRow_nil _ _ _ _, rfl⟩, ⟨[], World.ownsRow_nil _ _ _ _, rfl⟩⟩, rf_cells (t := 62) (by decide) HBW.out [.int .i64 f, .string (tx m.1), .string (tx m.2), .int .i64 0, .int .i64 0, .slice none 0 0, .slice none 0 0, .slice none 0 0] 0 _ ⟨_, _, HX4.out⟩ HR4.out, only_cells (Nat.le_refl _) [.int .i64 f, .string (tx m.1), .string (tx m.2), .int .i64 0, .int .i64 0, .slice none 0 0, .slice none 0 0, .slice none 0 0] 0 _ HO4.out⟩
    ·have t1 : ((f : Int) == 1032) = false := by rw [beq_eq_false_iff_ne]; omega
     have t2 : ((cl : Int) == 1536) = false := by rw [beq_eq_false_iff_ne]; omega
     have t3 : ((f : Int) != 1024) = false := by rw [bne_eq_false_iff_eq]; omega
     have t4 : ((f : Int) == 1024) = true := by rw [beq_iff_eq]; omega
     have t5 : ((cl : Int) == 0) = false := by rw [beq_eq_false_iff_ne]; omega
     have HA : Hid (rMetA cl f τ2 = τ2) := lhid (by unfold rMetA; rw [if_neg (by omega)])
     have HC : ∀ τ, rMetC cl f τ = τ := fun τ => by unfold rMetC; rw [if_neg (by omega)]
     have HCh := lhid HC
     clear HC
     have HB : Hid (rMetB ρ.L f m (τ2) = (⟨f, m.1, m.2, 0, 0, [], [], []⟩, τ2)) := lhid (by unfold rMetB; rw [if_neg (by omega)])
     clear hf hg hc hd
     have y0b := heap_cell (i := 0) HY4.out rfl
     have p0 := heap_cell (i := 0) HX4.out rfl
     have zp0 := heap_thaw HX4.out 0
     have y1 := heap_cell (i := 1) HY4.out rfl
     have p1 := heap_cell (i := 1) HX4.out rfl
     have zp1 := heap_thaw HX4.out 1
     have y2 := heap_cell (i := 2) HY4.out rfl
     have p2 := heap_cell (i := 2) HX4.out rfl
     have zp2 := heap_thaw HX4.out 2
     have y3 := heap_cell (i := 3) HY4.out rfl
     have p3 := heap_cell (i := 3) HX4.out rfl
     have zp3 := heap_thaw HX4.out 3
     have y4 := heap_cell (i := 4) HY4.out rfl
     have p4 := heap_cell (i := 4) HX4.out rfl
     have zp4 := heap_thaw HX4.out 4
     have y5 := heap_cell (i := 5) HY4.out rfl
     have p5 := heap_cell (i := 5) HX4.out rfl
     have zp5 := heap_thaw HX4.out 5
     have y6 := heap_cell (i := 6) HY4.out rfl
     have p6 := heap_cell (i := 6) HX4.out rfl
     have zp6 := heap_thaw HX4.out 6
     have y7 := heap_cell (i := 7) HY4.out rfl
     have p7 := heap_cell (i := 7) HX4.out rfl
     have zp7 := heap_thaw HX4.out 7
     have HMET : Hid (rMet ρ.L cl σ = ((⟨f, m.1, m.2, 0, 0, [], [], []⟩ : Met), τ2)) := lhid (by simp only [rMet, HK1.out, HK2.out, HA.out, HB.out, HCh.out])
     go_wp2_with fail
     refine bodyPost_ret (v := .agg #[.int .i64 f, .string (tx m.1), .string (tx m.2), .int .i64 0, .int .i64 0, .slice none 0 0, .slice none 0 0, .slice none 0 0]) (by simp [results, Tryz.results53, go_sem, p0, p1, p2, p3, p4, p5, p6, p7]) rfl ?_
     rw [HMET.out]
     exact ⟨[.int .i64 f, .string (tx m.1), .string (tx m.2), .int .i64 0, .int .i64 0, .slice none 0 0, .slice none 0 0, .slice none 0 0], rfl, ⟨_, _, _, rfl, .inl ⟨rfl, rfl⟩, ⟨[], World.ownsRow_nil _ _ _ _, rfl⟩, ⟨[], World.ownsRow_nil _ _ _ _, rfl⟩⟩, rf_cells (t := 62) (by decide) HBW.out [.int .i64 f, .string (tx m.1), .string (tx m.2), .int .i64 0, .int .i64 0, .slice none 0 0, .slice none 0 0, .slice none 0 0] 0 _ ⟨_, _, HX4.out⟩ HR4.out, only_cells (Nat.le_refl _) [.int .i64 f, .string (tx m.1), .string (tx m.2), .int .i64 0, .int .i64 0, .slice none 0 0, .slice none 0 0, .slice none 0 0] 0 _ HO4.out⟩
  ·by_cases hd : cl = 1536
   ·have t1 : ((f : Int) == 1032) = false := by rw [beq_eq_false_iff_ne]; omega
    have t2 : ((cl : Int) == 1536) = true := by rw [beq_iff_eq]; omega
    have t3 : ((f : Int) != 1024) = true := by rw [bne_iff_ne]; omega
    have t4 : ((f : Int) == 1024) = false := by rw [beq_eq_false_iff_ne]; omega
    have HA : Hid (rMetA cl f τ2 = wrS 22 τ2) := lhid (by unfold rMetA; rw [if_pos (by omega)])
    have HC : ∀ τ, rMetC cl f τ = τ := fun τ => by unfold rMetC; rw [if_neg (by omega)]
    have HCh := lhid HC
    clear HC
    have HB : Hid (rMetB ρ.L f m (wrS 22 τ2) = rBdy ρ.L f m (wrS 22 τ2)) := lhid (by unfold rMetB; rw [if_pos (by omega)])
    clear hf hg hd
    go_wp2_with fail
    with_reducible refine (rwrong_any ρ τ2 22 22 (by decide) _ HR4 (lhid rfl)).mono ?_
    rintro e w5 ⟨rfl, hr, ho⟩
    have HR5 := lhid hr
    have HO5 := lhid (HO4.out.trans ho)
    have HX5 := lhid (Only.keep ho HX4.out HXM.out)
    have HY5 := lhid (Only.keep ho HY4.out HYM.out)
    clear hr ho y0
    have y0 := heap_cell (i := 0) HY5.out rfl
    obtain ⟨⟨mm, τ4⟩, hk4⟩ : ∃ p, rBdy ρ.L f m (wrS 22 τ2) = p := ⟨_, rfl⟩
    have HK4 := lhid hk4
    have hfl : mm.flags = f := by have := congrArg (fun p => p.1.flags) hk4; exact this.symm
    have HFL := lhid hfl
    clear hk4 hfl
    have hyl := heap_lt HY5.out
    go_wp2_with fail
    with_reducible refine (rbody_any ρ (wrS 22 τ2) Y f m _ HR5 HY5 HYM.out HYB.out).mono ?_
    rintro e w6 ⟨rfl, ho, hr, cs, hcs, va, vb, vd, rfl, hv1, hv2, hv3⟩
    rw [HK4.out] at hr hcs hv1 hv2 hv3
    dsimp only at hcs
    rw [HFL.out] at hcs
    have HR6 := lhid hr
    have HO6 := lhid (Only.two HO5.out HYw.out ho)
    have HX6 := lhid (ho.keep HX5.out HXM.out HXY.out)
    have HY6 := lhid hcs
    have HV1 := lhid hv1
    have HV2 := lhid hv2
    have HV3 := lhid hv3
    clear hr ho hcs hv1 hv2 hv3 y0 hyl
    obtain ⟨xA, xc, rfl⟩ := byts_shape HV1.out
    obtain ⟨yA, yc, rfl⟩ := slO_shape HV2.out
    obtain ⟨zA, zc, rfl⟩ := slO_shape HV3.out
    have y0 := heap_cell (i := 0) HY6.out rfl
    have p0 := heap_cell (i := 0) HX6.out rfl
    have zp0 := heap_thaw HX6.out 0
    have y1 := heap_cell (i := 1) HY6.out rfl
    have p1 := heap_cell (i := 1) HX6.out rfl
    have zp1 := heap_thaw HX6.out 1
    have y2 := heap_cell (i := 2) HY6.out rfl
    have p2 := heap_cell (i := 2) HX6.out rfl
    have zp2 := heap_thaw HX6.out 2
    have y3 := heap_cell (i := 3) HY6.out rfl
    have p3 := heap_cell (i := 3) HX6.out rfl
    have zp3 := heap_thaw HX6.out 3
    have y4 := heap_cell (i := 4) HY6.out rfl
    have p4 := heap_cell (i := 4) HX6.out rfl
    have zp4 := heap_thaw HX6.out 4
    have y5 := heap_cell (i := 5) HY6.out rfl
    have p5 := heap_cell (i := 5) HX6.out rfl
    have zp5 := heap_thaw HX6.out 5
    have y6 := heap_cell (i := 6) HY6.out rfl
    have p6 := heap_cell (i := 6) HX6.out rfl
    have zp6 := heap_thaw HX6.out 6
    have y7 := heap_cell (i := 7) HY6.out rfl
    have p7 := heap_cell (i := 7) HX6.out rfl
    have zp7 := heap_thaw HX6.out 7
    have HMET : Hid (rMet ρ.L cl σ = (mm, τ4)) := lhid (by simp only [rMet, HK1.out, HK2.out, HA.out, HB.out, HCh.out, HK4.out])
    go_wp2_with fail
    refine bodyPost_ret (v := .agg #[.int .i64 f, .string (tx mm.name), .string (tx mm.desc), .int .i64 mm.stack, .int .i64 mm.locals, .slice xA mm.code.length xc, .slice yA mm.rows.length yc, .slice zA mm.frames.length zc]) (by simp [results, Tryz.results53, go_sem, p0, p1, p2, p3, p4, p5, p6, p7]) rfl ?_
    rw [HMET.out]
    exact ⟨[.int .i64 f, .string (tx mm.name), .string (tx mm.desc), .int .i64 mm.stack, .int .i64 mm.locals, .slice xA mm.code.length xc, .slice yA mm.rows.length yc, .slice zA mm.frames.length zc], rfl, ⟨_, _, _, by rw [HFL.out], byts_cells HV1.out ⟨_, _, HX6.out⟩ (by decide) [.int .i64 f, .string (tx mm.name), .string (tx mm.desc), .int .i64 mm.stack, .int .i64 mm.locals, .slice xA mm.code.length xc, .slice yA mm.rows.length yc, .slice zA mm.frames.length zc] 0, rws_cells HV2.out ⟨_, _, HX6.out⟩ (by decide) [.int .i64 f, .string (tx mm.name), .string (tx mm.desc), .int .i64 mm.stack, .int .i64 mm.locals, .slice xA mm.code.length xc, .slice yA mm.rows.length yc, .slice zA mm.frames.length zc] 0, frms_cells HV3.out ⟨_, _, HX6.out⟩ (by decide) [.int .i64 f, .string (tx mm.name), .string (tx mm.desc), .int .i64 mm.stack, .int .i64 mm.locals, .slice xA mm.code.length xc, .slice yA mm.rows.length yc, .slice zA mm.frames.length zc] 0⟩, rf_cells (t := 62) (by decide) HBW.out [.int .i64 f, .string (tx mm.name), .string (tx mm.desc), .int .i64 mm.stack, .int .i64 mm.locals, .slice xA mm.code.length xc, .slice yA mm.rows.length yc, .slice zA mm.frames.length zc] 0 _ ⟨_, _, HX6.out⟩ HR6.out, only_cells (Nat.le_refl _) [.int .i64 f, .string (tx mm.name), .string (tx mm.desc), .int .i64 mm.stack, .int .i64 mm.locals, .slice xA mm.code.length xc, .slice yA mm.rows.length yc, .slice zA mm.frames.length zc] 0 _ HO6.out⟩
   ·have t1 : ((f : Int) == 1032) = false := by rw [beq_eq_false_iff_ne]; omega
    have t2 : ((cl : Int) == 1536) = false := by rw [beq_eq_false_iff_ne]; omega
    have t3 : ((f : Int) != 1024) = true := by rw [bne_iff_ne]; omega
    have t4 : ((f : Int) == 1024) = false := by rw [beq_eq_false_iff_ne]; omega
    have HA : Hid (rMetA cl f τ2 = τ2) := lhid (by unfold rMetA; rw [if_neg (by omega)])
    have HC : ∀ τ, rMetC cl f τ = τ := fun τ => by unfold rMetC; rw [if_neg (by omega)]
    have HCh := lhid HC
    clear HC
    have HB : Hid (rMetB ρ.L f m (τ2) = rBdy ρ.L f m (τ2)) := lhid (by unfold rMetB; rw [if_pos (by omega)])
    clear hf hg hd
    obtain ⟨⟨mm, τ4⟩, hk4⟩ : ∃ p, rBdy ρ.L f m (τ2) = p := ⟨_, rfl⟩
    have HK4 := lhid hk4
    have hfl : mm.flags = f := by have := congrArg (fun p => p.1.flags) hk4; exact this.symm
    have HFL := lhid hfl
    clear hk4 hfl
    have hyl := heap_lt HY4.out
    go_wp2_with fail
    with_reducible refine (rbody_any ρ (τ2) Y f m _ HR4 HY4 HYM.out HYB.out).mono ?_
    rintro e w6 ⟨rfl, ho, hr, cs, hcs, va, vb, vd, rfl, hv1, hv2, hv3⟩
    rw [HK4.out] at hr hcs hv1 hv2 hv3
    dsimp only at hcs
    rw [HFL.out] at hcs
    have HR6 := lhid hr
    have HO6 := lhid (Only.two HO4.out HYw.out ho)
    have HX6 := lhid (ho.keep HX4.out HXM.out HXY.out)
    have HY6 := lhid hcs
    have HV1 := lhid hv1
    have HV2 := lhid hv2
    have HV3 := lhid hv3
    clear hr ho hcs hv1 hv2 hv3 y0 hyl
    obtain ⟨xA, xc, rfl⟩ := byts_shape HV1.out
    obtain ⟨yA, yc, rfl⟩ := slO_shape HV2.out
    obtain ⟨zA, zc, rfl⟩ := slO_shape HV3.out
    have y0 := heap_cell (i := 0) HY6.out rfl
    have p0 := heap_cell (i := 0) HX6.out rfl
    have zp0 := heap_thaw HX6.out 0
    have y1 := heap_cell (i := 1) HY6.out rfl
    have p1 := heap_cell (i := 1) HX6.out rfl
    have zp1 := heap_thaw HX6.out 1
    have y2 := heap_cell (i := 2) HY6.out rfl
    have p2 := heap_cell (i := 2) HX6.out rfl
    have zp2 := heap_thaw HX6.out 2
    have y3 := heap_cell (i := 3) HY6.out rfl
    have p3 := heap_cell (i := 3) HX6.out rfl
    have zp3 := heap_thaw HX6.out 3
    have y4 := heap_cell (i := 4) HY6.out rfl
    have p4 := heap_cell (i := 4) HX6.out rfl
    have zp4 := heap_thaw HX6.out 4
    have y5 := heap_cell (i := 5) HY6.out rfl
    have p5 := heap_cell (i := 5) HX6.out rfl
    have zp5 := heap_thaw HX6.out 5
    have y6 := heap_cell (i := 6) HY6.out rfl
    have p6 := heap_cell (i := 6) HX6.out rfl
    have zp6 := heap_thaw HX6.out 6
    have y7 := heap_cell (i := 7) HY6.out rfl
    have p7 := heap_cell (i := 7) HX6.out rfl
    have zp7 := heap_thaw HX6.out 7
    have HMET : Hid (rMet ρ.L cl σ = (mm, τ4)) := lhid (by simp only [rMet, HK1.out, HK2.out, HA.out, HB.out, HCh.out, HK4.out])
    go_wp2_with fail
    refine bodyPost_ret (v := .agg #[.int .i64 f, .string (tx mm.name), .string (tx mm.desc), .int .i64 mm.stack, .int .i64 mm.locals, .slice xA mm.code.length xc, .slice yA mm.rows.length yc, .slice zA mm.frames.length zc]) (by simp [results, Tryz.results53, go_sem, p0, p1, p2, p3, p4, p5, p6, p7]) rfl ?_
    rw [HMET.out]
    exact ⟨[.int .i64 f, .string (tx mm.name), .string (tx mm.desc), .int .i64 mm.stack, .int .i64 mm.locals, .slice xA mm.code.length xc, .slice yA mm.rows.length yc, .slice zA mm.frames.length zc], rfl, ⟨_, _, _, by rw [HFL.out], byts_cells HV1.out ⟨_, _, HX6.out⟩ (by decide) [.int .i64 f, .string (tx mm.name), .string (tx mm.desc), .int .i64 mm.stack, .int .i64 mm.locals, .slice xA mm.code.length xc, .slice yA mm.rows.length yc, .slice zA mm.frames.length zc] 0, rws_cells HV2.out ⟨_, _, HX6.out⟩ (by decide) [.int .i64 f, .string (tx mm.name), .string (tx mm.desc), .int .i64 mm.stack, .int .i64 mm.locals, .slice xA mm.code.length xc, .slice yA mm.rows.length yc, .slice zA mm.frames.length zc] 0, frms_cells HV3.out ⟨_, _, HX6.out⟩ (by decide) [.int .i64 f, .string (tx mm.name), .string (tx mm.desc), .int .i64 mm.stack, .int .i64 mm.locals, .slice xA mm.code.length xc, .slice yA mm.rows.length yc, .slice zA mm.frames.length zc] 0⟩, rf_cells (t := 62) (by decide) HBW.out [.int .i64 f, .string (tx mm.name), .string (tx mm.desc), .int .i64 mm.stack, .int .i64 mm.locals, .slice xA mm.code.length xc, .slice yA mm.rows.length yc, .slice zA mm.frames.length zc] 0 _ ⟨_, _, HX6.out⟩ HR6.out, only_cells (Nat.le_refl _) [.int .i64 f, .string (tx mm.name), .string (tx mm.desc), .int .i64 mm.stack, .int .i64 mm.locals, .slice xA mm.code.length xc, .slice yA mm.rows.length yc, .slice zA mm.frames.length zc] 0 _ HO6.out⟩
end Go.Proofs.YtgihfcimngogfaaGreat
