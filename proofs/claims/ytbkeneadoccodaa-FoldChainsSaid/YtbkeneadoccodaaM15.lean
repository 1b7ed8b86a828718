/- Texts of this claim, joined: CFlwTrim, CFolPass, CFlwHold, CFolHold. -/
import Derived.Test.YtbkeneadoccodaaJCFlwReach
import Derived.Test.YtbkeneadoccodaaJCFlwCode
import Derived.Test.YtbkeneadoccodaaJCFlwRows
import Derived.Test.YtbkeneadoccodaaM14
import Derived.Test.YtbkeneadoccodaaM10
import Derived.Test.YtbkeneadoccodaaJCFolMem
import Derived.Test.YtbkeneadoccodaaM8
/- A function trimmed: the program's Trim. -/
namespace Go.Proofs.Ytbkeneadoccodaa
open Go.RowKit Go
set_option linter.unusedVariables false
set_option linter.unusedSimpArgs false
def trimF (f : FuI) (R : List Bool) : FuI := ⟨f.regs, f.params, f.ret, trT f.code (nowN f.code R) f.code.length, trR f.rows R (nowN f.code R) f.rows.length⟩
def IsTrim (f F : FuI) : Prop := (chkN f ≠ 0 → F = f) ∧ (chkN f = 0 → ∃ R, IsReach f R ∧ F = trimF f R)
theorem chk_parts {f : FuI} (h : chkN f = 0) : codeB f = true ∧ rowsB f = true := by
 unfold chkN checkB at h
 cases h1 : (regsB f && codeB f && rowsB f) with
 | false => rw [h1] at h; simp at h
 | true => simp only [Bool.and_eq_true] at h1; exact ⟨h1.1.2, h1.2⟩
theorem chk_leads {f : FuI} (h : chkN f = 0) : ∀ x ∈ f.code, leadsB x.op = true → 0 ≤ x.too ∧ x.too < f.code.length := by
 intro x hx hl
 have hc := (chk_parts h).1
 unfold codeB at hc
 simp only [Bool.and_eq_true, List.all_eq_true, List.mem_range] at hc
 obtain ⟨i, hi, rfl⟩ := List.getElem_of_mem hx
 have h1 := hc.2 i hi
 rw [List.getElem?_eq_getElem hi] at h1
 simp only [oneB, Bool.and_eq_true, Bool.or_eq_true, hl] at h1
 have h2 := h1.1.2
 simp at h2
 exact ⟨h2.1.1, h2.1.2⟩
theorem chk_rows9 {f : FuI} (h : chkN f = 0) : ∀ r ∈ f.rows, (0 ≤ r.fr ∧ r.fr ≤ f.code.length) ∧ (0 ≤ r.too ∧ r.too ≤ f.code.length) ∧ 0 ≤ r.at_ ∧ r.at_ < f.code.length := by
 intro r hr
 have hc := (chk_parts h).2
 unfold rowsB at hc
 rw [List.all_eq_true] at hc
 have h1 := hc r hr
 unfold rowB at h1
 simp only [Bool.and_eq_true, decide_eq_true_eq] at h1
 omega
theorem OwC.rd {P : Nat → Prop} {w0 w w' : World} {B : Nat} {v : Value} {L : List InI} (h : OwC P w0 w B v L) (hb : ∀ b, P b → b < w0.heap.size → w'.heap[b]? = w0.heap[b]?) (hw : ∀ b, v.ownBlock = some b → w'.heap[b]? = w.heap[b]?) (hl : L.length ≤ 140737488355328) : RdX Tru 9 (InE Tru) w' v L := by
 obtain ⟨xs, h1, h2⟩ := h
 have h3 : RowsE 9 (InE Tru w') L xs := ⟨h2.1, fun i a hi => by
  obtain ⟨c, h4, h5⟩ := h2.2 i a hi
  refine ⟨c, ?_, h5⟩
  obtain ⟨u, h6, h7⟩ := h4
  exact ⟨u, h6, (h7.kept (keptX_nu _) hb).any fun _ _ => trivial⟩⟩
 exact (rdX_own (own_of h1 hw) hl h3).any fun _ _ => trivial
theorem OwR.rd {w0 w w' : World} {B : Nat} {v : Value} {L : List RwI} (h : OwR w0 w B v L) (hw : ∀ b, v.ownBlock = some b → w'.heap[b]? = w.heap[b]?) (hl : L.length ≤ 140737488355328) : RdX Tru 4 RwE w' v L := by
 obtain ⟨xs, h1, h2⟩ := h
 exact (rdX_own (own_of h1 hw) hl h2).any fun _ _ => trivial
theorem keptX_bl (P : Nat → Prop) : KeptX P BlE := keptX_pure _ _ fun _ _ => rfl
theorem ZBox.cells' {w : World} {g : Nat} (h : ZBox w g) : w.cell? ⟨g, 0, none⟩ = some (.slice none 0 0) ∧ w.cell? ⟨g, 1, none⟩ = some (.slice none 0 0) ∧ w.cell? ⟨g, 2, none⟩ = some (.int .i64 0) ∧ w.cell? ⟨g, 3, none⟩ = some (.slice none 0 0) ∧ w.cell? ⟨g, 4, none⟩ = some (.slice none 0 0) :=
 ⟨heap_cell h rfl, heap_cell h rfl, heap_cell h rfl, heap_cell h rfl, heap_cell h rfl⟩
theorem FuV.within {P Q : Nat → Prop} {w : World} {f : FuI} {fa fb fd fe : Value} (h : FuV P w f fa fb fd fe) (hq : ∀ k, P k → k < w.heap.size → Q k) : FuV Q w f fa fb fd fe :=
 ⟨h.a.mono (fun _ _ h => h) hq nu_ne, h.b.mono (fun _ _ h => h) hq nu_ne, h.d.mono (inE_mono hq) hq in_ne, h.e.mono (fun _ _ h => h) hq rw_ne⟩
theorem FuV.tru {P : Nat → Prop} {w : World} {f : FuI} {fa fb fd fe : Value} (h : FuV P w f fa fb fd fe) : FuV Tru w f fa fb fd fe :=
 ⟨h.a.any fun _ _ => trivial, h.b.any fun _ _ => trivial, h.d.mono (inE_mono fun _ _ _ => trivial) (fun _ _ _ => trivial) in_ne, h.e.any fun _ _ => trivial⟩
set_option maxHeartbeats 32000000 in
set_option maxRecDepth 100000 in
theorem trim_any {P : Nat → Prop} (f : FuI) (fa fb fd fe : Value) (w : World) (h : Hid (FuV P w f fa fb fd fe)) (hq : Hid (FuQ f)) (hcap : Hid (∀ A n cap, fb = .slice A n cap → n ≤ cap ∧ cap ≤ maxLen)) (hcp : Hid (CpQ f)) (hcl : Hid ((f.code.length + 1) * 1024 ≤ 140737488355328)) (hrn : Hid (RwN f.rows)) :
  Calls Try.prog 16 #[fuL fa fb f.ret fd fe] w fun e w' => ∃ (F : FuI) (a b d c : Value), e = .returned (fuL a b F.ret d c) ∧ FuV Tru w' F a b d c ∧ IsTrim f F ∧ Below w.heap.size w w' := by
 obtain ⟨FA, ac, hFA⟩ := h.out.a.shape
 subst hFA
 obtain ⟨FB, bc, hFB⟩ := h.out.b.shape
 subst hFB
 obtain ⟨D, dcap, hD⟩ := h.out.d.shape
 subst hD
 obtain ⟨E, ecap, hE⟩ := h.out.e.shape
 subst hE
 obtain ⟨n, hn⟩ : ∃ n, f.code.length = n := ⟨_, rfl⟩
 have HN := lhid hn
 have hcl2 := hcl.out
 have hf2 := h.out
 rw [hn] at hcl2 hf2 ⊢
 have HFU := lhid hf2
 clear hn hf2 h
 obtain ⟨B0, hB0⟩ : ∃ B, B = w.heap.size := ⟨_, rfl⟩
 go_enter Try.func16, Try.ntmps16
 go_upto_region 1 with fail
 generalize hW : World.alloc _ _ = w1
 have hB : Below B0 w w1 := by rw [← hW, hB0]; exact ((Below.refl w.heap.size w).alloc (Nat.le_refl _) _).alloc (by simp) _
 have hF : FBox w1 B0 (.slice FA f.regs.length ac) (.slice FB f.params.length bc) f.ret (.slice D n dcap) (.slice E f.rows.length ecap) := by rw [← hW, hB0]; exact (Below.heap_alloc _ _ _ (by simp)).trans (heap_alloc_new w _)
 have hZ : ZBox w1 (B0 + 1) := by rw [← hW, hB0]; exact heap_new2 w _ _
 have hs1 : w1.heap.size = B0 + 2 := by rw [← hW, hB0]; simp
 rw [← hB0]
 have HB1 := lhid hB
 have HF1 := lhid hF
 have HZ1 := lhid hZ
 have HS1 := lhid hs1
 have HB0 := lhid hB0
 have HU1 := lhid (HFU.out.below (by rw [← hB0]; exact hB))
 obtain ⟨p0, p1, p2, p3, p4⟩ := hF.cells
 clear hB hF hZ hW hs1 hB0
 go_wp2_with fail
 with_reducible refine (copy_any f _ _ _ _ w1 HU1 hcp).mono ?_
 rintro e w2 ⟨a, b, d, c, rfl, hcv, hb2⟩
 obtain ⟨CA, ca, ha⟩ := own_shape hcv.a
 obtain ⟨CB, cb, hb⟩ := own_shape hcv.b
 obtain ⟨CD, cd, hd⟩ := hcv.d.shape
 obtain ⟨CE, ce, he⟩ : ∃ A cc, c = .slice A f.rows.length cc := by obtain ⟨xs, h5, _⟩ := hcv.e; exact own_shape h5
 subst ha hb hd he
 rw [HN.out] at hcv ⊢
 have HCV := lhid hcv
 have HB2 : Hid (Below w1.heap.size w1 w2) := lhid hb2
 have HF2 : Hid (FBox w2 B0 (.slice FA f.regs.length ac) (.slice FB f.params.length bc) f.ret (.slice D n dcap) (.slice E f.rows.length ecap)) := lhid (heap_keep HF1.out hb2)
 have HZ2 : Hid (ZBox w2 (B0 + 1)) := lhid (heap_keep HZ1.out hb2)
 have hBw2 : Below B0 w w2 := HB1.out.trans (hb2.mono (by have := HS1.out; omega))
 go_upto_region 2 with fail
 generalize hW : World.alloc _ _ = w3
 generalize hG : w2.heap.size = G
 have hb23 : Below w2.heap.size w2 w3 := by rw [← hW]; exact (Below.refl _ _).alloc (Nat.le_refl _) _
 have HG3 : Hid (FBox w3 G (.slice CA f.regs.length ca) (.slice CB f.params.length cb) f.ret (.slice CD n cd) (.slice CE f.rows.length ce)) := lhid (by rw [← hW, ← hG]; exact heap_alloc_new w2 _)
 have HCV3 : Hid (CpV (B0 + 2) w3 f (.slice CA f.regs.length ca) (.slice CB f.params.length cb) (.slice CD n cd) (.slice CE f.rows.length ce)) := lhid (by rw [← HS1.out]; exact hcv.below hb23)
 have HFC3 : Hid (FuV (fun k => B0 + 2 ≤ k ∧ k < G) w3 f (.slice CA f.regs.length ca) (.slice CB f.params.length cb) (.slice CD n cd) (.slice CE f.rows.length ce)) := lhid (by
  have h9 := (hcv.fu (by have := hcp.out.regs; omega) (by have := hcp.out.params; omega) (by have := hcp.out.code; omega) (by have := hcp.out.rows; omega) (fun x hx => by have := hcp.out.args x hx; omega)).within (Q := fun k => B0 + 2 ≤ k ∧ k < G) (fun k h1 h2 => ⟨by have := HS1.out; omega, by omega⟩)
  exact h9.below hb23)
 have HF3 : Hid (FBox w3 B0 (.slice FA f.regs.length ac) (.slice FB f.params.length bc) f.ret (.slice D n dcap) (.slice E f.rows.length ecap)) := lhid (heap_keep HF2.out hb23)
 have HZ3 : Hid (ZBox w3 (B0 + 1)) := lhid (heap_keep HZ2.out hb23)
 have HBw : Hid (Below B0 w w3) := lhid (hBw2.trans (hb23.mono (by have := hBw2.size; have := HB0.out; omega)))
 have HNUM : Hid (B0 + 2 ≤ G ∧ G < w3.heap.size) := lhid ⟨by have h1 := HS1.out; have h2 := hb2.size; omega, heap_lt HG3.out⟩
 have HU3 := lhid (HFU.out.below (by rw [← HB0.out]; exact HBw.out))
 obtain ⟨z, hz⟩ : ∃ z, chkN f = z := ⟨_, rfl⟩
 have HZC := lhid hz
 obtain ⟨p0, p1, p2, p3, p4⟩ := HF3.out.cells
 clear hcv hb2 hb23 hW hG hz hBw2 HB1 HF1 HZ1 HS1 HU1 HF2 HZ2 HCV HB2
 go_wp2_with fail
 with_reducible refine (check_r f _ _ _ _ z w3 HU3 hq hcap HZC).mono ?_
 rintro e w4 ⟨rfl, hb4⟩
 have HG4 : Hid (FBox w4 G (.slice CA f.regs.length ca) (.slice CB f.params.length cb) f.ret (.slice CD n cd) (.slice CE f.rows.length ce)) := lhid (heap_keep HG3.out hb4)
 have HCV4 := lhid (HCV3.out.below hb4)
 have HFC4 := lhid (HFC3.out.below hb4)
 have HF4 : Hid (FBox w4 B0 (.slice FA f.regs.length ac) (.slice FB f.params.length bc) f.ret (.slice D n dcap) (.slice E f.rows.length ecap)) := lhid (heap_keep HF3.out hb4)
 have HZ4 : Hid (ZBox w4 (B0 + 1)) := lhid (heap_keep HZ3.out hb4)
 have HB4 : Hid (Below B0 w w4) := lhid (HBw.out.trans (hb4.mono (by have := HBw.out.size; have := HB0.out; omega)))
 have HNM4 : Hid (B0 + 2 ≤ G ∧ G < w4.heap.size) := lhid ⟨HNUM.out.1, heap_lt HG4.out⟩
 have HU4 := lhid (HU3.out.below hb4)
 clear hb4 p0 p1 p2 p3 p4 HG3 HCV3 HFC3 HF3 HZ3 HBw HNUM HU3
 by_cases hz : z = 0
 ·have hzb : (z != 0) = false := by rw [hz]; rfl
  have HZE := lhid hz
  clear hz
  obtain ⟨p0, p1, p2, p3, p4⟩ := HF4.out.cells
  go_wp2_with fail
  with_reducible refine (reach_any f _ _ _ _ w4 HU4 hcl hrn (lhid (by have := hcp.out.rows; omega))).mono ?_
  rintro e w5 ⟨g, R, rfl, hg, hr, hir, hb5⟩
  rw [HN.out] at hr ⊢
  have HRR := lhid hr
  have HIR := lhid hir
  have HG5 : Hid (FBox w5 G (.slice CA f.regs.length ca) (.slice CB f.params.length cb) f.ret (.slice CD n cd) (.slice CE f.rows.length ce)) := lhid (heap_keep HG4.out hb5)
  have HFC5 := lhid (HFC4.out.below hb5)
  have HF5 : Hid (FBox w5 B0 (.slice FA f.regs.length ac) (.slice FB f.params.length bc) f.ret (.slice D n dcap) (.slice E f.rows.length ecap)) := lhid (heap_keep HF4.out hb5)
  have HZ5 : Hid (ZBox w5 (B0 + 1)) := lhid (heap_keep HZ4.out hb5)
  have HB5 : Hid (Below B0 w w5) := lhid (HB4.out.trans (hb5.mono (by have := HB4.out.size; have := HB0.out; omega)))
  have HNM5 : Hid (B0 + 2 ≤ G ∧ G < w5.heap.size) := lhid ⟨HNM4.out.1, heap_lt HG5.out⟩
  have HU5 := lhid (HU4.out.below hb5)
  have HRL : Hid (R.length = f.code.length) := lhid hir.1
  obtain ⟨p0, p1, p2, p3, p4⟩ := HF5.out.cells
  clear hr hir hb5 HG4 HCV4 HFC4 HF4 HZ4 HB4 HU4
  go_wp2_with fail
  with_reducible refine (newPlaces_any f _ _ _ _ _ R w5 HU5 (lhid (by have := HN.out; omega)) HRR HRL).mono ?_
  rintro e w6 ⟨nv, rfl, hnv, hb6⟩
  obtain ⟨NV, nc, hnve⟩ := own_shape hnv
  subst hnve
  obtain ⟨NL, hNL⟩ : ∃ NL, (List.range (f.code.length + 1)).map (nowN f.code R) = NL := ⟨_, rfl⟩
  rw [hNL] at hnv ⊢
  have HNL := lhid hNL
  have hnl : NL.length = n + 1 := by rw [← hNL]; simp [HN.out]
  have HNV := lhid (OwN.rd hnv (by omega))
  have HRR6 := lhid (HRR.out.below (keptX_bl _) hb6)
  have HG6 : Hid (FBox w6 G (.slice CA f.regs.length ca) (.slice CB f.params.length cb) f.ret (.slice CD n cd) (.slice CE f.rows.length ce)) := lhid (heap_keep HG5.out hb6)
  have HFC6 := lhid (HFC5.out.below hb6)
  have HF6 : Hid (FBox w6 B0 (.slice FA f.regs.length ac) (.slice FB f.params.length bc) f.ret (.slice D n dcap) (.slice E f.rows.length ecap)) := lhid (heap_keep HF5.out hb6)
  have HZ6 : Hid (ZBox w6 (B0 + 1)) := lhid (heap_keep HZ5.out hb6)
  have HB6 : Hid (Below B0 w w6) := lhid (HB5.out.trans (hb6.mono (by have := HB5.out.size; have := HB0.out; omega)))
  have HNM6 : Hid (B0 + 2 ≤ G ∧ G < w6.heap.size) := lhid ⟨HNM5.out.1, heap_lt HG6.out⟩
  have HU6 := lhid (HU5.out.below hb6)
  obtain ⟨p0, p1, p2, p3, p4⟩ := HG6.out.cells
  have HNLE : Hid (NL.length = n + 1) := lhid hnl
  have HBL6 := lhid hb6
  have HNO := lhid hnv
  have HBL6sz : Hid (G < w5.heap.size) := lhid HNM5.out.2
  have HGN6 : Hid (G < g) := lhid (by have := HNM4.out; omega)
  have HFC6' : Hid (RdX (fun k => B0 + 2 ≤ k ∧ k < G) 9 (InE (fun k => B0 + 2 ≤ k ∧ k < G)) w6 (.slice CD n cd) f.code) := lhid HFC6.out.d
  clear hnv hNL hb6 hnl HG5 HFC5 HF5 HZ5 HB5 HNM5 HU5 HRR
  go_wp2_with fail
  have hc0 : chkN f = 0 := HZC.out.trans HZE.out
  with_reducible refine (trimmedCode_any f.code _ _ (nowN f.code R) w6 HFC6' (lhid (by have := HN.out; omega)) (lhid (by rw [HNL.out]; exact HNV.out)) (lhid (now_at f.code R)) (lhid (chk_leads hc0))).mono ?_
  rintro e w7 ⟨dv, rfl, hdv, hb7⟩
  obtain ⟨DA, dc, hdve⟩ : ∃ A c, dv = .slice A (trT f.code (nowN f.code R) f.code.length).length c := by obtain ⟨xs, h5, _⟩ := hdv; exact own_shape h5
  subst hdve
  obtain ⟨TL, hTL⟩ : ∃ TL, trT f.code (nowN f.code R) f.code.length = TL := ⟨_, rfl⟩
  rw [hTL] at hdv ⊢
  have HTL := lhid hTL
  have HDV := lhid hdv
  have HBL7 := lhid hb7
  have hG7 : FBox w7 G (.slice CA f.regs.length ca) (.slice CB f.params.length cb) f.ret (.slice CD n cd) (.slice CE f.rows.length ce) := heap_keep HG6.out hb7
  obtain ⟨p0, p1, p2, p3, p4⟩ := hG7.cells
  have pz := heap_thaw hG7
  have pl := heap_lt hG7
  have HG7 := lhid hG7
  have HB7 : Hid (Below B0 w w7) := lhid (HB6.out.trans (hb7.mono (by have := HB6.out.size; have := HB0.out; omega)))
  clear hdv hTL hb7 hG7 hc0
  go_upto_region 7 with fail
  generalize hW8 : World.setCell _ _ _ = w8
  have hch8 : Ch (fun k => k = G) w7 w8 := by rw [← hW8]; exact Ch.set (X := fun k => k = G) (p := ⟨G, 3, none⟩) (Ch.refl _ _) (fun _ => rfl) _
  have HCH8 := lhid hch8
  have HG8 : Hid (FBox w8 G (.slice CA f.regs.length ca) (.slice CB f.params.length cb) f.ret (.slice DA TL.length dc) (.slice CE f.rows.length ce)) := lhid (by rw [← hW8]; exact xset2 HG7.out 3 _ rfl)
  have HB8 : Hid (Below B0 w w8) := lhid (by rw [← hW8]; exact HB7.out.setCell (by have := HNM6.out; show B0 ≤ G; omega) _)
  have hF8 : FBox w8 B0 (.slice FA f.regs.length ac) (.slice FB f.params.length bc) f.ret (.slice D n dcap) (.slice E f.rows.length ecap) := hch8.keep (heap_keep HF6.out HBL7.out) (by have := HNM6.out; omega)
  have HF8 := lhid hF8
  have HU8 : Hid (FuV P w8 f (.slice FA f.regs.length ac) (.slice FB f.params.length bc) (.slice D n dcap) (.slice E f.rows.length ecap)) := lhid (HFU.out.below (by rw [← HB0.out]; exact HB8.out))
  have hch68 : Ch (fun k => k = G) w6 w8 := (Ch.of HBL7.out).trans hch8 (fun _ _ h => h)
  have HCH68 := lhid hch68
  have HRR8 := lhid (HRR6.out.kept (keptX_bl _) (w' := w8) (fun k hk hl => hch68.block k hl (by have := HGN6.out; omega)))
  have HNV8 := lhid (HNV.out.kept (keptX_nu _) (w' := w8) (fun k hk hl => hch68.block k hl (by have h1 := hk.1; have h2 := HNM6.out; have h3 := HBL6sz.out; omega)))
  obtain ⟨q0, q1, q2, q3, q4⟩ := hF8.cells
  clear hW8 hch8 hF8 hch68 p0 p1 p2 p3 p4 pz pl HF6 HB6
  go_wp2_with fail
  have hc0 : chkN f = 0 := HZC.out.trans HZE.out
  with_reducible refine (trimmedRows_any f.rows n _ _ _ R (nowN f.code R) w8 (lhid HU8.out.e) (lhid (hcp.out.rows)) (lhid (by omega)) HRR8 (lhid (by rw [HRL.out, HN.out])) (lhid (by rw [← HN.out, HNL.out]; exact HNV8.out)) (lhid (by rw [← HN.out]; exact chk_rows9 hc0))).mono ?_
  rintro e w9 ⟨ev, rfl, hev, hb9⟩
  obtain ⟨EA, ec, heve⟩ : ∃ A c, ev = .slice A (trR f.rows R (nowN f.code R) f.rows.length).length c := by obtain ⟨xs, h5, _⟩ := hev; exact own_shape h5
  subst heve
  obtain ⟨RL, hRL⟩ : ∃ RL, trR f.rows R (nowN f.code R) f.rows.length = RL := ⟨_, rfl⟩
  rw [hRL] at hev ⊢
  have HRLL := lhid hRL
  have HEV := lhid hev
  have HBL9 := lhid hb9
  have hG9 : FBox w9 G (.slice CA f.regs.length ca) (.slice CB f.params.length cb) f.ret (.slice DA TL.length dc) (.slice CE f.rows.length ce) := heap_keep HG8.out hb9
  obtain ⟨p0, p1, p2, p3, p4⟩ := hG9.cells
  have pz := heap_thaw hG9
  have pl := heap_lt hG9
  have HG9 := lhid hG9
  have HB9 : Hid (Below B0 w w9) := lhid (HB8.out.trans (hb9.mono (by have := HB8.out.size; have := HB0.out; omega)))
  clear hev hRL hb9 hG9 hc0 q0 q1 q2 q3 q4
  go_upto_region 8 with fail
  generalize hW10 : World.setCell _ _ _ = w10
  have hch10 : Ch (fun k => k = G) w9 w10 := by rw [← hW10]; exact Ch.set (X := fun k => k = G) (p := ⟨G, 4, none⟩) (Ch.refl _ _) (fun _ => rfl) _
  have hG10 : FBox w10 G (.slice CA f.regs.length ca) (.slice CB f.params.length cb) f.ret (.slice DA TL.length dc) (.slice EA RL.length ec) := by rw [← hW10]; exact xset2 HG9.out 4 _ rfl
  have HB10 : Hid (Below B0 w w10) := lhid (by rw [← hW10]; exact HB9.out.setCell (by have := HNM6.out; show B0 ≤ G; omega) _)
  have hch6 : Ch (fun k => k = G) w6 w10 := (HCH68.out.below HBL9.out).trans hch10 (fun _ _ h => h)
  have hch710 : Ch (fun k => k = G) w7 w10 := (HCH8.out.below HBL9.out).trans hch10 (fun _ _ h => h)
  have HZ10 : Hid (ZBox w10 (B0 + 1)) := lhid (hch6.keep HZ6.out (by have := HNM6.out; omega))
  obtain ⟨q0, q1, q2, q3, q4⟩ := hG10.cells
  obtain ⟨y0, y1, y2, y3, y4⟩ := HZ10.out.cells'
  have zz := heap_thaw HZ10.out
  have zl := heap_lt HZ10.out
  have HC6 := lhid hch6
  have HC7 := lhid hch710
  have HC9 := lhid hch10
  clear hW10 hch10 hG10 hch6 hch710 p0 p1 p2 p3 p4 pz pl
  go_wp2_with fail
  refine bodyPost_ret (results_cell_row rfl _ _ (B0 + 1) 27 _ _ _ rfl (five_set HZ10.out rfl _ _ _ _ _) Try.underlying27 rfl sizeFun) rfl ?_
  refine ⟨trimF f R, _, _, _, _, rfl, ?_, ⟨fun h => absurd (HZC.out.trans HZE.out) h, fun _ => ⟨R, HIR.out, rfl⟩⟩, ?_⟩
  ·have k6 : ∀ b, B0 + 2 ≤ b ∧ b < G → b < w6.heap.size → (((((w10.setCell ⟨B0 + 1, 0, none⟩ (.slice CA f.regs.length ca)).setCell ⟨B0 + 1, 1, none⟩ (.slice CB f.params.length cb)).setCell ⟨B0 + 1, 2, none⟩ (.int .i64 f.ret)).setCell ⟨B0 + 1, 3, none⟩ (.slice DA TL.length dc)).setCell ⟨B0 + 1, 4, none⟩ (.slice EA RL.length ec)).heap[b]? = w6.heap[b]? := fun b hb hl => (five_other (by omega) _ _ _ _ _).trans (HC6.out.block b hl (by omega))
   have hTL : (trimF f R).code = TL := HTL.out
   have hRL : (trimF f R).rows = RL := HRLL.out
   refine ⟨(HFC6.out.a.kept (keptX_nu _) k6).any fun _ _ => trivial, (HFC6.out.b.kept (keptX_nu _) k6).any fun _ _ => trivial, ?_, ?_⟩
   ·rw [hTL]
    refine HDV.out.rd k6 (fun b hb => ?_) ?_
    ·obtain ⟨xs, h5, _⟩ := HDV.out
     have h6 := own_lt h5 b hb
     have h7 := (h5.lt b hb).2
     exact (five_other (by have := HNM6.out; omega) _ _ _ _ _).trans (HC7.out.block b h7 (by have := HNM6.out; omega))
    ·have h5 := trT_len f.code (nowN f.code R) f.code.length
     rw [HTL.out] at h5
     have := HN.out
     omega
   ·rw [hRL]
    refine HEV.out.rd (fun b hb => ?_) ?_
    ·obtain ⟨xs, h5, _⟩ := HEV.out
     have h6 := own_lt h5 b hb
     have h7 := (h5.lt b hb).2
     have h8 := HCH68.out.size
     exact (five_other (by have := HNM6.out; omega) _ _ _ _ _).trans (HC9.out.block b h7 (by have := HNM6.out; omega))
    ·have h5 := trR_len f.rows R (nowN f.code R) f.rows.length
     rw [HRLL.out] at h5
     have := hcp.out.rows
     omega
  ·rw [← HB0.out]
   exact five_below HB10.out (by omega) _ _ _ _ _
 ·have hzb : (z != 0) = true := by rw [bne_iff_ne]; exact hz
  have HT : Hid (IsTrim f f) := lhid ⟨fun _ => rfl, fun h => absurd (HZC.out.symm.trans h) hz⟩
  clear hz
  obtain ⟨q0, q1, q2, q3, q4⟩ := HG4.out.cells
  obtain ⟨y0, y1, y2, y3, y4⟩ := HZ4.out.cells'
  have zz := heap_thaw HZ4.out
  have zl := heap_lt HZ4.out
  go_wp2_with fail
  refine bodyPost_ret (results_cell_row rfl _ _ (B0 + 1) 27 _ _ _ rfl (five_set HZ4.out rfl _ _ _ _ _) Try.underlying27 rfl sizeFun) rfl ?_
  refine ⟨f, _, _, _, _, rfl, ?_, HT.out, ?_⟩
  ·have h9 := HCV4.out.fu (by have := hcp.out.regs; omega) (by have := hcp.out.params; omega) (by have := hcp.out.code; omega) (by have := hcp.out.rows; omega) (fun x hx => by have := hcp.out.args x hx; omega)
   exact (h9.kept (fun b hb _ => five_other (by omega) _ _ _ _ _)).tru
  ·rw [← HB0.out]
   exact five_below HB4.out (by omega) _ _ _ _ _
end Go.Proofs.Ytbkeneadoccodaa
/- Fold: Pass, the program's. -/
namespace Go.Proofs.Ytbkeneadoccodaa
open Go.RowKit Go Go.Maps
set_option linter.unusedVariables false
set_option linter.unusedSimpArgs false
theorem foldF_no {f : FuI} (h : ¬ chkN f = 0) : foldF f = f := if_neg h
theorem foldF_yes {f : FuI} (h : chkN f = 0) : foldF f = foF f := if_pos h
theorem code_pos {f : FuI} (h : chkN f = 0) : 0 < f.code.length := by
 have h1 := (chk_parts h).1
 unfold codeB at h1
 simp only [Bool.and_eq_true, decide_eq_true_eq] at h1
 omega
theorem dst_def {x : InI} (h : I6 x.dst) : I6 (defI x) := by
 unfold defI
 split
 ·exact h
 ·unfold I6; omega
theorem foI_dst {K : KnF} {x : InI} (h : I6 x.dst) : I6 (foI K x).dst := by
 rcases foI_ways K x with e | ⟨n, e, _⟩ | ⟨t, e, _⟩
 ·rw [e]; exact h
 ·rw [e]; exact h
 ·rw [e]; cases t <;> (show I6 0; unfold I6; omega)
theorem foI_own {w : World} {B : Nat} {K : KnF} {x : InI} {v v' : Value} (hv : OwN w B v x.args) (h : (foI K x = x ∧ v' = v) ∨ ((foI K x).args = [] ∧ v' = .slice none 0 0)) : OwN w B v' (foI K x).args := by
 rcases h with ⟨e1, rfl⟩ | ⟨e1, rfl⟩
 ·rw [e1]; exact hv
 ·rw [e1]; exact own_nilN w B
set_option maxHeartbeats 32000000 in
set_option maxRecDepth 100000 in
theorem pass_any {P : Nat → Prop} (f : FuI) (fa fb fd fe : Value) (w : World) (h : Hid (FuV P w f fa fb fd fe)) (hq : Hid (FuQ f)) (hcap : Hid (∀ A n cap, fb = .slice A n cap → n ≤ cap ∧ cap ≤ maxLen)) (hcp : Hid (CpQ f)) (hI : Hid (∀ x ∈ f.code, I6 x.a ∧ I6 x.b ∧ I6 x.dst)) :
  Calls Try.prog 11 #[fuL fa fb f.ret fd fe] w fun e w' => ∃ a b d c, e = .returned (fuL a b (foldF f).ret d c) ∧ CpV w.heap.size w' (foldF f) a b d c ∧ Below w.heap.size w w' := by
 obtain ⟨FA, ac, hFA⟩ := h.out.a.shape
 subst hFA
 obtain ⟨FB, bc, hFB⟩ := h.out.b.shape
 subst hFB
 obtain ⟨D, dcap, hD⟩ := h.out.d.shape
 subst hD
 obtain ⟨E, ecap, hE⟩ := h.out.e.shape
 subst hE
 obtain ⟨n, hn⟩ : ∃ n, f.code.length = n := ⟨_, rfl⟩
 have HN := lhid hn
 have hf2 := h.out
 rw [hn] at hf2 ⊢
 have HFU := lhid hf2
 clear hn hf2 h
 obtain ⟨B0, hB0⟩ : ∃ B, B = w.heap.size := ⟨_, rfl⟩
 go_enter Try.func11, Try.ntmps11
 go_upto_region 1 with fail
 generalize hW : World.alloc _ _ = w1
 have hB : Below B0 w w1 := by rw [← hW, hB0]; exact ((Below.refl w.heap.size w).alloc (Nat.le_refl _) _).alloc (by simp) _
 have hF : FBox w1 B0 (.slice FA f.regs.length ac) (.slice FB f.params.length bc) f.ret (.slice D n dcap) (.slice E f.rows.length ecap) := by rw [← hW, hB0]; exact (Below.heap_alloc _ _ _ (by simp)).trans (heap_alloc_new w _)
 have hZ : ZBox w1 (B0 + 1) := by rw [← hW, hB0]; exact heap_new2 w _ _
 have hs1 : w1.heap.size = B0 + 2 := by rw [← hW, hB0]; simp
 rw [← hB0]
 have HB1 := lhid hB
 have HF1 := lhid hF
 have HZ1 := lhid hZ
 have HS1 := lhid hs1
 have HB0 := lhid hB0
 have HU1 := lhid (HFU.out.below (by rw [← hB0]; exact hB))
 obtain ⟨p0, p1, p2, p3, p4⟩ := hF.cells
 clear hB hF hZ hW hs1 hB0
 go_wp2_with fail
 with_reducible refine (copy_any f _ _ _ _ w1 HU1 hcp).mono ?_
 rintro e w2 ⟨a, b, d, c, rfl, hcv, hb2⟩
 obtain ⟨CA, ca, ha⟩ := own_shape hcv.a
 obtain ⟨CB, cb, hb⟩ := own_shape hcv.b
 obtain ⟨CDX, cd, hd⟩ := hcv.d.shape
 obtain ⟨CE, ce, he⟩ : ∃ A cc, c = .slice A f.rows.length cc := by obtain ⟨xs, h5, _⟩ := hcv.e; exact own_shape h5
 subst ha hb hd he
 rw [HN.out] at hcv ⊢
 have HF2 : Hid (FBox w2 B0 (.slice FA f.regs.length ac) (.slice FB f.params.length bc) f.ret (.slice D n dcap) (.slice E f.rows.length ecap)) := lhid (heap_keep HF1.out hb2)
 have HZ2 : Hid (ZBox w2 (B0 + 1)) := lhid (heap_keep HZ1.out hb2)
 have hBw2 : Below B0 w w2 := HB1.out.trans (hb2.mono (by have := HS1.out; omega))
 go_upto_region 2 with fail
 generalize hW : World.alloc _ _ = w3
 generalize hG : w2.heap.size = G
 have hb23 : Below w2.heap.size w2 w3 := by rw [← hW]; exact (Below.refl _ _).alloc (Nat.le_refl _) _
 have HG3 : Hid (FBox w3 G (.slice CA f.regs.length ca) (.slice CB f.params.length cb) f.ret (.slice CDX n cd) (.slice CE f.rows.length ce)) := lhid (by rw [← hW, ← hG]; exact heap_alloc_new w2 _)
 have HCV3 : Hid (CpV (B0 + 2) w3 f (.slice CA f.regs.length ca) (.slice CB f.params.length cb) (.slice CDX n cd) (.slice CE f.rows.length ce)) := lhid (by rw [← HS1.out]; exact hcv.below hb23)
 have HF3 : Hid (FBox w3 B0 (.slice FA f.regs.length ac) (.slice FB f.params.length bc) f.ret (.slice D n dcap) (.slice E f.rows.length ecap)) := lhid (heap_keep HF2.out hb23)
 have HZ3 : Hid (ZBox w3 (B0 + 1)) := lhid (heap_keep HZ2.out hb23)
 have HBw : Hid (Below B0 w w3) := lhid (hBw2.trans (hb23.mono (by have := hBw2.size; have := HB0.out; omega)))
 have HNUM : Hid (B0 + 2 ≤ G ∧ G < w3.heap.size) := lhid ⟨by have h1 := HS1.out; have h2 := hb2.size; omega, heap_lt HG3.out⟩
 have HU3 := lhid (HFU.out.below (by rw [← HB0.out]; exact HBw.out))
 obtain ⟨z, hz⟩ : ∃ z, chkN f = z := ⟨_, rfl⟩
 have HZC := lhid hz
 obtain ⟨p0, p1, p2, p3, p4⟩ := HF3.out.cells
 have HGO : Hid (∀ b, B0 + 2 ≤ b → b < w2.heap.size → b < G) := lhid (fun b _ hl => by omega)
 have HOL : Hid (∀ v l, OwN w2 (B0 + 2) v l → ∀ b, v.ownBlock = some b → b < G) := lhid (fun v l ho b hb => by have := (ho.lt b hb).2; omega)
 have HCV2 : Hid (CpV (B0 + 2) w2 f (.slice CA f.regs.length ca) (.slice CB f.params.length cb) (.slice CDX n cd) (.slice CE f.rows.length ce)) := lhid (by rw [← HS1.out]; exact hcv)
 clear hcv hb2 hb23 hW hG hz hBw2 HB1 HF1 HZ1 HS1 HU1 HF2 HZ2
 go_wp2_with fail
 with_reducible refine (check_r f _ _ _ _ z w3 HU3 hq hcap HZC).mono ?_
 rintro e w4 ⟨rfl, hb4⟩
 have HG4 : Hid (FBox w4 G (.slice CA f.regs.length ca) (.slice CB f.params.length cb) f.ret (.slice CDX n cd) (.slice CE f.rows.length ce)) := lhid (heap_keep HG3.out hb4)
 have HCV4 := lhid (HCV3.out.below hb4)
 have HF4 : Hid (FBox w4 B0 (.slice FA f.regs.length ac) (.slice FB f.params.length bc) f.ret (.slice D n dcap) (.slice E f.rows.length ecap)) := lhid (heap_keep HF3.out hb4)
 have HZ4 : Hid (ZBox w4 (B0 + 1)) := lhid (heap_keep HZ3.out hb4)
 have HB4 : Hid (Below B0 w w4) := lhid (HBw.out.trans (hb4.mono (by have := HBw.out.size; have := HB0.out; omega)))
 have HNM4 : Hid (B0 + 2 ≤ G ∧ G < w4.heap.size) := lhid ⟨HNUM.out.1, heap_lt HG4.out⟩
 have HU4 := lhid (HU3.out.below hb4)
 clear hb4 p0 p1 p2 p3 p4 HG3 HCV3 HF3 HZ3 HBw HNUM HU3
 by_cases hz : z = 0
 ·have hzb : (z != 0) = false := by rw [hz]; rfl
  have hc0 : chkN f = 0 := HZC.out.trans hz
  have HC0 := lhid hc0
  have hnp : 0 < n := by rw [← HN.out]; exact code_pos hc0
  obtain ⟨CD, hCD⟩ : ∃ CD, CDX = some ⟨CD, 0, none⟩ := by
   rcases HCV4.out.d with ⟨_, h2⟩ | ⟨g, cap, h2, _⟩
   ·have := HN.out; rw [h2] at this; simp at this; omega
   ·injection h2 with h2 _ _; exact ⟨g, h2⟩
  subst hCD
  clear hz hc0
  have HCO : Hid (CoO (B0 + 2) w4 CD cd f.code ∧ B0 + 2 ≤ CD ∧ n ≤ cd ∧ cd ≤ maxLen) := lhid (by
   rcases HCV4.out.d with ⟨h1, _⟩ | ⟨g, cap, h2, h3, h4, h5, h6⟩
   ·cases h1
   ·injection h2 with h2 _ h7
    injection h2 with h2
    injection h2 with h2 _ _
    subst h2 h7
    exact ⟨h6, h3, by rw [← HN.out]; exact h4, h5⟩)
  have HCDG : Hid (CD < G) := lhid (by
   rcases HCV2.out.d with ⟨h1, _⟩ | ⟨g, cap, h2, h3, h4, h5, h6⟩
   ·cases h1
   ·injection h2 with h2 _ h7
    injection h2 with h2
    injection h2 with h2 _ _
    subst h2
    exact HGO.out _ h3 h6.lt)
  clear HCV2 HGO HOL
  have hmk := @run_makeMap Try.prog
  go_upto_region 5 with fail
  generalize hMB : w4.heap.size = MB
  generalize hW : World.alloc _ _ = w5
  have hb5 : Below w4.heap.size w4 w5 := by rw [← hW]; exact (Below.refl _ _).alloc (Nat.le_refl _) _
  have HM5 : Hid (MI w5 MB 0 (fun _ => none)) := lhid (by rw [← hW, ← hMB]; exact mi_made w4)
  have HMB := lhid hMB
  have HG5 : Hid (FBox w5 G (.slice CA f.regs.length ca) (.slice CB f.params.length cb) f.ret (.slice (some ⟨CD, 0, none⟩) n cd) (.slice CE f.rows.length ce)) := lhid (heap_keep HG4.out hb5)
  have HF5 : Hid (FBox w5 B0 (.slice FA f.regs.length ac) (.slice FB f.params.length bc) f.ret (.slice D n dcap) (.slice E f.rows.length ecap)) := lhid (heap_keep HF4.out hb5)
  have HCV5 := lhid (HCV4.out.below hb5)
  have HZ5 : Hid (ZBox w5 (B0 + 1)) := lhid (heap_keep HZ4.out hb5)
  have HCO5 : Hid (CoO (B0 + 2) w5 CD cd f.code) := lhid (HCO.out.1.below hb5)
  have HB5 : Hid (Below B0 w w5) := lhid (HB4.out.trans (hb5.mono (by have := HB4.out.size; have := HB0.out; omega)))
  have HU5 := lhid (HU4.out.below hb5)
  have HNM5 : Hid (B0 + 2 ≤ G ∧ G < MB) := lhid ⟨HNM4.out.1, by rw [← hMB]; exact heap_lt HG4.out⟩
  clear hW hMB hb5 HG4 HCV4 HF4 HZ4 HB4 HU4 hmk
  obtain ⟨p0, p1, p2, p3, p4⟩ := HF5.out.cells
  go_wp2_with fail
  with_reducible refine (heads_any f _ _ _ _ w5 HU5 (lhid hcp.out.code)).mono ?_
  rintro e wh ⟨hv0, rfl, ho, hbh⟩
  obtain ⟨nL, hnL⟩ : ∃ nL, (headsL f).length = nL := ⟨_, rfl⟩
  have hms : MB < w5.heap.size := HM5.out.lt
  have HHO : Hid (∃ hb c, hv0 = .slice (some ⟨hb, 0, none⟩) nL c ∧ nL ≤ c ∧ c ≤ maxLen ∧ w5.heap.size ≤ hb ∧ ∀ i r, (headsL f)[i]? = some r → wh.cell? ⟨hb, i, none⟩ = some (.int .i64 r)) := lhid (by
   rcases ho.2 with ⟨h1, h2⟩ | ⟨g, cap, cur, h1, h2, h3, h4, h5, _⟩
   ·have h0 : hmB f 0 = true := by unfold hmB hmL; simp
    have := (hd_next (f := f) (k := 0) (by rw [HN.out]; exact hnp)).1 h0
    rw [List.length_eq_zero_iff.1 h2] at this
    cases this
   ·refine ⟨g, cap, by rw [h1, hnL], by rw [← hnL]; exact h4, h5, h2, fun i r hi => ?_⟩
    have hil := (List.getElem?_eq_some_iff.1 hi).1
    subst h1
    rw [ho.cellAt i (by omega)]
    rw [List.getElem?_map, hi]
    rfl)
  obtain ⟨hb, hc, hhv, hhc, hhm, hhb, hcells⟩ := HHO.out
  have HHC := lhid hcells
  have HV0 : Hid (HdV hv0 hb nL 0) := lhid ⟨_, hc, by rw [hhv, Nat.sub_zero], by omega, hhm, fun _ => rfl⟩
  clear HHO hcells
  have HMh := lhid (HM5.out.below hbh)
  have HGh : Hid (FBox wh G (.slice CA f.regs.length ca) (.slice CB f.params.length cb) f.ret (.slice (some ⟨CD, 0, none⟩) n cd) (.slice CE f.rows.length ce)) := lhid (heap_keep HG5.out hbh)
  have HCVh := lhid (HCV5.out.below hbh)
  have HZh : Hid (ZBox wh (B0 + 1)) := lhid (heap_keep HZ5.out hbh)
  have HCOh : Hid (CoO (B0 + 2) wh CD cd f.code) := lhid (HCO5.out.below hbh)
  have HBh : Hid (Below B0 w wh) := lhid (HB5.out.trans (hbh.mono (by have := HB5.out.size; have := HB0.out; omega)))
  have HHB : Hid (MB < hb) := lhid (by omega)
  have HNL := lhid hnL
  obtain ⟨C0, hC0⟩ : ∃ C0, C0 = B0 + 2 := ⟨_, rfl⟩
  rw [← hC0] at HCOh
  have HC0e := lhid hC0
  clear ho hnL hbh hms hhv hhc hhm hhb HM5 HG5 HCV5 HZ5 HCO5 HB5 HU5 p0 p1 p2 p3 p4 HF5 hC0
  obtain ⟨p0, p1, p2, p3, p4⟩ := HGh.out.cells
  go_wp2_with fail
  go_loopw [5, 20] (fun hv i wr => ∃ k : Nat, i = .int .i64 k ∧ k ≤ n ∧ Hid (HdV hv hb nL (hdT f k).length) ∧ Hid (MI wr MB k (fun s => (foS f k s).map vI)) ∧ Hid (CoO C0 wr CD cd (foP f k)) ∧ Hid (Ch (fun b => b = MB ∨ b = CD) wh wr)) (fun _ i _ => n - (intOf i).toNat)
  case atStart => exact ⟨0, rfl, Nat.zero_le _, HV0, HMh, lhid (by rw [foP_zero]; exact HCOh.out), lhid (Ch.refl _ _)⟩
  case round =>
   clear HV0 p0 p1 p2 p3 p4
   obtain ⟨k, rfl, hk, HV, HM, HC, HCH⟩ := hrel
   have HTOP : Hid (MB < wr.heap.size ∧ CD < MB ∧ G < MB ∧ hb < wr.heap.size) := lhid (by
    have h1 := HM.out.lt
    have h2 := HCDG.out
    have h3 := HNM5.out.2
    have h4 := HHC.out 0 0 (by
     have := (hd_next (f := f) (k := 0) (by rw [HN.out]; exact hnp)).1 (by unfold hmB hmL; simp)
     exact this)
    have h5 := cell_lt h4
    have h6 := HCH.out.size
    exact ⟨h1, by omega, h3, Nat.lt_of_lt_of_le h5 h6⟩)
   by_cases hlt : k < n
   ·
    obtain ⟨x, hx⟩ : ∃ x, f.code[k]? = some x := ⟨_, List.getElem?_eq_getElem (by rw [HN.out]; exact hlt)⟩
    obtain ⟨v, hov, c0, c1, c2, c3, c4, c5, c6, c7, c8⟩ := HC.out.at_ (foP_get hx (Nat.le_refl _))
    obtain ⟨VX, vx, hvx⟩ := own_shape hov
    subst hvx
    have k3 : (k : Int) < n := by omega
    have HK1 : Hid (k + 1 ≤ n ∧ n - (k + 1) < n - k) := lhid ⟨hlt, by omega⟩
    have HX := lhid hx
    have HOV := lhid hov
    have hwk : wrap64 ((k : Int) + 1) = (k : Int) + 1 := IntWalk.wrap64_in _ (by have := hcp.out.code; have := HN.out; omega)
    obtain ⟨hG0, hG1, hG2, hG3, hG4⟩ := (show FBox wr G (.slice CA f.regs.length ca) (.slice CB f.params.length cb) f.ret (.slice (some ⟨CD, 0, none⟩) n cd) (.slice CE f.rows.length ce) from HCH.out.keep HGh.out (by have := HTOP.out; have := HCDG.out; omega)).cells
    clear hx hov
    go_upto_region 9 with fail
    generalize hW : World.alloc _ _ = w8
    obtain ⟨XB, hXB⟩ : ∃ XB, XB = wr.heap.size := ⟨_, rfl⟩
    try rw [← hXB]
    have hb8 : Below wr.heap.size wr w8 := by rw [← hW]; exact (Below.refl _ _).alloc (Nat.le_refl _) _
    have HX8 : Hid (XBox w8 XB x.op x.dst x.a x.b x.c x.num x.too x.ref (.slice VX x.args.length vx)) := lhid (by rw [← hW, hXB]; exact heap_alloc_new wr _)
    have HM8 := lhid (HM.out.below hb8)
    have HC8 : Hid (CoO C0 w8 CD cd (foP f k)) := lhid (HC.out.below hb8)
    have HOV8 : Hid (OwN w8 C0 (.slice VX x.args.length vx) x.args) := lhid (own_below HOV.out hb8)
    have HCH8 : Hid (Ch (fun b => b = MB ∨ b = CD) wh w8) := lhid (HCH.out.below hb8)
    have HXB : Hid (MB < XB ∧ CD < XB ∧ G < XB ∧ hb < XB ∧ wh.heap.size ≤ XB) := lhid (by have h1 := HTOP.out; have h2 := HCH.out.size; omega)
    have HHC8 : Hid (∀ i r, (headsL f)[i]? = some r → w8.cell? ⟨hb, i, none⟩ = some (.int .i64 r)) := lhid (fun i r hi => by
     have h1 := HHC.out i r hi
     have h2 := HHB.out
     have h3 := HTOP.out
     exact (cell_heap (HCH8.out.block hb (cell_lt h1) (by omega)) i).trans h1)
    clear hW hb8 hXB c0 c1 c2 c3 c4 c5 c6 c7 c8 hG0 hG1 hG2 hG3 hG4 HM HC HCH HOV
    obtain ⟨tb, htb⟩ : ∃ tb, hmB f k = tb := ⟨_, rfl⟩
    have HTB := lhid htb
    clear htb
    go_cut [34] from 21 to 49 (fun v34 wx => v34 = .bool tb ∧ w8 = wx)
    case first =>
     obtain ⟨A, c, hhv, hc1, hc2, hA⟩ := HV.out
     obtain ⟨j, hj⟩ : ∃ j, (hdT f k).length = j := ⟨_, rfl⟩
     obtain ⟨m, hmm⟩ : ∃ m, nL - j = m := ⟨_, rfl⟩
     rw [hj, hmm] at hc1 hhv
     subst hhv
     cases tb with
     | true =>
      have hLj := (hd_next (f := f) (k := k) (by rw [HN.out]; exact hlt)).1 HTB.out
      rw [hj] at hLj hA
      have hjl : j < nL := by rw [← HNL.out]; exact (List.getElem?_eq_some_iff.1 hLj).1
      have hA := hA hjl
      subst hA
      have hcell := HHC8.out _ _ hLj
      have m1 : (0 : Int) < m := by omega
      clear hj hmm hLj hjl
      go_wp2_with fail
      go_meet
      case rel => exact ⟨rfl, rfl⟩
     | false =>
      rw [hj] at hA
      by_cases hjl : j < nL
      ·have hA := hA hjl
       subst hA
       obtain ⟨r, hr⟩ : ∃ r, (headsL f)[j]? = some r := ⟨_, List.getElem?_eq_getElem (by rw [HNL.out]; exact hjl)⟩
       have hcell := HHC8.out _ _ hr
       have hrk : (r == (k : Int)) = false := by
        rw [beq_eq_false_iff_ne]
        intro e
        subst e
        have := (hd_next (f := f) (k := k) (by rw [HN.out]; exact hlt)).2 (by rw [hj]; exact hr)
        rw [HTB.out] at this
        cases this
       have m1 : (0 : Int) < m := by omega
       clear hj hmm hr hjl
       go_wp2_with fail
       go_meet
       case rel => exact ⟨rfl, rfl⟩
      ·have m0 : m = 0 := by omega
       subst m0
       clear hj hmm
       go_wp2_with fail
       go_meet
       case rel => exact ⟨rfl, rfl⟩
    case rest =>
     obtain ⟨rfl, hww⟩ := hcut
     subst hww
     go_upto_if 34 with fail
     go_cut [5] from 21 to 49 (fun v5 wx => Hid (HdV v5 hb nL (hdT f (k + 1)).length) ∧ Hid (MI wx MB k (fun s => (foH f k s).map vI)) ∧ Hid (Ch (fun b => b = MB) w8 wx))
     case first =>
      cases tb with
      | true =>
       obtain ⟨A, c, hhv, hc1, hc2, hA⟩ := HV.out
       obtain ⟨j, hj⟩ : ∃ j, (hdT f k).length = j := ⟨_, rfl⟩
       obtain ⟨m, hmm⟩ : ∃ m, nL - j = m := ⟨_, rfl⟩
       rw [hj, hmm] at hc1 hhv
       subst hhv
       have hLj := (hd_next (f := f) (k := k) (by rw [HN.out]; exact hlt)).1 HTB.out
       rw [hj] at hLj hA
       have hjl : j < nL := by rw [← HNL.out]; exact (List.getElem?_eq_some_iff.1 hLj).1
       have hA := hA hjl
       subst hA
       have m2 : (1 : Int) ≤ m := by omega
       have m3 : (m : Int) ≤ c := by omega
       have m4 : 1 ≤ m := by omega
       go_wp2_with (refine wpList_clear_mi _ rfl (.tmp 35) 55 rfl 2 Try.underlying55 MB k _ rfl HM8.out ?_)
       intro w9 hm9 hg9 hs9
       have HM9 := lhid (hm9.mono (Nat.zero_le k))
       have HC9 : Hid (Ch (fun b => b = MB) w8 w9) := lhid ((Ch.refl _ w8).grown hg9 (fun b e _ => by injection e with e; exact e.symm))
       have HJ := lhid hj
       have HMM := lhid hmm
       have HHM := lhid (HV.out)
       have HFH : Hid (∀ s, (foH f k s).map vI = none) := lhid (fun s => by unfold foH; rw [HTB.out]; rfl)
       have HHD : Hid ((hdT f (k + 1)).length = j + 1) := lhid (by rw [hdT_yes HTB.out, List.length_append, hj]; rfl)
       have HJL := lhid hjl
       have HCC : Hid (HdV (.slice (some ⟨hb, j, none⟩) (nL - j) c) hb nL j) := lhid ⟨_, c, rfl, by omega, hc2, fun _ => rfl⟩
       clear hm9 hg9 hs9 hj hmm hLj
       have hcm : c = 1 ∨ ¬ c = 1 := by omega
       rcases hcm with rfl | hcm
       ·obtain rfl : m = 1 := by omega
        go_wp2_with fail
        go_meet
        case rel =>
         refine ⟨lhid ?_, lhid (HM9.out.ext fun s => (HFH.out s).symm), HC9⟩
         rw [HHD.out]
         refine HCC.out.next HJL.out _ ?_
         rw [if_pos rfl, ← Nat.sub_sub, HMM.out]
       ·go_wp2_with fail
        go_meet
        case rel =>
         refine ⟨lhid ?_, lhid (HM9.out.ext fun s => (HFH.out s).symm), HC9⟩
         rw [HHD.out]
         refine HCC.out.next HJL.out _ ?_
         rw [if_neg hcm, ← Nat.sub_sub, HMM.out]
      | false =>
       go_wp2_with fail
       go_meet
       case rel =>
        have e1 : (hdT f (k + 1)).length = (hdT f k).length := by rw [hdT_no HTB.out]
        refine ⟨lhid (by rw [e1]; exact HV.out), lhid (HM8.out.ext fun s => ?_), lhid (Ch.refl _ _)⟩
        unfold foH
        rw [HTB.out]
        rfl
     case rest =>
      obtain ⟨HV9, HM9, HCm⟩ := hcut
      have HX9 : Hid (XBox wc XB x.op x.dst x.a x.b x.c x.num x.too x.ref (.slice VX x.args.length vx)) := lhid (HCm.out.keep HX8.out (by have := HXB.out; omega))
      have HC9 : Hid (CoO C0 wc CD cd (foP f k)) := lhid (HC8.out.chm HM8.out HCm.out)
      have HOV9 : Hid (OwN wc C0 (.slice VX x.args.length vx) x.args) := lhid (own_chm HOV8.out HM8.out HCm.out)
      have HCH9 : Hid (Ch (fun b => b = MB ∨ b = CD) wh wc) := lhid (HCH8.out.trans HCm.out (fun b _ e => .inl e))
      have HIX := lhid (hI.out x (List.mem_of_getElem? HX.out))
      have HQX := lhid (hq.out.num x (List.mem_of_getElem? HX.out))
      clear HV HX8 HM8 HC8 HOV8 HCH8 HHC8 HCm
      obtain ⟨x0, x1, x2, x3, x4, x5, x6, x7, x8⟩ := HX9.out.cells
      have xz := heap_thaw HX9.out
      obtain ⟨y, hy⟩ : ∃ y, foI (foH f k) x = y := ⟨_, rfl⟩
      have HY := lhid hy
      clear hy
      go_upto_region 12 with fail
      go_wp2_with fail
      with_reducible refine (folded_c (foH f k) x (.slice VX x.args.length vx) MB k wc HM9 (lhid ⟨HIX.out.1, HIX.out.2.1⟩) HQX ⟨_, _, _, rfl⟩).mono ?_
      rintro e w10 ⟨v', rfl, hv', hb10⟩
      rw [HY.out]
      have hov' := foI_own HOV9.out hv'
      rw [HY.out] at hov'
      obtain ⟨VY, vy, hvy⟩ := own_shape hov'
      subst hvy
      have HX10 : Hid (XBox w10 XB x.op x.dst x.a x.b x.c x.num x.too x.ref (.slice VX x.args.length vx)) := lhid (heap_keep HX9.out hb10)
      have HC10 : Hid (CoO C0 w10 CD cd (foP f k)) := lhid (HC9.out.below hb10)
      have HO10 := lhid (own_below hov' hb10)
      have HM10 := lhid (HM9.out.below hb10)
      have HCH10 : Hid (Ch (fun b => b = MB ∨ b = CD) wh w10) := lhid (HCH9.out.below hb10)
      clear hb10 hv' hov' x0 x1 x2 x3 x4 x5 x6 x7 x8 xz HX9 HC9 HOV9 HCH9 HM9
      obtain ⟨x0, x1, x2, x3, x4, x5, x6, x7, x8⟩ := HX10.out.cells
      have xz := heap_thaw HX10.out
      go_upto_region 13 with fail
      generalize hW : World.setCell _ _ _ = w11
      have HX11 : Hid (XBox w11 XB y.op y.dst y.a y.b y.c y.num y.too y.ref (.slice VY y.args.length vy)) := lhid (by rw [← hW]; exact nine_set HX10.out rfl _ _ _ _ _ _ _ _ _)
      have hc11 : Ch (fun b => b = XB) w10 w11 := by rw [← hW]; exact set9_ch (X := fun b => b = XB) (o := 0) (Ch.refl _ w10) (fun _ => rfl) _ _ _ _ _ _ _ _ _
      have HC11 : Hid (CoO C0 w11 CD cd (foP f k)) := lhid (HC10.out.chi HX10.out (by have := HXB.out; omega) hc11)
      have HO11 : Hid (OwN w11 C0 (.slice VY y.args.length vy) y.args) := lhid (own_ch HO10.out hc11 (fun b hb e => own_apart HO10.out HX10.out b hb e))
      have HM11 := lhid (HM10.out.ch hc11 (show ¬ MB = XB by have := HXB.out; omega))
      have HCH11 : Hid (Ch (fun b => b = MB ∨ b = CD) wh w11) := lhid (HCH10.out.trans hc11 (fun b hb e => absurd hb (by have := HXB.out; omega)))
      clear hW hc11 x0 x1 x2 x3 x4 x5 x6 x7 x8 xz HX10 HC10 HO10 HM10 HCH10
      obtain ⟨x0, x1, x2, x3, x4, x5, x6, x7, x8⟩ := HX11.out.cells
      have HDY : Hid (I6 (defI y)) := lhid (by rw [← HY.out]; exact dst_def (foI_dst HIX.out.2.2))
      go_wp2_with fail
      with_reducible refine (note_c (foH f k) y (.slice VY y.args.length vy) MB k w11 HM11 (lhid (by have := hcp.out.code; have := HN.out; unfold maxLen; omega)) HDY).mono ?_
      rintro e w12 ⟨rfl, hm12, hc12⟩
      have HM12 := lhid hm12
      have HX12 : Hid (XBox w12 XB y.op y.dst y.a y.b y.c y.num y.too y.ref (.slice VY y.args.length vy)) := lhid (hc12.keep HX11.out (by have := HXB.out; omega))
      have HC12 : Hid (CoO C0 w12 CD cd (foP f k)) := lhid (HC11.out.chm HM11.out hc12)
      have HO12 : Hid (OwN w12 C0 (.slice VY y.args.length vy) y.args) := lhid (own_chm HO11.out HM11.out hc12)
      have HCH12 : Hid (Ch (fun b => b = MB ∨ b = CD) wh w12) := lhid (HCH11.out.trans hc12 (fun b _ e => .inl e))
      obtain ⟨hG0, hG1, hG2, hG3, hG4⟩ := (show FBox w12 G (.slice CA f.regs.length ca) (.slice CB f.params.length cb) f.ret (.slice (some ⟨CD, 0, none⟩) n cd) (.slice CE f.rows.length ce) from HCH12.out.keep HGh.out (by have := HTOP.out; have := HCDG.out; omega)).cells
      obtain ⟨v9, _, c0, c1, c2, c3, c4, c5, c6, c7, c8⟩ := HC12.out.at_ (foP_get HX.out (Nat.le_refl _))
      have cz := HC12.out.thaw
      clear hm12 hc12 x0 x1 x2 x3 x4 x5 x6 x7 x8 HX11 HC11 HO11 HM11 HCH11
      obtain ⟨x0, x1, x2, x3, x4, x5, x6, x7, x8⟩ := HX12.out.cells
      go_upto_region 15 with fail
      generalize hW : World.setCell _ _ _ = w13
      have hset : CoO C0 w13 CD cd ((foP f k).set k y) := by rw [← hW]; exact HC12.out.put9 (by rw [foP_len, HN.out]; exact hlt) HO12.out
      have HC13 : Hid (CoO C0 w13 CD cd (foP f (k + 1))) := lhid (by rw [foP_succ HX.out, HY.out]; exact hset)
      have hc13 : Ch (fun b => b = CD) w12 w13 := by rw [← hW]; exact set9_ch (X := fun b => b = CD) (o := k * 9) (Ch.refl _ w12) (fun _ => rfl) _ _ _ _ _ _ _ _ _
      have HM13 : Hid (MI w13 MB (k + 1) (fun s => (foS f (k + 1) s).map vI)) := lhid (by rw [foS_succ HX.out, HY.out]; exact HM12.out.ch hc13 (show ¬ MB = CD by have := HTOP.out; omega))
      have HCH13 : Hid (Ch (fun b => b = MB ∨ b = CD) wh w13) := lhid (HCH12.out.trans hc13 (fun b _ e => .inr e))
      clear hW hset hc13 x0 x1 x2 x3 x4 x5 x6 x7 x8 c0 c1 c2 c3 c4 c5 c6 c7 c8 cz hG0 hG1 hG2 hG3 hG4 HX12 HC12 HO12 HM12 HCH12
      go_wp2_with fail
      go_roundw
      case rel => exact ⟨k + 1, by go_num, HK1.out.1, HV9, HM13, HC13, HCH13⟩
      case measure => (rw [hwk]; exact HK1.out.2)
   ·
    have k3 : ¬ (k : Int) < n := by omega
    have hkn : k = n := by omega
    have HCN : Hid (CoO C0 wr CD cd (foC f)) := lhid (by rw [← foP_all, HN.out, ← hkn]; exact HC.out)
    have HZr : Hid (ZBox wr (B0 + 1)) := lhid (HCH.out.keep HZh.out (by have := HTOP.out; have := HNM5.out; have := HC0e.out; have := HCO.out.2.1; omega))
    obtain ⟨p0, p1, p2, p3, p4⟩ := (show FBox wr G (.slice CA f.regs.length ca) (.slice CB f.params.length cb) f.ret (.slice (some ⟨CD, 0, none⟩) n cd) (.slice CE f.rows.length ce) from HCH.out.keep HGh.out (by have := HTOP.out; have := HCDG.out; omega)).cells
    obtain ⟨q0, q1, q2, q3, q4⟩ := HZr.out.cells'
    have zz := heap_thaw HZr.out
    clear hkn
    go_wp2_with fail
    refine bodyPost_ret (results_cell_row rfl _ _ (B0 + 1) 27 _ _ _ rfl (five_set HZr.out rfl _ _ _ _ _) Try.underlying27 rfl sizeFun) rfl ?_
    rw [foldF_yes HC0.out]
    obtain ⟨xe, oE0, rE⟩ := HCVh.out.e
    obtain ⟨cur, hblk⟩ := HCOh.out.blk
    have oA : OwN wr (B0 + 2) (.slice CA f.regs.length ca) f.regs := own_ch HCVh.out.a HCH.out (fun b hb e => e.elim (row_no_map HCVh.out.a HMh.out b hb) (own_apart HCVh.out.a hblk b hb))
    have oB : OwN wr (B0 + 2) (.slice CB f.params.length cb) f.params := own_ch HCVh.out.b HCH.out (fun b hb e => e.elim (row_no_map HCVh.out.b HMh.out b hb) (own_apart HCVh.out.b hblk b hb))
    have oE := own_ch oE0 HCH.out (fun b hb e => e.elim (row_no_map oE0 HMh.out b hb) (own_apart_rw oE0 hblk b hb))
    have oD : CodeO (B0 + 2) wr (.slice (some ⟨CD, 0, none⟩) n cd) (foC f) := .inr ⟨CD, cd, by rw [foC_len, HN.out], HCO.out.2.1, by rw [foC_len, HN.out]; exact HCO.out.2.2.1, HCO.out.2.2.2, by rw [← HC0e.out]; exact HCN.out.done⟩
    have keep : ∀ b, B0 + 2 ≤ b → b ≠ B0 + 1 := fun b hb => by omega
    refine ⟨_, _, _, _, rfl, ⟨own_base (own_of oA fun b hb => five_other (keep b (own_lt oA b hb)) _ _ _ _ _) (by rw [← HB0.out]; omega), own_base (own_of oB fun b hb => five_other (keep b (own_lt oB b hb)) _ _ _ _ _) (by rw [← HB0.out]; omega), (oD.keep fun b hb _ => five_other (keep b hb) _ _ _ _ _).base (by rw [← HB0.out]; omega), xe, own_base (own_of oE fun b hb => five_other (keep b (own_lt oE b hb)) _ _ _ _ _) (by rw [← HB0.out]; omega), rE⟩, ?_⟩
    have hbw : Below B0 w wr := HBh.out.trans (HCH.out.to (by have := HTOP.out; have := HNM5.out; have := HHB.out; have := HMh.out.lt; omega) (fun b e => by have := HNM5.out; have := HCO.out.2.1; omega))
    have hbf := five_below (R := B0 + 1) hbw (by omega) (.slice CA f.regs.length ca) (.slice CB f.params.length cb) (.int .i64 f.ret) (.slice (some ⟨CD, 0, none⟩) n cd) (.slice CE f.rows.length ce)
    rw [HB0.out] at hbf ⊢
    exact hbf
 ·have hzb : (z != 0) = true := by rw [bne_iff_ne]; exact hz
  have HZE := lhid (show ¬ chkN f = 0 by rw [HZC.out]; exact hz)
  clear hz
  obtain ⟨p0, p1, p2, p3, p4⟩ := HG4.out.cells
  obtain ⟨q0, q1, q2, q3, q4⟩ := HZ4.out.cells'
  have zz := heap_thaw HZ4.out
  go_wp2_with fail
  refine bodyPost_ret (results_cell_row rfl _ _ (B0 + 1) 27 _ _ _ rfl (five_set HZ4.out rfl _ _ _ _ _) Try.underlying27 rfl sizeFun) rfl ?_
  rw [foldF_no HZE.out]
  obtain ⟨xe, oE, rE⟩ := HCV4.out.e
  have oA := HCV4.out.a
  have oB := HCV4.out.b
  have oD := HCV4.out.d
  have keep : ∀ b, B0 + 2 ≤ b → b ≠ B0 + 1 := fun b hb => by omega
  refine ⟨_, _, _, _, rfl, ⟨own_base (own_of oA fun b hb => five_other (keep b (own_lt oA b hb)) _ _ _ _ _) (by rw [← HB0.out]; omega), own_base (own_of oB fun b hb => five_other (keep b (own_lt oB b hb)) _ _ _ _ _) (by rw [← HB0.out]; omega), (oD.keep fun b hb _ => five_other (keep b hb) _ _ _ _ _).base (by rw [← HB0.out]; omega), xe, own_base (own_of oE fun b hb => five_other (keep b (own_lt oE b hb)) _ _ _ _ _) (by rw [← HB0.out]; omega), rE⟩, ?_⟩
  have hbf := five_below (R := B0 + 1) HB4.out (by omega) (.slice CA f.regs.length ca) (.slice CB f.params.length cb) (.int .i64 f.ret) (.slice CDX n cd) (.slice CE f.rows.length ce)
  rw [HB0.out] at hbf ⊢
  exact hbf
end Go.Proofs.Ytbkeneadoccodaa
/- Law 11's own example: a way, nothing that is trimmed. -/
namespace Go.Proofs.Ytbkeneadoccodaa
open Go.RowKit Go
set_option linter.unusedVariables false
set_option linter.unusedSimpArgs false
abbrev bareC (x : InI) : List Value := [.int .i64 x.op, .int .i64 x.dst, .int .i64 x.a, .int .i64 x.b, .int .i64 x.c, .int .i64 x.num, .int .i64 x.too, .string ⟨#[]⟩, .slice none 0 0]
theorem bare_in {w : World} {x : InI} (hr : x.ref = []) (ha : x.args = []) : InE Tru w x (bareC x) := ⟨.slice none 0 0, by rw [hr]; rfl, by rw [ha]; exact rdX_nil _ _ _ _ _ _ (fun _ => rfl)⟩
theorem bare_rd {w : World} {l : List InI} {g : Nat} {T : TypeId} (hl : ∀ x ∈ l, x.ref = [] ∧ x.args = []) (hg : w.heap[g]? = some (.cells (l.flatMap bareC).toArray T (0, 0))) (hn : l.length ≤ 140737488355328) : RdX Tru 9 (InE Tru) w (.slice (some ⟨g, 0, none⟩) l.length l.length) l := by
 have key : ∀ (l : List InI) (i : Nat) (a : InI), l[i]? = some a → ∀ (j : Nat) u, (bareC a)[j]? = some u → (l.flatMap bareC)[i * 9 + j]? = some u := by
  intro l
  induction l with
  | nil => intro i a h; simp at h
  | cons x l ih =>
   intro i a hi j u hj
   rw [List.flatMap_cons]
   cases i with
   | zero =>
    simp at hi
    subst hi
    have hj9 : j < (bareC x).length := (List.getElem?_eq_some_iff.1 hj).1
    rw [Nat.zero_mul, Nat.zero_add, List.getElem?_append_left hj9]
    exact hj
   | succ i =>
    have h1 := ih i a (by simpa using hi) j u hj
    have e9 : (bareC x).length = 9 := rfl
    rw [List.getElem?_append_right (by rw [e9]; omega), e9, show (i + 1) * 9 + j - 9 = i * 9 + j by omega]
    exact h1
 refine ⟨_, _, rfl, fun e => (by cases e), hn, fun i a hi => ⟨g, 0, bareC a, rfl, trivial, ?_, fun j u hj => ?_⟩⟩
 ·have := hl a (List.mem_of_getElem? hi)
  exact bare_in this.1 this.2
 ·refine heap_cell hg ?_
  have := key l i a hi j u hj
  rw [Nat.zero_add]
  simpa using this
abbrev F2 : FuI := ⟨[], [], 0, [nop0, ret0], []⟩
theorem rwn_nil : RwN [] := by
 unfold RwN
 simp
end Go.Proofs.Ytbkeneadoccodaa
/- Fold: law 15's own example. -/
namespace Go.Proofs.Ytbkeneadoccodaa
open Go.RowKit Go
set_option linter.unusedVariables false
set_option linter.unusedSimpArgs false
abbrev h0 : InI := ⟨1, 0, 0, 0, 0, 2, 0, [], []⟩
abbrev h1 : InI := ⟨1, 1, 0, 0, 0, 3, 0, [], []⟩
abbrev h2 : InI := ⟨5, 2, 0, 1, 0, 104, 0, [], []⟩
abbrev h3 : InI := ⟨30, 0, 2, 0, 0, 0, 0, [], []⟩
abbrev FH : FuI := ⟨[1, 1, 1], [], 1, [h0, h1, h2, h3], []⟩
theorem chk_FH : chkN FH = 0 := by decide +kernel
theorem fold_FH : (foldF FH).code[2]? = some (cstI 2 6) := by
 rw [foldF_yes chk_FH]
 kernel_rfl
theorem fq_FH : FuQ FH := ⟨fun x hx => by
  simp at hx
  rcases hx with rfl | rfl | rfl | rfl <;> (unfold I64; decide), fun x hx => by
  simp at hx
  rcases hx with rfl | rfl | rfl | rfl <;> simp⟩
theorem cp_FH : CpQ FH := ⟨by decide, by decide, by decide, by decide, fun x hx => by
  simp at hx
  rcases hx with rfl | rfl | rfl | rfl <;> decide⟩
theorem i6_FH : ∀ x ∈ FH.code, I6 x.a ∧ I6 x.b ∧ I6 x.dst := fun x hx => by
  simp at hx
  rcases hx with rfl | rfl | rfl | rfl <;> (unfold I6; decide)
theorem lit_nu {w : World} {g : Nat} {l : List Int} {cs : Array Value} {T : TypeId} (h : w.heap[g]? = some (.cells cs T (0, 0))) (hc : cs.toList = l.map vI) (hl : l.length ≤ 140737488355328) : RdX Tru 1 NuE w (.slice (some ⟨g, 0, none⟩) l.length l.length) l := by
 refine ⟨_, _, rfl, fun e => (by cases e), hl, fun i a hi => ⟨g, 0, [.int .i64 a], rfl, trivial, rfl, fun j u hj => ?_⟩⟩
 cases j with
 | succ j => simp at hj
 | zero =>
  simp at hj
  subst hj
  rw [Nat.zero_add, Nat.mul_one, Nat.add_zero]
  refine heap_cell h ?_
  rw [← Array.getElem?_toList, hc, List.getElem?_map, hi]
  rfl
set_option maxHeartbeats 16000000 in
set_option maxRecDepth 100000 in
theorem holds15_any (w : World) : Calls Try.prog 10 #[] w fun e w' => e = .returned (.bool true) ∧ Below w.heap.size w w' := by
 go_enter Try.func10, Try.ntmps10
 go_wp2_with fail
 generalize hW : World.alloc _ _ = w1
 obtain ⟨B0, hB0⟩ : ∃ B0, B0 = w.heap.size := ⟨_, rfl⟩
 try rw [← hB0]
 have hb1 : Below B0 w w1 := by rw [← hW, hB0]; exact ((Below.refl w.heap.size w).alloc (Nat.le_refl _) _).alloc (by simp) _
 have hg1 : w1.heap[B0 + 1]? = some (.cells ([h0, h1, h2, h3].flatMap bareC).toArray 29 (0, 0)) := by rw [← hW, hB0]; exact heap_new2 w _ _
 have hr1 : w1.heap[B0]? = some (.cells #[.int .i64 1, .int .i64 1, .int .i64 1] 3 (0, 0)) := by rw [← hW, hB0]; exact (Below.heap_alloc _ _ _ (by simp)).trans (heap_alloc_new w _)
 have HU1 : Hid (FuV Tru w1 FH (.slice (some ⟨B0, 0, none⟩) 3 3) (.slice none 0 0) (.slice (some ⟨B0 + 1, 0, none⟩) 4 4) (.slice none 0 0)) := lhid ⟨lit_nu (l := [1, 1, 1]) hr1 rfl (by simp), rdX_nil _ _ _ _ _ _ (fun _ => rfl), bare_rd (l := [h0, h1, h2, h3]) (by simp) hg1 (by simp), rdX_nil _ _ _ _ _ _ (fun _ => rfl)⟩
 have HB1 := lhid hb1
 have HE0 := lhid hB0
 have HL1 := lhid (heap_lt hr1)
 clear hW hb1 hg1 hr1 hB0
 with_reducible refine (pass_any FH _ _ _ _ w1 HU1 (lhid fq_FH) nil_cap (lhid cp_FH) (lhid i6_FH)).mono ?_
 rintro e w2 ⟨a, b, d, c, rfl, hcv, hb2⟩
 obtain ⟨F, hF⟩ : ∃ F, foldF FH = F := ⟨_, rfl⟩
 have h2 : F.code[2]? = some (cstI 2 6) := by rw [← hF]; exact fold_FH
 have hl : F.code.length = 4 := by rw [← hF, foldF_yes chk_FH]; rfl
 rw [hF] at hcv ⊢
 obtain ⟨CA, ca, ha⟩ := own_shape hcv.a
 obtain ⟨CB, cb, hb⟩ := own_shape hcv.b
 obtain ⟨CE, ce, he⟩ : ∃ A cc, c = .slice A F.rows.length cc := by obtain ⟨xs, h5, _⟩ := hcv.e; exact own_shape h5
 subst ha hb he
 obtain ⟨g, cd, hd, hco⟩ : ∃ g cd, d = .slice (some ⟨g, 0, none⟩) 4 cd ∧ CoO w1.heap.size w2 g cd F.code := by
  rcases hcv.d with ⟨_, h7⟩ | ⟨g, cap, h7, _, _, _, h8⟩
  ·rw [h7] at hl; cases hl
  ·exact ⟨g, cap, by rw [h7, hl], h8⟩
 subst hd
 obtain ⟨v, _, c0, c1, c2, c3, c4, c5, c6, c7, c8⟩ := hco.at_ h2
 have HB2 : Hid (Below B0 w w2) := lhid (HB1.out.trans (hb2.mono (by have := HL1.out; omega)))
 have HC : Hid (w2.cell? ⟨g, 18, none⟩ = some (.int .i64 1) ∧ w2.cell? ⟨g, 19, none⟩ = some (.int .i64 2) ∧ w2.cell? ⟨g, 23, none⟩ = some (.int .i64 6)) := lhid ⟨c0, c1, c5⟩
 have HGL : Hid (g < w2.heap.size) := lhid hco.lt
 generalize F.regs.length = na
 generalize F.params.length = nb
 generalize F.rows.length = ne
 generalize F.ret = nr
 clear c0 c1 c2 c3 c4 c5 c6 c7 c8 hcv hb2 hF h2 hl hco HU1 HB1 HL1
 go_upto_region 2 with fail
 generalize hW : World.alloc _ _ = w3
 obtain ⟨X, hX⟩ : ∃ X, X = w2.heap.size := ⟨_, rfl⟩
 try rw [← hX]
 have hb3 : Below w2.heap.size w2 w3 := by rw [← hW]; exact (Below.refl _ _).alloc (Nat.le_refl _) _
 have hX3 : w3.heap[X]? = some (.cells #[.slice CA na ca, .slice CB nb cb, .int .i64 nr, .slice (some ⟨g, 0, none⟩) 4 cd, .slice CE ne ce] 27 (0, 0)) := by rw [← hW, hX]; exact heap_alloc_new w2 _
 have x3 := heap_cell (i := 3) hX3 rfl
 have d0 : w3.cell? ⟨g, 18, none⟩ = some (.int .i64 1) := (hb3.cell (p := ⟨g, 18, none⟩) HGL.out).trans HC.out.1
 have d1 : w3.cell? ⟨g, 19, none⟩ = some (.int .i64 2) := (hb3.cell (p := ⟨g, 19, none⟩) HGL.out).trans HC.out.2.1
 have d5 : w3.cell? ⟨g, 23, none⟩ = some (.int .i64 6) := (hb3.cell (p := ⟨g, 23, none⟩) HGL.out).trans HC.out.2.2
 have HB3 : Hid (Below B0 w w3) := lhid (HB2.out.trans (hb3.mono (by have := HB2.out.size; have := HE0.out; omega)))
 clear hW hX hb3 hX3 HB2 HC HGL
 go_wp2_with fail
 go_ret
 exact ⟨rfl, by rw [← HE0.out]; exact HB3.out⟩
end Go.Proofs.Ytbkeneadoccodaa
