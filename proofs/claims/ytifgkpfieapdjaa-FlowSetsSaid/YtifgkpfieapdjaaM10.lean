/- Texts of this claim, joined: FlwTrim, FlwHold, FlwBlk0, FlwLight, FlwBit, FlwUnset, FlwBlocks, FlwRAll, FlwRRch, FlwRchN. -/
import Derived.Test.YtifgkpfieapdjaaJFlwReach
import Derived.Test.YtifgkpfieapdjaaM8
import Derived.Test.YtifgkpfieapdjaaJFlwRows
import Derived.Test.YtifgkpfieapdjaaM9
import Derived.Test.YtifgkpfieapdjaaJInsChecks
import Derived.Test.YtifgkpfieapdjaaJFlwIMap
import Derived.Laws.OwnMore
import Derived.Deep.Cut
import Derived.Deep.CutRange
import Derived.Deep.CutBlock
import Derived.Test.YtifgkpfieapdjaaJFlwSpreadS
import Derived.Test.YtifgkpfieapdjaaM3
import Derived.Test.YtifgkpfieapdjaaQuietT
/- A function trimmed: the program's Trim. -/
namespace Go.Proofs.Ytifgkpfieapdjaa
open Go.RowKit Go
set_option linter.unusedVariables false
set_option linter.unusedSimpArgs false

/-- A well formed function trimmed, by what can be reached. -/
def trimF (f : FuI) (R : List Bool) : FuI := ⟨f.regs, f.params, f.ret, trT f.code (nowN f.code R) f.code.length, trR f.rows R (nowN f.code R) f.rows.length⟩
def IsTrim (f F : FuI) : Prop := (chkN f ≠ 0 → F = f) ∧ (chkN f = 0 → ∃ R, IsReach f R ∧ F = trimF f R)
theorem chk_parts {f : FuI} (h : chkN f = 0) : codeB f = true ∧ rowsB f = true := by
  unfold chkN checkB at h
  cases h1 : (regsB f && codeB f && rowsB f) with
  | false => rw [h1] at h; simp at h
  | true => simp only [Bool.and_eq_true] at h1; exact ⟨h1.1.2, h1.2⟩
theorem chk_leads {f : FuI} (h : chkN f = 0) : ∀ x ∈ f.code, leadsB x.op = true → 0 ≤ x.too ∧ x.too < f.code.length := by
  intro x hx hl
  have hc := (chk_parts h).1
  unfold codeB at hc
  simp only [Bool.and_eq_true, List.all_eq_true, List.mem_range] at hc
  obtain ⟨i, hi, rfl⟩ := List.getElem_of_mem hx
  have h1 := hc.2 i hi
  rw [List.getElem?_eq_getElem hi] at h1
  simp only [oneB, Bool.and_eq_true, Bool.or_eq_true, hl] at h1
  have h2 := h1.1.2
  simp at h2
  exact ⟨h2.1.1, h2.1.2⟩
theorem chk_rows9 {f : FuI} (h : chkN f = 0) : ∀ r ∈ f.rows, (0 ≤ r.fr ∧ r.fr ≤ f.code.length) ∧ (0 ≤ r.too ∧ r.too ≤ f.code.length) ∧ 0 ≤ r.at_ ∧ r.at_ < f.code.length := by
  intro r hr
  have hc := (chk_parts h).2
  unfold rowsB at hc
  rw [List.all_eq_true] at hc
  have h1 := hc r hr
  unfold rowB at h1
  simp only [Bool.and_eq_true, decide_eq_true_eq] at h1
  omega
theorem OwC.rd {P : Nat → Prop} {w0 w w' : World} {B : Nat} {v : Value} {L : List InI} (h : OwC P w0 w B v L) (hb : ∀ b, P b → b < w0.heap.size → w'.heap[b]? = w0.heap[b]?) (hw : ∀ b, v.ownBlock = some b → w'.heap[b]? = w.heap[b]?) (hl : L.length ≤ 140737488355328) : RdX Tru 9 (InE Tru) w' v L := by
  obtain ⟨xs, h1, h2⟩ := h
  have h3 : RowsE 9 (InE Tru w') L xs := ⟨h2.1, fun i a hi => by
    obtain ⟨c, h4, h5⟩ := h2.2 i a hi
    refine ⟨c, ?_, h5⟩
    obtain ⟨u, h6, h7⟩ := h4
    exact ⟨u, h6, (h7.kept (keptX_nu _) hb).any fun _ _ => trivial⟩⟩
  exact (rdX_own (own_of h1 hw) hl h3).any fun _ _ => trivial
theorem OwR.rd {w0 w w' : World} {B : Nat} {v : Value} {L : List RwI} (h : OwR w0 w B v L) (hw : ∀ b, v.ownBlock = some b → w'.heap[b]? = w.heap[b]?) (hl : L.length ≤ 140737488355328) : RdX Tru 4 RwE w' v L := by
  obtain ⟨xs, h1, h2⟩ := h
  exact (rdX_own (own_of h1 hw) hl h2).any fun _ _ => trivial
theorem keptX_bl (P : Nat → Prop) : KeptX P BlE := keptX_pure _ _ fun _ _ => rfl
theorem ZBox.cells' {w : World} {g : Nat} (h : ZBox w g) : w.cell? ⟨g, 0, none⟩ = some (.slice none 0 0) ∧ w.cell? ⟨g, 1, none⟩ = some (.slice none 0 0) ∧ w.cell? ⟨g, 2, none⟩ = some (.int .i64 0) ∧ w.cell? ⟨g, 3, none⟩ = some (.slice none 0 0) ∧ w.cell? ⟨g, 4, none⟩ = some (.slice none 0 0) :=
  ⟨heap_cell h rfl, heap_cell h rfl, heap_cell h rfl, heap_cell h rfl, heap_cell h rfl⟩
theorem FuV.within {P Q : Nat → Prop} {w : World} {f : FuI} {fa fb fd fe : Value} (h : FuV P w f fa fb fd fe) (hq : ∀ k, P k → k < w.heap.size → Q k) : FuV Q w f fa fb fd fe :=
  ⟨h.a.mono (fun _ _ h => h) hq nu_ne, h.b.mono (fun _ _ h => h) hq nu_ne, h.d.mono (inE_mono hq) hq in_ne, h.e.mono (fun _ _ h => h) hq rw_ne⟩
theorem FuV.tru {P : Nat → Prop} {w : World} {f : FuI} {fa fb fd fe : Value} (h : FuV P w f fa fb fd fe) : FuV Tru w f fa fb fd fe :=
  ⟨h.a.any fun _ _ => trivial, h.b.any fun _ _ => trivial, h.d.mono (inE_mono fun _ _ _ => trivial) (fun _ _ _ => trivial) in_ne, h.e.any fun _ _ => trivial⟩
set_option maxHeartbeats 32000000 in
set_option maxRecDepth 100000 in
theorem trim_any {P : Nat → Prop} (f : FuI) (fa fb fd fe : Value) (w : World) (h : Hid (FuV P w f fa fb fd fe)) (hq : Hid (FuQ f)) (hcap : Hid (∀ A n cap, fb = .slice A n cap → n ≤ cap ∧ cap ≤ maxLen)) (hcp : Hid (CpQ f)) (hcl : Hid ((f.code.length + 1) * 1024 ≤ 140737488355328)) (hrn : Hid (RwN f.rows)) :
    Calls Try.prog 13 #[fuL fa fb f.ret fd fe] w fun e w' => ∃ (F : FuI) (a b d c : Value), e = .returned (fuL a b F.ret d c) ∧ FuV Tru w' F a b d c ∧ IsTrim f F ∧ Below w.heap.size w w' := by
  obtain ⟨FA, ac, hFA⟩ := h.out.a.shape
  subst hFA
  obtain ⟨FB, bc, hFB⟩ := h.out.b.shape
  subst hFB
  obtain ⟨D, dcap, hD⟩ := h.out.d.shape
  subst hD
  obtain ⟨E, ecap, hE⟩ := h.out.e.shape
  subst hE
  obtain ⟨n, hn⟩ : ∃ n, f.code.length = n := ⟨_, rfl⟩
  have HN := lhid hn
  have hcl2 := hcl.out
  have hf2 := h.out
  rw [hn] at hcl2 hf2 ⊢
  have HFU := lhid hf2
  clear hn hf2 h
  obtain ⟨B0, hB0⟩ : ∃ B, B = w.heap.size := ⟨_, rfl⟩
  go_enter Try.func13, Try.ntmps13
  go_upto_region 1 with fail
  generalize hW : World.alloc _ _ = w1
  have hB : Below B0 w w1 := by rw [← hW, hB0]; exact ((Below.refl w.heap.size w).alloc (Nat.le_refl _) _).alloc (by simp) _
  have hF : FBox w1 B0 (.slice FA f.regs.length ac) (.slice FB f.params.length bc) f.ret (.slice D n dcap) (.slice E f.rows.length ecap) := by rw [← hW, hB0]; exact (Below.heap_alloc _ _ _ (by simp)).trans (heap_alloc_new w _)
  have hZ : ZBox w1 (B0 + 1) := by rw [← hW, hB0]; exact heap_new2 w _ _
  have hs1 : w1.heap.size = B0 + 2 := by rw [← hW, hB0]; simp
  rw [← hB0]
  have HB1 := lhid hB
  have HF1 := lhid hF
  have HZ1 := lhid hZ
  have HS1 := lhid hs1
  have HB0 := lhid hB0
  have HU1 := lhid (HFU.out.below (by rw [← hB0]; exact hB))
  obtain ⟨p0, p1, p2, p3, p4⟩ := hF.cells
  clear hB hF hZ hW hs1 hB0
  go_wp2_with fail
  with_reducible refine (copy_any f _ _ _ _ w1 HU1 hcp).mono ?_
  rintro e w2 ⟨a, b, d, c, rfl, hcv, hb2⟩
  obtain ⟨CA, ca, ha⟩ := own_shape hcv.a
  obtain ⟨CB, cb, hb⟩ := own_shape hcv.b
  obtain ⟨CD, cd, hd⟩ := hcv.d.shape
  obtain ⟨CE, ce, he⟩ : ∃ A cc, c = .slice A f.rows.length cc := by obtain ⟨xs, h5, _⟩ := hcv.e; exact own_shape h5
  subst ha hb hd he
  rw [HN.out] at hcv ⊢
  have HCV := lhid hcv
  have HB2 : Hid (Below w1.heap.size w1 w2) := lhid hb2
  have HF2 : Hid (FBox w2 B0 (.slice FA f.regs.length ac) (.slice FB f.params.length bc) f.ret (.slice D n dcap) (.slice E f.rows.length ecap)) := lhid (heap_keep HF1.out hb2)
  have HZ2 : Hid (ZBox w2 (B0 + 1)) := lhid (heap_keep HZ1.out hb2)
  have hBw2 : Below B0 w w2 := HB1.out.trans (hb2.mono (by have := HS1.out; omega))
  go_upto_region 2 with fail
  generalize hW : World.alloc _ _ = w3
  generalize hG : w2.heap.size = G
  have hb23 : Below w2.heap.size w2 w3 := by rw [← hW]; exact (Below.refl _ _).alloc (Nat.le_refl _) _
  have HG3 : Hid (FBox w3 G (.slice CA f.regs.length ca) (.slice CB f.params.length cb) f.ret (.slice CD n cd) (.slice CE f.rows.length ce)) := lhid (by rw [← hW, ← hG]; exact heap_alloc_new w2 _)
  have HCV3 : Hid (CpV (B0 + 2) w3 f (.slice CA f.regs.length ca) (.slice CB f.params.length cb) (.slice CD n cd) (.slice CE f.rows.length ce)) := lhid (by rw [← HS1.out]; exact hcv.below hb23)
  have HFC3 : Hid (FuV (fun k => B0 + 2 ≤ k ∧ k < G) w3 f (.slice CA f.regs.length ca) (.slice CB f.params.length cb) (.slice CD n cd) (.slice CE f.rows.length ce)) := lhid (by
    have h9 := (hcv.fu (by have := hcp.out.regs; omega) (by have := hcp.out.params; omega) (by have := hcp.out.code; omega) (by have := hcp.out.rows; omega) (fun x hx => by have := hcp.out.args x hx; omega)).within (Q := fun k => B0 + 2 ≤ k ∧ k < G) (fun k h1 h2 => ⟨by have := HS1.out; omega, by omega⟩)
    exact h9.below hb23)
  have HF3 : Hid (FBox w3 B0 (.slice FA f.regs.length ac) (.slice FB f.params.length bc) f.ret (.slice D n dcap) (.slice E f.rows.length ecap)) := lhid (heap_keep HF2.out hb23)
  have HZ3 : Hid (ZBox w3 (B0 + 1)) := lhid (heap_keep HZ2.out hb23)
  have HBw : Hid (Below B0 w w3) := lhid (hBw2.trans (hb23.mono (by have := hBw2.size; have := HB0.out; omega)))
  have HNUM : Hid (B0 + 2 ≤ G ∧ G < w3.heap.size) := lhid ⟨by have h1 := HS1.out; have h2 := hb2.size; omega, heap_lt HG3.out⟩
  have HU3 := lhid (HFU.out.below (by rw [← HB0.out]; exact HBw.out))
  obtain ⟨z, hz⟩ : ∃ z, chkN f = z := ⟨_, rfl⟩
  have HZC := lhid hz
  obtain ⟨p0, p1, p2, p3, p4⟩ := HF3.out.cells
  clear hcv hb2 hb23 hW hG hz hBw2 HB1 HF1 HZ1 HS1 HU1 HF2 HZ2 HCV HB2
  go_wp2_with fail
  with_reducible refine (check_r f _ _ _ _ z w3 HU3 hq hcap HZC).mono ?_
  rintro e w4 ⟨rfl, hb4⟩
  have HG4 : Hid (FBox w4 G (.slice CA f.regs.length ca) (.slice CB f.params.length cb) f.ret (.slice CD n cd) (.slice CE f.rows.length ce)) := lhid (heap_keep HG3.out hb4)
  have HCV4 := lhid (HCV3.out.below hb4)
  have HFC4 := lhid (HFC3.out.below hb4)
  have HF4 : Hid (FBox w4 B0 (.slice FA f.regs.length ac) (.slice FB f.params.length bc) f.ret (.slice D n dcap) (.slice E f.rows.length ecap)) := lhid (heap_keep HF3.out hb4)
  have HZ4 : Hid (ZBox w4 (B0 + 1)) := lhid (heap_keep HZ3.out hb4)
  have HB4 : Hid (Below B0 w w4) := lhid (HBw.out.trans (hb4.mono (by have := HBw.out.size; have := HB0.out; omega)))
  have HNM4 : Hid (B0 + 2 ≤ G ∧ G < w4.heap.size) := lhid ⟨HNUM.out.1, heap_lt HG4.out⟩
  have HU4 := lhid (HU3.out.below hb4)
  clear hb4 p0 p1 p2 p3 p4 HG3 HCV3 HFC3 HF3 HZ3 HBw HNUM HU3
  by_cases hz : z = 0
  · have hzb : (z != 0) = false := by rw [hz]; rfl
    have HZE := lhid hz
    clear hz
    obtain ⟨p0, p1, p2, p3, p4⟩ := HF4.out.cells
    go_wp2_with fail
    with_reducible refine (reach_any f _ _ _ _ w4 HU4 hcl hrn (lhid (by have := hcp.out.rows; omega))).mono ?_
    rintro e w5 ⟨g, R, rfl, hg, hr, hir, hb5⟩
    rw [HN.out] at hr ⊢
    have HRR := lhid hr
    have HIR := lhid hir
    have HG5 : Hid (FBox w5 G (.slice CA f.regs.length ca) (.slice CB f.params.length cb) f.ret (.slice CD n cd) (.slice CE f.rows.length ce)) := lhid (heap_keep HG4.out hb5)
    have HFC5 := lhid (HFC4.out.below hb5)
    have HF5 : Hid (FBox w5 B0 (.slice FA f.regs.length ac) (.slice FB f.params.length bc) f.ret (.slice D n dcap) (.slice E f.rows.length ecap)) := lhid (heap_keep HF4.out hb5)
    have HZ5 : Hid (ZBox w5 (B0 + 1)) := lhid (heap_keep HZ4.out hb5)
    have HB5 : Hid (Below B0 w w5) := lhid (HB4.out.trans (hb5.mono (by have := HB4.out.size; have := HB0.out; omega)))
    have HNM5 : Hid (B0 + 2 ≤ G ∧ G < w5.heap.size) := lhid ⟨HNM4.out.1, heap_lt HG5.out⟩
    have HU5 := lhid (HU4.out.below hb5)
    have HRL : Hid (R.length = f.code.length) := lhid hir.1
    obtain ⟨p0, p1, p2, p3, p4⟩ := HF5.out.cells
    clear hr hir hb5 HG4 HCV4 HFC4 HF4 HZ4 HB4 HU4
    go_wp2_with fail
    with_reducible refine (newPlaces_any f _ _ _ _ _ R w5 HU5 (lhid (by have := HN.out; omega)) HRR HRL).mono ?_
    rintro e w6 ⟨nv, rfl, hnv, hb6⟩
    obtain ⟨NV, nc, hnve⟩ := own_shape hnv
    subst hnve
    obtain ⟨NL, hNL⟩ : ∃ NL, (List.range (f.code.length + 1)).map (nowN f.code R) = NL := ⟨_, rfl⟩
    rw [hNL] at hnv ⊢
    have HNL := lhid hNL
    have hnl : NL.length = n + 1 := by rw [← hNL]; simp [HN.out]
    have HNV := lhid (OwN.rd hnv (by omega))
    have HRR6 := lhid (HRR.out.below (keptX_bl _) hb6)
    have HG6 : Hid (FBox w6 G (.slice CA f.regs.length ca) (.slice CB f.params.length cb) f.ret (.slice CD n cd) (.slice CE f.rows.length ce)) := lhid (heap_keep HG5.out hb6)
    have HFC6 := lhid (HFC5.out.below hb6)
    have HF6 : Hid (FBox w6 B0 (.slice FA f.regs.length ac) (.slice FB f.params.length bc) f.ret (.slice D n dcap) (.slice E f.rows.length ecap)) := lhid (heap_keep HF5.out hb6)
    have HZ6 : Hid (ZBox w6 (B0 + 1)) := lhid (heap_keep HZ5.out hb6)
    have HB6 : Hid (Below B0 w w6) := lhid (HB5.out.trans (hb6.mono (by have := HB5.out.size; have := HB0.out; omega)))
    have HNM6 : Hid (B0 + 2 ≤ G ∧ G < w6.heap.size) := lhid ⟨HNM5.out.1, heap_lt HG6.out⟩
    have HU6 := lhid (HU5.out.below hb6)
    obtain ⟨p0, p1, p2, p3, p4⟩ := HG6.out.cells
    have HNLE : Hid (NL.length = n + 1) := lhid hnl
    have HBL6 := lhid hb6
    have HNO := lhid hnv
    have HBL6sz : Hid (G < w5.heap.size) := lhid HNM5.out.2
    have HGN6 : Hid (G < g) := lhid (by have := HNM4.out; omega)
    have HFC6' : Hid (RdX (fun k => B0 + 2 ≤ k ∧ k < G) 9 (InE (fun k => B0 + 2 ≤ k ∧ k < G)) w6 (.slice CD n cd) f.code) := lhid HFC6.out.d
    clear hnv hNL hb6 hnl HG5 HFC5 HF5 HZ5 HB5 HNM5 HU5 HRR
    go_wp2_with fail
    have hc0 : chkN f = 0 := HZC.out.trans HZE.out
    with_reducible refine (trimmedCode_any f.code _ _ (nowN f.code R) w6 HFC6' (lhid (by have := HN.out; omega)) (lhid (by rw [HNL.out]; exact HNV.out)) (lhid (now_at f.code R)) (lhid (chk_leads hc0))).mono ?_
    rintro e w7 ⟨dv, rfl, hdv, hb7⟩
    obtain ⟨DA, dc, hdve⟩ : ∃ A c, dv = .slice A (trT f.code (nowN f.code R) f.code.length).length c := by obtain ⟨xs, h5, _⟩ := hdv; exact own_shape h5
    subst hdve
    obtain ⟨TL, hTL⟩ : ∃ TL, trT f.code (nowN f.code R) f.code.length = TL := ⟨_, rfl⟩
    rw [hTL] at hdv ⊢
    have HTL := lhid hTL
    have HDV := lhid hdv
    have HBL7 := lhid hb7
    have hG7 : FBox w7 G (.slice CA f.regs.length ca) (.slice CB f.params.length cb) f.ret (.slice CD n cd) (.slice CE f.rows.length ce) := heap_keep HG6.out hb7
    obtain ⟨p0, p1, p2, p3, p4⟩ := hG7.cells
    have pz := heap_thaw hG7
    have pl := heap_lt hG7
    have HG7 := lhid hG7
    have HB7 : Hid (Below B0 w w7) := lhid (HB6.out.trans (hb7.mono (by have := HB6.out.size; have := HB0.out; omega)))
    clear hdv hTL hb7 hG7 hc0
    go_upto_region 7 with fail
    generalize hW8 : World.setCell _ _ _ = w8
    have hch8 : Ch (fun k => k = G) w7 w8 := by rw [← hW8]; exact Ch.set (X := fun k => k = G) (p := ⟨G, 3, none⟩) (Ch.refl _ _) (fun _ => rfl) _
    have HCH8 := lhid hch8
    have HG8 : Hid (FBox w8 G (.slice CA f.regs.length ca) (.slice CB f.params.length cb) f.ret (.slice DA TL.length dc) (.slice CE f.rows.length ce)) := lhid (by rw [← hW8]; exact xset2 HG7.out 3 _ rfl)
    have HB8 : Hid (Below B0 w w8) := lhid (by rw [← hW8]; exact HB7.out.setCell (by have := HNM6.out; show B0 ≤ G; omega) _)
    have hF8 : FBox w8 B0 (.slice FA f.regs.length ac) (.slice FB f.params.length bc) f.ret (.slice D n dcap) (.slice E f.rows.length ecap) := hch8.keep (heap_keep HF6.out HBL7.out) (by have := HNM6.out; omega)
    have HF8 := lhid hF8
    have HU8 : Hid (FuV P w8 f (.slice FA f.regs.length ac) (.slice FB f.params.length bc) (.slice D n dcap) (.slice E f.rows.length ecap)) := lhid (HFU.out.below (by rw [← HB0.out]; exact HB8.out))
    have hch68 : Ch (fun k => k = G) w6 w8 := (Ch.of HBL7.out).trans hch8 (fun _ _ h => h)
    have HCH68 := lhid hch68
    have HRR8 := lhid (HRR6.out.kept (keptX_bl _) (w' := w8) (fun k hk hl => hch68.block k hl (by have := HGN6.out; omega)))
    have HNV8 := lhid (HNV.out.kept (keptX_nu _) (w' := w8) (fun k hk hl => hch68.block k hl (by have h1 := hk.1; have h2 := HNM6.out; have h3 := HBL6sz.out; omega)))
    obtain ⟨q0, q1, q2, q3, q4⟩ := hF8.cells
    clear hW8 hch8 hF8 hch68 p0 p1 p2 p3 p4 pz pl HF6 HB6
    go_wp2_with fail
    have hc0 : chkN f = 0 := HZC.out.trans HZE.out
    with_reducible refine (trimmedRows_any f.rows n _ _ _ R (nowN f.code R) w8 (lhid HU8.out.e) (lhid (hcp.out.rows)) (lhid (by omega)) HRR8 (lhid (by rw [HRL.out, HN.out])) (lhid (by rw [← HN.out, HNL.out]; exact HNV8.out)) (lhid (by rw [← HN.out]; exact chk_rows9 hc0))).mono ?_
    rintro e w9 ⟨ev, rfl, hev, hb9⟩
    obtain ⟨EA, ec, heve⟩ : ∃ A c, ev = .slice A (trR f.rows R (nowN f.code R) f.rows.length).length c := by obtain ⟨xs, h5, _⟩ := hev; exact own_shape h5
    subst heve
    obtain ⟨RL, hRL⟩ : ∃ RL, trR f.rows R (nowN f.code R) f.rows.length = RL := ⟨_, rfl⟩
    rw [hRL] at hev ⊢
    have HRLL := lhid hRL
    have HEV := lhid hev
    have HBL9 := lhid hb9
    have hG9 : FBox w9 G (.slice CA f.regs.length ca) (.slice CB f.params.length cb) f.ret (.slice DA TL.length dc) (.slice CE f.rows.length ce) := heap_keep HG8.out hb9
    obtain ⟨p0, p1, p2, p3, p4⟩ := hG9.cells
    have pz := heap_thaw hG9
    have pl := heap_lt hG9
    have HG9 := lhid hG9
    have HB9 : Hid (Below B0 w w9) := lhid (HB8.out.trans (hb9.mono (by have := HB8.out.size; have := HB0.out; omega)))
    clear hev hRL hb9 hG9 hc0 q0 q1 q2 q3 q4
    go_upto_region 8 with fail
    generalize hW10 : World.setCell _ _ _ = w10
    have hch10 : Ch (fun k => k = G) w9 w10 := by rw [← hW10]; exact Ch.set (X := fun k => k = G) (p := ⟨G, 4, none⟩) (Ch.refl _ _) (fun _ => rfl) _
    have hG10 : FBox w10 G (.slice CA f.regs.length ca) (.slice CB f.params.length cb) f.ret (.slice DA TL.length dc) (.slice EA RL.length ec) := by rw [← hW10]; exact xset2 HG9.out 4 _ rfl
    have HB10 : Hid (Below B0 w w10) := lhid (by rw [← hW10]; exact HB9.out.setCell (by have := HNM6.out; show B0 ≤ G; omega) _)
    have hch6 : Ch (fun k => k = G) w6 w10 := (HCH68.out.below HBL9.out).trans hch10 (fun _ _ h => h)
    have hch710 : Ch (fun k => k = G) w7 w10 := (HCH8.out.below HBL9.out).trans hch10 (fun _ _ h => h)
    have HZ10 : Hid (ZBox w10 (B0 + 1)) := lhid (hch6.keep HZ6.out (by have := HNM6.out; omega))
    obtain ⟨q0, q1, q2, q3, q4⟩ := hG10.cells
    obtain ⟨y0, y1, y2, y3, y4⟩ := HZ10.out.cells'
    have zz := heap_thaw HZ10.out
    have zl := heap_lt HZ10.out
    have HC6 := lhid hch6
    have HC7 := lhid hch710
    have HC9 := lhid hch10
    clear hW10 hch10 hG10 hch6 hch710 p0 p1 p2 p3 p4 pz pl
    go_wp2_with fail
    refine bodyPost_ret (results_cell_row rfl _ _ (B0 + 1) 26 _ _ _ rfl (five_set HZ10.out rfl _ _ _ _ _) Try.underlying26 rfl sizeFun) rfl ?_
    refine ⟨trimF f R, _, _, _, _, rfl, ?_, ⟨fun h => absurd (HZC.out.trans HZE.out) h, fun _ => ⟨R, HIR.out, rfl⟩⟩, ?_⟩
    · have k6 : ∀ b, B0 + 2 ≤ b ∧ b < G → b < w6.heap.size → (((((w10.setCell ⟨B0 + 1, 0, none⟩ (.slice CA f.regs.length ca)).setCell ⟨B0 + 1, 1, none⟩ (.slice CB f.params.length cb)).setCell ⟨B0 + 1, 2, none⟩ (.int .i64 f.ret)).setCell ⟨B0 + 1, 3, none⟩ (.slice DA TL.length dc)).setCell ⟨B0 + 1, 4, none⟩ (.slice EA RL.length ec)).heap[b]? = w6.heap[b]? := fun b hb hl => (five_other (by omega) _ _ _ _ _).trans (HC6.out.block b hl (by omega))
      have hTL : (trimF f R).code = TL := HTL.out
      have hRL : (trimF f R).rows = RL := HRLL.out
      refine ⟨(HFC6.out.a.kept (keptX_nu _) k6).any fun _ _ => trivial, (HFC6.out.b.kept (keptX_nu _) k6).any fun _ _ => trivial, ?_, ?_⟩
      · rw [hTL]
        refine HDV.out.rd k6 (fun b hb => ?_) ?_
        · obtain ⟨xs, h5, _⟩ := HDV.out
          have h6 := own_lt h5 b hb
          have h7 := (h5.lt b hb).2
          exact (five_other (by have := HNM6.out; omega) _ _ _ _ _).trans (HC7.out.block b h7 (by have := HNM6.out; omega))
        · have h5 := trT_len f.code (nowN f.code R) f.code.length
          rw [HTL.out] at h5
          have := HN.out
          omega
      · rw [hRL]
        refine HEV.out.rd (fun b hb => ?_) ?_
        · obtain ⟨xs, h5, _⟩ := HEV.out
          have h6 := own_lt h5 b hb
          have h7 := (h5.lt b hb).2
          have h8 := HCH68.out.size
          exact (five_other (by have := HNM6.out; omega) _ _ _ _ _).trans (HC9.out.block b h7 (by have := HNM6.out; omega))
        · have h5 := trR_len f.rows R (nowN f.code R) f.rows.length
          rw [HRLL.out] at h5
          have := hcp.out.rows
          omega
    · rw [← HB0.out]
      exact five_below HB10.out (by omega) _ _ _ _ _
  · have hzb : (z != 0) = true := by rw [bne_iff_ne]; exact hz
    have HT : Hid (IsTrim f f) := lhid ⟨fun _ => rfl, fun h => absurd (HZC.out.symm.trans h) hz⟩
    clear hz
    obtain ⟨q0, q1, q2, q3, q4⟩ := HG4.out.cells
    obtain ⟨y0, y1, y2, y3, y4⟩ := HZ4.out.cells'
    have zz := heap_thaw HZ4.out
    have zl := heap_lt HZ4.out
    go_wp2_with fail
    refine bodyPost_ret (results_cell_row rfl _ _ (B0 + 1) 26 _ _ _ rfl (five_set HZ4.out rfl _ _ _ _ _) Try.underlying26 rfl sizeFun) rfl ?_
    refine ⟨f, _, _, _, _, rfl, ?_, HT.out, ?_⟩
    · have h9 := HCV4.out.fu (by have := hcp.out.regs; omega) (by have := hcp.out.params; omega) (by have := hcp.out.code; omega) (by have := hcp.out.rows; omega) (fun x hx => by have := hcp.out.args x hx; omega)
      exact (h9.kept (fun b hb _ => five_other (by omega) _ _ _ _ _)).tru
    · rw [← HB0.out]
      exact five_below HB4.out (by omega) _ _ _ _ _
end Go.Proofs.Ytifgkpfieapdjaa
/- Law 11's own example: a way, nothing that is trimmed. -/
namespace Go.Proofs.Ytifgkpfieapdjaa
open Go.RowKit Go
set_option linter.unusedVariables false
set_option linter.unusedSimpArgs false

/-- The cells of an instruction that names nothing and has no arguments. -/
abbrev bareC (x : InI) : List Value := [.int .i64 x.op, .int .i64 x.dst, .int .i64 x.a, .int .i64 x.b, .int .i64 x.c, .int .i64 x.num, .int .i64 x.too, .string ⟨#[]⟩, .slice none 0 0]
theorem bare_in {w : World} {x : InI} (hr : x.ref = []) (ha : x.args = []) : InE Tru w x (bareC x) := ⟨.slice none 0 0, by rw [hr]; rfl, by rw [ha]; exact rdX_nil _ _ _ _ _ _ (fun _ => rfl)⟩
theorem bare_rd {w : World} {l : List InI} {g : Nat} {T : TypeId} (hl : ∀ x ∈ l, x.ref = [] ∧ x.args = []) (hg : w.heap[g]? = some (.cells (l.flatMap bareC).toArray T (0, 0))) (hn : l.length ≤ 140737488355328) : RdX Tru 9 (InE Tru) w (.slice (some ⟨g, 0, none⟩) l.length l.length) l := by
  have key : ∀ (l : List InI) (i : Nat) (a : InI), l[i]? = some a → ∀ (j : Nat) u, (bareC a)[j]? = some u → (l.flatMap bareC)[i * 9 + j]? = some u := by
    intro l
    induction l with
    | nil => intro i a h; simp at h
    | cons x l ih =>
      intro i a hi j u hj
      rw [List.flatMap_cons]
      cases i with
      | zero =>
        simp at hi
        subst hi
        have hj9 : j < (bareC x).length := (List.getElem?_eq_some_iff.1 hj).1
        rw [Nat.zero_mul, Nat.zero_add, List.getElem?_append_left hj9]
        exact hj
      | succ i =>
        have h1 := ih i a (by simpa using hi) j u hj
        have e9 : (bareC x).length = 9 := rfl
        rw [List.getElem?_append_right (by rw [e9]; omega), e9, show (i + 1) * 9 + j - 9 = i * 9 + j by omega]
        exact h1
  refine ⟨_, _, rfl, fun e => (by cases e), hn, fun i a hi => ⟨g, 0, bareC a, rfl, trivial, ?_, fun j u hj => ?_⟩⟩
  · have := hl a (List.mem_of_getElem? hi)
    exact bare_in this.1 this.2
  · refine heap_cell hg ?_
    have := key l i a hi j u hj
    rw [Nat.zero_add]
    simpa using this
abbrev F2 : FuI := ⟨[], [], 0, [nop0, ret0], []⟩
abbrev if0 : InI := ⟨28, 0, 0, 0, 0, 0, 2, [], []⟩
abbrev F3 : FuI := ⟨[1], [], 0, [if0, nop0, ret0], []⟩
theorem chk_F2 : chkN F2 = 0 := by decide +kernel
theorem reach_F2 {R : List Bool} (h : IsReach F2 R) : R = [true, true] := by
  have r0 : reachP F2 0 := .first (by decide) (by decide)
  have r1 : reachP F2 1 := .next r0 (by decide) (show ((1 : Nat) : Int) ∈ nextL F2 ((0 : Nat) : Int) by decide +kernel) (by decide) (by decide)
  have hl : R.length = 2 := h.1
  match R, hl with
  | [a, b], _ =>
    rw [(h.2 0 a rfl).2 r0, (h.2 1 b rfl).2 r1]
theorem trim_F2 : (trimF F2 [true, true]).code = [ret0] := rfl
theorem fq_F2 : FuQ F2 := ⟨fun x hx => by
    simp at hx
    rcases hx with rfl | rfl <;> (unfold I64; decide), fun x hx => by
    simp at hx
    rcases hx with rfl | rfl <;> simp⟩
theorem cp_F2 : CpQ F2 := ⟨by decide, by decide, by decide, by decide, fun x hx => by
    simp at hx
    rcases hx with rfl | rfl <;> decide⟩
theorem rwn_nil : RwN [] := by
  unfold RwN
  simp
theorem next_F3 : nextL F3 0 = [1, 2] := by decide +kernel
set_option maxHeartbeats 8000000 in
set_option maxRecDepth 100000 in
theorem holds11_any (w : World) : Calls Try.prog 8 #[] w fun e w' => e = .returned (.bool true) ∧ Below w.heap.size w w' := by
  go_enter Try.func8, Try.ntmps8
  go_wp2_with fail
  generalize hW : World.alloc _ _ = w1
  have hb1 : Below w.heap.size w w1 := by rw [← hW]; exact (Below.refl _ _).alloc (Nat.le_refl _) _
  have hg1 : w1.heap[w.heap.size]? = some (.cells ([nop0, ret0].flatMap bareC).toArray 37 (0, 0)) := by rw [← hW]; exact heap_alloc_new w _
  have HU1 : Hid (FuV Tru w1 F2 (.slice none 0 0) (.slice none 0 0) (.slice (some ⟨w.heap.size, 0, none⟩) 2 2) (.slice none 0 0)) := lhid ⟨rdX_nil _ _ _ _ _ _ (fun _ => rfl), rdX_nil _ _ _ _ _ _ (fun _ => rfl), bare_rd (l := [nop0, ret0]) (by simp) hg1 (by simp), rdX_nil _ _ _ _ _ _ (fun _ => rfl)⟩
  have HB1 := lhid hb1
  clear hW hb1 hg1
  with_reducible refine (trim_any F2 _ _ _ _ w1 HU1 (lhid fq_F2) nil_cap (lhid cp_F2) (lhid (by decide)) (lhid rwn_nil)).mono ?_
  rintro e w2 ⟨F, a, b, d, c, rfl, hfu, htr, hb2⟩
  obtain ⟨R, hR, hF⟩ := htr.2 chk_F2
  have hRe := reach_F2 hR
  subst hRe
  subst hF
  have hd := hfu.d
  rw [trim_F2] at hd
  obtain ⟨AA, ac, ha⟩ := hfu.a.shape
  obtain ⟨AB, bc, hb⟩ := hfu.b.shape
  obtain ⟨AE, ec, he⟩ := hfu.e.shape
  obtain ⟨AD, dc, hde⟩ := hd.shape
  subst ha hb he hde
  obtain ⟨g, o, v, hD, _, _, c0, _⟩ := in_cells hd (i := 0) (x := ret0) rfl
  subst hD
  have c0 : w2.cell? ⟨g, o, none⟩ = some (.int .i64 30) := c0
  have HC0 := lhid c0
  have hgl : g < w2.heap.size := cell_lt c0
  have HGL := lhid hgl
  have HB2 : Hid (Below w.heap.size w w2) := lhid (HB1.out.trans (hb2.mono HB1.out.size))
  generalize hxa : (trimF F2 [true, true]).regs.length = na
  generalize hxb : (trimF F2 [true, true]).params.length = nb
  generalize hxe : (trimF F2 [true, true]).rows.length = ne
  generalize hxr : (trimF F2 [true, true]).ret = nr
  clear c0 hgl hfu htr hR hd hb2 HU1 HB1 hxa hxb hxe hxr
  go_upto_region 2 with fail
  generalize hW : World.alloc _ _ = w3
  generalize hX : w2.heap.size = X
  have hb3 : Below w2.heap.size w2 w3 := by rw [← hW]; exact (Below.refl _ _).alloc (Nat.le_refl _) _
  have HX3 : Hid (w3.heap[X]? = some (.cells #[.slice AA na ac, .slice AB nb bc, .int .i64 nr, .slice (some ⟨g, o, none⟩) 1 dc, .slice AE ne ec] 26 (0, 0))) := lhid (by rw [← hW, ← hX]; exact heap_alloc_new w2 _)
  have HB3 : Hid (Below w.heap.size w w3) := lhid (HB2.out.trans (hb3.mono HB2.out.size))
  have HC3 : Hid (w3.cell? ⟨g, o, none⟩ = some (.int .i64 30)) := lhid ((hb3.cell (p := ⟨g, o, none⟩) HGL.out).trans HC0.out)
  clear hW hX hb3 HB2 HC0 HGL
  go_wp2_with fail
  generalize hW : World.alloc _ _ = w4
  have hb4 : Below w3.heap.size w3 w4 := by rw [← hW]; exact ((Below.refl _ _).alloc (Nat.le_refl _) _).alloc (by simp) _
  have hg4 : w4.heap[w3.heap.size + 1]? = some (.cells ([if0, nop0, ret0].flatMap bareC).toArray 37 (0, 0)) := by rw [← hW]; exact heap_new2 w3 _ _
  have hr4 : w4.cell? ⟨w3.heap.size, 0, none⟩ = some (.int .i64 1) := heap_cell (by rw [← hW]; exact (Below.heap_alloc _ _ _ (by simp)).trans (heap_alloc_new w3 _)) rfl
  have HU4 : Hid (FuV Tru w4 F3 (.slice (some ⟨w3.heap.size, 0, none⟩) 1 1) (.slice none 0 0) (.slice (some ⟨w3.heap.size + 1, 0, none⟩) 3 3) (.slice none 0 0)) := lhid ⟨⟨_, _, rfl, fun e => (by cases e), by simp, fun i a hi => by
      cases i with
      | succ i => simp at hi
      | zero =>
        simp at hi
        subst hi
        refine ⟨w3.heap.size, 0, [.int .i64 1], rfl, trivial, rfl, fun j u hj => ?_⟩
        cases j with
        | succ j => simp at hj
        | zero =>
          simp at hj
          subst hj
          exact hr4⟩, rdX_nil _ _ _ _ _ _ (fun _ => rfl), bare_rd (l := [if0, nop0, ret0]) (by simp) hg4 (by simp), rdX_nil _ _ _ _ _ _ (fun _ => rfl)⟩
  have HB4 := lhid hb4
  clear hW hb4 hg4 hr4
  with_reducible refine (next_any F3 _ _ _ _ 0 w4 HU4).mono ?_
  rintro e w5 ⟨v, rfl, hv, hb5⟩
  rw [next_F3] at hv
  obtain ⟨VG, vc, hve⟩ := own_shape hv
  subst hve
  obtain ⟨vg, hvg⟩ : ∃ vg, VG = some ⟨vg, 0, none⟩ := by
    rcases hv.2 with ⟨_, h2⟩ | ⟨g, cap, cur, h1, _⟩
    · cases h2
    · injection h1 with h1
      exact ⟨g, h1⟩
  subst hvg
  have c5 : w5.cell? ⟨vg, 1, none⟩ = some (.int .i64 2) := by rw [hv.cellAt 1 (by decide)]; rfl
  have hb35 : Below w3.heap.size w3 w5 := HB4.out.trans (hb5.mono HB4.out.size)
  have x5 := heap_cell (i := 3) (heap_keep HX3.out hb35) rfl
  have c6 : w5.cell? ⟨g, o, none⟩ = some (.int .i64 30) := (hb35.cell (p := ⟨g, o, none⟩) (cell_lt HC3.out)).trans HC3.out
  have HB5 : Hid (Below w.heap.size w w5) := lhid (HB3.out.trans (hb35.mono HB3.out.size))
  clear hv hb5 hb35 HU4 HB4 HX3 HC3
  go_wp2_with fail
  go_ret
  exact ⟨rfl, HB5.out⟩
end Go.Proofs.Ytifgkpfieapdjaa
/- FlowBlocks: plain facts on heads; an append of one own row to another. -/
namespace Go.Proofs.Ytifgkpfieapdjaa
open Go.RowKit Go
set_option linter.unusedVariables false
set_option linter.unusedSimpArgs false

theorem heads_mem (f : FuI) (s : Int) : s ∈ headsL f ↔ 0 ≤ s ∧ s < f.code.length ∧ s ∈ hmL f := by
  unfold headsL hdT hmB
  rw [List.mem_map]
  constructor
  · rintro ⟨i, hi, rfl⟩
    rw [List.mem_filter, List.mem_range] at hi
    have h2 := hi.2
    rw [decide_eq_true_eq] at h2
    exact ⟨by omega, by omega, h2⟩
  · rintro ⟨h1, h2, h3⟩
    refine ⟨s.toNat, ?_, by omega⟩
    rw [List.mem_filter, List.mem_range]
    refine ⟨by omega, ?_⟩
    rw [decide_eq_true_eq, show ((s.toNat : Nat) : Int) = s by omega]
    exact h3
theorem heads_lt (f : FuI) {i : Nat} {a b : Int} (ha : (headsL f)[i]? = some a) (hb : (headsL f)[i + 1]? = some b) : a < b := by
  have hp : (headsL f).Pairwise (· < ·) := by
    unfold headsL hdT
    rw [List.pairwise_map]
    exact (List.pairwise_lt_range.filter _).imp fun h => by omega
  rw [List.pairwise_iff_getElem] at hp
  obtain ⟨h1, h2⟩ := List.getElem?_eq_some_iff.1 ha
  obtain ⟨h3, h4⟩ := List.getElem?_eq_some_iff.1 hb
  rw [← h2, ← h4]
  exact hp i (i + 1) h1 h3 (by omega)
theorem heads_first (f : FuI) (h : 0 < f.code.length) : (headsL f)[0]? = some 0 := by
  have hm : (0 : Int) ∈ headsL f := (heads_mem f 0).2 ⟨by omega, by omega, by simp [hmL]⟩
  obtain ⟨i, hi, he⟩ := List.getElem_of_mem hm
  cases i with
  | zero => rw [List.getElem?_eq_getElem hi, he]
  | succ i =>
    exfalso
    have h0 : i < (headsL f).length := by omega
    have h1 := heads_lt f (List.getElem?_eq_getElem h0) (List.getElem?_eq_getElem hi)
    have h2 := (heads_mem f _).1 (List.getElem_mem h0)
    rw [he] at h1
    omega
theorem hm_code {f : FuI} {i : Nat} {x : InI} (hx : f.code[i]? = some x) {s : Int} (h : s ∈ hmX x i) : s ∈ hmL f := by
  unfold hmL
  refine List.mem_append_left _ (List.mem_append_right _ ?_)
  unfold hmT
  rw [List.mem_flatMap]
  exact ⟨i, List.mem_range.2 (List.getElem?_eq_some_iff.1 hx).1, by rw [hx]; exact h⟩
theorem hm_row {f : FuI} {r : RwI} (hr : r ∈ f.rows) : r.at_ ∈ hmL f := by
  unfold hmL
  refine List.mem_append_right _ ?_
  unfold hmR
  rw [List.mem_flatMap, List.take_of_length_le (Nat.le_refl _)]
  exact ⟨r, hr, by simp⟩
theorem catL_mem {rows : List RwI} {i s : Int} (h : s ∈ catL rows i) : ∃ r ∈ rows, r.at_ = s := by
  induction rows with
  | nil => cases h
  | cons r l ih =>
    cases ha : aboutB r i with
    | true =>
      rw [catL_yes ha] at h
      rcases List.mem_cons.1 h with rfl | h
      · exact ⟨r, by simp, rfl⟩
      · split at h
        · cases h
        · obtain ⟨q, hq, e⟩ := ih h
          exact ⟨q, List.mem_cons_of_mem _ hq, e⟩
    | false =>
      rw [catL_no ha] at h
      obtain ⟨q, hq, e⟩ := ih h
      exact ⟨q, List.mem_cons_of_mem _ hq, e⟩
theorem uniq_mem {xs : List Int} {s : Int} (h : s ∈ uniqL xs) : s ∈ xs := by
  have key : ∀ (xs l : List Int), s ∈ xs.foldl addU l → s ∈ l ∨ s ∈ xs := by
    intro xs
    induction xs with
    | nil => intro l h; exact .inl h
    | cons x r ih =>
      intro l h
      rcases ih _ h with h1 | h1
      · unfold addU at h1
        split at h1
        · exact .inl h1
        · rcases List.mem_append.1 h1 with h2 | h2
          · exact .inl h2
          · simp at h2; subst h2; exact .inr (by simp)
      · exact .inr (List.mem_cons_of_mem _ h1)
  rcases key xs [] h with h1 | h1
  · cases h1
  · exact h1
/-- In a well formed function whatever follows a place, but for the next one, is a head. -/
theorem after_head {f : FuI} (hc : chkN f = 0) {i : Nat} {x : InI} (hx : f.code[i]? = some x) {s : Int} (h : s ∈ nextL f i ++ caughtL f i) : (-9223372036854775808 ≤ s ∧ s ≤ 9223372036854775807 → True) ∧ 0 ≤ s ∧ s ≤ f.code.length ∧ (s = (i : Int) + 1 ∨ s ∈ headsL f) := by
  have hi := (List.getElem?_eq_some_iff.1 hx).1
  refine ⟨fun _ => trivial, ?_⟩
  rcases List.mem_append.1 h with h | h
  · unfold nextL at h
    rw [atC_some hx] at h
    have h : s ∈ nextX x i := h
    have hg : ∀ {s : Int}, s ∈ goOn x i → s = (i : Int) + 1 := fun {s} h => by
      unfold goOn at h
      split at h
      · cases h
      · simpa using h
    have h2 : s = (i : Int) + 1 ∨ (s = x.too ∧ leadsB x.op = true) := by
      unfold nextX at h
      split at h
      · rename_i hl
        rw [Bool.and_eq_true] at hl
        rcases List.mem_append.1 h with h | h
        · exact .inl (hg h)
        · exact .inr ⟨by simpa using h, hl.1⟩
      · exact .inl (hg h)
    rcases h2 with rfl | ⟨rfl, hl⟩
    · exact ⟨by omega, by omega, .inl rfl⟩
    · have h3 := chk_leads hc x (List.mem_of_getElem? hx) hl
      exact ⟨h3.1, by omega, .inr ((heads_mem f _).2 ⟨h3.1, h3.2, hm_code hx (by unfold hmX; rw [if_pos hl]; simp)⟩)⟩
  · unfold caughtL at h
    rw [atC_some hx] at h
    have h2 : s ∈ uniqL (catL f.rows i) := by
      dsimp only at h
      split at h
      · exact h
      · cases h
    obtain ⟨r, hr, rfl⟩ := catL_mem (uniq_mem h2)
    have h3 := chk_rows9 hc r hr
    exact ⟨h3.2.2.1, by omega, .inr ((heads_mem f _).2 ⟨h3.2.2.1, h3.2.2.2, hm_row hr⟩)⟩
theorem lead_head {f : FuI} {i : Nat} {x : InI} (hx : f.code[i]? = some x) (h : leadsB x.op = true ∨ endsB x.op = true) (hi : i + 1 < f.code.length) : (i : Int) + 1 ∈ headsL f := by
  refine (heads_mem f _).2 ⟨by omega, by omega, hm_code hx ?_⟩
  unfold hmX
  rcases h with h | h
  · rw [if_pos h]; simp
  · rw [if_pos h]; simp
def mapH (l : List Int) : Int → Option Value := fun s => if s ∈ l then some (.int .i64 1) else none
theorem mapH_snoc (l : List Int) (x s : Int) : (if s = x then some (Value.int .i64 1) else mapH l s) = mapH (l ++ [x]) s := by
  unfold mapH
  by_cases h : s = x
  · subst h; simp
  · by_cases h2 : s ∈ l <;> simp [h, h2]
theorem run_append_two {w : World} {B : Nat} {v u : Value} {l m : List Int} (t : TypeId) (h : OwN w B v l) (k : OwN w B u m) (hb : B ≤ w.heap.size) (hl : (l.length + m.length) * 8 ≤ 140737488355328) :
    ∃ v' w', (Builtin.append_ #[22, 22] t #[v, u]).run Try.prog w = .ok v' w' ∧ OwN w' B v' (l ++ m) ∧ Below B w w' := by
  obtain ⟨i0, hi0, hz0, hz1, hz2⟩ := info_parts info_nuP
  rcases k.2 with ⟨rfl, hn⟩ | ⟨g, cap, cur, rfl, hbg, hg, hnc, hcm, hcs, htake⟩
  · have hnil : m = [] := List.eq_nil_of_length_eq_zero hn
    subst hnil
    have hr := run_append_owned_none (P := Try.prog) (w := w) B 22 t 3 i0 1 Try.underlying22 hi0 v l.length (l.map vI) h
    exact ⟨v, w, hr, by rw [List.append_nil]; exact h, Below.refl _ _⟩
  · have hnews : ∀ (j : Nat) (u : Value), (m.map vI)[j]? = some u → w.cell? ((⟨g, 0, none⟩ : Addr).add j) = some u := World.ownsRow.cells k (g := g) rfl
    have h1 : ∀ u ∈ m.map vI, u.oneCell' = true := by
      intro u hu
      rw [List.mem_map] at hu
      obtain ⟨a, _, rfl⟩ := hu
      rfl
    obtain ⟨v', w', hr, h2, h3, _⟩ := run_append_own (P := Try.prog) w B 22 t 3 i0 (.int .i64 0) 1 8 Try.underlying22 hi0 hz0 hz1 hz2 rfl (by decide) v l.length (l.map vI) h ⟨g, 0, none⟩ m.length cap (m.map vI) (by simp) hnews h1 (by unfold maxLen; omega) hl hb
    refine ⟨v', w', hr, ?_, ⟨h3.os, h3.tape, h3.output, h3.size, fun b hb' => h3.block b (by omega) (fun e => by have := own_lt h b e.symm; omega)⟩⟩
    unfold OwN
    simpa using h2
end Go.Proofs.Ytifgkpfieapdjaa
/- Law 11: is a function light? And words on append of two. -/
namespace Go.Proofs.Ytifgkpfieapdjaa
open Go.RowKit Go
set_option linter.unusedVariables false
set_option linter.unusedSimpArgs false

def lightB (f : FuI) : Bool := decide (f.code.length ≤ 400) && decide (f.regs.length ≤ 100) && decide (f.rows.length ≤ 100)
set_option maxHeartbeats 4000000 in
set_option maxRecDepth 100000 in
theorem light11_any {P : Nat → Prop} (f : FuI) (fa fb fd fe : Value) (w : World) (h : Hid (FuV P w f fa fb fd fe)) :
    Calls Try.prog 9 #[fuL fa fb f.ret fd fe] w fun e w' => e = .returned (.bool (lightB f)) ∧ Below w.heap.size w w' := by
  obtain ⟨FA, ac, hFA⟩ := h.out.a.shape
  subst hFA
  obtain ⟨D, dcap, hD⟩ := h.out.d.shape
  subst hD
  obtain ⟨E, ecap, hE⟩ := h.out.e.shape
  subst hE
  by_cases h1 : f.code.length ≤ 400 <;> by_cases h2 : f.regs.length ≤ 100 <;> by_cases h3 : f.rows.length ≤ 100
  all_goals
    have i1 : decide ((f.code.length : Int) ≤ 400) = decide (f.code.length ≤ 400) := by simp only [decide_eq_decide]; omega
    have i2 : decide ((f.regs.length : Int) ≤ 100) = decide (f.regs.length ≤ 100) := by simp only [decide_eq_decide]; omega
    have i3 : decide ((f.rows.length : Int) ≤ 100) = decide (f.rows.length ≤ 100) := by simp only [decide_eq_decide]; omega
    go_enter Try.func9, Try.ntmps9
    go_wp2_with fail
    go_ret
    exact ⟨by unfold lightB; simp [h1, h2, h3], (Below.refl _ _).alloc (Nat.le_refl _) _⟩
theorem light11_r {P : Nat → Prop} (f : FuI) (fa fb fd fe : Value) (z : Bool) (w : World) (h : Hid (FuV P w f fa fb fd fe)) (hz : Hid (lightB f = z)) :
    Calls Try.prog 9 #[fuL fa fb f.ret fd fe] w fun e w' => e = .returned (.bool z) ∧ Below w.heap.size w w' := by
  have := light11_any f fa fb fd fe w h
  rwa [hz.out] at this
theorem step_app {o : Oper} {a : Act} {w w' : World} {K : Act → World → Prop} {Q : Exit → Act → World → Prop} {E : Prop} {c : Bool} {s x : Operand} {v u v' : Value} (hc : c = true) (ho : o.op = .call { callee := .builtin .append, args := #[s, x], argTypes := #[22, 22] }) (hs : a.eval s = v) (hx : a.eval x = u) (hr : (Builtin.append_ #[22, 22] o.type #[v, u]).run Try.prog w = .ok v' w') (hK : K (a.put o.dst v') w') : if c = true then Oper.wp Try.prog o a w K Q else E := by
  rw [if_pos hc]
  unfold Oper.wp execOp
  simp only [ho, resolve, invoke, builtin, Sem.run_bind, Sem.run_pure, Result.andThen_ok, List.map_toArray, List.map_cons, List.map_nil, hs, hx, hr]
  exact hK
theorem catL_len (rows : List RwI) (i : Int) : (catL rows i).length ≤ rows.length := by
  induction rows with
  | nil => simp [catL]
  | cons r l ih =>
    cases ha : aboutB r i with
    | true =>
      rw [catL_yes ha]
      split
      · simp
      · simp only [List.length_cons]; omega
    | false =>
      rw [catL_no ha]
      simp only [List.length_cons]
      omega
end Go.Proofs.Ytifgkpfieapdjaa
/- A register's bit among 64 from a first one on; what a place stops; which registers are unset at first. -/
namespace Go.Proofs.Ytifgkpfieapdjaa
open Go.RowKit Go
set_option linter.unusedVariables false
set_option linter.unusedSimpArgs false

def bitN (r first : Int) : Mk := if 0 ≤ r - first then BitVec.ofNat 64 (2 ^ (r - first).toNat) else 0
theorem bitN_get (r first : Int) (b : Nat) : (bitN r first).getLsbD b = (decide (b < 64) && decide (r - first = b)) := by
  unfold bitN
  split
  · rename_i h
    rw [BitVec.getLsbD_ofNat, Nat.testBit_two_pow]
    congr 1
    rw [decide_eq_decide]
    omega
  · rename_i h
    have : decide (r - first = (b : Int)) = false := by simp; omega
    rw [this]
    simp
theorem def_w (x : InI) (v : Value) (w : World) (d : Int) (hd : Hid (defI x = d)) : Calls Try.prog 55 #[inA x v] w fun e w' => e = .returned (.int .i64 d) ∧ Below w.heap.size w w' := by
  have := def_any x v w
  rwa [hd.out] at this
theorem uses_w {P : Nat → Prop} (x : InI) (v : Value) (l : List Int) (w : World) (h : Hid (RdX P 1 NuE w v x.args)) (hby : Hid (x.args.length * 8 ≤ 140737488355328)) (hl : Hid (usesI x = l)) :
    Calls Try.prog 70 #[inA x v] w fun e w' => ∃ v', e = .returned v' ∧ OwN w' w.heap.size v' l ∧ Below w.heap.size w w' := by
  have := uses_any x v w h hby
  rwa [hl.out] at this
theorem u64_pow (n : Nat) : IntKind.u64.wrap ((2 : Int) ^ n) = ((BitVec.ofNat 64 (2 ^ n)).toNat : Int) := by
  have h : IntKind.u64.wrap ((2 : Int) ^ n) = (2 : Int) ^ n % 18446744073709551616 := by
    unfold IntKind.wrap
    simp [IntKind.bits, IntKind.signed]
  rw [h, BitVec.toNat_ofNat]
  have h2 : ((2 : Int) ^ n) = ((2 ^ n : Nat) : Int) := by simp
  rw [h2]
  omega
theorem u64_big (n : Nat) (hn : 64 ≤ n) : IntKind.u64.wrap ((2 : Int) ^ n) = 0 := by
  rw [u64_pow, BitVec.toNat_ofNat]
  have : 2 ^ n % 2 ^ 64 = 0 := by
    obtain ⟨k, rfl⟩ : ∃ k, n = 64 + k := ⟨n - 64, by omega⟩
    rw [Nat.pow_add]
    exact Nat.mul_mod_right _ _
  rw [this]
  rfl
theorem u64_min (n : Nat) : IntKind.u64.wrap ((2 : Int) ^ min n 64) = ((BitVec.ofNat 64 (2 ^ n)).toNat : Int) := by
  by_cases h : n < 64
  · rw [Nat.min_eq_left (by omega)]
    exact u64_pow n
  · rw [Nat.min_eq_right (by omega), u64_big 64 (Nat.le_refl _)]
    have h1 := u64_big n (by omega)
    rw [u64_pow] at h1
    exact h1.symm
theorem bit_c (r first : Int) (w : World) (hr : Hid (I64 r)) (h0 : Hid (0 ≤ first ∧ first ≤ 1099511627776)) : Calls Try.prog 69 #[.int .i64 r, .int .i64 first] w fun e w' => e = .returned (.int .u64 ((bitN r first).toNat : Int)) ∧ w' = w := by
  have hr2 := hr.out
  unfold I64 at hr2
  have h02 := h0.out
  obtain ⟨d, hd⟩ : ∃ d, r - first = d := ⟨_, rfl⟩
  by_cases hov : r - first < -9223372036854775808
  · have h1 : wrap64 (r - first) = d + 18446744073709551616 := by unfold wrap64; omega
    obtain ⟨n, hn⟩ : ∃ n : Nat, d + 18446744073709551616 = n := ⟨(d + 18446744073709551616).toNat, by omega⟩
    rw [hn] at h1
    have h2 : IntKind.u64.wrap (n : Int) = (n : Int) := IntWalk.u64_in _ (by omega)
    have h3 := u64_big (min n 64) (by omega)
    have hb : ((bitN r first).toNat : Int) = 0 := by unfold bitN; rw [if_neg (by omega)]; rfl
    rw [hb]
    clear hb hov hd hn hr2 h02
    go_enter Try.func69, Try.ntmps69
    go_wp2_with fail
    go_ret
    exact ⟨rfl, rfl⟩
  · have h1 : wrap64 (r - first) = d := by rw [hd]; exact IntWalk.wrap64_in _ (by omega)
    by_cases hp : 0 ≤ d
    · obtain ⟨n, hn⟩ : ∃ n : Nat, d = n := ⟨d.toNat, by omega⟩
      rw [hn] at h1
      have h2 : IntKind.u64.wrap (n : Int) = (n : Int) := IntWalk.u64_in _ (by omega)
      have h3 := u64_min n
      obtain ⟨z, hz⟩ : ∃ z : Int, ((BitVec.ofNat 64 (2 ^ n)).toNat : Int) = z := ⟨_, rfl⟩
      rw [hz] at h3
      have hb : bitN r first = BitVec.ofNat 64 (2 ^ n) := by unfold bitN; rw [if_pos (by omega)]; congr 2; omega
      rw [hb, hz]
      clear hb hov hd hn hr2 h02 hp
      go_enter Try.func69, Try.ntmps69
      go_wp2_with fail
      go_ret
      exact ⟨rfl, rfl⟩
    · obtain ⟨n, hn⟩ : ∃ n : Nat, d + 18446744073709551616 = n := ⟨(d + 18446744073709551616).toNat, by omega⟩
      have h2 : IntKind.u64.wrap d = (n : Int) := by unfold IntKind.wrap; simp [IntKind.bits, IntKind.signed]; omega
      have h3 := u64_big (min n 64) (by omega)
      have hb : ((bitN r first).toNat : Int) = 0 := by unfold bitN; rw [if_neg (by omega)]; rfl
      rw [hb]
      clear hb hov hd hn hr2 h02 hp
      go_enter Try.func69, Try.ntmps69
      go_wp2_with fail
      go_ret
      exact ⟨rfl, rfl⟩
set_option maxHeartbeats 8000000 in
set_option maxRecDepth 100000 in
theorem stop_c {P : Nat → Prop} (c : List InI) (n : Nat) (hn : Hid (c.length = n)) (fa fb fe nv sv : Value) (D : Option Addr) (dcap : Nat) (ret : Int) (WB FI : Nat) (first : Int) (i : Nat) (x : InI) (w : World) (hw : Hid (WBox w WB fa fb ret (.slice D n dcap) fe nv sv)) (hf : Hid (w.heap[FI]? = some (.cells #[.int .i64 first] 3 (0, 0)))) (hd : Hid (RdX P 9 (InE P) w (.slice D n dcap) c)) (hx : Hid (c[i]? = some x)) (hr : Hid (I64 (defI x))) (h0 : Hid (0 ≤ first ∧ first ≤ 1099511627776)) :
    Calls Try.prog 68 #[.int .i64 (i : Int), .pointer (some ⟨WB, 0, none⟩), .pointer (some ⟨FI, 0, none⟩)] w fun e w' => e = .returned (.int .u64 ((bitN (defI x) first).toNat : Int)) ∧ Below w.heap.size w w' := by
  obtain ⟨dg, od, v, hD, _, hva, c0, c1, c2, c3, c4, c5, c6, c7, c8⟩ := in_cells hd.out hx.out
  subst hD
  have hi : (i : Int) < n := by have := (List.getElem?_eq_some_iff.1 hx.out).1; have := hn.out; omega
  have HG : Hid (∀ w' : World, Below w.heap.size w w' → w'.cell? ⟨WB, 3, none⟩ = some (.slice (some ⟨dg, od, none⟩) n dcap) ∧ w'.cell? ⟨FI, 0, none⟩ = some (.int .i64 first) ∧ w'.cell? ⟨dg, od + i * 9, none⟩ = some (.int .i64 x.op) ∧ w'.cell? ⟨dg, od + i * 9 + 1, none⟩ = some (.int .i64 x.dst) ∧ w'.cell? ⟨dg, od + i * 9 + 2, none⟩ = some (.int .i64 x.a) ∧ w'.cell? ⟨dg, od + i * 9 + 3, none⟩ = some (.int .i64 x.b) ∧ w'.cell? ⟨dg, od + i * 9 + 4, none⟩ = some (.int .i64 x.c) ∧ w'.cell? ⟨dg, od + i * 9 + 5, none⟩ = some (.int .i64 x.num) ∧ w'.cell? ⟨dg, od + i * 9 + 6, none⟩ = some (.int .i64 x.too) ∧ w'.cell? ⟨dg, od + i * 9 + 7, none⟩ = some (.string (tx x.ref)) ∧ w'.cell? ⟨dg, od + i * 9 + 8, none⟩ = some v) := lhid (fun w' hw' => by
    have k1 : WBox w' WB fa fb ret (.slice (some ⟨dg, od, none⟩) n dcap) fe nv sv := heap_keep hw.out hw'
    have kc : ∀ {p : Addr} {u : Value}, w.cell? p = some u → w'.cell? p = some u := fun {p u} hq => (hw'.cell (p := p) (cell_lt hq)).trans hq
    exact ⟨k1.cells.2.2.2.1, heap_cell (heap_keep hf.out hw') rfl, kc c0, kc c1, kc c2, kc c3, kc c4, kc c5, kc c6, kc c7, kc c8⟩)
  clear c0 c1 c2 c3 c4 c5 c6 c7 c8 hva
  obtain ⟨d, hde⟩ : ∃ d, defI x = d := ⟨_, rfl⟩
  have HDE := lhid hde
  rw [hde] at hr ⊢
  clear hde
  go_enter Try.func68, Try.ntmps68
  go_upto_region 1 with fail
  refine wp_region_held_drew (S := fun w' => Below w.heap.size w w') (by kernel_rfl) (Below.drew' (Below.refl _ _)) ?_
  intro hS0
  refine wpAnyH_take (i := 0) (v := ?tv1) rfl (by kernel_rfl) (by kernel_rfl) (by kernel_rfl) (fun _ _ _ h => h) (Or.inl ⟨by rfl, ?ty1⟩) hS0 ?tr1
  case ty1 => (intro w' hw'; obtain ⟨p3, f0, c0, c1, c2, c3, c4, c5, c6, c7, c8⟩ := HG.out w' hw'; go_simp; try with_reducible rfl)
  try simp only [List.getElem_toArray, List.getElem_cons_zero, List.getElem_cons_succ]
  try simp only [Act.put, List.setIfInBounds_toArray, List.set_cons_zero, List.set_cons_succ]
  refine wpAnyH_take (i := 1) (v := ?tv2) rfl (by kernel_rfl) (by kernel_rfl) (by kernel_rfl) (fun _ _ _ h => h) (Or.inl ⟨by rfl, ?ty2⟩) hS0 ?tr2
  case ty2 => (intro w' hw'; obtain ⟨p3, f0, c0, c1, c2, c3, c4, c5, c6, c7, c8⟩ := HG.out w' hw'; go_simp; try with_reducible rfl)
  try simp only [List.getElem_toArray, List.getElem_cons_zero, List.getElem_cons_succ]
  try simp only [Act.put, List.setIfInBounds_toArray, List.set_cons_zero, List.set_cons_succ]
  refine wpAnyH_take (i := 2) (v := ?tv3) rfl (by kernel_rfl) (by kernel_rfl) (by kernel_rfl) (fun _ _ _ h => h) (Or.inl ⟨by rfl, ?ty3⟩) hS0 ?tr3
  case ty3 => (intro w' hw'; obtain ⟨p3, f0, c0, c1, c2, c3, c4, c5, c6, c7, c8⟩ := HG.out w' hw'; go_simp; try with_reducible rfl)
  try simp only [List.getElem_toArray, List.getElem_cons_zero, List.getElem_cons_succ]
  try simp only [Act.put, List.setIfInBounds_toArray, List.set_cons_zero, List.set_cons_succ]
  refine wpAnyH_take (i := 3) (v := ?tv4) rfl (by kernel_rfl) (by kernel_rfl) (by kernel_rfl) (fun _ _ _ h => h) (Or.inl ⟨by rfl, ?ty4⟩) hS0 ?tr4
  case ty4 => (intro w' hw'; obtain ⟨p3, f0, c0, c1, c2, c3, c4, c5, c6, c7, c8⟩ := HG.out w' hw'; go_simp; try with_reducible rfl)
  try simp only [List.getElem_toArray, List.getElem_cons_zero, List.getElem_cons_succ]
  try simp only [Act.put, List.setIfInBounds_toArray, List.set_cons_zero, List.set_cons_succ]
  refine wpAnyH_take (i := 4) (v := ?tv5) rfl (by kernel_rfl) (by kernel_rfl) (by kernel_rfl) (fun _ _ _ h => h) (Or.inl ⟨by rfl, ?ty5⟩) hS0 ?tr5
  case ty5 => (intro w' hw'; obtain ⟨p3, f0, c0, c1, c2, c3, c4, c5, c6, c7, c8⟩ := HG.out w' hw'; go_simp; try with_reducible rfl)
  try simp only [List.getElem_toArray, List.getElem_cons_zero, List.getElem_cons_succ]
  try simp only [Act.put, List.setIfInBounds_toArray, List.set_cons_zero, List.set_cons_succ]
  refine wpAnyH_take (i := 5) (v := ?tv6) rfl (by kernel_rfl) (by kernel_rfl) (by kernel_rfl) (fun _ _ _ h => h) (Or.inl ⟨by rfl, ?ty6⟩) hS0 ?tr6
  case ty6 => (intro w' hw'; obtain ⟨p3, f0, c0, c1, c2, c3, c4, c5, c6, c7, c8⟩ := HG.out w' hw'; go_simp; try with_reducible rfl)
  try simp only [List.getElem_toArray, List.getElem_cons_zero, List.getElem_cons_succ]
  try simp only [Act.put, List.setIfInBounds_toArray, List.set_cons_zero, List.set_cons_succ]
  refine wpAnyH_take (i := 7) (v := ?tv7) rfl (by kernel_rfl) (by kernel_rfl) (by kernel_rfl) (fun _ _ _ h => h) (Or.inl ⟨by rfl, ?ty7⟩) hS0 ?tr7
  case ty7 => (intro w' hw'; obtain ⟨p3, f0, c0, c1, c2, c3, c4, c5, c6, c7, c8⟩ := HG.out w' hw'; go_simp; try with_reducible rfl)
  try simp only [List.getElem_toArray, List.getElem_cons_zero, List.getElem_cons_succ]
  try simp only [Act.put, List.setIfInBounds_toArray, List.set_cons_zero, List.set_cons_succ]
  refine wpAnyH_ready (rs := [6]) (by kernel_rfl) (by simp) ?_
  refine AllReadyH.cons rfl (fun K hK => ?_) AllReadyH.nil
  go_simp
  refine (def_w x v _ d HDE).mono ?_
  rintro e wahS1 ⟨rfl, hb⟩
  have hS1 : Below w.heap.size w wahS1 := hS0.trans (hb.mono hS0.size)
  clear hb
  dsimp only
  refine hK.out _ _ hS1 (fun _ => ?_)
  clear hK K
  try simp only [Act.put, List.setIfInBounds_toArray, List.set_cons_zero, List.set_cons_succ]
  refine wpAnyH_ready (rs := [8]) (by kernel_rfl) (by simp) ?_
  refine AllReadyH.cons rfl (fun K hK => ?_) AllReadyH.nil
  go_simp
  refine (bit_c d first _ hr h0).mono ?_
  rintro e _ ⟨rfl, rfl⟩
  dsimp only
  refine hK.out _ _ hS1 (fun _ => ?_)
  clear hK K
  try simp only [Act.put, List.setIfInBounds_toArray, List.set_cons_zero, List.set_cons_succ]
  refine wpAnyH_quiet_tail 9 (by rfl) (by kernel_rfl) (by kernel_rfl) hS1 ?_
  simp only [List.drop_succ_cons, List.drop_zero]
  repeat (first
    | go_big_quiet_skip
    | (go_big_quiet_want
       refine quiet_of_run (v := ?_) (fun w' hw' => ?_) ?_
       rotate_left
       · (go_simp; try with_reducible rfl)
       go_big_quiet_on
       try simp only [Act.put, List.setIfInBounds_toArray, List.set_cons_zero, List.set_cons_succ]))
  refine wpQuiet_nil ?_
  intro wx hwx
  have HW := lhid hwx
  clear hwx
  go_wp2_with fail
  go_ret
  exact ⟨rfl, HW.out⟩
end Go.Proofs.Ytifgkpfieapdjaa
/- Which of 64 registers no argument lies in: the program's unsetAtFirst. -/
namespace Go.Proofs.Ytifgkpfieapdjaa
open Go.RowKit Go
set_option linter.unusedVariables false
set_option linter.unusedSimpArgs false

set_option maxHeartbeats 8000000 in
set_option maxRecDepth 100000 in
theorem unset_c {P : Nat → Prop} (f : FuI) (fa fb fd fe : Value) (F : Nat) (w : World) (h : Hid (FuV P w f fa fb fd fe)) (hF : Hid (F < f.regs.length)) (hl : Hid (f.regs.length ≤ 1099511627776)) (hp : Hid (∀ r ∈ f.params, I64 r)) :
    Calls Try.prog 67 #[fuL fa fb f.ret fd fe, .int .i64 (F : Int)] w fun e w' => ∃ U : Mk, e = .returned (.int .u64 (U.toNat : Int)) ∧ (∀ b, U.getLsbD b = true ↔ b < 64 ∧ F + b < f.regs.length ∧ ((F + b : Nat) : Int) ∉ f.params) ∧ Below w.heap.size w w' := by
  obtain ⟨FA, ac, hFA⟩ := h.out.a.shape
  subst hFA
  obtain ⟨FB, bc, hFB⟩ := h.out.b.shape
  subst hFB
  obtain ⟨R, hR⟩ : ∃ R, f.regs.length = R := ⟨_, rfl⟩
  have hF2 := hF.out
  have hl2 := hl.out
  have hu := h.out
  rw [hR] at hF2 hl2 hu ⊢
  have HFU := lhid hu
  have hpl := h.out.b.len
  clear hR hF hl hu h
  obtain ⟨cn, hcn⟩ : ∃ cn : Nat, min (F + 64) R = F + cn := ⟨min (F + 64) R - F, by omega⟩
  have hw64 : wrap64 ((F : Int) + 64) = (F : Int) + 64 := IntWalk.wrap64_in _ (by omega)
  have hmin : min ((F : Int) + 64) (R : Int) = (F : Int) + cn := by omega
  have HCN : Hid (cn ≤ 64 ∧ ∀ b, b < cn ↔ b < 64 ∧ F + b < R) := lhid ⟨by omega, fun b => by omega⟩
  clear hcn
  go_enter Try.func67, Try.ntmps67
  go_wp2_with fail
  generalize hW : World.alloc _ _ = w0
  have hb0 : Below w.heap.size w w0 := by rw [← hW]; exact (Below.refl _ _).alloc (Nat.le_refl _) _
  have hF0 : FBox w0 w.heap.size (.slice FA R ac) (.slice FB f.params.length bc) f.ret fd fe := by rw [← hW]; exact heap_alloc_new w _
  have HF0 := lhid hF0
  have HB0 := lhid hb0
  have HU0 := lhid (HFU.out.below hb0)
  obtain ⟨p0, p1, p2, p3, p4⟩ := hF0.cells
  clear hW hb0 hF0
  go_loopg [5, 6] cn (fun g u r wr => ∃ (U : Mk) (k : Nat), g = cn - k ∧ u = .int .u64 (U.toNat : Int) ∧ r = .int .i64 ((F : Int) + k) ∧ k ≤ cn ∧ Hid (∀ b, U.getLsbD b = true ↔ b < k) ∧ wr = w0)
  case atStart => exact ⟨0, 0, rfl, rfl, by simp, Nat.zero_le _, lhid (fun b => by simp), rfl⟩
  case round =>
    obtain ⟨U, k, rfl, rfl, rfl, hk, HUB, rfl⟩ := hrel
    by_cases hlt : k < cn
    · have k3 : (F : Int) + k < (F : Int) + cn := by omega
      have hwk : wrap64 ((F : Int) + k + 1) = (F : Int) + k + 1 := IntWalk.wrap64_in _ (by omega)
      obtain ⟨z, hz⟩ : ∃ z, (F : Int) + k = z := ⟨_, rfl⟩
      rw [hz] at k3 hwk ⊢
      have HI : Hid (I64 z) := lhid ⟨by omega, by omega⟩
      have hor := or_u U (bitN z F)
      obtain ⟨V, hV⟩ : ∃ V, U ||| bitN z F = V := ⟨_, rfl⟩
      have HV : Hid (∀ b, V.getLsbD b = true ↔ b < k + 1) := lhid (fun b => by
        rw [← hV, BitVec.getLsbD_or, Bool.or_eq_true, HUB.out b, bitN_get]
        have := HCN.out.1
        simp only [Bool.and_eq_true, decide_eq_true_eq]
        omega)
      rw [hV] at hor
      have HZ := lhid hz
      have HWK := lhid hwk
      clear hV hz hwk
      go_wp2_with fail
      with_reducible refine (bit_c z F _ HI (lhid (by omega))).mono ?_
      rintro e _ ⟨rfl, rfl⟩
      go_wp2_with fail
      go_roundg (cn - (k + 1))
      case measure => omega
      case rel => exact ⟨V, k + 1, rfl, rfl, by congr 1; have h1 := HZ.out; have h2 := HWK.out; omega, by omega, HV, rfl⟩
    · have k3 : ¬ (F : Int) + k < (F : Int) + cn := by omega
      have hke : k = cn := by omega
      subst hke
      clear hlt
      obtain ⟨w1, hw1⟩ : ∃ x, x = wr := ⟨_, rfl⟩
      subst hw1
      go_wp2_with fail
      go_loopg [5, 28] f.params.length (fun g u s wq => ∃ (U : Mk) (m : Nat), g = f.params.length - m ∧ u = .int .u64 (U.toNat : Int) ∧ s = .int .i64 m ∧ m ≤ f.params.length ∧ Hid (∀ b, U.getLsbD b = true ↔ b < k ∧ ((F + b : Nat) : Int) ∉ f.params.take m) ∧ wq = w1)
      case atStart => exact ⟨U, 0, rfl, rfl, rfl, Nat.zero_le _, lhid (fun b => by rw [HUB.out b]; simp), rfl⟩
      case round =>
        clear HUB
        obtain ⟨U, m, rfl, rfl, rfl, hm, HUB, rfl⟩ := hrel
        by_cases hlt : m < f.params.length
        · obtain ⟨z, hz⟩ : ∃ z, f.params[m]? = some z := ⟨_, List.getElem?_eq_getElem hlt⟩
          obtain ⟨g, o, c1, h1, _, h2, h3⟩ := HU0.out.b.at' hz
          have h2 : c1 = [.int .i64 z] := h2
          subst h2 h1
          have c0 := h3 0 _ rfl
          rw [Nat.add_zero, Nat.mul_one] at c0
          have k3 : (m : Int) < f.params.length := by omega
          have hwk : wrap64 ((m : Int) + 1) = ((m + 1 : Nat) : Int) := by rw [IntWalk.wrap64_in _ (by omega)]; omega
          have HI := lhid (hp.out z (List.mem_of_getElem? hz))
          have han := andNot_u U (bitN z F)
          obtain ⟨V, hV⟩ : ∃ V, U &&& ~~~(bitN z F) = V := ⟨_, rfl⟩
          have HV : Hid (∀ b, V.getLsbD b = true ↔ b < k ∧ ((F + b : Nat) : Int) ∉ f.params.take (m + 1)) := lhid (fun b => by
            rw [← hV, BitVec.getLsbD_and, BitVec.getLsbD_not, bitN_get, take_snoc hz]
            have h4 := HCN.out.1
            have h5 := HUB.out b
            simp only [Bool.and_eq_true, h5, decide_eq_true_eq, Bool.not_eq_true', Bool.and_eq_false_iff, decide_eq_false_iff_not, List.mem_append, List.mem_singleton, not_or]
            constructor
            · rintro ⟨⟨h6, h7⟩, h8, h9⟩
              exact ⟨h6, h7, by omega⟩
            · rintro ⟨h6, h7, h8⟩
              exact ⟨⟨h6, h7⟩, by omega, .inr (by omega)⟩)
          rw [hV] at han
          clear hV hz h3
          go_wp2_with fail
          with_reducible refine (bit_c z F _ HI (lhid (by omega))).mono ?_
          rintro e _ ⟨rfl, rfl⟩
          go_wp2_with fail
          go_roundg (f.params.length - (m + 1))
          case measure => omega
          case rel => exact ⟨V, m + 1, rfl, rfl, by first | rfl | rw [hwk], by omega, HV, rfl⟩
        · have k3 : ¬ (m : Int) < f.params.length := by omega
          have hke : m = f.params.length := by omega
          subst hke
          clear hlt
          go_wp2_with fail
          go_ret
          refine ⟨U, rfl, fun b => ?_, HB0.out⟩
          rw [HUB.out b, HCN.out.2 b, List.take_length]
          exact and_assoc
end Go.Proofs.Ytifgkpfieapdjaa
/- FlowBlocks: the law walked. -/
namespace Go.Proofs.Ytifgkpfieapdjaa
open Go.RowKit Go
set_option linter.unusedVariables false
set_option linter.unusedSimpArgs false

theorem zero_int (w : World) : (zeroValue 3).run Try.prog w = .ok (.int .i64 0) w := by kernel_rfl
end Go.Proofs.Ytifgkpfieapdjaa
/- All that follow a place: the document's All. -/
namespace Go.Proofs.Ytifgkpfieapdjaa
open Go.RowKit Go
set_option linter.unusedVariables false
set_option linter.unusedSimpArgs false

def nxA (f : FuI) (i : Int) : List Int := nextL f i ++ caughtL f i
theorem caught_len (f : FuI) (i : Int) : (caughtL f i).length ≤ f.rows.length := by
  have h1 : (caughtL f i).length ≤ (catL f.rows i).length := by
    unfold caughtL
    split
    · simp
    · split
      · exact uniq_len _
      · simp
  exact Nat.le_trans h1 (catL_len _ _)
set_option maxHeartbeats 8000000 in
set_option maxRecDepth 100000 in
theorem rall_any {P : Nat → Prop} (f : FuI) (fa fb fd fe : Value) (i : Int) (w : World) (h : Hid (FuV P w f fa fb fd fe)) (hrl : Hid ((f.rows.length + 2) * 8 ≤ 140737488355328)) :
    Calls Try.prog 75 #[fuL fa fb f.ret fd fe, .int .i64 i] w fun e w' => ∃ v, e = .returned v ∧ OwN w' w.heap.size v (nxA f i) ∧ Below w.heap.size w w' := by
  obtain ⟨FA, ac, hFA⟩ := h.out.a.shape
  subst hFA
  obtain ⟨FB, bc, hFB⟩ := h.out.b.shape
  subst hFB
  obtain ⟨D, dcap, hD⟩ := h.out.d.shape
  subst hD
  obtain ⟨E, ecap, hE⟩ := h.out.e.shape
  subst hE
  obtain ⟨n, hn⟩ : ∃ n, f.code.length = n := ⟨_, rfl⟩
  have hf2 := h.out
  rw [hn] at hf2 ⊢
  have HFU := lhid hf2
  clear hn hf2 h
  go_enter Try.func75, Try.ntmps75
  go_upto_region 1 with fail
  generalize hW : World.alloc _ _ = w8
  have hb8 : Below w.heap.size w w8 := by rw [← hW]; exact (Below.refl _ _).alloc (Nat.le_refl _) _
  have hF8 : FBox w8 w.heap.size (.slice FA f.regs.length ac) (.slice FB f.params.length bc) f.ret (.slice D n dcap) (.slice E f.rows.length ecap) := by rw [← hW]; exact heap_alloc_new w _
  have HFK : Hid (∀ w', Below w8.heap.size w8 w' → w'.cell? ⟨w.heap.size, 0, none⟩ = some (.slice FA f.regs.length ac) ∧ w'.cell? ⟨w.heap.size, 1, none⟩ = some (.slice FB f.params.length bc) ∧ w'.cell? ⟨w.heap.size, 2, none⟩ = some (.int .i64 f.ret) ∧ w'.cell? ⟨w.heap.size, 3, none⟩ = some (.slice D n dcap) ∧ w'.cell? ⟨w.heap.size, 4, none⟩ = some (.slice E f.rows.length ecap)) := lhid (fun w' hb => FBox.cells (heap_keep hF8 hb))
  have HU8 := lhid (HFU.out.below hb8)
  have HB8 := lhid hb8
  have HRL : Hid (f.rows.length * 8 ≤ 140737488355328) := lhid (by have := hrl.out; omega)
  clear hW hb8 hF8
  refine wp_region_held_drew (S := fun w' => Below w8.heap.size w8 w') (by kernel_rfl) (Below.drew' (Below.refl _ _)) ?_
  intro hS0
  refine wpAnyH_take (i := 0) (v := ?tvp0) rfl (by kernel_rfl) (by kernel_rfl) (by kernel_rfl) (fun _ _ _ h => h) (Or.inl ⟨by rfl, ?typ0⟩) hS0 ?trp0
  case typ0 => (intro w' hw'; obtain ⟨y0, y1, y2, y3, y4⟩ := HFK.out w' hw'; go_simp; try with_reducible rfl)
  try simp only [Act.put, List.setIfInBounds_toArray, List.set_cons_zero, List.set_cons_succ]
  try simp only [List.getElem_toArray, List.getElem_cons_zero, List.getElem_cons_succ]
  refine wpAnyH_take (i := 1) (v := ?tvp1) rfl (by kernel_rfl) (by kernel_rfl) (by kernel_rfl) (fun _ _ _ h => h) (Or.inl ⟨by rfl, ?typ1⟩) hS0 ?trp1
  case typ1 => (intro w' hw'; obtain ⟨y0, y1, y2, y3, y4⟩ := HFK.out w' hw'; go_simp; try with_reducible rfl)
  try simp only [Act.put, List.setIfInBounds_toArray, List.set_cons_zero, List.set_cons_succ]
  try simp only [List.getElem_toArray, List.getElem_cons_zero, List.getElem_cons_succ]
  refine wpAnyH_take (i := 3) (v := ?tvp3) rfl (by kernel_rfl) (by kernel_rfl) (by kernel_rfl) (fun _ _ _ h => h) (Or.inl ⟨by rfl, ?typ3⟩) hS0 ?trp3
  case typ3 => (intro w' hw'; obtain ⟨y0, y1, y2, y3, y4⟩ := HFK.out w' hw'; go_simp; try with_reducible rfl)
  try simp only [Act.put, List.setIfInBounds_toArray, List.set_cons_zero, List.set_cons_succ]
  try simp only [List.getElem_toArray, List.getElem_cons_zero, List.getElem_cons_succ]
  refine wpAnyH_take (i := 4) (v := ?tvp4) rfl (by kernel_rfl) (by kernel_rfl) (by kernel_rfl) (fun _ _ _ h => h) (Or.inl ⟨by rfl, ?typ4⟩) hS0 ?trp4
  case typ4 => (intro w' hw'; obtain ⟨y0, y1, y2, y3, y4⟩ := HFK.out w' hw'; go_simp; try with_reducible rfl)
  try simp only [Act.put, List.setIfInBounds_toArray, List.set_cons_zero, List.set_cons_succ]
  try simp only [List.getElem_toArray, List.getElem_cons_zero, List.getElem_cons_succ]
  refine wpAnyH_ready (rs := [2]) (by kernel_rfl) (by simp) ?_
  refine AllReadyH.cons rfl (fun K hK => ?_) AllReadyH.nil
  go_simp
  refine (rnext_any f _ _ _ _ i _ (lhid (HU8.out.below hS0))).mono ?_
  rintro e wx ⟨v1, rfl, hn1, hbn⟩
  have hS1 : Below w8.heap.size w8 wx := hS0.trans (hbn.mono hS0.size)
  have h01 := own_base (B' := w8.heap.size) hn1 hS0.size
  dsimp only
  refine hK.out _ _ hS1 (fun _ => ?_)
  clear hK K
  try simp only [Act.put, List.setIfInBounds_toArray, List.set_cons_zero, List.set_cons_succ]
  try simp only [List.getElem_toArray, List.getElem_cons_zero, List.getElem_cons_succ]
  refine wpAnyH_ready (rs := [5]) (by kernel_rfl) (by simp) ?_
  refine AllReadyH.cons rfl (fun K hK => ?_) AllReadyH.nil
  go_simp
  refine (rcaught_any f _ _ _ _ i _ (lhid (HU8.out.below hS1)) HRL).mono ?_
  rintro e wy ⟨v2, rfl, hn2, hbc⟩
  have hS2 : Below w8.heap.size w8 wy := hS1.trans (hbc.mono hS1.size)
  have ho1 : OwN wy w8.heap.size v1 (nextL f i) := own_below h01 hbc
  have ho2 : OwN wy w8.heap.size v2 (caughtL f i) := own_base hn2 hS1.size
  dsimp only
  refine hK.out _ _ hS2 (fun _ => ?_)
  clear hK K hn1 hn2 hbn hbc h01
  try simp only [Act.put, List.setIfInBounds_toArray, List.set_cons_zero, List.set_cons_succ]
  try simp only [List.getElem_toArray, List.getElem_cons_zero, List.getElem_cons_succ]
  have hsz : w8.heap.size ≤ wy.heap.size := hS2.size
  obtain ⟨v', wz, hrun, ho3, hb3⟩ := run_append_two (B := w8.heap.size) 22 ho1 ho2 hsz (by have h1 := nextL_two f i; have h2 := caught_len f i; have h3 := hrl.out; omega)
  have hS3 : Below w8.heap.size w8 wz := hS2.trans hb3
  have HO3 : Hid (OwN wz w8.heap.size v' (nxA f i)) := lhid ho3
  have HS3 : Hid (Below w.heap.size w wz) := lhid (HB8.out.trans (hS3.mono HB8.out.size))
  have HS8 := lhid HB8.out.size
  clear ho1 ho2 ho3 hb3 hsz
  refine wpAnyH_ready (rs := [6]) (by kernel_rfl) (by simp) ?_
  refine AllReadyH.cons rfl (fun K hK => ?_) AllReadyH.nil
  refine step_app (by rfl) rfl rfl rfl hrun ?_
  refine hK.out _ _ hS3 (fun _ => ?_)
  clear hK K hrun
  try simp only [Act.put, List.setIfInBounds_toArray, List.set_cons_zero, List.set_cons_succ]
  try simp only [List.getElem_toArray, List.getElem_cons_zero, List.getElem_cons_succ]
  refine wpAnyH_take (i := 7) (v := ?tvq7) rfl (by kernel_rfl) (by kernel_rfl) (by kernel_rfl) (fun _ _ _ h => h) (Or.inl ⟨by rfl, ?tyq7⟩) hS3 ?trq7
  case tyq7 => (intro w' hw'; go_simp; try with_reducible rfl)
  try simp only [Act.put, List.setIfInBounds_toArray, List.set_cons_zero, List.set_cons_succ]
  try simp only [List.getElem_toArray, List.getElem_cons_zero, List.getElem_cons_succ]
  refine wpAnyH_done (by kernel_rfl) ?_ _
  go_wp2_with fail
  go_ret
  exact ⟨_, rfl, own_base HO3.out HS8.out, HS3.out⟩
end Go.Proofs.Ytifgkpfieapdjaa
/- What can be reached from the beginning: the document's Reach. -/
namespace Go.Proofs.Ytifgkpfieapdjaa
open Go.RowKit Go
set_option linter.unusedVariables false
set_option linter.unusedSimpArgs false

def updB (S : Nat → Bool) (p : Nat) : Nat → Bool := fun j => if j = p then true else S j
def cntF (n : Nat) (S : Nat → Bool) : Nat := (List.range n).countP fun i => !S i
theorem cntF_upd {n p : Nat} {S : Nat → Bool} (hp : p < n) (h : S p = false) : cntF n (updB S p) + 1 ≤ cntF n S := by
  refine countP_lt (fun b _ hb => ?_) p (List.mem_range.2 hp) (by simp [updB]) (by simp [h])
  unfold updB at hb
  split at hb
  · cases hb
  · exact hb
theorem BooB.upd {w : World} {g n p : Nat} {S : Nat → Bool} (h : BooB w g n S n) : BooB (w.setCell ⟨g, p, none⟩ (.bool true)) g n (updB S p) n := by
  obtain ⟨c, h1, h2, h3⟩ := h
  refine ⟨_, heap_set h1 _, by simpa using h2, fun j hj => ?_⟩
  by_cases e : p = j
  · subst e
    exact ⟨true, by rw [Array.getElem?_setIfInBounds, if_pos rfl, if_pos (by omega)], fun _ => by simp [updB]⟩
  · obtain ⟨y, h4, h5⟩ := h3 j hj
    exact ⟨y, by rw [Array.getElem?_setIfInBounds, if_neg e]; exact h4, fun h => by rw [h5 h, updB, if_neg (fun e2 => e e2.symm)]⟩
theorem BooB.at' {w : World} {g n k i : Nat} {F : Nat → Bool} (h : BooB w g n F k) (hi : i < n) (hk : i < k) : w.cell? ⟨g, i, none⟩ = some (.bool (F i)) := by
  obtain ⟨c, h1, h2, h3⟩ := h
  obtain ⟨z, h4, h5⟩ := h3 i hi
  rw [← h5 hk]
  exact heap_cell h1 h4
theorem mem_uniq {xs : List Int} {s : Int} (h : s ∈ xs) : s ∈ uniqL xs := by
  have key : ∀ (xs l : List Int), (s ∈ l ∨ s ∈ xs) → s ∈ xs.foldl addU l := by
    intro xs
    induction xs with
    | nil =>
      rintro l (h | h)
      · exact h
      · cases h
    | cons x r ih =>
      rintro l h
      refine ih _ ?_
      unfold addU
      rcases h with h | h
      · left; split
        · exact h
        · exact List.mem_append_left _ h
      · rcases List.mem_cons.1 h with rfl | h
        · left; split
          · assumption
          · simp
        · exact .inr h
  exact key xs [] (.inr h)
theorem nxA_mem {f : FuI} {i : Nat} {s : Int} (hi : i < f.code.length) : s ∈ nxA f i ↔ s ∈ (webN f).nx i ∨ ((webN f).th i = true ∧ s ∈ (webN f).ct i) := by
  obtain ⟨x, hx⟩ : ∃ x, f.code[i]? = some x := ⟨_, List.getElem?_eq_getElem hi⟩
  have hth : (webN f).th i = throwsB x.op := by show (match f.code[i]? with | some x => throwsB x.op | none => false) = _; rw [hx]
  have hct : (webN f).ct i = catL f.rows i := rfl
  have hnx : (webN f).nx i = nextL f i := rfl
  have hcg : caughtL f i = if throwsB x.op then uniqL (catL f.rows i) else [] := by unfold caughtL; rw [atC_some hx]
  unfold nxA
  rw [List.mem_append, hth, hct, hnx, hcg]
  cases throwsB x.op with
  | true => simp only [if_true, true_and]; exact ⟨fun h => h.imp id uniq_mem, fun h => h.imp id mem_uniq⟩
  | false => simp
/-- What holds of the marks throughout. -/
structure RchI (f : FuI) (S : Nat → Bool) : Prop where
  sound : ∀ i, i < f.code.length → S i = true → reachP f i
  first : 0 < f.code.length → S 0 = true
theorem RchI.upd {f : FuI} {S : Nat → Bool} (h : RchI f S) {i p : Nat} (hi : i < f.code.length) (hS : S i = true) (hp : (p : Int) ∈ nxA f i) (hpn : p < f.code.length) : RchI f (updB S p) where
  sound j hj hs := by
    unfold updB at hs
    split at hs
    · rename_i e
      subst e
      rcases (nxA_mem hi).1 hp with h1 | ⟨h1, h2⟩
      · exact .next (h.sound i hi hS) hi h1 hpn (by simp)
      · exact .caught (h.sound i hi hS) hi h1 h2 hpn
    · exact h.sound j hj hs
  first h0 := by
    unfold updB
    split
    · rfl
    · exact h.first h0
def ClsS (f : FuI) (S : Nat → Bool) (k : Nat) : Prop := ∀ i, i < k → S i = true → ∀ j : Nat, (j : Int) ∈ nxA f i → j < f.code.length → S j = true
theorem RchI.all {f : FuI} {S : Nat → Bool} (h : RchI f S) (hc : ClsS f S f.code.length) (i : Nat) (hi : i < f.code.length) : S i = true ↔ reachP f i := by
  refine ⟨h.sound i hi, fun hr => ?_⟩
  unfold reachP at hr
  clear hi
  induction hr with
  | first h0 _ => exact h.first h0
  | next _ hi hj hjn _ ih => exact hc _ hi ih _ ((nxA_mem hi).2 (.inl hj)) hjn
  | caught _ hi ht hj hjn ih => exact hc _ hi ih _ ((nxA_mem hi).2 (.inr ⟨ht, hj⟩)) hjn
theorem upd_first {f : FuI} {i : Nat} (hi : i < f.code.length) (hs : updB (fun _ => false) 0 i = true) : reachP f i := by
  unfold updB at hs
  split at hs
  · rename_i e
    subst e
    exact .first hi (by decide)
  · cases hs
def b2n (b : Bool) : Nat := if b then 1 else 0
set_option maxHeartbeats 32000000 in
set_option maxRecDepth 100000 in
theorem rreach_any {P : Nat → Prop} (f : FuI) (fa fb fd fe : Value) (w : World) (h : Hid (FuV P w f fa fb fd fe)) (hcl : Hid ((f.code.length + 1) * 1024 ≤ 140737488355328)) (hrl : Hid ((f.rows.length + 2) * 8 ≤ 140737488355328)) :
    Calls Try.prog 41 #[fuL fa fb f.ret fd fe] w fun e w' => ∃ (g : Nat) (R : List Bool), e = .returned (.slice (some ⟨g, 0, none⟩) f.code.length f.code.length) ∧ w.heap.size ≤ g ∧ RdX (fun b => b = g) 1 BlE w' (.slice (some ⟨g, 0, none⟩) f.code.length f.code.length) R ∧ IsReach f R ∧ Below w.heap.size w w' := by
  obtain ⟨FA, ac, hFA⟩ := h.out.a.shape
  subst hFA
  obtain ⟨FB, bc, hFB⟩ := h.out.b.shape
  subst hFB
  obtain ⟨D, dcap, hD⟩ := h.out.d.shape
  subst hD
  obtain ⟨E, ecap, hE⟩ := h.out.e.shape
  subst hE
  obtain ⟨n, hn⟩ : ∃ n, f.code.length = n := ⟨_, rfl⟩
  have HN := lhid hn
  have hcl2 := hcl.out
  have hf2 := h.out
  rw [hn] at hcl2 hf2 ⊢
  have HFU := lhid hf2
  clear hn hf2 h
  have hmk3 := make_bools n (by omega)
  go_enter Try.func41, Try.ntmps41
  go_upto_if 14 with fail
  generalize hw1 : World.alloc _ _ = w1
  generalize hG : w.heap.size + 1 = G
  have hF1 : FBox w1 w.heap.size (.slice FA f.regs.length ac) (.slice FB f.params.length bc) f.ret (.slice D n dcap) (.slice E f.rows.length ecap) := by rw [← hw1]; exact (Below.heap_alloc _ _ _ (by simp)).trans (heap_alloc_new w _)
  have HR1 : Hid (BooB w1 G n (fun _ => false) n) := lhid (by
    have h9 := BooB.made (w.alloc (.cells #[.slice FA f.regs.length ac, .slice FB f.params.length bc, .int .i64 f.ret, .slice D n dcap, .slice E f.rows.length ecap] 26)) n (fun _ => false)
    rw [hw1] at h9
    rw [show (w.alloc (.cells #[.slice FA f.regs.length ac, .slice FB f.params.length bc, .int .i64 f.ret, .slice D n dcap, .slice E f.rows.length ecap] 26)).heap.size = G by simp; omega] at h9
    obtain ⟨c, h1, h2, h3⟩ := h9
    refine ⟨c, h1, h2, fun j hj => ⟨false, ?_, fun _ => rfl⟩⟩
    rw [← hw1] at h1
    have h4 := heap_alloc_new (w.alloc (.cells #[.slice FA f.regs.length ac, .slice FB f.params.length bc, .int .i64 f.ret, .slice D n dcap, .slice E f.rows.length ecap] 26)) (.cells (madeCells #[.bool false] n) 4)
    rw [show (w.alloc (.cells #[.slice FA f.regs.length ac, .slice FB f.params.length bc, .int .i64 f.ret, .slice D n dcap, .slice E f.rows.length ecap] 26)).heap.size = G by simp; omega] at h4
    rw [h4] at h1
    injection h1 with h1
    injection h1 with h1
    rw [← h1]
    exact made_at0 _ _ _ _ hj (by rw [show j % (#[Value.bool false] : Array Value).size = 0 from Nat.mod_one j]; rfl))
  have HB1 : Hid (Below w.heap.size w w1) := lhid (by rw [← hw1]; exact ((Below.refl _ _).alloc (Nat.le_refl _) _).alloc (by simp) _)
  have HNUM : Hid (G = w.heap.size + 1 ∧ w1.heap.size = G + 1) := lhid ⟨hG.symm, by rw [← hw1]; simp; omega⟩
  have HF1 := lhid hF1
  clear hw1 hF1 hmk3 hG
  go_cut [] from 8 (fun wc => Hid (Ch (fun b => b = G) w1 wc) ∧ ∃ S, Hid (BooB wc G n S n) ∧ Hid (RchI f S))
  case first =>
    by_cases h0 : 0 < n
    · have k0 : (0 : Int) < n := by omega
      have c0 := HR1.out.at' h0 h0
      have z0 := HR1.out.fz 0
      have l0 := HR1.out.lt
      go_wp2_with fail
      go_meet
      case rel => exact ⟨lhid ((Ch.refl (fun b => b = G) w1).set (p := ⟨G, 0, none⟩) (fun _ => rfl) _), _, lhid HR1.out.upd, lhid ⟨fun i hi hs => upd_first hi hs, fun _ => by simp [updB]⟩⟩
    · have k0 : ¬ (0 : Int) < n := by omega
      go_wp2_with fail
      go_meet
      case rel => exact ⟨lhid (Ch.refl _ _), _, HR1, lhid ⟨fun i hi => absurd hi (by have := HN.out; show ¬ i < f.code.length; omega), fun hi => absurd hi (by have := HN.out; show ¬ 0 < f.code.length; omega)⟩⟩
  case rest =>
    obtain ⟨HCc, S0, HSc, HIc⟩ := hcut
    clear HR1
    have HFc : Hid (FBox wc w.heap.size (.slice FA f.regs.length ac) (.slice FB f.params.length bc) f.ret (.slice D n dcap) (.slice E f.rows.length ecap)) := lhid (HCc.out.keep HF1.out (by have := HNUM.out; omega))
    clear HFc
    go_wp2_with fail
    go_loopg [4] (2 * cntF n S0 + 1) (fun g s wr => ∃ (S : Nat → Bool) (mr : Bool), g = 2 * cntF n S + b2n mr ∧ s = .bool mr ∧ Hid (Ch (fun b => b = G) w1 wr) ∧ Hid (BooB wr G n S n) ∧ Hid (RchI f S) ∧ Hid (mr = false → ClsS f S n))
    case atStart => exact ⟨S0, true, rfl, rfl, HCc, HSc, HIc, lhid (fun h => by cases h)⟩
    case round =>
      clear HCc HSc HIc
      obtain ⟨S, mr, rfl, rfl, HC1, HS1, HI1, HX1⟩ := hrel
      cases mr with
      | false =>
        have HFIN : Hid (∃ R : List Bool, RdX (fun b => b = G) 1 BlE wr (.slice (some ⟨G, 0, none⟩) n n) R ∧ IsReach f R ∧ Below w.heap.size w wr) := lhid (by
          refine ⟨_, HS1.out.rd (by omega), ⟨by simp [HN.out], fun i b hb => ?_⟩, HB1.out.trans (HC1.out.to HB1.out.size (fun k e => by have := HNUM.out; omega))⟩
          have hi : i < n := by have := (List.getElem?_eq_some_iff.1 hb).1; simpa using this
          rw [List.getElem?_map, List.getElem?_range hi] at hb
          injection hb with hb
          rw [← hb]
          exact HI1.out.all (by rw [HN.out]; exact HX1.out rfl) i (by rw [HN.out]; exact hi))
        go_wp2_with fail
        go_ret
        obtain ⟨R, h1, h2, h3⟩ := HFIN.out
        exact ⟨G, rfl, by have := HNUM.out; omega, R, h1, h2, h3⟩
      | true =>
        obtain ⟨C0, hC0⟩ : ∃ C0, cntF n S = C0 := ⟨_, rfl⟩
        have HC0 := lhid hC0
        clear hC0 HX1
        go_wp2_with fail
        go_loopg [4, 5] n (fun g s i wr => ∃ (k : Nat) (S : Nat → Bool) (mr : Bool), g = n - k ∧ i = .int .i64 k ∧ s = .bool mr ∧ k ≤ n ∧ Hid (cntF n S + b2n mr ≤ C0) ∧ Hid (Ch (fun b => b = G) w1 wr) ∧ Hid (BooB wr G n S n) ∧ Hid (RchI f S) ∧ Hid (mr = false → ClsS f S k))
        case atStart => exact ⟨0, S, false, rfl, rfl, rfl, Nat.zero_le _, lhid (by rw [HC0.out]; exact Nat.le_refl _), HC1, HS1, HI1, lhid (fun _ i hi => by omega)⟩
        case round =>
          clear HC1 HS1 HI1
          obtain ⟨k, S, mr, rfl, rfl, rfl, hk, HZ, HC1, HS1, HI1, HX1⟩ := hrel
          by_cases hlt : k < n
          · have k3 : (k : Int) < n := by omega
            have c0 := HS1.out.at' hlt hlt
            have hwk : wrap64 ((k : Int) + 1) = ((k + 1 : Nat) : Int) := by rw [IntWalk.wrap64_in _ (by omega)]; omega
            cases hsk : S k with
            | false =>
              rw [hsk] at c0
              have HXn : Hid (mr = false → ClsS f S (k + 1)) := lhid (fun h i hi hs => by
                rcases Nat.lt_succ_iff_lt_or_eq.1 hi with h1 | rfl
                · exact HX1.out h i h1 hs
                · rw [hsk] at hs; cases hs)
              clear hsk
              go_wp2_with fail
              go_roundg (n - (k + 1))
              case measure => omega
              case rel => exact ⟨k + 1, S, mr, rfl, by first | rfl | rw [hwk], rfl, by omega, HZ, HC1, HS1, HI1, HXn⟩
            | true =>
              rw [hsk] at c0
              have HSK := lhid hsk
              have hFr : FBox wr w.heap.size (.slice FA f.regs.length ac) (.slice FB f.params.length bc) f.ret (.slice D n dcap) (.slice E f.rows.length ecap) := HC1.out.keep HF1.out (by have := HNUM.out; omega)
              obtain ⟨p0, p1, p2, p3, p4⟩ := hFr.cells
              have HBr : Hid (Below w.heap.size w wr) := lhid (HB1.out.trans (HC1.out.to HB1.out.size (fun k e => by have := HNUM.out; omega)))
              have HUr := lhid (HFU.out.below HBr.out)
              clear hsk hFr
              go_wp2_with fail
              with_reducible refine (rall_any f _ _ _ _ (k : Int) wr HUr hrl).mono ?_
              rintro e w5 ⟨v, rfl, hv, hb5⟩
              obtain ⟨NX, hNX⟩ : ∃ NX, nxA f (k : Int) = NX := ⟨_, rfl⟩
              rw [hNX] at hv
              obtain ⟨VA, vc, hve⟩ := own_shape hv
              subst hve
              have HNX := lhid hNX
              have HO5 := lhid hv
              have HC5 := lhid (HC1.out.below hb5)
              have HS5 : Hid (BooB w5 G n S n) := lhid (HS1.out.of (hb5.block G HS1.out.lt))
              have HGO : Hid (∀ b, (Value.slice VA NX.length vc).ownBlock = some b → G < b) := lhid (fun b hb => by have h1 := own_lt hv b hb; have h2 := HS1.out.lt; omega)
              have hnl : NX.length ≤ f.rows.length + 2 := by
                rw [← hNX]
                unfold nxA
                rw [List.length_append]
                have h1 := nextL_two f k
                have h2 := caught_len f k
                omega
              have HNL := lhid hnl
              clear hv hb5 hNX hnl p0 p1 p2 p3 p4 c0 HS1 HC1 HUr HBr
              go_wp2_with fail
              go_loopg [4, 7] NX.length (fun g s i wr => ∃ (q : Nat) (S : Nat → Bool) (mr : Bool), g = NX.length - q ∧ i = .int .i64 q ∧ s = .bool mr ∧ q ≤ NX.length ∧ Hid (cntF n S + b2n mr ≤ C0) ∧ Hid (Ch (fun b => b = G) w5 wr) ∧ Hid (BooB wr G n S n) ∧ Hid (RchI f S) ∧ Hid (S k = true) ∧ Hid (mr = false → ClsS f S k ∧ ∀ j : Nat, (j : Int) ∈ NX.take q → j < n → S j = true))
              case atStart => exact ⟨0, S, mr, rfl, rfl, rfl, Nat.zero_le _, HZ, lhid (Ch.refl _ _), HS5, HI1, HSK, lhid (fun h => ⟨HX1.out h, fun j hj => by simp at hj⟩)⟩
              case round =>
                clear HS5 HI1 HSK HX1 HZ
                obtain ⟨q, S, mr, rfl, rfl, rfl, hq, HZ, HCq, HS5, HI1, HSK, HX1⟩ := hrel
                by_cases hlq : q < NX.length
                · obtain ⟨x, hx⟩ : ∃ x, NX[q]? = some x := ⟨_, List.getElem?_eq_getElem hlq⟩
                  obtain ⟨vg, hvg⟩ : ∃ vg, VA = some ⟨vg, 0, none⟩ := by
                    rcases HO5.out.2 with ⟨_, h2⟩ | ⟨g, cap, cur, h1, _⟩
                    · omega
                    · injection h1 with h1
                      exact ⟨g, h1⟩
                  subst hvg
                  have hgv := HGO.out vg rfl
                  have d0 : w5.cell? ⟨vg, q, none⟩ = some (.int .i64 x) := by
                    rw [HO5.out.cellAt q (by omega), List.getElem?_map, hx]
                    rfl
                  replace d0 := (World.cell?_of_block (a := ⟨vg, q, none⟩) (HCq.out.block vg (cell_lt d0) (by omega))).trans d0
                  have HX := lhid hx
                  have k5 : (q : Int) < NX.length := by omega
                  have hwq : wrap64 ((q : Int) + 1) = ((q + 1 : Nat) : Int) := by rw [IntWalk.wrap64_in _ (by have := HNL.out; have := hrl.out; omega)]; omega
                  have stay : (∀ j : Nat, x = (j : Int) → j < n → S j = true) → (mr = false → ClsS f S k ∧ ∀ j : Nat, (j : Int) ∈ NX.take (q + 1) → j < n → S j = true) := fun hs h => ⟨(HX1.out h).1, fun j hj hjn => by
                    rw [take_snoc HX.out] at hj
                    rcases List.mem_append.1 hj with hj | hj
                    · exact (HX1.out h).2 j hj hjn
                    · rw [List.mem_singleton] at hj
                      exact hs j hj.symm hjn⟩
                  have HST := lhid stay
                  clear hx stay
                  by_cases hx0 : 0 ≤ x
                  · by_cases hxn : x < n
                    · obtain ⟨y, rfl⟩ : ∃ y : Nat, x = y := ⟨x.toNat, by omega⟩
                      have hyn : y < n := by omega
                      have c0 := HS5.out.at' hyn hyn
                      have z0 := HS5.out.fz y
                      have l0 := HS5.out.lt
                      cases hsy : S y with
                      | true =>
                        rw [hsy] at c0
                        have HXn := lhid (HST.out (fun j e _ => (show y = j by omega) ▸ hsy))
                        clear hsy
                        go_wp2_with fail
                        go_roundg (NX.length - (q + 1))
                        case measure => omega
                        case rel => exact ⟨q + 1, S, mr, rfl, by first | rfl | rw [hwq], rfl, by omega, HZ, HCq, HS5, HI1, HSK, HXn⟩
                      | false =>
                        rw [hsy] at c0
                        have hkn : k < f.code.length := by have := HN.out; omega
                        have HIn := lhid (HI1.out.upd hkn HSK.out (p := y) (by rw [HNX.out]; exact List.mem_of_getElem? HX.out) (by have := HN.out; omega))
                        have HSn := lhid (HS5.out.upd (p := y))
                        have HCn := lhid (HCq.out.set (p := ⟨G, y, none⟩) (fun _ => rfl) (.bool true))
                        have HKn : Hid (updB S y k = true) := lhid (by unfold updB; split <;> first | rfl | exact HSK.out)
                        have HZn : Hid (cntF n (updB S y) + b2n true ≤ C0) := lhid (by have h1 := cntF_upd hyn hsy; have h2 := HZ.out; simp [b2n] at h2 ⊢; omega)
                        clear hsy hkn
                        go_wp2_with fail
                        go_roundg (NX.length - (q + 1))
                        case measure => omega
                        case rel => exact ⟨q + 1, updB S y, true, rfl, by first | rfl | rw [hwq], rfl, by omega, HZn, HCn, HSn, HIn, HKn, lhid (fun h => by cases h)⟩
                    · have HXn := lhid (HST.out (fun j e hj => absurd hj (by omega)))
                      go_wp2_with fail
                      go_roundg (NX.length - (q + 1))
                      case measure => omega
                      case rel => exact ⟨q + 1, S, mr, rfl, by first | rfl | rw [hwq], rfl, by omega, HZ, HCq, HS5, HI1, HSK, HXn⟩
                  · have HXn := lhid (HST.out (fun j e hj => absurd e (by omega)))
                    go_wp2_with fail
                    go_roundg (NX.length - (q + 1))
                    case measure => omega
                    case rel => exact ⟨q + 1, S, mr, rfl, by first | rfl | rw [hwq], rfl, by omega, HZ, HCq, HS5, HI1, HSK, HXn⟩
                · have k5 : ¬ (q : Int) < NX.length := by omega
                  have HXn : Hid (mr = false → ClsS f S (k + 1)) := lhid (fun h i hi hs j hj hjn => by
                    have h9 := HX1.out h
                    rcases Nat.lt_succ_iff_lt_or_eq.1 hi with h1 | rfl
                    · exact h9.1 i h1 hs j hj hjn
                    · rw [List.take_of_length_le (by omega)] at h9
                      exact h9.2 j (by rw [← HNX.out]; exact hj) (by have := HN.out; omega))
                  have HCr := lhid (HC5.out.trans HCq.out (fun _ _ h => h))
                  go_wp2_with fail
                  go_roundg (n - (k + 1))
                  case measure => omega
                  case rel => exact ⟨k + 1, S, mr, rfl, by first | rfl | rw [hwk], rfl, by omega, HZ, HCr, HS5, HI1, HXn⟩
          · have k3 : ¬ (k : Int) < n := by omega
            have hke : k = n := by omega
            subst hke
            go_wp2_with fail
            go_roundg (2 * cntF k S + b2n mr)
            case measure =>
              have h1 := HZ.out
              have h2 := HC0.out
              have h3 : b2n true = 1 := rfl
              cases mr <;> simp [b2n] at h1 ⊢ <;> omega
            case rel => exact ⟨S, mr, rfl, rfl, HC1, HS1, HI1, HX1⟩
end Go.Proofs.Ytifgkpfieapdjaa
/- Both Reaches, with the number of places by name. -/
namespace Go.Proofs.Ytifgkpfieapdjaa
open Go.RowKit Go
set_option linter.unusedVariables false
set_option linter.unusedSimpArgs false

theorem bl_cell {P : Nat → Prop} {w : World} {g n cap : Nat} {R : List Bool} (h : RdX P 1 BlE w (.slice (some ⟨g, 0, none⟩) n cap) R) {k : Nat} {b : Bool} (hb : R[k]? = some b) : w.cell? ⟨g, k, none⟩ = some (.bool b) := by
  obtain ⟨g', o, c, h1, _, h3, h4⟩ := h.at' hb
  injection h1 with h1
  injection h1 with h1 h2 h5
  subst h1 h2
  have h6 := h4 0 _ (by rw [h3]; rfl)
  simpa using h6
theorem reach_n {P : Nat → Prop} (f : FuI) (n : Nat) (hn : f.code.length = n) (fa fb fd fe : Value) (w : World) (h : Hid (FuV P w f fa fb fd fe)) (hcl : Hid ((f.code.length + 1) * 1024 ≤ 140737488355328)) (hrn : Hid (RwN f.rows)) (hrl : Hid (f.rows.length * 8 ≤ 140737488355328)) :
    Calls Try.prog 37 #[fuL fa fb f.ret fd fe] w fun e w' => ∃ (g : Nat) (R : List Bool), e = .returned (.slice (some ⟨g, 0, none⟩) n n) ∧ w.heap.size ≤ g ∧ RdX (fun b => b = g) 1 BlE w' (.slice (some ⟨g, 0, none⟩) n n) R ∧ IsReach f R ∧ Below w.heap.size w w' := by
  subst hn
  exact reach_any f fa fb fd fe w h hcl hrn hrl
theorem rreach_n {P : Nat → Prop} (f : FuI) (n : Nat) (hn : f.code.length = n) (fa fb fd fe : Value) (w : World) (h : Hid (FuV P w f fa fb fd fe)) (hcl : Hid ((f.code.length + 1) * 1024 ≤ 140737488355328)) (hrl : Hid ((f.rows.length + 2) * 8 ≤ 140737488355328)) :
    Calls Try.prog 41 #[fuL fa fb f.ret fd fe] w fun e w' => ∃ (g : Nat) (R : List Bool), e = .returned (.slice (some ⟨g, 0, none⟩) n n) ∧ w.heap.size ≤ g ∧ RdX (fun b => b = g) 1 BlE w' (.slice (some ⟨g, 0, none⟩) n n) R ∧ IsReach f R ∧ Below w.heap.size w w' := by
  subst hn
  exact rreach_any f fa fb fd fe w h hcl hrl
end Go.Proofs.Ytifgkpfieapdjaa
