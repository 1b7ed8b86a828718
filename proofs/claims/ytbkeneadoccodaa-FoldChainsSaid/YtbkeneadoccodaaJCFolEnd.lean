/- Fold: what law 15's run of constants and sums gives back. -/
import Derived.Test.YtbkeneadoccodaaM17
import Derived.Test.YtbkeneadoccodaaM19
import Derived.Test.YtbkeneadoccodaaJCFolMem
namespace Go.Proofs.Ytbkeneadoccodaa
open Go.RowKit Go
set_option linter.unusedVariables false
set_option linter.unusedSimpArgs false
def sel (r : Int × Int) (j : Nat) : Int := if j = 0 then r.1 else r.2
def upd (r : Int × Int) (j : Nat) (v : Int) : Int × Int := if j = 0 then (v, r.2) else (r.1, v)
def R2 (w : World) (g : Nat) (r : Int × Int) : Prop := w.heap[g]? = some (.cells #[.int .i64 r.1, .int .i64 r.2] 67 (0, 0))
theorem R2.cell {w : World} {g : Nat} {r : Int × Int} (h : R2 w g r) {j : Nat} (hj : j < 2) : w.cell? ⟨g, j, none⟩ = some (.int .i64 (sel r j)) := by
 match j, hj with
 | 0, _ => exact heap_cell h rfl
 | 1, _ => exact heap_cell h rfl
theorem R2.set {w : World} {g : Nat} {r : Int × Int} (h : R2 w g r) {j : Nat} (hj : j < 2) (v : Int) : R2 (w.setCell ⟨g, j, none⟩ (.int .i64 v)) g (upd r j v) := by
 match j, hj with
 | 0, _ => have := heap_set (i := 0) h (.int .i64 v); simpa [R2, upd] using this
 | 1, _ => have := heap_set (i := 1) h (.int .i64 v); simpa [R2, upd] using this
def R64 (r : Int × Int) : Prop := I64 r.1 ∧ I64 r.2
theorem R64.sel {r : Int × Int} (h : R64 r) (j : Nat) : I64 (sel r j) := by unfold Go.Proofs.Ytbkeneadoccodaa.sel; split; exact h.1; exact h.2
theorem R64.upd {r : Int × Int} (h : R64 r) (j : Nat) {v : Int} (hv : I64 v) : R64 (upd r j v) := by unfold Go.Proofs.Ytbkeneadoccodaa.upd; split; exact ⟨hv, h.2⟩; exact ⟨h.1, hv⟩
theorem mod2 (n : Int) : ∃ j : Nat, n % 2 = (j : Int) ∧ j < 2 := ⟨(n % 2).toNat, by omega, by omega⟩
theorem endI_c {r : Int × Int} {x : InI} {i : Nat} (h : x.op = 1) (hi : x.dst % 2 = (i : Int)) : endI r x = upd r i x.num := by
 unfold endI upd
 rw [if_pos h]
 by_cases e : i = 0
 ·rw [if_pos (by omega), if_pos e]
 ·rw [if_neg (by omega), if_neg e]
theorem sel_if {r : Int × Int} {n : Int} {i : Nat} (hi : n % 2 = (i : Int)) : (if n % 2 = 0 then r.1 else r.2) = sel r i := by
 unfold sel
 by_cases e : i = 0
 ·rw [if_pos (by omega), if_pos e]
 ·rw [if_neg (by omega), if_neg e]
theorem endI_b {r : Int × Int} {x : InI} {i j k : Nat} (h : x.op = 5) (hi : x.dst % 2 = (i : Int)) (hj : x.a % 2 = (j : Int)) (hk : x.b % 2 = (k : Int)) : endI r x = upd r i (Nm.two x.num (sel r j) (sel r k)) := by
 unfold endI
 rw [if_neg (by omega), if_pos h, sel_if hj, sel_if hk]
 unfold upd
 by_cases e : i = 0
 ·rw [if_pos (by omega), if_pos e]
 ·rw [if_neg (by omega), if_neg e]
theorem endI_o {r : Int × Int} {x : InI} (h : x.op ≠ 1) (h5 : x.op ≠ 5) : endI r x = r := by
 unfold endI
 rw [if_neg h, if_neg h5]
theorem rtwo_w (c a b : Int) (w : World) (hc : Hid (I64 c)) (ha : Hid (I64 a)) (hb : Hid (I64 b)) : Calls Try.prog 14 #[.int .i64 c, .int .i64 a, .int .i64 b] w fun e w' => e = .returned (.int .i64 (Nm.two c a b)) ∧ Below w.heap.size w w' := Nm.refTwo_any c a b hc.out ha.out hb.out w
set_option maxHeartbeats 32000000 in
set_option maxRecDepth 100000 in
theorem end_any {P : Nat → Prop} (f : FuI) (fa fb fd fe : Value) (w : World) (h : Hid (FuV P w f fa fb fd fe)) (hq : Hid (FuQ f)) :
  Calls Try.prog 15 #[fuL fa fb f.ret fd fe] w fun e w' => e = .returned (.int .i64 (endS f.code).1) ∧ Below w.heap.size w w' := by
 obtain ⟨FA, ac, hFA⟩ := h.out.a.shape
 subst hFA
 obtain ⟨FB, bc, hFB⟩ := h.out.b.shape
 subst hFB
 obtain ⟨D, dcap, hD⟩ := h.out.d.shape
 subst hD
 obtain ⟨E, ecap, hE⟩ := h.out.e.shape
 subst hE
 have hnl := h.out.d.len
 obtain ⟨n, hn⟩ : ∃ n, f.code.length = n := ⟨_, rfl⟩
 have HN := lhid hn
 have hd := h.out.d
 rw [hn] at hd hnl ⊢
 have HD := lhid hd
 clear hn hd h
 obtain ⟨B0, hB0⟩ : ∃ B, B = w.heap.size := ⟨_, rfl⟩
 go_enter Try.func15, Try.ntmps15
 go_upto_region 2 with fail
 generalize hW : World.alloc _ _ = w1
 have hb1 : Below B0 w w1 := by rw [← hW, hB0]; exact ((Below.refl w.heap.size w).alloc (Nat.le_refl _) _).alloc (by simp) _
 have hF1 : FBox w1 B0 (.slice FA f.regs.length ac) (.slice FB f.params.length bc) f.ret (.slice D n dcap) (.slice E f.rows.length ecap) := by rw [← hW, hB0]; exact (Below.heap_alloc _ _ _ (by simp)).trans (heap_alloc_new w _)
 have hR1 : R2 w1 (B0 + 1) (0, 0) := by rw [← hW, hB0]; exact heap_new2 w _ _
 try rw [← hB0]
 have HB1 := lhid hb1
 have HF1 := lhid hF1
 have HR1 := lhid hR1
 have HB0 := lhid hB0
 clear hW hb1 hR1 hB0
 obtain ⟨p0, p1, p2, p3, p4⟩ := hF1.cells
 clear hF1
 go_wp2_with fail
 go_loopw [9] (fun i wr => ∃ k : Nat, i = .int .i64 k ∧ k ≤ n ∧ Hid (R2 wr (B0 + 1) (endS (f.code.take k))) ∧ Hid (R64 (endS (f.code.take k))) ∧ Hid (Below B0 w wr) ∧ Hid (B0 + 1 < wr.heap.size)) (fun i _ => n - (intOf i).toNat)
 case atStart => exact ⟨0, rfl, Nat.zero_le _, HR1, lhid (show R64 (0, 0) from ⟨⟨by decide, by decide⟩, ⟨by decide, by decide⟩⟩), HB1, lhid (heap_lt HR1.out)⟩
 case round =>
  clear p0 p1 p2 p3 p4 HR1
  obtain ⟨k, rfl, hk, HR, H6, HB, HL⟩ := hrel
  by_cases hlt : k < n
  ·
   obtain ⟨x, hx⟩ : ∃ x, f.code[k]? = some x := ⟨_, List.getElem?_eq_getElem (by rw [HN.out]; exact hlt)⟩
   obtain ⟨g, o, v, hDD, _, hv, c0, c1, c2, c3, c4, c5, c6, c7, c8⟩ := in_cells HD.out hx
   subst hDD
   obtain ⟨VA, vc, hv0⟩ := hv.shape
   subst hv0
   have kc : ∀ {p : Addr} {u : Value}, w.cell? p = some u → wr.cell? p = some u := fun {p u} hq => ((Below.less HB.out (by rw [HB0.out]; exact Nat.le_refl _)).cell (p := p) (cell_lt hq)).trans hq
   replace c0 := kc c0
   replace c1 := kc c1
   replace c2 := kc c2
   replace c3 := kc c3
   replace c4 := kc c4
   replace c5 := kc c5
   replace c6 := kc c6
   replace c7 := kc c7
   replace c8 := kc c8
   have HX := lhid hx
   have k3 : (k : Int) < n := by omega
   have hwk : wrap64 ((k : Int) + 1) = (k : Int) + 1 := IntWalk.wrap64_in _ (by omega)
   have HK1 : Hid (k + 1 ≤ n ∧ n - (k + 1) < n - k) := lhid ⟨hlt, by omega⟩
   have HNX : Hid (I64 x.num) := lhid (hq.out.num x (List.mem_of_getElem? hx))
   obtain ⟨r, hr⟩ : ∃ r, endS (f.code.take k) = r := ⟨_, rfl⟩
   rw [hr] at HR H6
   have HES : Hid (endS (f.code.take (k + 1)) = endI r x) := lhid (by rw [endS_snoc hx, hr])
   clear hx kc hv hr
   go_upto_region 5 with fail
   generalize hW : World.alloc _ _ = w2
   obtain ⟨XB, hXB⟩ : ∃ XB, XB = wr.heap.size := ⟨_, rfl⟩
   try rw [← hXB]
   have hb2 : Below wr.heap.size wr w2 := by rw [← hW]; exact (Below.refl _ _).alloc (Nat.le_refl _) _
   have HX2 : Hid (XBox w2 XB x.op x.dst x.a x.b x.c x.num x.too x.ref (.slice VA x.args.length vc)) := lhid (by rw [← hW, hXB]; exact heap_alloc_new wr _)
   have HR2 : Hid (R2 w2 (B0 + 1) r) := lhid (heap_keep HR.out hb2)
   have HB2 : Hid (Below B0 w w2) := lhid (HB.out.trans (hb2.mono (by have := HL.out; omega)))
   have HL2 : Hid (B0 + 1 < XB ∧ XB < w2.heap.size) := lhid ⟨by have := HL.out; omega, heap_lt HX2.out⟩
   clear hW hb2 hXB c0 c1 c2 c3 c4 c5 c6 c7 c8 HR HB HL
   obtain ⟨x0, x1, x2, x3, x4, x5, x6, x7, x8⟩ := HX2.out.cells
   obtain ⟨i, hi, hi2⟩ := mod2 x.dst
   have hand : bits .and .i64 x.dst 1 = (i : Int) := (Nm.and1 x.dst).trans hi
   have HI := lhid hi
   have i2 : (i : Int) < 2 := by omega
   clear hi
   have hw := HR2.out.cell hi2
   have hz := heap_thaw HR2.out
   by_cases h1 : x.op = 1
   ·have e1 : (x.op == 1) = true := by rw [h1]; rfl
    have HES2 := lhid (HES.out.trans (endI_c h1 HI.out))
    clear h1
    go_wp2_with fail
    generalize hW : World.setCell _ _ _ = w3
    have HR3 : Hid (R2 w3 (B0 + 1) (endS (f.code.take (k + 1)))) := lhid (by rw [HES2.out, ← hW]; exact HR2.out.set hi2 _)
    have H63 : Hid (R64 (endS (f.code.take (k + 1)))) := lhid (by rw [HES2.out]; exact H6.out.upd i HNX.out)
    have HB3 : Hid (Below B0 w w3) := lhid (by rw [← hW]; exact HB2.out.setCell (by show B0 ≤ B0 + 1; omega) _)
    have HL3 : Hid (B0 + 1 < w3.heap.size) := lhid (heap_lt HR3.out)
    clear hW
    go_roundw
    case rel => exact ⟨k + 1, by go_num, HK1.out.1, HR3, H63, HB3, HL3⟩
    case measure => first | exact HK1.out.2 | (rw [hwk]; exact HK1.out.2)
   have e1 : (x.op == 1) = false := by rw [beq_eq_false_iff_ne]; exact h1
   by_cases h5 : x.op = 5
   ·have e5 : (x.op == 5) = true := by rw [h5]; rfl
    obtain ⟨j, hj, hj2⟩ := mod2 x.a
    obtain ⟨l, hl, hl2⟩ := mod2 x.b
    have handa : bits .and .i64 x.a 1 = (j : Int) := (Nm.and1 x.a).trans hj
    have handb : bits .and .i64 x.b 1 = (l : Int) := (Nm.and1 x.b).trans hl
    have j2 : (j : Int) < 2 := by omega
    have l2 : (l : Int) < 2 := by omega
    have HES2 := lhid (HES.out.trans (endI_b h5 HI.out hj hl))
    have HJ := lhid (H6.out.sel j)
    have HLS := lhid (H6.out.sel l)
    have HT64 : Hid (I64 (Nm.two x.num (sel r j) (sel r l))) := lhid (two_64 HJ.out)
    clear h5 h1 hj hl
    go_upto_region 9 with fail
    have HG : Hid (∀ w' : World, Ch (fun k => k = B0 + 1) w2 w' → w'.cell? ⟨XB, 0, none⟩ = some (.int .i64 x.op) ∧ w'.cell? ⟨XB, 1, none⟩ = some (.int .i64 x.dst) ∧ w'.cell? ⟨XB, 2, none⟩ = some (.int .i64 x.a) ∧ w'.cell? ⟨XB, 3, none⟩ = some (.int .i64 x.b) ∧ w'.cell? ⟨XB, 4, none⟩ = some (.int .i64 x.c) ∧ w'.cell? ⟨XB, 5, none⟩ = some (.int .i64 x.num) ∧ w'.cell? ⟨XB, 6, none⟩ = some (.int .i64 x.too) ∧ w'.cell? ⟨XB, 7, none⟩ = some (.string (tx x.ref)) ∧ w'.cell? ⟨XB, 8, none⟩ = some (.slice VA x.args.length vc)) := lhid (fun w' hw' => by
     have k1 : XBox w' XB x.op x.dst x.a x.b x.c x.num x.too x.ref (.slice VA x.args.length vc) := hw'.keep HX2.out (by have := HL2.out; omega)
     exact k1.cells)
    refine wp_region_held_drew (S := fun w' => Ch (fun k => k = B0 + 1) w2 w') (by kernel_rfl) (Ch.drew (Ch.refl _ _)) ?_
    intro hS0
    clear x0 x1 x2 x3 x4 x5 x6 x7 x8 hw hz
    obtain ⟨wd, hwd⟩ : ∃ wd, wd = w2.drew := ⟨_, rfl⟩
    have HRd : Hid (R2 wd (B0 + 1) r) := lhid (by rw [hwd]; exact HR2.out)
    rw [← hwd] at hS0 ⊢
    clear hwd
    have ra := HRd.out.cell hj2
    have rb := HRd.out.cell hl2
    refine wpAnyH_take (i := 0) (v := ?tv1) rfl (by kernel_rfl) (by kernel_rfl) (by kernel_rfl) (fun _ _ _ h => h) (Or.inl ⟨by rfl, ?ty1⟩) hS0 ?tr1
    case ty1 => (intro w' hw'; obtain ⟨y0, y1, y2, y3, y4, y5, y6, y7, y8⟩ := HG.out w' hw'; go_simp; try with_reducible rfl)
    try simp only [List.getElem_toArray, List.getElem_cons_zero, List.getElem_cons_succ]
    try simp only [Act.put, List.setIfInBounds_toArray, List.set_cons_zero, List.set_cons_succ]
    refine wpAnyH_take (i := 1) (v := ?tv2) rfl (by kernel_rfl) (by kernel_rfl) (by kernel_rfl) (fun _ _ _ h => h) (Or.inl ⟨by rfl, ?ty2⟩) hS0 ?tr2
    case ty2 => (intro w' hw'; obtain ⟨y0, y1, y2, y3, y4, y5, y6, y7, y8⟩ := HG.out w' hw'; go_simp; try with_reducible rfl)
    try simp only [List.getElem_toArray, List.getElem_cons_zero, List.getElem_cons_succ]
    try simp only [Act.put, List.setIfInBounds_toArray, List.set_cons_zero, List.set_cons_succ]
    refine wpAnyH_take (i := 2) (v := ?tv3) rfl (by kernel_rfl) (by kernel_rfl) (by kernel_rfl) (fun _ _ _ h => h) (Or.inl ⟨by rfl, ?ty3⟩) hS0 ?tr3
    case ty3 => (intro w' hw'; obtain ⟨y0, y1, y2, y3, y4, y5, y6, y7, y8⟩ := HG.out w' hw'; go_simp; try with_reducible rfl)
    try simp only [List.getElem_toArray, List.getElem_cons_zero, List.getElem_cons_succ]
    try simp only [Act.put, List.setIfInBounds_toArray, List.set_cons_zero, List.set_cons_succ]
    refine wpAnyH_take (i := 3) (v := ?tv4) rfl (by kernel_rfl) (by kernel_rfl) (by kernel_rfl) (fun _ _ _ h => h) (Or.inl ⟨by rfl, ?ty4⟩) hS0 ?tr4
    case ty4 => (intro w' hw'; obtain ⟨y0, y1, y2, y3, y4, y5, y6, y7, y8⟩ := HG.out w' hw'; go_simp; try with_reducible rfl)
    try simp only [List.getElem_toArray, List.getElem_cons_zero, List.getElem_cons_succ]
    try simp only [Act.put, List.setIfInBounds_toArray, List.set_cons_zero, List.set_cons_succ]
    refine wpAnyH_take (i := 4) (v := ?tv5) rfl (by kernel_rfl) (by kernel_rfl) (by kernel_rfl) (fun _ _ _ h => h) (Or.inl ⟨by rfl, ?ty5⟩) hS0 ?tr5
    case ty5 => (intro w' hw'; obtain ⟨y0, y1, y2, y3, y4, y5, y6, y7, y8⟩ := HG.out w' hw'; go_simp; try with_reducible rfl)
    try simp only [List.getElem_toArray, List.getElem_cons_zero, List.getElem_cons_succ]
    try simp only [Act.put, List.setIfInBounds_toArray, List.set_cons_zero, List.set_cons_succ]
    refine wpAnyH_take (i := 5) (v := ?tv6) rfl (by kernel_rfl) (by kernel_rfl) (by kernel_rfl) (fun _ _ _ h => h) (Or.inl ⟨by rfl, ?ty6⟩) hS0 ?tr6
    case ty6 => (intro w' hw'; obtain ⟨y0, y1, y2, y3, y4, y5, y6, y7, y8⟩ := HG.out w' hw'; go_simp; try with_reducible rfl)
    try simp only [List.getElem_toArray, List.getElem_cons_zero, List.getElem_cons_succ]
    try simp only [Act.put, List.setIfInBounds_toArray, List.set_cons_zero, List.set_cons_succ]
    refine wpAnyH_take (i := 6) (v := ?tv7) rfl (by kernel_rfl) (by kernel_rfl) (by kernel_rfl) (fun _ _ _ h => h) (Or.inl ⟨by rfl, ?ty7⟩) hS0 ?tr7
    case ty7 => (intro w' hw'; obtain ⟨y0, y1, y2, y3, y4, y5, y6, y7, y8⟩ := HG.out w' hw'; go_simp; try with_reducible rfl)
    try simp only [List.getElem_toArray, List.getElem_cons_zero, List.getElem_cons_succ]
    try simp only [Act.put, List.setIfInBounds_toArray, List.set_cons_zero, List.set_cons_succ]
    refine wpAnyH_take (i := 7) (v := ?tv8) rfl (by kernel_rfl) (by kernel_rfl) (by kernel_rfl) (fun _ _ _ h => h) (Or.inl ⟨by rfl, ?ty8⟩) hS0 ?tr8
    case ty8 => (intro w' hw'; obtain ⟨y0, y1, y2, y3, y4, y5, y6, y7, y8⟩ := HG.out w' hw'; go_simp; try with_reducible rfl)
    try simp only [List.getElem_toArray, List.getElem_cons_zero, List.getElem_cons_succ]
    try simp only [Act.put, List.setIfInBounds_toArray, List.set_cons_zero, List.set_cons_succ]
    refine wpAnyH_take (i := 8) (v := ?tv9) rfl (by kernel_rfl) (by kernel_rfl) (by kernel_rfl) (fun _ _ _ h => h) (Or.inl ⟨by rfl, ?ty9⟩) hS0 ?tr9
    case ty9 => (intro w' hw'; obtain ⟨y0, y1, y2, y3, y4, y5, y6, y7, y8⟩ := HG.out w' hw'; go_simp; try with_reducible rfl)
    try simp only [List.getElem_toArray, List.getElem_cons_zero, List.getElem_cons_succ]
    try simp only [Act.put, List.setIfInBounds_toArray, List.set_cons_zero, List.set_cons_succ]
    refine wpAnyH_take (i := 10) (v := ?tv10) rfl (by kernel_rfl) (by kernel_rfl) (by kernel_rfl) (fun _ _ _ h => h) (Or.inl ⟨by rfl, ?ty10⟩) hS0 ?tr10
    case ty10 => (intro w' hw'; obtain ⟨y0, y1, y2, y3, y4, y5, y6, y7, y8⟩ := HG.out w' hw'; go_simp; try with_reducible rfl)
    try simp only [List.getElem_toArray, List.getElem_cons_zero, List.getElem_cons_succ]
    try simp only [Act.put, List.setIfInBounds_toArray, List.set_cons_zero, List.set_cons_succ]
    refine wpAnyH_take (i := 11) (v := ?tv11) rfl (by kernel_rfl) (by kernel_rfl) (by kernel_rfl) (fun _ _ _ h => h) (Or.inl ⟨by rfl, ?ty11⟩) hS0 ?tr11
    case ty11 => (intro w' hw'; obtain ⟨y0, y1, y2, y3, y4, y5, y6, y7, y8⟩ := HG.out w' hw'; go_simp; try with_reducible rfl)
    try simp only [List.getElem_toArray, List.getElem_cons_zero, List.getElem_cons_succ]
    try simp only [Act.put, List.setIfInBounds_toArray, List.set_cons_zero, List.set_cons_succ]
    refine wpAnyH_take (i := 12) (v := ?tv12) rfl (by kernel_rfl) (by kernel_rfl) (by kernel_rfl) (fun _ _ _ h => h) (Or.inl ⟨by rfl, ?ty12⟩) hS0 ?tr12
    case ty12 => (intro w' hw'; obtain ⟨y0, y1, y2, y3, y4, y5, y6, y7, y8⟩ := HG.out w' hw'; go_simp; try with_reducible rfl)
    try simp only [List.getElem_toArray, List.getElem_cons_zero, List.getElem_cons_succ]
    try simp only [Act.put, List.setIfInBounds_toArray, List.set_cons_zero, List.set_cons_succ]
    refine wpAnyH_take (i := 13) (v := ?tv13) rfl (by kernel_rfl) (by kernel_rfl) (by kernel_rfl) (fun _ _ _ h => h) (Or.inl ⟨by rfl, ?ty13⟩) hS0 ?tr13
    case ty13 => (intro w' hw'; obtain ⟨y0, y1, y2, y3, y4, y5, y6, y7, y8⟩ := HG.out w' hw'; go_simp; try with_reducible rfl)
    try simp only [List.getElem_toArray, List.getElem_cons_zero, List.getElem_cons_succ]
    try simp only [Act.put, List.setIfInBounds_toArray, List.set_cons_zero, List.set_cons_succ]
    refine wpAnyH_ready (rs := [9, 14]) (by kernel_rfl) (by simp) ?_
    refine AllReadyH.cons rfl (fun K hK => ?_) (AllReadyH.cons rfl (fun K hK => ?_) AllReadyH.nil)
    ·
     go_simp
     refine hK.out _ _ hS0 (fun _ => ?_)
     clear hK K
     try simp only [Act.put, List.setIfInBounds_toArray, List.set_cons_zero, List.set_cons_succ]
     refine wpAnyH_ready (rs := [14]) (by kernel_rfl) (by simp) ?_
     refine AllReadyH.cons rfl (fun K hK => ?_) AllReadyH.nil
     go_simp
     refine hK.out _ _ hS0 (fun _ => ?_)
     clear hK K
     try simp only [Act.put, List.setIfInBounds_toArray, List.set_cons_zero, List.set_cons_succ]
     refine wpAnyH_ready (rs := [15]) (by kernel_rfl) (by simp) ?_
     refine AllReadyH.cons rfl (fun K hK => ?_) AllReadyH.nil
     go_simp
     with_reducible refine (rtwo_w x.num (sel r j) (sel r l) _ HNX HJ HLS).mono ?_
     rintro e w3 ⟨rfl, hb3⟩
     have HR3 : Hid (R2 w3 (B0 + 1) r) := lhid (heap_keep HRd.out hb3)
     have hS3 : Ch (fun k => k = B0 + 1) w2 w3 := hS0.below hb3
     clear hb3 ra rb
     have hw := HR3.out.cell hi2
     have hz := heap_thaw HR3.out
     dsimp only
     refine hK.out _ _ hS3 (fun _ => ?_)
     clear hK K
     try simp only [Act.put, List.setIfInBounds_toArray, List.set_cons_zero, List.set_cons_succ]
     refine wpAnyH_take (i := 16) (v := ?tv14) rfl (by kernel_rfl) (by kernel_rfl) (by kernel_rfl) (fun _ _ _ h => h) (Or.inl ⟨by rfl, ?ty14⟩) hS3 ?tr14
     case ty14 => (intro w' hw'; obtain ⟨y0, y1, y2, y3, y4, y5, y6, y7, y8⟩ := HG.out w' hw'; go_simp; try with_reducible rfl)
     try simp only [List.getElem_toArray, List.getElem_cons_zero, List.getElem_cons_succ]
     try simp only [Act.put, List.setIfInBounds_toArray, List.set_cons_zero, List.set_cons_succ]
     refine wpAnyH_ready (rs := [17]) (by kernel_rfl) (by simp) ?_
     refine AllReadyH.cons rfl (fun K hK => ?_) AllReadyH.nil
     go_simp
     obtain ⟨w4, hw4⟩ : ∃ w4, w4 = w3.setCell ⟨B0 + 1, i, none⟩ (.int .i64 (Nm.two x.num (sel r j) (sel r l))) := ⟨_, rfl⟩
     have HR4 : Hid (R2 w4 (B0 + 1) (endS (f.code.take (k + 1)))) := lhid (by rw [HES2.out, hw4]; exact HR3.out.set hi2 _)
     have H64 : Hid (R64 (endS (f.code.take (k + 1)))) := lhid (by rw [HES2.out]; exact H6.out.upd i HT64.out)
     have hS4 : Ch (fun k => k = B0 + 1) w2 w4 := by rw [hw4]; exact hS3.set (p := ⟨B0 + 1, i, none⟩) (fun _ => rfl) _
     rw [← hw4]
     clear hw4 hw hz
     have HB4 : Hid (Below B0 w w4) := lhid (HB2.out.trans (hS4.to (by have := HL2.out; omega) (fun b e => by omega)))
     have HL4 : Hid (B0 + 1 < w4.heap.size) := lhid (heap_lt HR4.out)
     refine hK.out _ _ hS4 (fun _ => ?_)
     clear hK K
     try simp only [Act.put, List.setIfInBounds_toArray, List.set_cons_zero, List.set_cons_succ]
     refine wpAnyH_done (by kernel_rfl) ?_ _
     clear hS0 hS3 hS4
     go_wp2_with fail
     go_roundw
     case rel => exact ⟨k + 1, by go_num, HK1.out.1, HR4, H64, HB4, HL4⟩
     case measure => first | exact HK1.out.2 | (rw [hwk]; exact HK1.out.2)
    ·
     go_simp
     refine hK.out _ _ hS0 (fun _ => ?_)
     clear hK K
     try simp only [Act.put, List.setIfInBounds_toArray, List.set_cons_zero, List.set_cons_succ]
     refine wpAnyH_ready (rs := [9]) (by kernel_rfl) (by simp) ?_
     refine AllReadyH.cons rfl (fun K hK => ?_) AllReadyH.nil
     go_simp
     refine hK.out _ _ hS0 (fun _ => ?_)
     clear hK K
     try simp only [Act.put, List.setIfInBounds_toArray, List.set_cons_zero, List.set_cons_succ]
     refine wpAnyH_ready (rs := [15]) (by kernel_rfl) (by simp) ?_
     refine AllReadyH.cons rfl (fun K hK => ?_) AllReadyH.nil
     go_simp
     with_reducible refine (rtwo_w x.num (sel r j) (sel r l) _ HNX HJ HLS).mono ?_
     rintro e w3 ⟨rfl, hb3⟩
     have HR3 : Hid (R2 w3 (B0 + 1) r) := lhid (heap_keep HRd.out hb3)
     have hS3 : Ch (fun k => k = B0 + 1) w2 w3 := hS0.below hb3
     clear hb3 ra rb
     have hw := HR3.out.cell hi2
     have hz := heap_thaw HR3.out
     dsimp only
     refine hK.out _ _ hS3 (fun _ => ?_)
     clear hK K
     try simp only [Act.put, List.setIfInBounds_toArray, List.set_cons_zero, List.set_cons_succ]
     refine wpAnyH_take (i := 16) (v := ?tv15) rfl (by kernel_rfl) (by kernel_rfl) (by kernel_rfl) (fun _ _ _ h => h) (Or.inl ⟨by rfl, ?ty15⟩) hS3 ?tr15
     case ty15 => (intro w' hw'; obtain ⟨y0, y1, y2, y3, y4, y5, y6, y7, y8⟩ := HG.out w' hw'; go_simp; try with_reducible rfl)
     try simp only [List.getElem_toArray, List.getElem_cons_zero, List.getElem_cons_succ]
     try simp only [Act.put, List.setIfInBounds_toArray, List.set_cons_zero, List.set_cons_succ]
     refine wpAnyH_ready (rs := [17]) (by kernel_rfl) (by simp) ?_
     refine AllReadyH.cons rfl (fun K hK => ?_) AllReadyH.nil
     go_simp
     obtain ⟨w4, hw4⟩ : ∃ w4, w4 = w3.setCell ⟨B0 + 1, i, none⟩ (.int .i64 (Nm.two x.num (sel r j) (sel r l))) := ⟨_, rfl⟩
     have HR4 : Hid (R2 w4 (B0 + 1) (endS (f.code.take (k + 1)))) := lhid (by rw [HES2.out, hw4]; exact HR3.out.set hi2 _)
     have H64 : Hid (R64 (endS (f.code.take (k + 1)))) := lhid (by rw [HES2.out]; exact H6.out.upd i HT64.out)
     have hS4 : Ch (fun k => k = B0 + 1) w2 w4 := by rw [hw4]; exact hS3.set (p := ⟨B0 + 1, i, none⟩) (fun _ => rfl) _
     rw [← hw4]
     clear hw4 hw hz
     have HB4 : Hid (Below B0 w w4) := lhid (HB2.out.trans (hS4.to (by have := HL2.out; omega) (fun b e => by omega)))
     have HL4 : Hid (B0 + 1 < w4.heap.size) := lhid (heap_lt HR4.out)
     refine hK.out _ _ hS4 (fun _ => ?_)
     clear hK K
     try simp only [Act.put, List.setIfInBounds_toArray, List.set_cons_zero, List.set_cons_succ]
     refine wpAnyH_done (by kernel_rfl) ?_ _
     clear hS0 hS3 hS4
     go_wp2_with fail
     go_roundw
     case rel => exact ⟨k + 1, by go_num, HK1.out.1, HR4, H64, HB4, HL4⟩
     case measure => first | exact HK1.out.2 | (rw [hwk]; exact HK1.out.2)
   ·have e5 : (x.op == 5) = false := by rw [beq_eq_false_iff_ne]; exact h5
    have HES2 := lhid (HES.out.trans (endI_o h1 h5))
    clear h1 h5
    have HR3 : Hid (R2 w2 (B0 + 1) (endS (f.code.take (k + 1)))) := lhid (by rw [HES2.out]; exact HR2.out)
    have H63 : Hid (R64 (endS (f.code.take (k + 1)))) := lhid (by rw [HES2.out]; exact H6.out)
    have HL3 : Hid (B0 + 1 < w2.heap.size) := lhid (heap_lt HR3.out)
    go_wp2_with fail
    go_roundw
    case rel => exact ⟨k + 1, by go_num, HK1.out.1, HR3, H63, HB2, HL3⟩
    case measure => first | exact HK1.out.2 | (rw [hwk]; exact HK1.out.2)
  ·have k3 : ¬ (k : Int) < n := by omega
   have hw := HR.out.cell (show 0 < 2 by decide)
   have HE : Hid (f.code.take k = f.code) := lhid (List.take_of_length_le (by rw [HN.out]; omega))
   rw [HE.out] at hw
   go_wp2_with fail
   go_ret
   exact ⟨rfl, by rw [← HB0.out]; exact HB.out⟩
end Go.Proofs.Ytbkeneadoccodaa
