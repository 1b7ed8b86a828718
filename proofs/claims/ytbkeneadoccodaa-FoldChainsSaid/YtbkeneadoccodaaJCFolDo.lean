/- Fold: what becomes of an instruction. -/
import Derived.Test.YtbkeneadoccodaaJCFolOne
import Derived.Test.YtbkeneadoccodaaM6
namespace Go.Proofs.Ytbkeneadoccodaa
open Go.RowKit Go Go.Maps
set_option linter.unusedVariables false
set_option linter.unusedSimpArgs false
theorem constant_y (r n : Int) (y : InI) (w : World) (hy : Hid (cstI r n = y)) : Calls Try.prog 59 #[.int .i64 r, .int .i64 n] w fun e w' => e = .returned (inA y (.slice none 0 0)) ∧ Below w.heap.size w w' := by
 rw [← hy.out]
 exact constant_c r n w
theorem way_y (td : Int) (t : Bool) (y : InI) (w : World) (hy : Hid (wayI td t = y)) : Calls Try.prog 62 #[.int .i64 td, .bool t] w fun e w' => e = .returned (inA y (.slice none 0 0)) ∧ Below w.heap.size w w' := by
 rw [← hy.out]
 exact way_c td t w
theorem two_w (c a b : Int) (w : World) (hc : Hid (I64 c)) : Calls Try.prog 61 #[.int .i64 c, .int .i64 a, .int .i64 b] w fun e w' => e = .returned (.int .i64 (Nm.two c a b)) ∧ w = w' := Nm.two_any c a b hc.out.1 hc.out.2 w
theorem i64_same {n : Int} (h : I64 n) : IntKind.i64.wrap n = n := IntWalk.i64_in _ (by have := h.1; have := h.2; omega)
set_option maxHeartbeats 16000000 in
set_option maxRecDepth 100000 in
theorem folded_c (K : KnF) (x : InI) (v : Value) (b n : Nat) (w : World) (hm : Hid (MI w b n (fun s => (K s).map vI))) (ha : Hid (I6 x.a ∧ I6 x.b)) (hn : Hid (I64 x.num)) (hv : ∃ A m cp, v = .slice A m cp) :
  Calls Try.prog 28 #[.map (some b), inA x v] w fun e w' => ∃ v', e = .returned (inA (foI K x) v') ∧ ((foI K x = x ∧ v' = v) ∨ ((foI K x).args = [] ∧ v' = .slice none 0 0)) ∧ Below w.heap.size w w' := by
 obtain ⟨VA, vm, vc, rfl⟩ := hv
 obtain ⟨op, dst, a, b_, c, num, too, ref, args⟩ := x
 obtain ⟨RB, hRB⟩ : ∃ RB, RB = w.heap.size + 1 := ⟨_, rfl⟩
 have hw64 := i64_same hn.out
 go_enter Try.func28, Try.ntmps28
 go_upto_region 1 with fail
 generalize hW : World.alloc _ _ = w1
 have hb1 : Below w.heap.size w w1 := by rw [← hW]; exact ((Below.refl _ _).alloc (Nat.le_refl _) _).alloc (by simp) _
 have HX1 : Hid (XBox w1 w.heap.size op dst a b_ c num too ref (.slice VA vm vc)) := lhid (by rw [← hW]; exact (Below.heap_alloc _ _ _ (by simp)).trans (heap_alloc_new w _))
 have HZ1 : Hid (ZIns w1 RB) := lhid (by rw [← hW, hRB]; exact heap_new2 w _ _)
 have HM1 := lhid (hm.out.below hb1)
 have HB1 := lhid hb1
 try rw [← hRB]
 have hla := (HM1.out.look Try.underlying55 (zero_i64n w1) ha.out.1).2
 have hlb := (HM1.out.look Try.underlying55 (zero_i64n w1) ha.out.2).2
 have HNE : Hid (w.heap.size ≠ RB) := lhid (by omega)
 have HRL : Hid (w.heap.size ≤ RB) := lhid (by omega)
 clear hW hb1 hRB
 obtain ⟨x0, x1, x2, x3, x4, x5, x6, x7, x8⟩ := HX1.out.cells
 obtain ⟨q0, q1, q2, q3, q4, q5, q6, q7, q8⟩ := HZ1.out.cells
 have zz := heap_thaw HZ1.out
 have HG : Hid (∀ w' : World, Ch (fun k => k = RB) w1 w' → w'.cell? ⟨w.heap.size, 0, none⟩ = some (.int .i64 op) ∧ w'.cell? ⟨w.heap.size, 1, none⟩ = some (.int .i64 dst) ∧ w'.cell? ⟨w.heap.size, 2, none⟩ = some (.int .i64 a) ∧ w'.cell? ⟨w.heap.size, 3, none⟩ = some (.int .i64 b_) ∧ w'.cell? ⟨w.heap.size, 4, none⟩ = some (.int .i64 c) ∧ w'.cell? ⟨w.heap.size, 5, none⟩ = some (.int .i64 num) ∧ w'.cell? ⟨w.heap.size, 6, none⟩ = some (.int .i64 too) ∧ w'.cell? ⟨w.heap.size, 7, none⟩ = some (.string (tx ref)) ∧ w'.cell? ⟨w.heap.size, 8, none⟩ = some (.slice VA vm vc)) := lhid (fun w' hw' => by
  have k1 : XBox w' w.heap.size op dst a b_ c num too ref (.slice VA vm vc) := hw'.keep HX1.out HNE.out
  exact k1.cells)
 have hops : op = 4 ∨ op = 6 ∨ op = 5 ∨ op = 28 ∨ (op ≠ 4 ∧ op ≠ 6 ∧ op ≠ 5 ∧ op ≠ 28) := by omega
 obtain ⟨ra, hra⟩ : ∃ ra, K a = ra := ⟨_, rfl⟩
 obtain ⟨rb, hrb⟩ : ∃ rb, K b_ = rb := ⟨_, rfl⟩
 dsimp only at hla hlb
 rw [hra] at hla
 rw [hrb] at hlb
 have HRA := lhid hra
 have HRX := lhid hrb
 clear hra hrb
 rcases hops with rfl | rfl | rfl | rfl | ⟨h1, h2, h3, h4⟩
 ·rcases ra with _ | na <;> rcases rb with _ | nb
  ·simp only [Option.map_none, Option.map_some, Option.getD_none, Option.getD_some, Option.isSome_none, Option.isSome_some] at hla hlb
   have HE : Hid (foI K (InI.mk 4 dst a b_ c num too ref args) = InI.mk 4 dst a b_ c num too ref args) := lhid (by unfold foI; simp [HRA.out, HRX.out, *])
   go_wp2_with fail
   refine bodyPost_ret (results_cell_row rfl _ _ RB 29 _ _ _ rfl (nine_set HZ1.out rfl _ _ _ _ _ _ _ _ _) Try.underlying29 rfl sizeIns) rfl ?_
   exact ⟨_, by rw [HE.out], .inl ⟨HE.out, rfl⟩, nine_below HB1.out HRL.out _ _ _ _ _ _ _ _ _⟩
  ·simp only [Option.map_none, Option.map_some, Option.getD_none, Option.getD_some, Option.isSome_none, Option.isSome_some] at hla hlb
   have HE : Hid (foI K (InI.mk 4 dst a b_ c num too ref args) = InI.mk 4 dst a b_ c num too ref args) := lhid (by unfold foI; simp [HRA.out, HRX.out, *])
   go_wp2_with fail
   refine bodyPost_ret (results_cell_row rfl _ _ RB 29 _ _ _ rfl (nine_set HZ1.out rfl _ _ _ _ _ _ _ _ _) Try.underlying29 rfl sizeIns) rfl ?_
   exact ⟨_, by rw [HE.out], .inl ⟨HE.out, rfl⟩, nine_below HB1.out HRL.out _ _ _ _ _ _ _ _ _⟩
  ·simp only [Option.map_none, Option.map_some, Option.getD_none, Option.getD_some, Option.isSome_none, Option.isSome_some] at hla hlb
   obtain ⟨y, hy⟩ : ∃ y, cstI dst na = y := ⟨_, rfl⟩
   have HY := lhid hy
   have HE : Hid (foI K (InI.mk 4 dst a b_ c num too ref args) = y) := lhid (by rw [← hy]; unfold foI; simp [HRA.out])
   have HEA : Hid (y.args = []) := lhid (by rw [← hy]; rfl)
   clear hy
   go_wp2_with fail
   with_reducible refine (constant_y dst na y _ HY).mono ?_
   rintro e w3 ⟨rfl, hb3⟩
   have HZ3 : Hid (ZIns w3 RB) := lhid (heap_keep HZ1.out hb3)
   have HB3 : Hid (Below w.heap.size w w3) := lhid (HB1.out.trans (hb3.mono HB1.out.size))
   clear hb3 x0 x1 x2 x3 x4 x5 x6 x7 x8 q0 q1 q2 q3 q4 q5 q6 q7 q8 zz hla hlb
   obtain ⟨q0, q1, q2, q3, q4, q5, q6, q7, q8⟩ := HZ3.out.cells
   have zz := heap_thaw HZ3.out
   go_wp2_with fail
   refine bodyPost_ret (results_cell_row rfl _ _ RB 29 _ _ _ rfl (nine_set HZ3.out rfl _ _ _ _ _ _ _ _ _) Try.underlying29 rfl sizeIns) rfl ?_
   exact ⟨.slice none 0 0, by rw [HE.out], .inr ⟨by rw [HE.out]; exact HEA.out, rfl⟩, nine_below HB3.out HRL.out _ _ _ _ _ _ _ _ _⟩
  ·simp only [Option.map_none, Option.map_some, Option.getD_none, Option.getD_some, Option.isSome_none, Option.isSome_some] at hla hlb
   obtain ⟨y, hy⟩ : ∃ y, cstI dst na = y := ⟨_, rfl⟩
   have HY := lhid hy
   have HE : Hid (foI K (InI.mk 4 dst a b_ c num too ref args) = y) := lhid (by rw [← hy]; unfold foI; simp [HRA.out])
   have HEA : Hid (y.args = []) := lhid (by rw [← hy]; rfl)
   clear hy
   go_wp2_with fail
   with_reducible refine (constant_y dst na y _ HY).mono ?_
   rintro e w3 ⟨rfl, hb3⟩
   have HZ3 : Hid (ZIns w3 RB) := lhid (heap_keep HZ1.out hb3)
   have HB3 : Hid (Below w.heap.size w w3) := lhid (HB1.out.trans (hb3.mono HB1.out.size))
   clear hb3 x0 x1 x2 x3 x4 x5 x6 x7 x8 q0 q1 q2 q3 q4 q5 q6 q7 q8 zz hla hlb
   obtain ⟨q0, q1, q2, q3, q4, q5, q6, q7, q8⟩ := HZ3.out.cells
   have zz := heap_thaw HZ3.out
   go_wp2_with fail
   refine bodyPost_ret (results_cell_row rfl _ _ RB 29 _ _ _ rfl (nine_set HZ3.out rfl _ _ _ _ _ _ _ _ _) Try.underlying29 rfl sizeIns) rfl ?_
   exact ⟨.slice none 0 0, by rw [HE.out], .inr ⟨by rw [HE.out]; exact HEA.out, rfl⟩, nine_below HB3.out HRL.out _ _ _ _ _ _ _ _ _⟩
 ·rcases ra with _ | na <;> rcases rb with _ | nb
  ·simp only [Option.map_none, Option.map_some, Option.getD_none, Option.getD_some, Option.isSome_none, Option.isSome_some] at hla hlb
   have HE : Hid (foI K (InI.mk 6 dst a b_ c num too ref args) = InI.mk 6 dst a b_ c num too ref args) := lhid (by unfold foI; simp [HRA.out, HRX.out, *])
   go_wp2_with fail
   refine bodyPost_ret (results_cell_row rfl _ _ RB 29 _ _ _ rfl (nine_set HZ1.out rfl _ _ _ _ _ _ _ _ _) Try.underlying29 rfl sizeIns) rfl ?_
   exact ⟨_, by rw [HE.out], .inl ⟨HE.out, rfl⟩, nine_below HB1.out HRL.out _ _ _ _ _ _ _ _ _⟩
  ·simp only [Option.map_none, Option.map_some, Option.getD_none, Option.getD_some, Option.isSome_none, Option.isSome_some] at hla hlb
   have HE : Hid (foI K (InI.mk 6 dst a b_ c num too ref args) = InI.mk 6 dst a b_ c num too ref args) := lhid (by unfold foI; simp [HRA.out, HRX.out, *])
   go_wp2_with fail
   refine bodyPost_ret (results_cell_row rfl _ _ RB 29 _ _ _ rfl (nine_set HZ1.out rfl _ _ _ _ _ _ _ _ _) Try.underlying29 rfl sizeIns) rfl ?_
   exact ⟨_, by rw [HE.out], .inl ⟨HE.out, rfl⟩, nine_below HB1.out HRL.out _ _ _ _ _ _ _ _ _⟩
  ·simp only [Option.map_none, Option.map_some, Option.getD_none, Option.getD_some, Option.isSome_none, Option.isSome_some] at hla hlb
   obtain ⟨y, hy⟩ : ∃ y, cstI dst (Nm.one num na) = y := ⟨_, rfl⟩
   have HY := lhid hy
   have HE : Hid (foI K (InI.mk 6 dst a b_ c num too ref args) = y) := lhid (by rw [← hy]; unfold foI; simp [HRA.out, HRX.out, *])
   have HEA : Hid (y.args = []) := lhid (by rw [← hy]; rfl)
   clear hy
   go_upto_region 7 with fail
   refine wp_region_held_drew (S := fun w' => Ch (fun k => k = RB) w1 w') (by kernel_rfl) (Ch.drew (Ch.refl _ _)) ?_
   intro hS0
   clear x0 x1 x2 x3 x4 x5 x6 x7 x8 q0 q1 q2 q3 q4 q5 q6 q7 q8 zz hla hlb
   refine wpAnyH_take (i := 0) (v := ?tv1) rfl (by kernel_rfl) (by kernel_rfl) (by kernel_rfl) (fun _ _ _ h => h) (Or.inl ⟨by rfl, ?ty1⟩) hS0 ?tr1
   case ty1 => (intro w' hw'; obtain ⟨y0, y1, y2, y3, y4, y5, y6, y7, y8⟩ := HG.out w' hw'; go_simp; try with_reducible rfl)
   try simp only [List.getElem_toArray, List.getElem_cons_zero, List.getElem_cons_succ]
   try simp only [Act.put, List.setIfInBounds_toArray, List.set_cons_zero, List.set_cons_succ]
   refine wpAnyH_take (i := 1) (v := ?tv2) rfl (by kernel_rfl) (by kernel_rfl) (by kernel_rfl) (fun _ _ _ h => h) (Or.inl ⟨by rfl, ?ty2⟩) hS0 ?tr2
   case ty2 => (intro w' hw'; obtain ⟨y0, y1, y2, y3, y4, y5, y6, y7, y8⟩ := HG.out w' hw'; go_simp; try with_reducible rfl)
   try simp only [List.getElem_toArray, List.getElem_cons_zero, List.getElem_cons_succ]
   try simp only [Act.put, List.setIfInBounds_toArray, List.set_cons_zero, List.set_cons_succ]
   refine wpAnyH_take (i := 2) (v := ?tv3) rfl (by kernel_rfl) (by kernel_rfl) (by kernel_rfl) (fun _ _ _ h => h) (Or.inl ⟨by rfl, ?ty3⟩) hS0 ?tr3
   case ty3 => (intro w' hw'; obtain ⟨y0, y1, y2, y3, y4, y5, y6, y7, y8⟩ := HG.out w' hw'; go_simp; try with_reducible rfl)
   try simp only [List.getElem_toArray, List.getElem_cons_zero, List.getElem_cons_succ]
   try simp only [Act.put, List.setIfInBounds_toArray, List.set_cons_zero, List.set_cons_succ]
   refine wpAnyH_take (i := 3) (v := ?tv4) rfl (by kernel_rfl) (by kernel_rfl) (by kernel_rfl) (fun _ _ _ h => h) (Or.inl ⟨by rfl, ?ty4⟩) hS0 ?tr4
   case ty4 => (intro w' hw'; obtain ⟨y0, y1, y2, y3, y4, y5, y6, y7, y8⟩ := HG.out w' hw'; go_simp; try with_reducible rfl)
   try simp only [List.getElem_toArray, List.getElem_cons_zero, List.getElem_cons_succ]
   try simp only [Act.put, List.setIfInBounds_toArray, List.set_cons_zero, List.set_cons_succ]
   refine wpAnyH_take (i := 4) (v := ?tv5) rfl (by kernel_rfl) (by kernel_rfl) (by kernel_rfl) (fun _ _ _ h => h) (Or.inl ⟨by rfl, ?ty5⟩) hS0 ?tr5
   case ty5 => (intro w' hw'; obtain ⟨y0, y1, y2, y3, y4, y5, y6, y7, y8⟩ := HG.out w' hw'; go_simp; try with_reducible rfl)
   try simp only [List.getElem_toArray, List.getElem_cons_zero, List.getElem_cons_succ]
   try simp only [Act.put, List.setIfInBounds_toArray, List.set_cons_zero, List.set_cons_succ]
   refine wpAnyH_ready (rs := [5]) (by kernel_rfl) (by simp) ?_
   refine AllReadyH.cons rfl (fun K hK => ?_) AllReadyH.nil
   go_simp
   with_reducible refine (Nm.one_any num na _).mono ?_
   rintro e w2 ⟨rfl, rfl⟩
   dsimp only
   refine hK.out _ _ hS0 (fun _ => ?_)
   clear hK K
   try simp only [Act.put, List.setIfInBounds_toArray, List.set_cons_zero, List.set_cons_succ]
   refine wpAnyH_ready (rs := [6]) (by kernel_rfl) (by simp) ?_
   refine AllReadyH.cons rfl (fun K hK => ?_) AllReadyH.nil
   go_simp
   with_reducible refine (constant_y dst (Nm.one num na) y _ HY).mono ?_
   rintro e w3 ⟨rfl, hb3⟩
   have hS3 : Ch (fun k => k = RB) w1 w3 := hS0.below hb3
   have HZ3 : Hid (ZIns w3 RB) := lhid (heap_keep (show ZIns w1.drew RB from HZ1.out) hb3)
   clear hb3
   obtain ⟨q0, q1, q2, q3, q4, q5, q6, q7, q8⟩ := HZ3.out.cells
   have zz := heap_thaw HZ3.out
   dsimp only
   refine hK.out _ _ hS3 (fun _ => ?_)
   clear hK K
   try simp only [Act.put, List.setIfInBounds_toArray, List.set_cons_zero, List.set_cons_succ]
   refine wpAnyH_ready (rs := [7]) (by kernel_rfl) (by simp) ?_
   refine AllReadyH.cons rfl (fun K hK => ?_) AllReadyH.nil
   go_simp
   obtain ⟨w4, hw4⟩ : ∃ w4, w4 = (((((((((w3.setCell ⟨RB, 0, none⟩ (.int .i64 y.op)).setCell ⟨RB, 1, none⟩ (.int .i64 y.dst)).setCell ⟨RB, 2, none⟩ (.int .i64 y.a)).setCell ⟨RB, 3, none⟩ (.int .i64 y.b)).setCell ⟨RB, 4, none⟩ (.int .i64 y.c)).setCell ⟨RB, 5, none⟩ (.int .i64 y.num)).setCell ⟨RB, 6, none⟩ (.int .i64 y.too)).setCell ⟨RB, 7, none⟩ (.string (tx y.ref))).setCell ⟨RB, 8, none⟩ (.slice none 0 0)) := ⟨_, rfl⟩
   have hz4 := nine_set HZ3.out rfl (.int .i64 y.op) (.int .i64 y.dst) (.int .i64 y.a) (.int .i64 y.b) (.int .i64 y.c) (.int .i64 y.num) (.int .i64 y.too) (.string (tx y.ref)) (.slice none 0 0)
   rw [← hw4] at hz4
   have hS4 : Ch (fun k => k = RB) w1 w4 := by rw [hw4]; exact ((((((((hS3.set (p := ⟨RB, 0, none⟩) (fun _ => rfl) _).set (p := ⟨RB, 1, none⟩) (fun _ => rfl) _).set (p := ⟨RB, 2, none⟩) (fun _ => rfl) _).set (p := ⟨RB, 3, none⟩) (fun _ => rfl) _).set (p := ⟨RB, 4, none⟩) (fun _ => rfl) _).set (p := ⟨RB, 5, none⟩) (fun _ => rfl) _).set (p := ⟨RB, 6, none⟩) (fun _ => rfl) _).set (p := ⟨RB, 7, none⟩) (fun _ => rfl) _).set (p := ⟨RB, 8, none⟩) (fun _ => rfl) _
   rw [← hw4]
   clear hw4 zz q0 q1 q2 q3 q4 q5 q6 q7 q8
   refine hK.out _ _ hS4 (fun _ => ?_)
   clear hK K
   try simp only [Act.put, List.setIfInBounds_toArray, List.set_cons_zero, List.set_cons_succ]
   refine wpAnyH_done (by kernel_rfl) ?_ _
   go_wp2_with fail
   refine bodyPost_ret (results_cell_row rfl _ _ RB 29 _ _ _ rfl hz4 Try.underlying29 rfl sizeIns) rfl ?_
   exact ⟨.slice none 0 0, by rw [HE.out], .inr ⟨by rw [HE.out]; exact HEA.out, rfl⟩, HB1.out.trans (hS4.to HB1.out.size (fun k e => by have := HRL.out; omega))⟩
  ·simp only [Option.map_none, Option.map_some, Option.getD_none, Option.getD_some, Option.isSome_none, Option.isSome_some] at hla hlb
   obtain ⟨y, hy⟩ : ∃ y, cstI dst (Nm.one num na) = y := ⟨_, rfl⟩
   have HY := lhid hy
   have HE : Hid (foI K (InI.mk 6 dst a b_ c num too ref args) = y) := lhid (by rw [← hy]; unfold foI; simp [HRA.out, HRX.out, *])
   have HEA : Hid (y.args = []) := lhid (by rw [← hy]; rfl)
   clear hy
   go_upto_region 7 with fail
   refine wp_region_held_drew (S := fun w' => Ch (fun k => k = RB) w1 w') (by kernel_rfl) (Ch.drew (Ch.refl _ _)) ?_
   intro hS0
   clear x0 x1 x2 x3 x4 x5 x6 x7 x8 q0 q1 q2 q3 q4 q5 q6 q7 q8 zz hla hlb
   refine wpAnyH_take (i := 0) (v := ?tv6) rfl (by kernel_rfl) (by kernel_rfl) (by kernel_rfl) (fun _ _ _ h => h) (Or.inl ⟨by rfl, ?ty6⟩) hS0 ?tr6
   case ty6 => (intro w' hw'; obtain ⟨y0, y1, y2, y3, y4, y5, y6, y7, y8⟩ := HG.out w' hw'; go_simp; try with_reducible rfl)
   try simp only [List.getElem_toArray, List.getElem_cons_zero, List.getElem_cons_succ]
   try simp only [Act.put, List.setIfInBounds_toArray, List.set_cons_zero, List.set_cons_succ]
   refine wpAnyH_take (i := 1) (v := ?tv7) rfl (by kernel_rfl) (by kernel_rfl) (by kernel_rfl) (fun _ _ _ h => h) (Or.inl ⟨by rfl, ?ty7⟩) hS0 ?tr7
   case ty7 => (intro w' hw'; obtain ⟨y0, y1, y2, y3, y4, y5, y6, y7, y8⟩ := HG.out w' hw'; go_simp; try with_reducible rfl)
   try simp only [List.getElem_toArray, List.getElem_cons_zero, List.getElem_cons_succ]
   try simp only [Act.put, List.setIfInBounds_toArray, List.set_cons_zero, List.set_cons_succ]
   refine wpAnyH_take (i := 2) (v := ?tv8) rfl (by kernel_rfl) (by kernel_rfl) (by kernel_rfl) (fun _ _ _ h => h) (Or.inl ⟨by rfl, ?ty8⟩) hS0 ?tr8
   case ty8 => (intro w' hw'; obtain ⟨y0, y1, y2, y3, y4, y5, y6, y7, y8⟩ := HG.out w' hw'; go_simp; try with_reducible rfl)
   try simp only [List.getElem_toArray, List.getElem_cons_zero, List.getElem_cons_succ]
   try simp only [Act.put, List.setIfInBounds_toArray, List.set_cons_zero, List.set_cons_succ]
   refine wpAnyH_take (i := 3) (v := ?tv9) rfl (by kernel_rfl) (by kernel_rfl) (by kernel_rfl) (fun _ _ _ h => h) (Or.inl ⟨by rfl, ?ty9⟩) hS0 ?tr9
   case ty9 => (intro w' hw'; obtain ⟨y0, y1, y2, y3, y4, y5, y6, y7, y8⟩ := HG.out w' hw'; go_simp; try with_reducible rfl)
   try simp only [List.getElem_toArray, List.getElem_cons_zero, List.getElem_cons_succ]
   try simp only [Act.put, List.setIfInBounds_toArray, List.set_cons_zero, List.set_cons_succ]
   refine wpAnyH_take (i := 4) (v := ?tv10) rfl (by kernel_rfl) (by kernel_rfl) (by kernel_rfl) (fun _ _ _ h => h) (Or.inl ⟨by rfl, ?ty10⟩) hS0 ?tr10
   case ty10 => (intro w' hw'; obtain ⟨y0, y1, y2, y3, y4, y5, y6, y7, y8⟩ := HG.out w' hw'; go_simp; try with_reducible rfl)
   try simp only [List.getElem_toArray, List.getElem_cons_zero, List.getElem_cons_succ]
   try simp only [Act.put, List.setIfInBounds_toArray, List.set_cons_zero, List.set_cons_succ]
   refine wpAnyH_ready (rs := [5]) (by kernel_rfl) (by simp) ?_
   refine AllReadyH.cons rfl (fun K hK => ?_) AllReadyH.nil
   go_simp
   with_reducible refine (Nm.one_any num na _).mono ?_
   rintro e w2 ⟨rfl, rfl⟩
   dsimp only
   refine hK.out _ _ hS0 (fun _ => ?_)
   clear hK K
   try simp only [Act.put, List.setIfInBounds_toArray, List.set_cons_zero, List.set_cons_succ]
   refine wpAnyH_ready (rs := [6]) (by kernel_rfl) (by simp) ?_
   refine AllReadyH.cons rfl (fun K hK => ?_) AllReadyH.nil
   go_simp
   with_reducible refine (constant_y dst (Nm.one num na) y _ HY).mono ?_
   rintro e w3 ⟨rfl, hb3⟩
   have hS3 : Ch (fun k => k = RB) w1 w3 := hS0.below hb3
   have HZ3 : Hid (ZIns w3 RB) := lhid (heap_keep (show ZIns w1.drew RB from HZ1.out) hb3)
   clear hb3
   obtain ⟨q0, q1, q2, q3, q4, q5, q6, q7, q8⟩ := HZ3.out.cells
   have zz := heap_thaw HZ3.out
   dsimp only
   refine hK.out _ _ hS3 (fun _ => ?_)
   clear hK K
   try simp only [Act.put, List.setIfInBounds_toArray, List.set_cons_zero, List.set_cons_succ]
   refine wpAnyH_ready (rs := [7]) (by kernel_rfl) (by simp) ?_
   refine AllReadyH.cons rfl (fun K hK => ?_) AllReadyH.nil
   go_simp
   obtain ⟨w4, hw4⟩ : ∃ w4, w4 = (((((((((w3.setCell ⟨RB, 0, none⟩ (.int .i64 y.op)).setCell ⟨RB, 1, none⟩ (.int .i64 y.dst)).setCell ⟨RB, 2, none⟩ (.int .i64 y.a)).setCell ⟨RB, 3, none⟩ (.int .i64 y.b)).setCell ⟨RB, 4, none⟩ (.int .i64 y.c)).setCell ⟨RB, 5, none⟩ (.int .i64 y.num)).setCell ⟨RB, 6, none⟩ (.int .i64 y.too)).setCell ⟨RB, 7, none⟩ (.string (tx y.ref))).setCell ⟨RB, 8, none⟩ (.slice none 0 0)) := ⟨_, rfl⟩
   have hz4 := nine_set HZ3.out rfl (.int .i64 y.op) (.int .i64 y.dst) (.int .i64 y.a) (.int .i64 y.b) (.int .i64 y.c) (.int .i64 y.num) (.int .i64 y.too) (.string (tx y.ref)) (.slice none 0 0)
   rw [← hw4] at hz4
   have hS4 : Ch (fun k => k = RB) w1 w4 := by rw [hw4]; exact ((((((((hS3.set (p := ⟨RB, 0, none⟩) (fun _ => rfl) _).set (p := ⟨RB, 1, none⟩) (fun _ => rfl) _).set (p := ⟨RB, 2, none⟩) (fun _ => rfl) _).set (p := ⟨RB, 3, none⟩) (fun _ => rfl) _).set (p := ⟨RB, 4, none⟩) (fun _ => rfl) _).set (p := ⟨RB, 5, none⟩) (fun _ => rfl) _).set (p := ⟨RB, 6, none⟩) (fun _ => rfl) _).set (p := ⟨RB, 7, none⟩) (fun _ => rfl) _).set (p := ⟨RB, 8, none⟩) (fun _ => rfl) _
   rw [← hw4]
   clear hw4 zz q0 q1 q2 q3 q4 q5 q6 q7 q8
   refine hK.out _ _ hS4 (fun _ => ?_)
   clear hK K
   try simp only [Act.put, List.setIfInBounds_toArray, List.set_cons_zero, List.set_cons_succ]
   refine wpAnyH_done (by kernel_rfl) ?_ _
   go_wp2_with fail
   refine bodyPost_ret (results_cell_row rfl _ _ RB 29 _ _ _ rfl hz4 Try.underlying29 rfl sizeIns) rfl ?_
   exact ⟨.slice none 0 0, by rw [HE.out], .inr ⟨by rw [HE.out]; exact HEA.out, rfl⟩, HB1.out.trans (hS4.to HB1.out.size (fun k e => by have := HRL.out; omega))⟩
 ·rcases ra with _ | na <;> rcases rb with _ | nb
  ·simp only [Option.map_none, Option.map_some, Option.getD_none, Option.getD_some, Option.isSome_none, Option.isSome_some] at hla hlb
   have HE : Hid (foI K (InI.mk 5 dst a b_ c num too ref args) = InI.mk 5 dst a b_ c num too ref args) := lhid (by unfold foI; simp [HRA.out, HRX.out, *])
   go_wp2_with fail
   refine bodyPost_ret (results_cell_row rfl _ _ RB 29 _ _ _ rfl (nine_set HZ1.out rfl _ _ _ _ _ _ _ _ _) Try.underlying29 rfl sizeIns) rfl ?_
   exact ⟨_, by rw [HE.out], .inl ⟨HE.out, rfl⟩, nine_below HB1.out HRL.out _ _ _ _ _ _ _ _ _⟩
  ·simp only [Option.map_none, Option.map_some, Option.getD_none, Option.getD_some, Option.isSome_none, Option.isSome_some] at hla hlb
   have HE : Hid (foI K (InI.mk 5 dst a b_ c num too ref args) = InI.mk 5 dst a b_ c num too ref args) := lhid (by unfold foI; simp [HRA.out, HRX.out, *])
   go_wp2_with fail
   refine bodyPost_ret (results_cell_row rfl _ _ RB 29 _ _ _ rfl (nine_set HZ1.out rfl _ _ _ _ _ _ _ _ _) Try.underlying29 rfl sizeIns) rfl ?_
   exact ⟨_, by rw [HE.out], .inl ⟨HE.out, rfl⟩, nine_below HB1.out HRL.out _ _ _ _ _ _ _ _ _⟩
  ·simp only [Option.map_none, Option.map_some, Option.getD_none, Option.getD_some, Option.isSome_none, Option.isSome_some] at hla hlb
   have HE : Hid (foI K (InI.mk 5 dst a b_ c num too ref args) = InI.mk 5 dst a b_ c num too ref args) := lhid (by unfold foI; simp [HRA.out, HRX.out, *])
   go_wp2_with fail
   refine bodyPost_ret (results_cell_row rfl _ _ RB 29 _ _ _ rfl (nine_set HZ1.out rfl _ _ _ _ _ _ _ _ _) Try.underlying29 rfl sizeIns) rfl ?_
   exact ⟨_, by rw [HE.out], .inl ⟨HE.out, rfl⟩, nine_below HB1.out HRL.out _ _ _ _ _ _ _ _ _⟩
  ·simp only [Option.map_none, Option.map_some, Option.getD_none, Option.getD_some, Option.isSome_none, Option.isSome_some] at hla hlb
   obtain ⟨y, hy⟩ : ∃ y, cstI dst (Nm.two num na nb) = y := ⟨_, rfl⟩
   have HY := lhid hy
   have HE : Hid (foI K (InI.mk 5 dst a b_ c num too ref args) = y) := lhid (by rw [← hy]; unfold foI; simp [HRA.out, HRX.out, *])
   have HEA : Hid (y.args = []) := lhid (by rw [← hy]; rfl)
   clear hy
   go_upto_region 9 with fail
   refine wp_region_held_drew (S := fun w' => Ch (fun k => k = RB) w1 w') (by kernel_rfl) (Ch.drew (Ch.refl _ _)) ?_
   intro hS0
   clear x0 x1 x2 x3 x4 x5 x6 x7 x8 q0 q1 q2 q3 q4 q5 q6 q7 q8 zz hla hlb
   refine wpAnyH_take (i := 0) (v := ?tv11) rfl (by kernel_rfl) (by kernel_rfl) (by kernel_rfl) (fun _ _ _ h => h) (Or.inl ⟨by rfl, ?ty11⟩) hS0 ?tr11
   case ty11 => (intro w' hw'; obtain ⟨y0, y1, y2, y3, y4, y5, y6, y7, y8⟩ := HG.out w' hw'; go_simp; try with_reducible rfl)
   try simp only [List.getElem_toArray, List.getElem_cons_zero, List.getElem_cons_succ]
   try simp only [Act.put, List.setIfInBounds_toArray, List.set_cons_zero, List.set_cons_succ]
   refine wpAnyH_take (i := 1) (v := ?tv12) rfl (by kernel_rfl) (by kernel_rfl) (by kernel_rfl) (fun _ _ _ h => h) (Or.inl ⟨by rfl, ?ty12⟩) hS0 ?tr12
   case ty12 => (intro w' hw'; obtain ⟨y0, y1, y2, y3, y4, y5, y6, y7, y8⟩ := HG.out w' hw'; go_simp; try with_reducible rfl)
   try simp only [List.getElem_toArray, List.getElem_cons_zero, List.getElem_cons_succ]
   try simp only [Act.put, List.setIfInBounds_toArray, List.set_cons_zero, List.set_cons_succ]
   refine wpAnyH_take (i := 2) (v := ?tv13) rfl (by kernel_rfl) (by kernel_rfl) (by kernel_rfl) (fun _ _ _ h => h) (Or.inl ⟨by rfl, ?ty13⟩) hS0 ?tr13
   case ty13 => (intro w' hw'; obtain ⟨y0, y1, y2, y3, y4, y5, y6, y7, y8⟩ := HG.out w' hw'; go_simp; try with_reducible rfl)
   try simp only [List.getElem_toArray, List.getElem_cons_zero, List.getElem_cons_succ]
   try simp only [Act.put, List.setIfInBounds_toArray, List.set_cons_zero, List.set_cons_succ]
   refine wpAnyH_take (i := 3) (v := ?tv14) rfl (by kernel_rfl) (by kernel_rfl) (by kernel_rfl) (fun _ _ _ h => h) (Or.inl ⟨by rfl, ?ty14⟩) hS0 ?tr14
   case ty14 => (intro w' hw'; obtain ⟨y0, y1, y2, y3, y4, y5, y6, y7, y8⟩ := HG.out w' hw'; go_simp; try with_reducible rfl)
   try simp only [List.getElem_toArray, List.getElem_cons_zero, List.getElem_cons_succ]
   try simp only [Act.put, List.setIfInBounds_toArray, List.set_cons_zero, List.set_cons_succ]
   refine wpAnyH_take (i := 4) (v := ?tv15) rfl (by kernel_rfl) (by kernel_rfl) (by kernel_rfl) (fun _ _ _ h => h) (Or.inl ⟨by rfl, ?ty15⟩) hS0 ?tr15
   case ty15 => (intro w' hw'; obtain ⟨y0, y1, y2, y3, y4, y5, y6, y7, y8⟩ := HG.out w' hw'; go_simp; try with_reducible rfl)
   try simp only [List.getElem_toArray, List.getElem_cons_zero, List.getElem_cons_succ]
   try simp only [Act.put, List.setIfInBounds_toArray, List.set_cons_zero, List.set_cons_succ]
   refine wpAnyH_take (i := 5) (v := ?tv16) rfl (by kernel_rfl) (by kernel_rfl) (by kernel_rfl) (fun _ _ _ h => h) (Or.inl ⟨by rfl, ?ty16⟩) hS0 ?tr16
   case ty16 => (intro w' hw'; obtain ⟨y0, y1, y2, y3, y4, y5, y6, y7, y8⟩ := HG.out w' hw'; go_simp; try with_reducible rfl)
   try simp only [List.getElem_toArray, List.getElem_cons_zero, List.getElem_cons_succ]
   try simp only [Act.put, List.setIfInBounds_toArray, List.set_cons_zero, List.set_cons_succ]
   refine wpAnyH_ready (rs := [6]) (by kernel_rfl) (by simp) ?_
   refine AllReadyH.cons rfl (fun K hK => ?_) AllReadyH.nil
   go_simp
   with_reducible refine (two_w num na nb _ hn).mono ?_
   rintro e w2 ⟨rfl, rfl⟩
   dsimp only
   refine hK.out _ _ hS0 (fun _ => ?_)
   clear hK K
   try simp only [Act.put, List.setIfInBounds_toArray, List.set_cons_zero, List.set_cons_succ]
   refine wpAnyH_ready (rs := [7]) (by kernel_rfl) (by simp) ?_
   refine AllReadyH.cons rfl (fun K hK => ?_) AllReadyH.nil
   go_simp
   with_reducible refine (constant_y dst (Nm.two num na nb) y _ HY).mono ?_
   rintro e w3 ⟨rfl, hb3⟩
   have hS3 : Ch (fun k => k = RB) w1 w3 := hS0.below hb3
   have HZ3 : Hid (ZIns w3 RB) := lhid (heap_keep (show ZIns w1.drew RB from HZ1.out) hb3)
   clear hb3
   obtain ⟨q0, q1, q2, q3, q4, q5, q6, q7, q8⟩ := HZ3.out.cells
   have zz := heap_thaw HZ3.out
   dsimp only
   refine hK.out _ _ hS3 (fun _ => ?_)
   clear hK K
   try simp only [Act.put, List.setIfInBounds_toArray, List.set_cons_zero, List.set_cons_succ]
   refine wpAnyH_ready (rs := [8]) (by kernel_rfl) (by simp) ?_
   refine AllReadyH.cons rfl (fun K hK => ?_) AllReadyH.nil
   go_simp
   obtain ⟨w4, hw4⟩ : ∃ w4, w4 = (((((((((w3.setCell ⟨RB, 0, none⟩ (.int .i64 y.op)).setCell ⟨RB, 1, none⟩ (.int .i64 y.dst)).setCell ⟨RB, 2, none⟩ (.int .i64 y.a)).setCell ⟨RB, 3, none⟩ (.int .i64 y.b)).setCell ⟨RB, 4, none⟩ (.int .i64 y.c)).setCell ⟨RB, 5, none⟩ (.int .i64 y.num)).setCell ⟨RB, 6, none⟩ (.int .i64 y.too)).setCell ⟨RB, 7, none⟩ (.string (tx y.ref))).setCell ⟨RB, 8, none⟩ (.slice none 0 0)) := ⟨_, rfl⟩
   have hz4 := nine_set HZ3.out rfl (.int .i64 y.op) (.int .i64 y.dst) (.int .i64 y.a) (.int .i64 y.b) (.int .i64 y.c) (.int .i64 y.num) (.int .i64 y.too) (.string (tx y.ref)) (.slice none 0 0)
   rw [← hw4] at hz4
   have hS4 : Ch (fun k => k = RB) w1 w4 := by rw [hw4]; exact ((((((((hS3.set (p := ⟨RB, 0, none⟩) (fun _ => rfl) _).set (p := ⟨RB, 1, none⟩) (fun _ => rfl) _).set (p := ⟨RB, 2, none⟩) (fun _ => rfl) _).set (p := ⟨RB, 3, none⟩) (fun _ => rfl) _).set (p := ⟨RB, 4, none⟩) (fun _ => rfl) _).set (p := ⟨RB, 5, none⟩) (fun _ => rfl) _).set (p := ⟨RB, 6, none⟩) (fun _ => rfl) _).set (p := ⟨RB, 7, none⟩) (fun _ => rfl) _).set (p := ⟨RB, 8, none⟩) (fun _ => rfl) _
   rw [← hw4]
   clear hw4 zz q0 q1 q2 q3 q4 q5 q6 q7 q8
   refine hK.out _ _ hS4 (fun _ => ?_)
   clear hK K
   try simp only [Act.put, List.setIfInBounds_toArray, List.set_cons_zero, List.set_cons_succ]
   refine wpAnyH_done (by kernel_rfl) ?_ _
   go_wp2_with fail
   refine bodyPost_ret (results_cell_row rfl _ _ RB 29 _ _ _ rfl hz4 Try.underlying29 rfl sizeIns) rfl ?_
   exact ⟨.slice none 0 0, by rw [HE.out], .inr ⟨by rw [HE.out]; exact HEA.out, rfl⟩, HB1.out.trans (hS4.to HB1.out.size (fun k e => by have := HRL.out; omega))⟩
 ·rcases ra with _ | na <;> rcases rb with _ | nb
  ·simp only [Option.map_none, Option.map_some, Option.getD_none, Option.getD_some, Option.isSome_none, Option.isSome_some] at hla hlb
   have HE : Hid (foI K (InI.mk 28 dst a b_ c num too ref args) = InI.mk 28 dst a b_ c num too ref args) := lhid (by unfold foI; simp [HRA.out, HRX.out, *])
   go_wp2_with fail
   refine bodyPost_ret (results_cell_row rfl _ _ RB 29 _ _ _ rfl (nine_set HZ1.out rfl _ _ _ _ _ _ _ _ _) Try.underlying29 rfl sizeIns) rfl ?_
   exact ⟨_, by rw [HE.out], .inl ⟨HE.out, rfl⟩, nine_below HB1.out HRL.out _ _ _ _ _ _ _ _ _⟩
  ·simp only [Option.map_none, Option.map_some, Option.getD_none, Option.getD_some, Option.isSome_none, Option.isSome_some] at hla hlb
   have HE : Hid (foI K (InI.mk 28 dst a b_ c num too ref args) = InI.mk 28 dst a b_ c num too ref args) := lhid (by unfold foI; simp [HRA.out, HRX.out, *])
   go_wp2_with fail
   refine bodyPost_ret (results_cell_row rfl _ _ RB 29 _ _ _ rfl (nine_set HZ1.out rfl _ _ _ _ _ _ _ _ _) Try.underlying29 rfl sizeIns) rfl ?_
   exact ⟨_, by rw [HE.out], .inl ⟨HE.out, rfl⟩, nine_below HB1.out HRL.out _ _ _ _ _ _ _ _ _⟩
  ·simp only [Option.map_none, Option.map_some, Option.getD_none, Option.getD_some, Option.isSome_none, Option.isSome_some] at hla hlb
   have HE : Hid (foI K (InI.mk 28 dst a b_ c num too ref args) = InI.mk 28 dst a b_ c num too ref args) := lhid (by unfold foI; simp [HRA.out, HRX.out, *])
   go_wp2_with fail
   refine bodyPost_ret (results_cell_row rfl _ _ RB 29 _ _ _ rfl (nine_set HZ1.out rfl _ _ _ _ _ _ _ _ _) Try.underlying29 rfl sizeIns) rfl ?_
   exact ⟨_, by rw [HE.out], .inl ⟨HE.out, rfl⟩, nine_below HB1.out HRL.out _ _ _ _ _ _ _ _ _⟩
  ·simp only [Option.map_none, Option.map_some, Option.getD_none, Option.getD_some, Option.isSome_none, Option.isSome_some] at hla hlb
   obtain ⟨y, hy⟩ : ∃ y, wayI too (Nm.cnd num na nb) = y := ⟨_, rfl⟩
   have HY := lhid hy
   have HE : Hid (foI K (InI.mk 28 dst a b_ c num too ref args) = y) := lhid (by rw [← hy]; unfold foI; simp [HRA.out, HRX.out, *])
   have HEA : Hid (y.args = []) := lhid (by rw [← hy]; unfold wayI; split <;> rfl)
   clear hy
   go_upto_region 11 with fail
   refine wp_region_held_drew (S := fun w' => Ch (fun k => k = RB) w1 w') (by kernel_rfl) (Ch.drew (Ch.refl _ _)) ?_
   intro hS0
   clear x0 x1 x2 x3 x4 x5 x6 x7 x8 q0 q1 q2 q3 q4 q5 q6 q7 q8 zz hla hlb
   refine wpAnyH_take (i := 0) (v := ?tv17) rfl (by kernel_rfl) (by kernel_rfl) (by kernel_rfl) (fun _ _ _ h => h) (Or.inl ⟨by rfl, ?ty17⟩) hS0 ?tr17
   case ty17 => (intro w' hw'; obtain ⟨y0, y1, y2, y3, y4, y5, y6, y7, y8⟩ := HG.out w' hw'; go_simp; try with_reducible rfl)
   try simp only [List.getElem_toArray, List.getElem_cons_zero, List.getElem_cons_succ]
   try simp only [Act.put, List.setIfInBounds_toArray, List.set_cons_zero, List.set_cons_succ]
   refine wpAnyH_take (i := 1) (v := ?tv18) rfl (by kernel_rfl) (by kernel_rfl) (by kernel_rfl) (fun _ _ _ h => h) (Or.inl ⟨by rfl, ?ty18⟩) hS0 ?tr18
   case ty18 => (intro w' hw'; obtain ⟨y0, y1, y2, y3, y4, y5, y6, y7, y8⟩ := HG.out w' hw'; go_simp; try with_reducible rfl)
   try simp only [List.getElem_toArray, List.getElem_cons_zero, List.getElem_cons_succ]
   try simp only [Act.put, List.setIfInBounds_toArray, List.set_cons_zero, List.set_cons_succ]
   refine wpAnyH_take (i := 2) (v := ?tv19) rfl (by kernel_rfl) (by kernel_rfl) (by kernel_rfl) (fun _ _ _ h => h) (Or.inl ⟨by rfl, ?ty19⟩) hS0 ?tr19
   case ty19 => (intro w' hw'; obtain ⟨y0, y1, y2, y3, y4, y5, y6, y7, y8⟩ := HG.out w' hw'; go_simp; try with_reducible rfl)
   try simp only [List.getElem_toArray, List.getElem_cons_zero, List.getElem_cons_succ]
   try simp only [Act.put, List.setIfInBounds_toArray, List.set_cons_zero, List.set_cons_succ]
   refine wpAnyH_take (i := 3) (v := ?tv20) rfl (by kernel_rfl) (by kernel_rfl) (by kernel_rfl) (fun _ _ _ h => h) (Or.inl ⟨by rfl, ?ty20⟩) hS0 ?tr20
   case ty20 => (intro w' hw'; obtain ⟨y0, y1, y2, y3, y4, y5, y6, y7, y8⟩ := HG.out w' hw'; go_simp; try with_reducible rfl)
   try simp only [List.getElem_toArray, List.getElem_cons_zero, List.getElem_cons_succ]
   try simp only [Act.put, List.setIfInBounds_toArray, List.set_cons_zero, List.set_cons_succ]
   refine wpAnyH_take (i := 4) (v := ?tv21) rfl (by kernel_rfl) (by kernel_rfl) (by kernel_rfl) (fun _ _ _ h => h) (Or.inl ⟨by rfl, ?ty21⟩) hS0 ?tr21
   case ty21 => (intro w' hw'; obtain ⟨y0, y1, y2, y3, y4, y5, y6, y7, y8⟩ := HG.out w' hw'; go_simp; try with_reducible rfl)
   try simp only [List.getElem_toArray, List.getElem_cons_zero, List.getElem_cons_succ]
   try simp only [Act.put, List.setIfInBounds_toArray, List.set_cons_zero, List.set_cons_succ]
   refine wpAnyH_take (i := 5) (v := ?tv22) rfl (by kernel_rfl) (by kernel_rfl) (by kernel_rfl) (fun _ _ _ h => h) (Or.inl ⟨by rfl, ?ty22⟩) hS0 ?tr22
   case ty22 => (intro w' hw'; obtain ⟨y0, y1, y2, y3, y4, y5, y6, y7, y8⟩ := HG.out w' hw'; go_simp; try with_reducible rfl)
   try simp only [List.getElem_toArray, List.getElem_cons_zero, List.getElem_cons_succ]
   try simp only [Act.put, List.setIfInBounds_toArray, List.set_cons_zero, List.set_cons_succ]
   refine wpAnyH_ready (rs := [6]) (by kernel_rfl) (by simp) ?_
   refine AllReadyH.cons rfl (fun K hK => ?_) AllReadyH.nil
   go_simp
   with_reducible refine (Nm.holds_cond num na nb _).mono ?_
   rintro e w2 ⟨rfl, rfl⟩
   dsimp only
   refine hK.out _ _ hS0 (fun _ => ?_)
   clear hK K
   try simp only [Act.put, List.setIfInBounds_toArray, List.set_cons_zero, List.set_cons_succ]
   refine wpAnyH_ready (rs := [7]) (by kernel_rfl) (by simp) ?_
   refine AllReadyH.cons rfl (fun K hK => ?_) AllReadyH.nil
   go_simp
   with_reducible refine (way_y too (Nm.cnd num na nb) y _ HY).mono ?_
   rintro e w3 ⟨rfl, hb3⟩
   have hS3 : Ch (fun k => k = RB) w1 w3 := hS0.below hb3
   have HZ3 : Hid (ZIns w3 RB) := lhid (heap_keep (show ZIns w1.drew RB from HZ1.out) hb3)
   clear hb3
   obtain ⟨q0, q1, q2, q3, q4, q5, q6, q7, q8⟩ := HZ3.out.cells
   have zz := heap_thaw HZ3.out
   dsimp only
   refine hK.out _ _ hS3 (fun _ => ?_)
   clear hK K
   try simp only [Act.put, List.setIfInBounds_toArray, List.set_cons_zero, List.set_cons_succ]
   refine wpAnyH_ready (rs := [8]) (by kernel_rfl) (by simp) ?_
   refine AllReadyH.cons rfl (fun K hK => ?_) AllReadyH.nil
   go_simp
   obtain ⟨w4, hw4⟩ : ∃ w4, w4 = (((((((((w3.setCell ⟨RB, 0, none⟩ (.int .i64 y.op)).setCell ⟨RB, 1, none⟩ (.int .i64 y.dst)).setCell ⟨RB, 2, none⟩ (.int .i64 y.a)).setCell ⟨RB, 3, none⟩ (.int .i64 y.b)).setCell ⟨RB, 4, none⟩ (.int .i64 y.c)).setCell ⟨RB, 5, none⟩ (.int .i64 y.num)).setCell ⟨RB, 6, none⟩ (.int .i64 y.too)).setCell ⟨RB, 7, none⟩ (.string (tx y.ref))).setCell ⟨RB, 8, none⟩ (.slice none 0 0)) := ⟨_, rfl⟩
   have hz4 := nine_set HZ3.out rfl (.int .i64 y.op) (.int .i64 y.dst) (.int .i64 y.a) (.int .i64 y.b) (.int .i64 y.c) (.int .i64 y.num) (.int .i64 y.too) (.string (tx y.ref)) (.slice none 0 0)
   rw [← hw4] at hz4
   have hS4 : Ch (fun k => k = RB) w1 w4 := by rw [hw4]; exact ((((((((hS3.set (p := ⟨RB, 0, none⟩) (fun _ => rfl) _).set (p := ⟨RB, 1, none⟩) (fun _ => rfl) _).set (p := ⟨RB, 2, none⟩) (fun _ => rfl) _).set (p := ⟨RB, 3, none⟩) (fun _ => rfl) _).set (p := ⟨RB, 4, none⟩) (fun _ => rfl) _).set (p := ⟨RB, 5, none⟩) (fun _ => rfl) _).set (p := ⟨RB, 6, none⟩) (fun _ => rfl) _).set (p := ⟨RB, 7, none⟩) (fun _ => rfl) _).set (p := ⟨RB, 8, none⟩) (fun _ => rfl) _
   rw [← hw4]
   clear hw4 zz q0 q1 q2 q3 q4 q5 q6 q7 q8
   refine hK.out _ _ hS4 (fun _ => ?_)
   clear hK K
   try simp only [Act.put, List.setIfInBounds_toArray, List.set_cons_zero, List.set_cons_succ]
   refine wpAnyH_done (by kernel_rfl) ?_ _
   go_wp2_with fail
   refine bodyPost_ret (results_cell_row rfl _ _ RB 29 _ _ _ rfl hz4 Try.underlying29 rfl sizeIns) rfl ?_
   exact ⟨.slice none 0 0, by rw [HE.out], .inr ⟨by rw [HE.out]; exact HEA.out, rfl⟩, HB1.out.trans (hS4.to HB1.out.size (fun k e => by have := HRL.out; omega))⟩
 ·rcases ra with _ | na <;> rcases rb with _ | nb
  ·simp only [Option.map_none, Option.map_some, Option.getD_none, Option.getD_some, Option.isSome_none, Option.isSome_some] at hla hlb
   have HE : Hid (foI K (InI.mk op dst a b_ c num too ref args) = InI.mk op dst a b_ c num too ref args) := lhid (by unfold foI; simp [HRA.out, HRX.out, *])
   go_wp2_with fail
   refine bodyPost_ret (results_cell_row rfl _ _ RB 29 _ _ _ rfl (nine_set HZ1.out rfl _ _ _ _ _ _ _ _ _) Try.underlying29 rfl sizeIns) rfl ?_
   exact ⟨_, by rw [HE.out], .inl ⟨HE.out, rfl⟩, nine_below HB1.out HRL.out _ _ _ _ _ _ _ _ _⟩
  ·simp only [Option.map_none, Option.map_some, Option.getD_none, Option.getD_some, Option.isSome_none, Option.isSome_some] at hla hlb
   have HE : Hid (foI K (InI.mk op dst a b_ c num too ref args) = InI.mk op dst a b_ c num too ref args) := lhid (by unfold foI; simp [HRA.out, HRX.out, *])
   go_wp2_with fail
   refine bodyPost_ret (results_cell_row rfl _ _ RB 29 _ _ _ rfl (nine_set HZ1.out rfl _ _ _ _ _ _ _ _ _) Try.underlying29 rfl sizeIns) rfl ?_
   exact ⟨_, by rw [HE.out], .inl ⟨HE.out, rfl⟩, nine_below HB1.out HRL.out _ _ _ _ _ _ _ _ _⟩
  ·simp only [Option.map_none, Option.map_some, Option.getD_none, Option.getD_some, Option.isSome_none, Option.isSome_some] at hla hlb
   have HE : Hid (foI K (InI.mk op dst a b_ c num too ref args) = InI.mk op dst a b_ c num too ref args) := lhid (by unfold foI; simp [HRA.out, HRX.out, *])
   go_wp2_with fail
   refine bodyPost_ret (results_cell_row rfl _ _ RB 29 _ _ _ rfl (nine_set HZ1.out rfl _ _ _ _ _ _ _ _ _) Try.underlying29 rfl sizeIns) rfl ?_
   exact ⟨_, by rw [HE.out], .inl ⟨HE.out, rfl⟩, nine_below HB1.out HRL.out _ _ _ _ _ _ _ _ _⟩
  ·simp only [Option.map_none, Option.map_some, Option.getD_none, Option.getD_some, Option.isSome_none, Option.isSome_some] at hla hlb
   have HE : Hid (foI K (InI.mk op dst a b_ c num too ref args) = InI.mk op dst a b_ c num too ref args) := lhid (by unfold foI; simp [HRA.out, HRX.out, *])
   go_wp2_with fail
   refine bodyPost_ret (results_cell_row rfl _ _ RB 29 _ _ _ rfl (nine_set HZ1.out rfl _ _ _ _ _ _ _ _ _) Try.underlying29 rfl sizeIns) rfl ?_
   exact ⟨_, by rw [HE.out], .inl ⟨HE.out, rfl⟩, nine_below HB1.out HRL.out _ _ _ _ _ _ _ _ _⟩
end Go.Proofs.Ytbkeneadoccodaa
