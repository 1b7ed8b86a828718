/- Fold's small words: constant, way, folded, note. -/
import Derived.Test.YtbkeneadoccodaaM13
import Derived.Test.YtbkeneadoccodaaM11
import Derived.Test.YtbkeneadoccodaaJCNmNum
import Derived.Test.YtbkeneadoccodaaM8
import Derived.Test.YtbkeneadoccodaaM14
namespace Go.Proofs.Ytbkeneadoccodaa
open Go.RowKit Go Go.Maps
set_option linter.unusedVariables false
set_option linter.unusedSimpArgs false
def ZIns (w : World) (g : Nat) : Prop := w.heap[g]? = some (.cells #[.int .i64 0, .int .i64 0, .int .i64 0, .int .i64 0, .int .i64 0, .int .i64 0, .int .i64 0, .string ⟨#[]⟩, .slice none 0 0] 29 (0, 0))
theorem ZIns.cells {w : World} {g : Nat} (h : ZIns w g) : w.cell? ⟨g, 0, none⟩ = some (.int .i64 0) ∧ w.cell? ⟨g, 1, none⟩ = some (.int .i64 0) ∧ w.cell? ⟨g, 2, none⟩ = some (.int .i64 0) ∧ w.cell? ⟨g, 3, none⟩ = some (.int .i64 0) ∧ w.cell? ⟨g, 4, none⟩ = some (.int .i64 0) ∧ w.cell? ⟨g, 5, none⟩ = some (.int .i64 0) ∧ w.cell? ⟨g, 6, none⟩ = some (.int .i64 0) ∧ w.cell? ⟨g, 7, none⟩ = some (.string ⟨#[]⟩) ∧ w.cell? ⟨g, 8, none⟩ = some (.slice none 0 0) :=
 ⟨heap_cell h rfl, heap_cell h rfl, heap_cell h rfl, heap_cell h rfl, heap_cell h rfl, heap_cell h rfl, heap_cell h rfl, heap_cell h rfl, heap_cell h rfl⟩
theorem def_v (x : InI) (v : Value) (w : World) : Calls Try.prog 64 #[inA x v] w fun e w' => e = .returned (.int .i64 (defI x)) ∧ Below w.heap.size w w' := def_any x v w
theorem zero_i64n (w : World) : (zeroValue 2).run Try.prog w = .ok (.int .i64 0) w := by kernel_rfl
set_option maxHeartbeats 16000000 in
set_option maxRecDepth 100000 in
theorem constant_c (r n : Int) (w : World) : Calls Try.prog 59 #[.int .i64 r, .int .i64 n] w fun e w' => e = .returned (inA (cstI r n) (.slice none 0 0)) ∧ Below w.heap.size w w' := by
 go_enter Try.func59, Try.ntmps59
 go_upto_region 1 with fail
 generalize hW : World.alloc _ _ = w1
 have HZ : Hid (ZIns w1 w.heap.size) := lhid (by rw [← hW]; exact heap_alloc_new w _)
 have HB : Hid (Below w.heap.size w w1) := lhid (by rw [← hW]; exact (Below.refl _ _).alloc (Nat.le_refl _) _)
 clear hW
 obtain ⟨q0, q1, q2, q3, q4, q5, q6, q7, q8⟩ := HZ.out.cells
 have zz := heap_thaw HZ.out
 go_wp2_with fail
 refine bodyPost_ret (results_cell_row rfl _ _ w.heap.size 29 _ _ _ rfl (nine_set HZ.out rfl _ _ _ _ _ _ _ _ _) Try.underlying29 rfl sizeIns) rfl ?_
 exact ⟨rfl, nine_below HB.out (Nat.le_refl _) _ _ _ _ _ _ _ _ _⟩
set_option maxHeartbeats 16000000 in
set_option maxRecDepth 100000 in
theorem way_c (td : Int) (t : Bool) (w : World) : Calls Try.prog 62 #[.int .i64 td, .bool t] w fun e w' => e = .returned (inA (wayI td t) (.slice none 0 0)) ∧ Below w.heap.size w w' := by
 go_enter Try.func62, Try.ntmps62
 go_upto_region 1 with fail
 generalize hW : World.alloc _ _ = w1
 have HZ : Hid (ZIns w1 w.heap.size) := lhid (by rw [← hW]; exact heap_alloc_new w _)
 have HB : Hid (Below w.heap.size w w1) := lhid (by rw [← hW]; exact (Below.refl _ _).alloc (Nat.le_refl _) _)
 clear hW
 obtain ⟨q0, q1, q2, q3, q4, q5, q6, q7, q8⟩ := HZ.out.cells
 have zz := heap_thaw HZ.out
 cases t with
 | true =>
  go_wp2_with fail
  refine bodyPost_ret (results_cell_row rfl _ _ w.heap.size 29 _ _ _ rfl (nine_set HZ.out rfl _ _ _ _ _ _ _ _ _) Try.underlying29 rfl sizeIns) rfl ?_
  exact ⟨rfl, nine_below HB.out (Nat.le_refl _) _ _ _ _ _ _ _ _ _⟩
 | false =>
  go_wp2_with fail
  refine bodyPost_ret (results_cell_row rfl _ _ w.heap.size 29 _ _ _ rfl (nine_set HZ.out rfl _ _ _ _ _ _ _ _ _) Try.underlying29 rfl sizeIns) rfl ?_
  exact ⟨rfl, nine_below HB.out (Nat.le_refl _) _ _ _ _ _ _ _ _ _⟩
set_option maxHeartbeats 16000000 in
set_option maxRecDepth 100000 in
theorem note_c (K : KnF) (x : InI) (v : Value) (b n : Nat) (w : World) (hm : Hid (MI w b n (fun s => (K s).map vI))) (hn : Hid (n < maxLen)) (hd : Hid (I6 (defI x))) :
  Calls Try.prog 29 #[.map (some b), inA x v] w fun e w' => e = .returned (.tuple #[]) ∧ MI w' b (n + 1) (fun s => (noK K x s).map vI) ∧ Ch (fun k => k = b) w w' := by
 go_enter Try.func29, Try.ntmps29
 go_upto_region 1 with fail
 generalize hW : World.alloc _ _ = w1
 have hb1 : Below w.heap.size w w1 := by rw [← hW]; exact (Below.refl _ _).alloc (Nat.le_refl _) _
 have HX1 : Hid (XBox w1 w.heap.size x.op x.dst x.a x.b x.c x.num x.too x.ref v) := lhid (by rw [← hW]; exact heap_alloc_new w _)
 have HM1 := lhid (hm.out.below hb1)
 have HB1 := lhid hb1
 clear hW hb1
 obtain ⟨x0, x1, x2, x3, x4, x5, x6, x7, x8⟩ := HX1.out.cells
 go_wp2_with fail
 with_reducible refine (def_v x v _).mono ?_
 rintro e w2 ⟨rfl, hb2⟩
 have HX2 : Hid (XBox w2 w.heap.size x.op x.dst x.a x.b x.c x.num x.too x.ref v) := lhid (heap_keep HX1.out hb2)
 have HM2 := lhid (HM1.out.below hb2)
 have HB2 := lhid (HB1.out.trans (hb2.mono HB1.out.size))
 clear hb2 x0 x1 x2 x3 x4 x5 x6 x7 x8
 obtain ⟨x0, x1, x2, x3, x4, x5, x6, x7, x8⟩ := HX2.out.cells
 by_cases ho : x.op = 1
 ·have HD2 : Hid (defI x = x.dst) := lhid (by unfold defI; rw [ho]; rfl)
  have ho2 : (x.op == 1) = true := by rw [ho]; rfl
  have HO := lhid ho
  clear ho
  go_wp2_with (refine wpList_put_mi _ rfl (.tmp 10) (.tmp 11) (.tmp 13) 55 rfl 2 Try.underlying55 b n _ rfl HM2.out hn.out (defI x) rfl hd.out (.int .i64 x.num) rfl ?_)
  intro w3 hm3 hg3 hs3
  have HM3 := lhid hm3
  have HG3 := lhid hg3
  clear hm3 hg3 hs3
  go_wp2_with fail
  refine bodyPost_ret (v := .tuple #[]) (by simp [results, Try.results29]) rfl ?_
  refine ⟨rfl, HM3.out.ext fun s => ?_, (Ch.of HB2.out).grown HG3.out (fun k e _ => by injection e with e; exact e.symm)⟩
  unfold noK
  rw [if_pos HO.out, HD2.out]
  by_cases e : s = x.dst
  ·rw [if_pos e, if_pos e]; rfl
  ·rw [if_neg e, if_neg e]
 ·have ho2 : (x.op == 1) = false := by rw [beq_eq_false_iff_ne]; exact ho
  have HO := lhid ho
  clear ho
  go_wp2_with (refine wpList_drop_mi _ rfl (.tmp 14) (.tmp 15) 55 rfl 2 Try.underlying55 b n _ rfl HM2.out (defI x) rfl hd.out ?_)
  intro w4 hm4 hg4 hs4
  have HM4 := lhid hm4
  have HG4 := lhid hg4
  clear hm4 hg4 hs4
  go_wp2_with fail
  refine ⟨rfl, .tuple #[], by simp [results, Try.results29], ?_⟩
  refine ⟨rfl, (HM4.out.mono (Nat.le_succ n)).ext fun s => ?_, (Ch.of HB2.out).grown HG4.out (fun k e _ => by injection e with e; exact e.symm)⟩
  unfold noK
  rw [if_neg HO.out]
  by_cases e : s = defI x
  ·rw [if_pos e, if_pos e]; rfl
  ·rw [if_neg e, if_neg e]
end Go.Proofs.Ytbkeneadoccodaa
