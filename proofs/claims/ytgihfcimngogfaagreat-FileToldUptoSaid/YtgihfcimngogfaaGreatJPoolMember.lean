/- Contracts of resolveMember and resolve. -/
import Derived.Test.YtgihfcimngogfaaGreatM5
namespace Go.Proofs.YtgihfcimngogfaaGreat
open Go.RowKit Go
set_option linter.unusedVariables false
theorem textAt_o (g : Nat) (l : List Ent) (n i : Nat) (o : Option Bs) (w : World) (h : Hid (RowsAt w g 144 8 (l.map entV))) (hn : Hid (l.length = n)) (hat : Hid (textAt l i = o)) :
  Calls Tryz.prog 121 #[.slice (some ⟨g, 0, none⟩) n n, .int .i64 i] w fun e w' => e = .returned (.tuple #[.string (tx (o.getD [])), .bool o.isSome]) ∧ Below w.heap.size w w' := by
 cases o with
 | none => exact textAt_no g l n i w h hn hat
 | some t => exact textAt_yes g l n i t w h hn hat
theorem classAt_o (g : Nat) (l : List Ent) (n i : Nat) (o : Option Bs) (w : World) (h : Hid (RowsAt w g 144 8 (l.map entV))) (hn : Hid (l.length = n)) (hat : Hid (classAt l i = o)) :
  Calls Tryz.prog 123 #[.slice (some ⟨g, 0, none⟩) n n, .int .i64 i] w fun e w' => e = .returned (.tuple #[.string (tx (o.getD [])), .bool o.isSome]) ∧ Below w.heap.size w w' := by
 cases o with
 | none => exact classAt_no g l n i w h hn hat
 | some t => exact classAt_yes g l n i t w h hn hat
set_option maxHeartbeats 4000000 in
set_option maxRecDepth 100000 in
theorem member_none000 (g : Nat) (l : List Ent) (n : Nat) (x : Ent) (m : Bool) (w : World) (h : RowsAt w g 144 8 (l.map entV)) (hn : Hid (l.length = n)) (hm : Hid (decide (x.kind ≠ 9) = m)) (hC : Hid (classAt l x.a = none)) (hN : Hid (textAt l x.b = none)) (hD : Hid (textAt l x.d = none)) :
  Calls Tryz.prog 107 #[.slice (some ⟨g, 0, none⟩) n n, .agg #[.int .i64 x.kind, .int .i64 x.num, .string (tx x.text), .string ⟨#[]⟩, .string ⟨#[]⟩, .int .i64 x.a, .int .i64 x.b, .int .i64 x.d]] w (ResOut (resMem l x) w) := by
 have HP : Hid (resMem l x = (12, Con.zero)) := lhid (by unfold resMem; rw [hC.out, hN.out, hD.out])
 have HH := lhid h
 have hsz := h.lt
 clear h
 have t1 : ((x.kind : Int) != 9) = m := by
  rw [← hm.out, Bool.eq_iff_iff, bne_iff_ne, decide_eq_true_eq]
  omega
 go_enter Tryz.func107, Tryz.ntmps107
 go_wp2_with fail
 with_reducible refine (classAt_o g l n x.a none _ (lhid ((HH.out.alloc _).alloc _)) hn hC).mono ?_
 rintro e w1 ⟨rfl, hb⟩
 have HB1 := lhid ((((Below.refl _ w).alloc (Nat.le_refl _) _).alloc (by simp) _).trans (hb.mono (by simp; omega)))
 have HP1 := lhid (ConAt.below (x := Con.zero) (new_two w _ _) hb (by simp))
 have HE1 := lhid (EntAt.below (x := x) (new_one w _ _) hb (by simp; omega))
 obtain ⟨a0, a1, a2, a3, a4, a5, a6, a7⟩ := HE1.out.cells
 clear hb
 go_wp2_with fail
 with_reducible refine (textAt_o g l n x.b none _ (lhid (below_rows HH.out HB1.out)) hn hN).mono ?_
 rintro e w2 ⟨rfl, hb⟩
 have HB2 := lhid (HB1.out.trans (hb.mono HB1.out.size))
 have HP2 := lhid (HP1.out.below hb (heap_lt HP1.out))
 have HE2 := lhid (HE1.out.below hb HE1.out.lt)
 clear a0 a1 a2 a3 a4 a5 a6 a7 hb
 obtain ⟨a0, a1, a2, a3, a4, a5, a6, a7⟩ := HE2.out.cells
 go_wp2_with fail
 with_reducible refine (textAt_o g l n x.d none _ (lhid (below_rows HH.out HB2.out)) hn hD).mono ?_
 rintro e w3 ⟨rfl, hb⟩
 have HB3 := lhid (HB2.out.trans (hb.mono HB2.out.size))
 have HP3 := lhid (HP2.out.below hb (heap_lt HP2.out))
 have HE3 := lhid (HE2.out.below hb HE2.out.lt)
 clear a0 a1 a2 a3 a4 a5 a6 a7 hb
 obtain ⟨a0, a1, a2, a3, a4, a5, a6, a7⟩ := HE3.out.cells
 obtain ⟨p0, p1, p2, p3, p4⟩ := HP3.out.cells
 have fp := HP3.out.thaw
 have fa := HE3.out.thaw
 go_wp2_with fail
 refine bodyPost_ret (v := .tuple #[.agg #[.int .i64 0, .int .i64 0, .string ⟨#[]⟩, .string ⟨#[]⟩, .string ⟨#[]⟩], .int .i64 12]) (by simp [results, Tryz.results107, go_sem, p0, p1, p2, p3, p4]) rfl ?_
 rw [HP.out]
 refine ⟨rfl, ?_⟩
 repeat (refine Below.setCell ?_ (by simp) _)
 exact HB3.out
set_option maxHeartbeats 4000000 in
set_option maxRecDepth 100000 in
theorem member_none001 (g : Nat) (l : List Ent) (n : Nat) (x : Ent) (m : Bool) (w : World) (h : RowsAt w g 144 8 (l.map entV)) (hn : Hid (l.length = n)) (hm : Hid (decide (x.kind ≠ 9) = m)) (t : Bs) (hC : Hid (classAt l x.a = none)) (hN : Hid (textAt l x.b = none)) (hD : Hid (textAt l x.d = (some t))) :
  Calls Tryz.prog 107 #[.slice (some ⟨g, 0, none⟩) n n, .agg #[.int .i64 x.kind, .int .i64 x.num, .string (tx x.text), .string ⟨#[]⟩, .string ⟨#[]⟩, .int .i64 x.a, .int .i64 x.b, .int .i64 x.d]] w (ResOut (resMem l x) w) := by
 have HP : Hid (resMem l x = (12, Con.zero)) := lhid (by unfold resMem; rw [hC.out, hN.out, hD.out])
 have HH := lhid h
 have hsz := h.lt
 clear h
 have t1 : ((x.kind : Int) != 9) = m := by
  rw [← hm.out, Bool.eq_iff_iff, bne_iff_ne, decide_eq_true_eq]
  omega
 go_enter Tryz.func107, Tryz.ntmps107
 go_wp2_with fail
 with_reducible refine (classAt_o g l n x.a none _ (lhid ((HH.out.alloc _).alloc _)) hn hC).mono ?_
 rintro e w1 ⟨rfl, hb⟩
 have HB1 := lhid ((((Below.refl _ w).alloc (Nat.le_refl _) _).alloc (by simp) _).trans (hb.mono (by simp; omega)))
 have HP1 := lhid (ConAt.below (x := Con.zero) (new_two w _ _) hb (by simp))
 have HE1 := lhid (EntAt.below (x := x) (new_one w _ _) hb (by simp; omega))
 obtain ⟨a0, a1, a2, a3, a4, a5, a6, a7⟩ := HE1.out.cells
 clear hb
 go_wp2_with fail
 with_reducible refine (textAt_o g l n x.b none _ (lhid (below_rows HH.out HB1.out)) hn hN).mono ?_
 rintro e w2 ⟨rfl, hb⟩
 have HB2 := lhid (HB1.out.trans (hb.mono HB1.out.size))
 have HP2 := lhid (HP1.out.below hb (heap_lt HP1.out))
 have HE2 := lhid (HE1.out.below hb HE1.out.lt)
 clear a0 a1 a2 a3 a4 a5 a6 a7 hb
 obtain ⟨a0, a1, a2, a3, a4, a5, a6, a7⟩ := HE2.out.cells
 go_wp2_with fail
 with_reducible refine (textAt_o g l n x.d (some t) _ (lhid (below_rows HH.out HB2.out)) hn hD).mono ?_
 rintro e w3 ⟨rfl, hb⟩
 have HB3 := lhid (HB2.out.trans (hb.mono HB2.out.size))
 have HP3 := lhid (HP2.out.below hb (heap_lt HP2.out))
 have HE3 := lhid (HE2.out.below hb HE2.out.lt)
 clear a0 a1 a2 a3 a4 a5 a6 a7 hb
 obtain ⟨a0, a1, a2, a3, a4, a5, a6, a7⟩ := HE3.out.cells
 obtain ⟨p0, p1, p2, p3, p4⟩ := HP3.out.cells
 have fp := HP3.out.thaw
 have fa := HE3.out.thaw
 go_wp2_with fail
 refine bodyPost_ret (v := .tuple #[.agg #[.int .i64 0, .int .i64 0, .string ⟨#[]⟩, .string ⟨#[]⟩, .string ⟨#[]⟩], .int .i64 12]) (by simp [results, Tryz.results107, go_sem, p0, p1, p2, p3, p4]) rfl ?_
 rw [HP.out]
 refine ⟨rfl, ?_⟩
 repeat (refine Below.setCell ?_ (by simp) _)
 exact HB3.out
set_option maxHeartbeats 4000000 in
set_option maxRecDepth 100000 in
theorem member_none010 (g : Nat) (l : List Ent) (n : Nat) (x : Ent) (m : Bool) (w : World) (h : RowsAt w g 144 8 (l.map entV)) (hn : Hid (l.length = n)) (hm : Hid (decide (x.kind ≠ 9) = m)) (nm : Bs) (hC : Hid (classAt l x.a = none)) (hN : Hid (textAt l x.b = (some nm))) (hD : Hid (textAt l x.d = none)) :
  Calls Tryz.prog 107 #[.slice (some ⟨g, 0, none⟩) n n, .agg #[.int .i64 x.kind, .int .i64 x.num, .string (tx x.text), .string ⟨#[]⟩, .string ⟨#[]⟩, .int .i64 x.a, .int .i64 x.b, .int .i64 x.d]] w (ResOut (resMem l x) w) := by
 have HP : Hid (resMem l x = (12, Con.zero)) := lhid (by unfold resMem; rw [hC.out, hN.out, hD.out])
 have HH := lhid h
 have hsz := h.lt
 clear h
 have t1 : ((x.kind : Int) != 9) = m := by
  rw [← hm.out, Bool.eq_iff_iff, bne_iff_ne, decide_eq_true_eq]
  omega
 go_enter Tryz.func107, Tryz.ntmps107
 go_wp2_with fail
 with_reducible refine (classAt_o g l n x.a none _ (lhid ((HH.out.alloc _).alloc _)) hn hC).mono ?_
 rintro e w1 ⟨rfl, hb⟩
 have HB1 := lhid ((((Below.refl _ w).alloc (Nat.le_refl _) _).alloc (by simp) _).trans (hb.mono (by simp; omega)))
 have HP1 := lhid (ConAt.below (x := Con.zero) (new_two w _ _) hb (by simp))
 have HE1 := lhid (EntAt.below (x := x) (new_one w _ _) hb (by simp; omega))
 obtain ⟨a0, a1, a2, a3, a4, a5, a6, a7⟩ := HE1.out.cells
 clear hb
 go_wp2_with fail
 with_reducible refine (textAt_o g l n x.b (some nm) _ (lhid (below_rows HH.out HB1.out)) hn hN).mono ?_
 rintro e w2 ⟨rfl, hb⟩
 have HB2 := lhid (HB1.out.trans (hb.mono HB1.out.size))
 have HP2 := lhid (HP1.out.below hb (heap_lt HP1.out))
 have HE2 := lhid (HE1.out.below hb HE1.out.lt)
 clear a0 a1 a2 a3 a4 a5 a6 a7 hb
 obtain ⟨a0, a1, a2, a3, a4, a5, a6, a7⟩ := HE2.out.cells
 go_wp2_with fail
 with_reducible refine (textAt_o g l n x.d none _ (lhid (below_rows HH.out HB2.out)) hn hD).mono ?_
 rintro e w3 ⟨rfl, hb⟩
 have HB3 := lhid (HB2.out.trans (hb.mono HB2.out.size))
 have HP3 := lhid (HP2.out.below hb (heap_lt HP2.out))
 have HE3 := lhid (HE2.out.below hb HE2.out.lt)
 clear a0 a1 a2 a3 a4 a5 a6 a7 hb
 obtain ⟨a0, a1, a2, a3, a4, a5, a6, a7⟩ := HE3.out.cells
 obtain ⟨p0, p1, p2, p3, p4⟩ := HP3.out.cells
 have fp := HP3.out.thaw
 have fa := HE3.out.thaw
 go_wp2_with fail
 refine bodyPost_ret (v := .tuple #[.agg #[.int .i64 0, .int .i64 0, .string ⟨#[]⟩, .string ⟨#[]⟩, .string ⟨#[]⟩], .int .i64 12]) (by simp [results, Tryz.results107, go_sem, p0, p1, p2, p3, p4]) rfl ?_
 rw [HP.out]
 refine ⟨rfl, ?_⟩
 repeat (refine Below.setCell ?_ (by simp) _)
 exact HB3.out
set_option maxHeartbeats 4000000 in
set_option maxRecDepth 100000 in
theorem member_none011 (g : Nat) (l : List Ent) (n : Nat) (x : Ent) (m : Bool) (w : World) (h : RowsAt w g 144 8 (l.map entV)) (hn : Hid (l.length = n)) (hm : Hid (decide (x.kind ≠ 9) = m)) (nm : Bs) (t : Bs) (hC : Hid (classAt l x.a = none)) (hN : Hid (textAt l x.b = (some nm))) (hD : Hid (textAt l x.d = (some t))) :
  Calls Tryz.prog 107 #[.slice (some ⟨g, 0, none⟩) n n, .agg #[.int .i64 x.kind, .int .i64 x.num, .string (tx x.text), .string ⟨#[]⟩, .string ⟨#[]⟩, .int .i64 x.a, .int .i64 x.b, .int .i64 x.d]] w (ResOut (resMem l x) w) := by
 have HP : Hid (resMem l x = (12, Con.zero)) := lhid (by unfold resMem; rw [hC.out, hN.out, hD.out])
 have HH := lhid h
 have hsz := h.lt
 clear h
 have t1 : ((x.kind : Int) != 9) = m := by
  rw [← hm.out, Bool.eq_iff_iff, bne_iff_ne, decide_eq_true_eq]
  omega
 go_enter Tryz.func107, Tryz.ntmps107
 go_wp2_with fail
 with_reducible refine (classAt_o g l n x.a none _ (lhid ((HH.out.alloc _).alloc _)) hn hC).mono ?_
 rintro e w1 ⟨rfl, hb⟩
 have HB1 := lhid ((((Below.refl _ w).alloc (Nat.le_refl _) _).alloc (by simp) _).trans (hb.mono (by simp; omega)))
 have HP1 := lhid (ConAt.below (x := Con.zero) (new_two w _ _) hb (by simp))
 have HE1 := lhid (EntAt.below (x := x) (new_one w _ _) hb (by simp; omega))
 obtain ⟨a0, a1, a2, a3, a4, a5, a6, a7⟩ := HE1.out.cells
 clear hb
 go_wp2_with fail
 with_reducible refine (textAt_o g l n x.b (some nm) _ (lhid (below_rows HH.out HB1.out)) hn hN).mono ?_
 rintro e w2 ⟨rfl, hb⟩
 have HB2 := lhid (HB1.out.trans (hb.mono HB1.out.size))
 have HP2 := lhid (HP1.out.below hb (heap_lt HP1.out))
 have HE2 := lhid (HE1.out.below hb HE1.out.lt)
 clear a0 a1 a2 a3 a4 a5 a6 a7 hb
 obtain ⟨a0, a1, a2, a3, a4, a5, a6, a7⟩ := HE2.out.cells
 go_wp2_with fail
 with_reducible refine (textAt_o g l n x.d (some t) _ (lhid (below_rows HH.out HB2.out)) hn hD).mono ?_
 rintro e w3 ⟨rfl, hb⟩
 have HB3 := lhid (HB2.out.trans (hb.mono HB2.out.size))
 have HP3 := lhid (HP2.out.below hb (heap_lt HP2.out))
 have HE3 := lhid (HE2.out.below hb HE2.out.lt)
 clear a0 a1 a2 a3 a4 a5 a6 a7 hb
 obtain ⟨a0, a1, a2, a3, a4, a5, a6, a7⟩ := HE3.out.cells
 obtain ⟨p0, p1, p2, p3, p4⟩ := HP3.out.cells
 have fp := HP3.out.thaw
 have fa := HE3.out.thaw
 go_wp2_with fail
 refine bodyPost_ret (v := .tuple #[.agg #[.int .i64 0, .int .i64 0, .string ⟨#[]⟩, .string ⟨#[]⟩, .string ⟨#[]⟩], .int .i64 12]) (by simp [results, Tryz.results107, go_sem, p0, p1, p2, p3, p4]) rfl ?_
 rw [HP.out]
 refine ⟨rfl, ?_⟩
 repeat (refine Below.setCell ?_ (by simp) _)
 exact HB3.out
set_option maxHeartbeats 4000000 in
set_option maxRecDepth 100000 in
theorem member_none100 (g : Nat) (l : List Ent) (n : Nat) (x : Ent) (m : Bool) (w : World) (h : RowsAt w g 144 8 (l.map entV)) (hn : Hid (l.length = n)) (hm : Hid (decide (x.kind ≠ 9) = m)) (c : Bs) (hC : Hid (classAt l x.a = (some c))) (hN : Hid (textAt l x.b = none)) (hD : Hid (textAt l x.d = none)) :
  Calls Tryz.prog 107 #[.slice (some ⟨g, 0, none⟩) n n, .agg #[.int .i64 x.kind, .int .i64 x.num, .string (tx x.text), .string ⟨#[]⟩, .string ⟨#[]⟩, .int .i64 x.a, .int .i64 x.b, .int .i64 x.d]] w (ResOut (resMem l x) w) := by
 have HP : Hid (resMem l x = (12, Con.zero)) := lhid (by unfold resMem; rw [hC.out, hN.out, hD.out])
 have HH := lhid h
 have hsz := h.lt
 clear h
 have t1 : ((x.kind : Int) != 9) = m := by
  rw [← hm.out, Bool.eq_iff_iff, bne_iff_ne, decide_eq_true_eq]
  omega
 go_enter Tryz.func107, Tryz.ntmps107
 go_wp2_with fail
 with_reducible refine (classAt_o g l n x.a (some c) _ (lhid ((HH.out.alloc _).alloc _)) hn hC).mono ?_
 rintro e w1 ⟨rfl, hb⟩
 have HB1 := lhid ((((Below.refl _ w).alloc (Nat.le_refl _) _).alloc (by simp) _).trans (hb.mono (by simp; omega)))
 have HP1 := lhid (ConAt.below (x := Con.zero) (new_two w _ _) hb (by simp))
 have HE1 := lhid (EntAt.below (x := x) (new_one w _ _) hb (by simp; omega))
 obtain ⟨a0, a1, a2, a3, a4, a5, a6, a7⟩ := HE1.out.cells
 clear hb
 go_wp2_with fail
 with_reducible refine (textAt_o g l n x.b none _ (lhid (below_rows HH.out HB1.out)) hn hN).mono ?_
 rintro e w2 ⟨rfl, hb⟩
 have HB2 := lhid (HB1.out.trans (hb.mono HB1.out.size))
 have HP2 := lhid (HP1.out.below hb (heap_lt HP1.out))
 have HE2 := lhid (HE1.out.below hb HE1.out.lt)
 clear a0 a1 a2 a3 a4 a5 a6 a7 hb
 obtain ⟨a0, a1, a2, a3, a4, a5, a6, a7⟩ := HE2.out.cells
 go_wp2_with fail
 with_reducible refine (textAt_o g l n x.d none _ (lhid (below_rows HH.out HB2.out)) hn hD).mono ?_
 rintro e w3 ⟨rfl, hb⟩
 have HB3 := lhid (HB2.out.trans (hb.mono HB2.out.size))
 have HP3 := lhid (HP2.out.below hb (heap_lt HP2.out))
 have HE3 := lhid (HE2.out.below hb HE2.out.lt)
 clear a0 a1 a2 a3 a4 a5 a6 a7 hb
 obtain ⟨a0, a1, a2, a3, a4, a5, a6, a7⟩ := HE3.out.cells
 obtain ⟨p0, p1, p2, p3, p4⟩ := HP3.out.cells
 have fp := HP3.out.thaw
 have fa := HE3.out.thaw
 go_wp2_with fail
 refine bodyPost_ret (v := .tuple #[.agg #[.int .i64 0, .int .i64 0, .string ⟨#[]⟩, .string ⟨#[]⟩, .string ⟨#[]⟩], .int .i64 12]) (by simp [results, Tryz.results107, go_sem, p0, p1, p2, p3, p4]) rfl ?_
 rw [HP.out]
 refine ⟨rfl, ?_⟩
 repeat (refine Below.setCell ?_ (by simp) _)
 exact HB3.out
set_option maxHeartbeats 4000000 in
set_option maxRecDepth 100000 in
theorem member_none101 (g : Nat) (l : List Ent) (n : Nat) (x : Ent) (m : Bool) (w : World) (h : RowsAt w g 144 8 (l.map entV)) (hn : Hid (l.length = n)) (hm : Hid (decide (x.kind ≠ 9) = m)) (c : Bs) (t : Bs) (hC : Hid (classAt l x.a = (some c))) (hN : Hid (textAt l x.b = none)) (hD : Hid (textAt l x.d = (some t))) :
  Calls Tryz.prog 107 #[.slice (some ⟨g, 0, none⟩) n n, .agg #[.int .i64 x.kind, .int .i64 x.num, .string (tx x.text), .string ⟨#[]⟩, .string ⟨#[]⟩, .int .i64 x.a, .int .i64 x.b, .int .i64 x.d]] w (ResOut (resMem l x) w) := by
 have HP : Hid (resMem l x = (12, Con.zero)) := lhid (by unfold resMem; rw [hC.out, hN.out, hD.out])
 have HH := lhid h
 have hsz := h.lt
 clear h
 have t1 : ((x.kind : Int) != 9) = m := by
  rw [← hm.out, Bool.eq_iff_iff, bne_iff_ne, decide_eq_true_eq]
  omega
 go_enter Tryz.func107, Tryz.ntmps107
 go_wp2_with fail
 with_reducible refine (classAt_o g l n x.a (some c) _ (lhid ((HH.out.alloc _).alloc _)) hn hC).mono ?_
 rintro e w1 ⟨rfl, hb⟩
 have HB1 := lhid ((((Below.refl _ w).alloc (Nat.le_refl _) _).alloc (by simp) _).trans (hb.mono (by simp; omega)))
 have HP1 := lhid (ConAt.below (x := Con.zero) (new_two w _ _) hb (by simp))
 have HE1 := lhid (EntAt.below (x := x) (new_one w _ _) hb (by simp; omega))
 obtain ⟨a0, a1, a2, a3, a4, a5, a6, a7⟩ := HE1.out.cells
 clear hb
 go_wp2_with fail
 with_reducible refine (textAt_o g l n x.b none _ (lhid (below_rows HH.out HB1.out)) hn hN).mono ?_
 rintro e w2 ⟨rfl, hb⟩
 have HB2 := lhid (HB1.out.trans (hb.mono HB1.out.size))
 have HP2 := lhid (HP1.out.below hb (heap_lt HP1.out))
 have HE2 := lhid (HE1.out.below hb HE1.out.lt)
 clear a0 a1 a2 a3 a4 a5 a6 a7 hb
 obtain ⟨a0, a1, a2, a3, a4, a5, a6, a7⟩ := HE2.out.cells
 go_wp2_with fail
 with_reducible refine (textAt_o g l n x.d (some t) _ (lhid (below_rows HH.out HB2.out)) hn hD).mono ?_
 rintro e w3 ⟨rfl, hb⟩
 have HB3 := lhid (HB2.out.trans (hb.mono HB2.out.size))
 have HP3 := lhid (HP2.out.below hb (heap_lt HP2.out))
 have HE3 := lhid (HE2.out.below hb HE2.out.lt)
 clear a0 a1 a2 a3 a4 a5 a6 a7 hb
 obtain ⟨a0, a1, a2, a3, a4, a5, a6, a7⟩ := HE3.out.cells
 obtain ⟨p0, p1, p2, p3, p4⟩ := HP3.out.cells
 have fp := HP3.out.thaw
 have fa := HE3.out.thaw
 go_wp2_with fail
 refine bodyPost_ret (v := .tuple #[.agg #[.int .i64 0, .int .i64 0, .string ⟨#[]⟩, .string ⟨#[]⟩, .string ⟨#[]⟩], .int .i64 12]) (by simp [results, Tryz.results107, go_sem, p0, p1, p2, p3, p4]) rfl ?_
 rw [HP.out]
 refine ⟨rfl, ?_⟩
 repeat (refine Below.setCell ?_ (by simp) _)
 exact HB3.out
set_option maxHeartbeats 4000000 in
set_option maxRecDepth 100000 in
theorem member_none110 (g : Nat) (l : List Ent) (n : Nat) (x : Ent) (m : Bool) (w : World) (h : RowsAt w g 144 8 (l.map entV)) (hn : Hid (l.length = n)) (hm : Hid (decide (x.kind ≠ 9) = m)) (c : Bs) (nm : Bs) (hC : Hid (classAt l x.a = (some c))) (hN : Hid (textAt l x.b = (some nm))) (hD : Hid (textAt l x.d = none)) :
  Calls Tryz.prog 107 #[.slice (some ⟨g, 0, none⟩) n n, .agg #[.int .i64 x.kind, .int .i64 x.num, .string (tx x.text), .string ⟨#[]⟩, .string ⟨#[]⟩, .int .i64 x.a, .int .i64 x.b, .int .i64 x.d]] w (ResOut (resMem l x) w) := by
 have HP : Hid (resMem l x = (12, Con.zero)) := lhid (by unfold resMem; rw [hC.out, hN.out, hD.out])
 have HH := lhid h
 have hsz := h.lt
 clear h
 have t1 : ((x.kind : Int) != 9) = m := by
  rw [← hm.out, Bool.eq_iff_iff, bne_iff_ne, decide_eq_true_eq]
  omega
 go_enter Tryz.func107, Tryz.ntmps107
 go_wp2_with fail
 with_reducible refine (classAt_o g l n x.a (some c) _ (lhid ((HH.out.alloc _).alloc _)) hn hC).mono ?_
 rintro e w1 ⟨rfl, hb⟩
 have HB1 := lhid ((((Below.refl _ w).alloc (Nat.le_refl _) _).alloc (by simp) _).trans (hb.mono (by simp; omega)))
 have HP1 := lhid (ConAt.below (x := Con.zero) (new_two w _ _) hb (by simp))
 have HE1 := lhid (EntAt.below (x := x) (new_one w _ _) hb (by simp; omega))
 obtain ⟨a0, a1, a2, a3, a4, a5, a6, a7⟩ := HE1.out.cells
 clear hb
 go_wp2_with fail
 with_reducible refine (textAt_o g l n x.b (some nm) _ (lhid (below_rows HH.out HB1.out)) hn hN).mono ?_
 rintro e w2 ⟨rfl, hb⟩
 have HB2 := lhid (HB1.out.trans (hb.mono HB1.out.size))
 have HP2 := lhid (HP1.out.below hb (heap_lt HP1.out))
 have HE2 := lhid (HE1.out.below hb HE1.out.lt)
 clear a0 a1 a2 a3 a4 a5 a6 a7 hb
 obtain ⟨a0, a1, a2, a3, a4, a5, a6, a7⟩ := HE2.out.cells
 go_wp2_with fail
 with_reducible refine (textAt_o g l n x.d none _ (lhid (below_rows HH.out HB2.out)) hn hD).mono ?_
 rintro e w3 ⟨rfl, hb⟩
 have HB3 := lhid (HB2.out.trans (hb.mono HB2.out.size))
 have HP3 := lhid (HP2.out.below hb (heap_lt HP2.out))
 have HE3 := lhid (HE2.out.below hb HE2.out.lt)
 clear a0 a1 a2 a3 a4 a5 a6 a7 hb
 obtain ⟨a0, a1, a2, a3, a4, a5, a6, a7⟩ := HE3.out.cells
 obtain ⟨p0, p1, p2, p3, p4⟩ := HP3.out.cells
 have fp := HP3.out.thaw
 have fa := HE3.out.thaw
 go_wp2_with fail
 refine bodyPost_ret (v := .tuple #[.agg #[.int .i64 0, .int .i64 0, .string ⟨#[]⟩, .string ⟨#[]⟩, .string ⟨#[]⟩], .int .i64 12]) (by simp [results, Tryz.results107, go_sem, p0, p1, p2, p3, p4]) rfl ?_
 rw [HP.out]
 refine ⟨rfl, ?_⟩
 repeat (refine Below.setCell ?_ (by simp) _)
 exact HB3.out
set_option maxHeartbeats 4000000 in
set_option maxRecDepth 100000 in
theorem member_c (g : Nat) (l : List Ent) (n : Nat) (x : Ent) (m : Bool) (w : World) (h : RowsAt w g 144 8 (l.map entV)) (hn : Hid (l.length = n)) (hm : Hid (decide (x.kind ≠ 9) = m)) (c nm t : Bs) (hC : Hid (classAt l x.a = some c)) (hN : Hid (textAt l x.b = some nm)) (hD : Hid (textAt l x.d = some t)) (sC : Hid ((tx c).size ≤ maxLen)) (sN : Hid ((tx nm).size ≤ maxLen)) (sD : Hid ((tx t).size ≤ maxLen)) (q1 : Hid (nameB c false = false)) :
  Calls Tryz.prog 107 #[.slice (some ⟨g, 0, none⟩) n n, .agg #[.int .i64 x.kind, .int .i64 x.num, .string (tx x.text), .string ⟨#[]⟩, .string ⟨#[]⟩, .int .i64 x.a, .int .i64 x.b, .int .i64 x.d]] w (ResOut (resMem l x) w) := by
 have HP : Hid (resMem l x = (20, Con.zero)) := lhid (by unfold resMem; rw [hC.out, hN.out, hD.out]; simp only; rw [hm.out]; rw [if_pos (.inl q1.out)])
 have HH := lhid h
 have hsz := h.lt
 clear h
 have t1 : ((x.kind : Int) != 9) = m := by
  rw [← hm.out, Bool.eq_iff_iff, bne_iff_ne, decide_eq_true_eq]
  omega
 go_enter Tryz.func107, Tryz.ntmps107
 go_wp2_with fail
 with_reducible refine (classAt_o g l n x.a (some c) _ (lhid ((HH.out.alloc _).alloc _)) hn hC).mono ?_
 rintro e w1 ⟨rfl, hb⟩
 have HB1 := lhid ((((Below.refl _ w).alloc (Nat.le_refl _) _).alloc (by simp) _).trans (hb.mono (by simp; omega)))
 have HP1 := lhid (ConAt.below (x := Con.zero) (new_two w _ _) hb (by simp))
 have HE1 := lhid (EntAt.below (x := x) (new_one w _ _) hb (by simp; omega))
 obtain ⟨a0, a1, a2, a3, a4, a5, a6, a7⟩ := HE1.out.cells
 clear hb
 go_wp2_with fail
 with_reducible refine (textAt_o g l n x.b (some nm) _ (lhid (below_rows HH.out HB1.out)) hn hN).mono ?_
 rintro e w2 ⟨rfl, hb⟩
 have HB2 := lhid (HB1.out.trans (hb.mono HB1.out.size))
 have HP2 := lhid (HP1.out.below hb (heap_lt HP1.out))
 have HE2 := lhid (HE1.out.below hb HE1.out.lt)
 clear a0 a1 a2 a3 a4 a5 a6 a7 hb
 obtain ⟨a0, a1, a2, a3, a4, a5, a6, a7⟩ := HE2.out.cells
 go_wp2_with fail
 with_reducible refine (textAt_o g l n x.d (some t) _ (lhid (below_rows HH.out HB2.out)) hn hD).mono ?_
 rintro e w3 ⟨rfl, hb⟩
 have HB3 := lhid (HB2.out.trans (hb.mono HB2.out.size))
 have HP3 := lhid (HP2.out.below hb (heap_lt HP2.out))
 have HE3 := lhid (HE2.out.below hb HE2.out.lt)
 clear a0 a1 a2 a3 a4 a5 a6 a7 hb
 obtain ⟨a0, a1, a2, a3, a4, a5, a6, a7⟩ := HE3.out.cells
 obtain ⟨p0, p1, p2, p3, p4⟩ := HP3.out.cells
 have fp := HP3.out.thaw
 have fa := HE3.out.thaw
 go_wp2_with (first | (go_at_call 112; (first | (with_reducible refine (name_t c false false _ sC q1).mono ?_)); rintro e w' ⟨rfl, rfl⟩))
 refine bodyPost_ret (v := .tuple #[.agg #[.int .i64 0, .int .i64 0, .string ⟨#[]⟩, .string ⟨#[]⟩, .string ⟨#[]⟩], .int .i64 20]) (by simp [results, Tryz.results107, go_sem, p0, p1, p2, p3, p4]) rfl ?_
 rw [HP.out]
 refine ⟨rfl, ?_⟩
 repeat (refine Below.setCell ?_ (by simp) _)
 exact HB3.out
set_option maxHeartbeats 4000000 in
set_option maxRecDepth 100000 in
theorem member_n (g : Nat) (l : List Ent) (n : Nat) (x : Ent) (m : Bool) (w : World) (h : RowsAt w g 144 8 (l.map entV)) (hn : Hid (l.length = n)) (hm : Hid (decide (x.kind ≠ 9) = m)) (c nm t : Bs) (hC : Hid (classAt l x.a = some c)) (hN : Hid (textAt l x.b = some nm)) (hD : Hid (textAt l x.d = some t)) (sC : Hid ((tx c).size ≤ maxLen)) (sN : Hid ((tx nm).size ≤ maxLen)) (sD : Hid ((tx t).size ≤ maxLen)) (q1 : Hid (nameB c false = true)) (q2 : Hid (nameB nm m = false)) :
  Calls Tryz.prog 107 #[.slice (some ⟨g, 0, none⟩) n n, .agg #[.int .i64 x.kind, .int .i64 x.num, .string (tx x.text), .string ⟨#[]⟩, .string ⟨#[]⟩, .int .i64 x.a, .int .i64 x.b, .int .i64 x.d]] w (ResOut (resMem l x) w) := by
 have HP : Hid (resMem l x = (20, Con.zero)) := lhid (by unfold resMem; rw [hC.out, hN.out, hD.out]; simp only; rw [hm.out]; rw [if_pos (.inr q2.out)])
 have HH := lhid h
 have hsz := h.lt
 clear h
 have t1 : ((x.kind : Int) != 9) = m := by
  rw [← hm.out, Bool.eq_iff_iff, bne_iff_ne, decide_eq_true_eq]
  omega
 go_enter Tryz.func107, Tryz.ntmps107
 go_wp2_with fail
 with_reducible refine (classAt_o g l n x.a (some c) _ (lhid ((HH.out.alloc _).alloc _)) hn hC).mono ?_
 rintro e w1 ⟨rfl, hb⟩
 have HB1 := lhid ((((Below.refl _ w).alloc (Nat.le_refl _) _).alloc (by simp) _).trans (hb.mono (by simp; omega)))
 have HP1 := lhid (ConAt.below (x := Con.zero) (new_two w _ _) hb (by simp))
 have HE1 := lhid (EntAt.below (x := x) (new_one w _ _) hb (by simp; omega))
 obtain ⟨a0, a1, a2, a3, a4, a5, a6, a7⟩ := HE1.out.cells
 clear hb
 go_wp2_with fail
 with_reducible refine (textAt_o g l n x.b (some nm) _ (lhid (below_rows HH.out HB1.out)) hn hN).mono ?_
 rintro e w2 ⟨rfl, hb⟩
 have HB2 := lhid (HB1.out.trans (hb.mono HB1.out.size))
 have HP2 := lhid (HP1.out.below hb (heap_lt HP1.out))
 have HE2 := lhid (HE1.out.below hb HE1.out.lt)
 clear a0 a1 a2 a3 a4 a5 a6 a7 hb
 obtain ⟨a0, a1, a2, a3, a4, a5, a6, a7⟩ := HE2.out.cells
 go_wp2_with fail
 with_reducible refine (textAt_o g l n x.d (some t) _ (lhid (below_rows HH.out HB2.out)) hn hD).mono ?_
 rintro e w3 ⟨rfl, hb⟩
 have HB3 := lhid (HB2.out.trans (hb.mono HB2.out.size))
 have HP3 := lhid (HP2.out.below hb (heap_lt HP2.out))
 have HE3 := lhid (HE2.out.below hb HE2.out.lt)
 clear a0 a1 a2 a3 a4 a5 a6 a7 hb
 obtain ⟨a0, a1, a2, a3, a4, a5, a6, a7⟩ := HE3.out.cells
 obtain ⟨p0, p1, p2, p3, p4⟩ := HP3.out.cells
 have fp := HP3.out.thaw
 have fa := HE3.out.thaw
 go_wp2_with (first | (go_at_call 112; (first | (with_reducible refine (name_t c false true _ sC q1).mono ?_) | (with_reducible refine (name_t nm m false _ sN q2).mono ?_)); rintro e w' ⟨rfl, rfl⟩))
 refine bodyPost_ret (v := .tuple #[.agg #[.int .i64 0, .int .i64 0, .string ⟨#[]⟩, .string ⟨#[]⟩, .string ⟨#[]⟩], .int .i64 20]) (by simp [results, Tryz.results107, go_sem, p0, p1, p2, p3, p4]) rfl ?_
 rw [HP.out]
 refine ⟨rfl, ?_⟩
 repeat (refine Below.setCell ?_ (by simp) _)
 exact HB3.out
set_option maxHeartbeats 4000000 in
set_option maxRecDepth 100000 in
theorem member_d (g : Nat) (l : List Ent) (n : Nat) (x : Ent) (m : Bool) (w : World) (h : RowsAt w g 144 8 (l.map entV)) (hn : Hid (l.length = n)) (hm : Hid (decide (x.kind ≠ 9) = m)) (c nm t : Bs) (hC : Hid (classAt l x.a = some c)) (hN : Hid (textAt l x.b = some nm)) (hD : Hid (textAt l x.d = some t)) (sC : Hid ((tx c).size ≤ maxLen)) (sN : Hid ((tx nm).size ≤ maxLen)) (sD : Hid ((tx t).size ≤ maxLen)) (q1 : Hid (nameB c false = true)) (q2 : Hid (nameB nm m = true)) (q3 : Hid (descB t m = false)) :
  Calls Tryz.prog 107 #[.slice (some ⟨g, 0, none⟩) n n, .agg #[.int .i64 x.kind, .int .i64 x.num, .string (tx x.text), .string ⟨#[]⟩, .string ⟨#[]⟩, .int .i64 x.a, .int .i64 x.b, .int .i64 x.d]] w (ResOut (resMem l x) w) := by
 have HP : Hid (resMem l x = (21, Con.zero)) := lhid (by unfold resMem; rw [hC.out, hN.out, hD.out]; simp only; rw [hm.out]; rw [if_neg (by rw [q1.out, q2.out]; simp), if_pos q3.out])
 have HH := lhid h
 have hsz := h.lt
 clear h
 have t1 : ((x.kind : Int) != 9) = m := by
  rw [← hm.out, Bool.eq_iff_iff, bne_iff_ne, decide_eq_true_eq]
  omega
 go_enter Tryz.func107, Tryz.ntmps107
 go_wp2_with fail
 with_reducible refine (classAt_o g l n x.a (some c) _ (lhid ((HH.out.alloc _).alloc _)) hn hC).mono ?_
 rintro e w1 ⟨rfl, hb⟩
 have HB1 := lhid ((((Below.refl _ w).alloc (Nat.le_refl _) _).alloc (by simp) _).trans (hb.mono (by simp; omega)))
 have HP1 := lhid (ConAt.below (x := Con.zero) (new_two w _ _) hb (by simp))
 have HE1 := lhid (EntAt.below (x := x) (new_one w _ _) hb (by simp; omega))
 obtain ⟨a0, a1, a2, a3, a4, a5, a6, a7⟩ := HE1.out.cells
 clear hb
 go_wp2_with fail
 with_reducible refine (textAt_o g l n x.b (some nm) _ (lhid (below_rows HH.out HB1.out)) hn hN).mono ?_
 rintro e w2 ⟨rfl, hb⟩
 have HB2 := lhid (HB1.out.trans (hb.mono HB1.out.size))
 have HP2 := lhid (HP1.out.below hb (heap_lt HP1.out))
 have HE2 := lhid (HE1.out.below hb HE1.out.lt)
 clear a0 a1 a2 a3 a4 a5 a6 a7 hb
 obtain ⟨a0, a1, a2, a3, a4, a5, a6, a7⟩ := HE2.out.cells
 go_wp2_with fail
 with_reducible refine (textAt_o g l n x.d (some t) _ (lhid (below_rows HH.out HB2.out)) hn hD).mono ?_
 rintro e w3 ⟨rfl, hb⟩
 have HB3 := lhid (HB2.out.trans (hb.mono HB2.out.size))
 have HP3 := lhid (HP2.out.below hb (heap_lt HP2.out))
 have HE3 := lhid (HE2.out.below hb HE2.out.lt)
 clear a0 a1 a2 a3 a4 a5 a6 a7 hb
 obtain ⟨a0, a1, a2, a3, a4, a5, a6, a7⟩ := HE3.out.cells
 obtain ⟨p0, p1, p2, p3, p4⟩ := HP3.out.cells
 have fp := HP3.out.thaw
 have fa := HE3.out.thaw
 go_wp2_with (first | (go_at_call 112; (first | (with_reducible refine (name_t c false true _ sC q1).mono ?_) | (with_reducible refine (name_t nm m true _ sN q2).mono ?_)); rintro e w' ⟨rfl, rfl⟩))
 with_reducible refine (describes_t t m false _ sD q3).mono ?_
 rintro e w4 ⟨rfl, hb⟩
 have HB4 := lhid (HB3.out.trans (hb.mono HB3.out.size))
 have HP4 := lhid (HP3.out.below hb (heap_lt HP3.out))
 have HE4 := lhid (HE3.out.below hb HE3.out.lt)
 clear a0 a1 a2 a3 a4 a5 a6 a7 p0 p1 p2 p3 p4 fp fa hb
 obtain ⟨a0, a1, a2, a3, a4, a5, a6, a7⟩ := HE4.out.cells
 obtain ⟨p0, p1, p2, p3, p4⟩ := HP4.out.cells
 have fp := HP4.out.thaw
 have fa := HE4.out.thaw
 go_wp2_with fail
 refine bodyPost_ret (v := .tuple #[.agg #[.int .i64 0, .int .i64 0, .string ⟨#[]⟩, .string ⟨#[]⟩, .string ⟨#[]⟩], .int .i64 21]) (by simp [results, Tryz.results107, go_sem, p0, p1, p2, p3, p4]) rfl ?_
 rw [HP.out]
 refine ⟨rfl, ?_⟩
 repeat (refine Below.setCell ?_ (by simp) _)
 exact HB4.out
set_option maxHeartbeats 4000000 in
set_option maxRecDepth 100000 in
theorem member_ok (g : Nat) (l : List Ent) (n : Nat) (x : Ent) (m : Bool) (w : World) (h : RowsAt w g 144 8 (l.map entV)) (hn : Hid (l.length = n)) (hm : Hid (decide (x.kind ≠ 9) = m)) (c nm t : Bs) (hC : Hid (classAt l x.a = some c)) (hN : Hid (textAt l x.b = some nm)) (hD : Hid (textAt l x.d = some t)) (sC : Hid ((tx c).size ≤ maxLen)) (sN : Hid ((tx nm).size ≤ maxLen)) (sD : Hid ((tx t).size ≤ maxLen)) (q1 : Hid (nameB c false = true)) (q2 : Hid (nameB nm m = true)) (q3 : Hid (descB t m = true)) :
  Calls Tryz.prog 107 #[.slice (some ⟨g, 0, none⟩) n n, .agg #[.int .i64 x.kind, .int .i64 x.num, .string (tx x.text), .string ⟨#[]⟩, .string ⟨#[]⟩, .int .i64 x.a, .int .i64 x.b, .int .i64 x.d]] w (ResOut (resMem l x) w) := by
 have HP : Hid (resMem l x = (0, ⟨x.kind, x.num, c, nm, t⟩)) := lhid (by unfold resMem; rw [hC.out, hN.out, hD.out]; simp only; rw [hm.out]; rw [if_neg (by rw [q1.out, q2.out]; simp), if_neg (by rw [q3.out]; simp)])
 have HH := lhid h
 have hsz := h.lt
 clear h
 have t1 : ((x.kind : Int) != 9) = m := by
  rw [← hm.out, Bool.eq_iff_iff, bne_iff_ne, decide_eq_true_eq]
  omega
 go_enter Tryz.func107, Tryz.ntmps107
 go_wp2_with fail
 with_reducible refine (classAt_o g l n x.a (some c) _ (lhid ((HH.out.alloc _).alloc _)) hn hC).mono ?_
 rintro e w1 ⟨rfl, hb⟩
 have HB1 := lhid ((((Below.refl _ w).alloc (Nat.le_refl _) _).alloc (by simp) _).trans (hb.mono (by simp; omega)))
 have HP1 := lhid (ConAt.below (x := Con.zero) (new_two w _ _) hb (by simp))
 have HE1 := lhid (EntAt.below (x := x) (new_one w _ _) hb (by simp; omega))
 obtain ⟨a0, a1, a2, a3, a4, a5, a6, a7⟩ := HE1.out.cells
 clear hb
 go_wp2_with fail
 with_reducible refine (textAt_o g l n x.b (some nm) _ (lhid (below_rows HH.out HB1.out)) hn hN).mono ?_
 rintro e w2 ⟨rfl, hb⟩
 have HB2 := lhid (HB1.out.trans (hb.mono HB1.out.size))
 have HP2 := lhid (HP1.out.below hb (heap_lt HP1.out))
 have HE2 := lhid (HE1.out.below hb HE1.out.lt)
 clear a0 a1 a2 a3 a4 a5 a6 a7 hb
 obtain ⟨a0, a1, a2, a3, a4, a5, a6, a7⟩ := HE2.out.cells
 go_wp2_with fail
 with_reducible refine (textAt_o g l n x.d (some t) _ (lhid (below_rows HH.out HB2.out)) hn hD).mono ?_
 rintro e w3 ⟨rfl, hb⟩
 have HB3 := lhid (HB2.out.trans (hb.mono HB2.out.size))
 have HP3 := lhid (HP2.out.below hb (heap_lt HP2.out))
 have HE3 := lhid (HE2.out.below hb HE2.out.lt)
 clear a0 a1 a2 a3 a4 a5 a6 a7 hb
 obtain ⟨a0, a1, a2, a3, a4, a5, a6, a7⟩ := HE3.out.cells
 obtain ⟨p0, p1, p2, p3, p4⟩ := HP3.out.cells
 have fp := HP3.out.thaw
 have fa := HE3.out.thaw
 go_wp2_with (first | (go_at_call 112; (first | (with_reducible refine (name_t c false true _ sC q1).mono ?_) | (with_reducible refine (name_t nm m true _ sN q2).mono ?_)); rintro e w' ⟨rfl, rfl⟩))
 with_reducible refine (describes_t t m true _ sD q3).mono ?_
 rintro e w4 ⟨rfl, hb⟩
 have HB4 := lhid (HB3.out.trans (hb.mono HB3.out.size))
 have HP4 := lhid (HP3.out.below hb (heap_lt HP3.out))
 have HE4 := lhid (HE3.out.below hb HE3.out.lt)
 clear a0 a1 a2 a3 a4 a5 a6 a7 p0 p1 p2 p3 p4 fp fa hb
 obtain ⟨a0, a1, a2, a3, a4, a5, a6, a7⟩ := HE4.out.cells
 obtain ⟨p0, p1, p2, p3, p4⟩ := HP4.out.cells
 have fp := HP4.out.thaw
 have fa := HE4.out.thaw
 go_wp2_with fail
 refine bodyPost_ret (v := .tuple #[.agg #[.int .i64 x.kind, .int .i64 x.num, .string (tx c), .string (tx nm), .string (tx t)], .int .i64 0]) (by simp [results, Tryz.results107, go_sem, p0, p1, p2, p3, p4]) rfl ?_
 rw [HP.out]
 refine ⟨rfl, ?_⟩
 repeat (refine Below.setCell ?_ (by simp) _)
 exact HB4.out
theorem resolveMember_any (g : Nat) (l : List Ent) (n : Nat) (x : Ent) (w : World) (h : RowsAt w g 144 8 (l.map entV)) (hn : Hid (l.length = n)) (hs : Hid (ShortL l)) :
  Calls Tryz.prog 107 #[.slice (some ⟨g, 0, none⟩) n n, .agg #[.int .i64 x.kind, .int .i64 x.num, .string (tx x.text), .string ⟨#[]⟩, .string ⟨#[]⟩, .int .i64 x.a, .int .i64 x.b, .int .i64 x.d]] w (ResOut (resMem l x) w) := by
 have hm : Hid (decide (x.kind ≠ 9) = decide (x.kind ≠ 9)) := lhid rfl
 cases hC : classAt l x.a <;> cases hN : textAt l x.b <;> cases hD : textAt l x.d
 ·exact member_none000 g l n x _ w h hn hm (lhid hC) (lhid hN) (lhid hD)
 ·exact member_none001 g l n x _ w h hn hm _ (lhid hC) (lhid hN) (lhid hD)
 ·exact member_none010 g l n x _ w h hn hm _ (lhid hC) (lhid hN) (lhid hD)
 ·exact member_none011 g l n x _ w h hn hm _ _ (lhid hC) (lhid hN) (lhid hD)
 ·exact member_none100 g l n x _ w h hn hm _ (lhid hC) (lhid hN) (lhid hD)
 ·exact member_none101 g l n x _ w h hn hm _ _ (lhid hC) (lhid hN) (lhid hD)
 ·exact member_none110 g l n x _ w h hn hm _ _ (lhid hC) (lhid hN) (lhid hD)
 ·have sC := lhid (short_class hs.out hC)
  have sN := lhid (short_text hs.out hN)
  have sD := lhid (short_text hs.out hD)
  rename_i c nm t
  cases q1 : nameB c false
  ·exact member_c g l n x _ w h hn hm c nm t (lhid hC) (lhid hN) (lhid hD) sC sN sD (lhid q1)
  cases q2 : nameB nm (decide (x.kind ≠ 9))
  ·exact member_n g l n x _ w h hn hm c nm t (lhid hC) (lhid hN) (lhid hD) sC sN sD (lhid q1) (lhid q2)
  cases q3 : descB t (decide (x.kind ≠ 9))
  ·exact member_d g l n x _ w h hn hm c nm t (lhid hC) (lhid hN) (lhid hD) sC sN sD (lhid q1) (lhid q2) (lhid q3)
  ·exact member_ok g l n x _ w h hn hm c nm t (lhid hC) (lhid hN) (lhid hD) sC sN sD (lhid q1) (lhid q2) (lhid q3)
end Go.Proofs.YtgihfcimngogfaaGreat
