/- The document's 'filled' at a field and at methods, their constants there. -/
import Derived.Test.YtgihfcimngogfaaGreatM5
namespace Go.Proofs.YtgihfcimngogfaaGreat
open Go.RowKit Go
set_option linter.unusedVariables false
set_option maxHeartbeats 8000000 in
set_option maxRecDepth 100000 in
theorem filled_mem_c (g : Nat) (l : List Ent) (n : Nat) (x : Ent) (w : World) (h : RowsAt w g 130 8 (l.map entV)) (hn : Hid (l.length = n)) (hz : Hid (ZeroL l)) (y1 y2 y3 y4 : Ent) (hy1 : Hid ((entAt l x.a 7).getD Ent.zero = y1)) (hb1 : Hid ((entAt l x.a 7).isSome = true)) (hy2 : Hid ((entAt l y1.a 1).getD Ent.zero = y2)) (hb2 : Hid ((entAt l y1.a 1).isSome = true)) (hy3 : Hid ((entAt l x.b 1).getD Ent.zero = y3)) (hb3 : Hid ((entAt l x.b 1).isSome = true)) (hy4 : Hid ((entAt l x.d 1).getD Ent.zero = y4)) (hb4 : Hid ((entAt l x.d 1).isSome = true)) (hk : Hid (9 ≤ x.kind)) (sC : Hid ((tx y2.text).size ≤ maxLen)) (sN : Hid ((tx y3.text).size ≤ maxLen)) (sD : Hid ((tx y4.text).size ≤ maxLen)) (zD : Hid ((tx y4.text).size ≤ 281474976710656)) (q1 : Hid (nameB y2.text false = false)) (HP : Hid (resOne l x = (20, Con.zero))) :
  Calls Tryz.prog 76 #[.slice (some ⟨g, 0, none⟩) n n, .agg #[.int .i64 x.kind, .int .i64 x.num, .string (tx x.text), .string ⟨#[]⟩, .string ⟨#[]⟩, .int .i64 x.a, .int .i64 x.b, .int .i64 x.d]] w (ResOut (resOne l x) w) := by
 have t0 : ¬ (x.kind : Int) < 7 := by have := hk.out; omega
 have t9 : ¬ (x.kind : Int) < 9 := by have := hk.out; omega
 have HH := lhid h
 have hsz := h.lt
 clear h
 go_enter Tryz.func76, Tryz.ntmps76
 go_wp2_with fail
 with_reducible refine (of_f g l n x.a 7 7 y1 true _ (((HH.out.alloc _).alloc _).alloc _) hn hz (by decide) (lhid rfl) hy1 hb1).mono ?_
 rintro e w1 ⟨rfl, hb⟩
 have HB1 := lhid ((below3 w _ _ _).trans (hb.mono (by rw [size3]; omega)))
 have HE1 := lhid (EntAt.below (x := x) (new3_0 w _ _ _) hb (by rw [size3]; omega))
 have HP1 := lhid (ConAt.below (x := Con.zero) (new3_1 w _ _ _) hb (by rw [size3]; omega))
 have HC1 := lhid (ConAt.below (x := ⟨x.kind, x.num, x.text, [], []⟩) (new3_2 w _ _ _) hb (by rw [size3]; omega))
 have z0 := HE1.out.lt
 have z1 := heap_lt HP1.out
 have z2 := heap_lt HC1.out
 clear hb
 obtain ⟨a0, a1, a2, a3, a4, a5, a6, a7⟩ := HE1.out.cells
 go_wp2_with fail
 with_reducible refine (of_f g l n y1.a 1 1 y2 true _ ((below_rows HH.out HB1.out).alloc _) hn hz (by decide) (lhid rfl) hy2 hb2).mono ?_
 rintro e w2 ⟨rfl, hb⟩
 clear a0 a1 a2 a3 a4 a5 a6 a7 z0 z1 z2
 have hb0 := ((Below.refl _ w1).alloc (Nat.le_refl _) _).trans (hb.mono (by simp))
 have HB2 := lhid (HB1.out.trans (hb0.mono HB1.out.size))
 have HE2 := lhid (HE1.out.below hb0 HE1.out.lt)
 have HP2 := lhid (HP1.out.below hb0 (heap_lt HP1.out))
 have HC2 := lhid (HC1.out.below hb0 (heap_lt HC1.out))
 have HY1_2 := lhid (EntAt.below (C := w1.heap.size) (x := y1) (heap_alloc_new w1 _) hb (by simp))
 have z0 := HE2.out.lt
 have z1 := heap_lt HP2.out
 have z2 := heap_lt HC2.out
 have zy1 := HY1_2.out.lt
 obtain ⟨y10, y11, y12, y13, y14, y15, y16, y17⟩ := HY1_2.out.cells
 clear hb hb0
 obtain ⟨a0, a1, a2, a3, a4, a5, a6, a7⟩ := HE2.out.cells
 go_wp2_with fail
 with_reducible refine (of_f g l n x.b 1 1 y3 true _ ((below_rows HH.out HB2.out).alloc _) hn hz (by decide) (lhid rfl) hy3 hb3).mono ?_
 rintro e w3 ⟨rfl, hb⟩
 clear a0 a1 a2 a3 a4 a5 a6 a7 z0 z1 z2 y10 y11 y12 y13 y14 y15 y16 y17 zy1
 have hb0 := ((Below.refl _ w2).alloc (Nat.le_refl _) _).trans (hb.mono (by simp))
 have HB3 := lhid (HB2.out.trans (hb0.mono HB2.out.size))
 have HE3 := lhid (HE2.out.below hb0 HE2.out.lt)
 have HP3 := lhid (HP2.out.below hb0 (heap_lt HP2.out))
 have HC3 := lhid (HC2.out.below hb0 (heap_lt HC2.out))
 have HY1_3 := lhid (HY1_2.out.below hb0 HY1_2.out.lt)
 have HY2_3 := lhid (EntAt.below (C := w2.heap.size) (x := y2) (heap_alloc_new w2 _) hb (by simp))
 have z0 := HE3.out.lt
 have z1 := heap_lt HP3.out
 have z2 := heap_lt HC3.out
 have zy1 := HY1_3.out.lt
 obtain ⟨y10, y11, y12, y13, y14, y15, y16, y17⟩ := HY1_3.out.cells
 have zy2 := HY2_3.out.lt
 obtain ⟨y20, y21, y22, y23, y24, y25, y26, y27⟩ := HY2_3.out.cells
 clear hb hb0
 obtain ⟨a0, a1, a2, a3, a4, a5, a6, a7⟩ := HE3.out.cells
 go_wp2_with fail
 with_reducible refine (of_f g l n x.d 1 1 y4 true _ ((below_rows HH.out HB3.out).alloc _) hn hz (by decide) (lhid rfl) hy4 hb4).mono ?_
 rintro e w4 ⟨rfl, hb⟩
 clear a0 a1 a2 a3 a4 a5 a6 a7 z0 z1 z2 y10 y11 y12 y13 y14 y15 y16 y17 zy1 y20 y21 y22 y23 y24 y25 y26 y27 zy2
 have hb0 := ((Below.refl _ w3).alloc (Nat.le_refl _) _).trans (hb.mono (by simp))
 have HB4 := lhid (HB3.out.trans (hb0.mono HB3.out.size))
 have HE4 := lhid (HE3.out.below hb0 HE3.out.lt)
 have HP4 := lhid (HP3.out.below hb0 (heap_lt HP3.out))
 have HC4 := lhid (HC3.out.below hb0 (heap_lt HC3.out))
 have HY1_4 := lhid (HY1_3.out.below hb0 HY1_3.out.lt)
 have HY2_4 := lhid (HY2_3.out.below hb0 HY2_3.out.lt)
 have HY3_4 := lhid (EntAt.below (C := w3.heap.size) (x := y3) (heap_alloc_new w3 _) hb (by simp))
 have z0 := HE4.out.lt
 have z1 := heap_lt HP4.out
 have z2 := heap_lt HC4.out
 have zy1 := HY1_4.out.lt
 obtain ⟨y10, y11, y12, y13, y14, y15, y16, y17⟩ := HY1_4.out.cells
 have zy2 := HY2_4.out.lt
 obtain ⟨y20, y21, y22, y23, y24, y25, y26, y27⟩ := HY2_4.out.cells
 have zy3 := HY3_4.out.lt
 obtain ⟨y30, y31, y32, y33, y34, y35, y36, y37⟩ := HY3_4.out.cells
 clear hb hb0
 obtain ⟨a0, a1, a2, a3, a4, a5, a6, a7⟩ := HE4.out.cells
 obtain ⟨p0, p1, p2, p3, p4⟩ := HP4.out.cells
 have fp := HP4.out.thaw
 obtain ⟨c0, c1, c2, c3, c4⟩ := HC4.out.cells
 have fc := HC4.out.thaw
 have hn3 : ¬ w3.heap.size = w.heap.size + 1 + 1 := by have := heap_lt HC3.out; omega
 have hn4 : ¬ w.heap.size + 1 + 1 = w3.heap.size := by omega
 have hn5 : ¬ w2.heap.size = w.heap.size + 1 + 1 := by have := heap_lt HC2.out; omega
 have hn6 : ¬ w.heap.size + 1 + 1 = w2.heap.size := by omega
 go_wp2_with fail
 with_reducible refine (refName_t y2.text false _ _ sC q1).mono ?_
 rintro e w5 ⟨rfl, rfl⟩
 go_wp2_with fail
 refine bodyPost_ret (v := .tuple #[.agg #[.int .i64 0, .int .i64 0, .string ⟨#[]⟩, .string ⟨#[]⟩, .string ⟨#[]⟩], .int .i64 20]) (by simp [results, Tryz.results76, go_sem, p0, p1, p2, p3, p4, z1]) rfl ?_
 rw [HP.out]
 refine ⟨rfl, ?_⟩
 have q1 : w.heap.size ≤ w.heap.size + 1 := Nat.le_succ _
 have q2 : w.heap.size ≤ w.heap.size + 1 + 1 := Nat.le_add_right _ 2
 repeat (first | with_reducible refine below_set ?_ q1 _ _ | with_reducible refine below_set ?_ q2 _ _ | with_reducible refine below_new ?_ (Nat.le_refl _) _)
 exact HB4.out
set_option maxHeartbeats 8000000 in
set_option maxRecDepth 100000 in
theorem filled_mem_n_nine (g : Nat) (l : List Ent) (n : Nat) (x : Ent) (w : World) (h : RowsAt w g 130 8 (l.map entV)) (hn : Hid (l.length = n)) (hz : Hid (ZeroL l)) (y1 y2 y3 y4 : Ent) (hy1 : Hid ((entAt l x.a 7).getD Ent.zero = y1)) (hb1 : Hid ((entAt l x.a 7).isSome = true)) (hy2 : Hid ((entAt l y1.a 1).getD Ent.zero = y2)) (hb2 : Hid ((entAt l y1.a 1).isSome = true)) (hy3 : Hid ((entAt l x.b 1).getD Ent.zero = y3)) (hb3 : Hid ((entAt l x.b 1).isSome = true)) (hy4 : Hid ((entAt l x.d 1).getD Ent.zero = y4)) (hb4 : Hid ((entAt l x.d 1).isSome = true)) (hk : Hid (9 ≤ x.kind)) (sC : Hid ((tx y2.text).size ≤ maxLen)) (sN : Hid ((tx y3.text).size ≤ maxLen)) (sD : Hid ((tx y4.text).size ≤ maxLen)) (zD : Hid ((tx y4.text).size ≤ 281474976710656)) (h9 : Hid (x.kind = 9)) (q1 : Hid (nameB y2.text false = true)) (q2 : Hid (nameB y3.text false = false)) (HP : Hid (resOne l x = (20, Con.zero))) :
  Calls Tryz.prog 76 #[.slice (some ⟨g, 0, none⟩) n n, .agg #[.int .i64 x.kind, .int .i64 x.num, .string (tx x.text), .string ⟨#[]⟩, .string ⟨#[]⟩, .int .i64 x.a, .int .i64 x.b, .int .i64 x.d]] w (ResOut (resOne l x) w) := by
 have t0 : ¬ (x.kind : Int) < 7 := by have := hk.out; omega
 have t9 : ¬ (x.kind : Int) < 9 := by have := hk.out; omega
 have HH := lhid h
 have hsz := h.lt
 clear h
 have t9e : ((x.kind : Int) == 9) = true := by rw [beq_iff_eq]; have := h9.out; omega
 have t9g : ¬ (9 : Int) < x.kind := by have := h9.out; omega
 have t9d : decide ((9 : Int) < x.kind) = false := decide_eq_false t9g
 go_enter Tryz.func76, Tryz.ntmps76
 go_wp2_with fail
 with_reducible refine (of_f g l n x.a 7 7 y1 true _ (((HH.out.alloc _).alloc _).alloc _) hn hz (by decide) (lhid rfl) hy1 hb1).mono ?_
 rintro e w1 ⟨rfl, hb⟩
 have HB1 := lhid ((below3 w _ _ _).trans (hb.mono (by rw [size3]; omega)))
 have HE1 := lhid (EntAt.below (x := x) (new3_0 w _ _ _) hb (by rw [size3]; omega))
 have HP1 := lhid (ConAt.below (x := Con.zero) (new3_1 w _ _ _) hb (by rw [size3]; omega))
 have HC1 := lhid (ConAt.below (x := ⟨x.kind, x.num, x.text, [], []⟩) (new3_2 w _ _ _) hb (by rw [size3]; omega))
 have z0 := HE1.out.lt
 have z1 := heap_lt HP1.out
 have z2 := heap_lt HC1.out
 clear hb
 obtain ⟨a0, a1, a2, a3, a4, a5, a6, a7⟩ := HE1.out.cells
 go_wp2_with fail
 with_reducible refine (of_f g l n y1.a 1 1 y2 true _ ((below_rows HH.out HB1.out).alloc _) hn hz (by decide) (lhid rfl) hy2 hb2).mono ?_
 rintro e w2 ⟨rfl, hb⟩
 clear a0 a1 a2 a3 a4 a5 a6 a7 z0 z1 z2
 have hb0 := ((Below.refl _ w1).alloc (Nat.le_refl _) _).trans (hb.mono (by simp))
 have HB2 := lhid (HB1.out.trans (hb0.mono HB1.out.size))
 have HE2 := lhid (HE1.out.below hb0 HE1.out.lt)
 have HP2 := lhid (HP1.out.below hb0 (heap_lt HP1.out))
 have HC2 := lhid (HC1.out.below hb0 (heap_lt HC1.out))
 have HY1_2 := lhid (EntAt.below (C := w1.heap.size) (x := y1) (heap_alloc_new w1 _) hb (by simp))
 have z0 := HE2.out.lt
 have z1 := heap_lt HP2.out
 have z2 := heap_lt HC2.out
 have zy1 := HY1_2.out.lt
 obtain ⟨y10, y11, y12, y13, y14, y15, y16, y17⟩ := HY1_2.out.cells
 clear hb hb0
 obtain ⟨a0, a1, a2, a3, a4, a5, a6, a7⟩ := HE2.out.cells
 go_wp2_with fail
 with_reducible refine (of_f g l n x.b 1 1 y3 true _ ((below_rows HH.out HB2.out).alloc _) hn hz (by decide) (lhid rfl) hy3 hb3).mono ?_
 rintro e w3 ⟨rfl, hb⟩
 clear a0 a1 a2 a3 a4 a5 a6 a7 z0 z1 z2 y10 y11 y12 y13 y14 y15 y16 y17 zy1
 have hb0 := ((Below.refl _ w2).alloc (Nat.le_refl _) _).trans (hb.mono (by simp))
 have HB3 := lhid (HB2.out.trans (hb0.mono HB2.out.size))
 have HE3 := lhid (HE2.out.below hb0 HE2.out.lt)
 have HP3 := lhid (HP2.out.below hb0 (heap_lt HP2.out))
 have HC3 := lhid (HC2.out.below hb0 (heap_lt HC2.out))
 have HY1_3 := lhid (HY1_2.out.below hb0 HY1_2.out.lt)
 have HY2_3 := lhid (EntAt.below (C := w2.heap.size) (x := y2) (heap_alloc_new w2 _) hb (by simp))
 have z0 := HE3.out.lt
 have z1 := heap_lt HP3.out
 have z2 := heap_lt HC3.out
 have zy1 := HY1_3.out.lt
 obtain ⟨y10, y11, y12, y13, y14, y15, y16, y17⟩ := HY1_3.out.cells
 have zy2 := HY2_3.out.lt
 obtain ⟨y20, y21, y22, y23, y24, y25, y26, y27⟩ := HY2_3.out.cells
 clear hb hb0
 obtain ⟨a0, a1, a2, a3, a4, a5, a6, a7⟩ := HE3.out.cells
 go_wp2_with fail
 with_reducible refine (of_f g l n x.d 1 1 y4 true _ ((below_rows HH.out HB3.out).alloc _) hn hz (by decide) (lhid rfl) hy4 hb4).mono ?_
 rintro e w4 ⟨rfl, hb⟩
 clear a0 a1 a2 a3 a4 a5 a6 a7 z0 z1 z2 y10 y11 y12 y13 y14 y15 y16 y17 zy1 y20 y21 y22 y23 y24 y25 y26 y27 zy2
 have hb0 := ((Below.refl _ w3).alloc (Nat.le_refl _) _).trans (hb.mono (by simp))
 have HB4 := lhid (HB3.out.trans (hb0.mono HB3.out.size))
 have HE4 := lhid (HE3.out.below hb0 HE3.out.lt)
 have HP4 := lhid (HP3.out.below hb0 (heap_lt HP3.out))
 have HC4 := lhid (HC3.out.below hb0 (heap_lt HC3.out))
 have HY1_4 := lhid (HY1_3.out.below hb0 HY1_3.out.lt)
 have HY2_4 := lhid (HY2_3.out.below hb0 HY2_3.out.lt)
 have HY3_4 := lhid (EntAt.below (C := w3.heap.size) (x := y3) (heap_alloc_new w3 _) hb (by simp))
 have z0 := HE4.out.lt
 have z1 := heap_lt HP4.out
 have z2 := heap_lt HC4.out
 have zy1 := HY1_4.out.lt
 obtain ⟨y10, y11, y12, y13, y14, y15, y16, y17⟩ := HY1_4.out.cells
 have zy2 := HY2_4.out.lt
 obtain ⟨y20, y21, y22, y23, y24, y25, y26, y27⟩ := HY2_4.out.cells
 have zy3 := HY3_4.out.lt
 obtain ⟨y30, y31, y32, y33, y34, y35, y36, y37⟩ := HY3_4.out.cells
 clear hb hb0
 obtain ⟨a0, a1, a2, a3, a4, a5, a6, a7⟩ := HE4.out.cells
 obtain ⟨p0, p1, p2, p3, p4⟩ := HP4.out.cells
 have fp := HP4.out.thaw
 obtain ⟨c0, c1, c2, c3, c4⟩ := HC4.out.cells
 have fc := HC4.out.thaw
 have hn3 : ¬ w3.heap.size = w.heap.size + 1 + 1 := by have := heap_lt HC3.out; omega
 have hn4 : ¬ w.heap.size + 1 + 1 = w3.heap.size := by omega
 have hn5 : ¬ w2.heap.size = w.heap.size + 1 + 1 := by have := heap_lt HC2.out; omega
 have hn6 : ¬ w.heap.size + 1 + 1 = w2.heap.size := by omega
 go_wp2_with fail
 with_reducible refine (refName_t y2.text false _ _ sC q1).mono ?_
 rintro e w5 ⟨rfl, rfl⟩
 go_wp2_with fail
 with_reducible refine (refName_t y3.text false _ _ sN q2).mono ?_
 rintro e w5 ⟨rfl, rfl⟩
 go_wp2_with fail
 refine bodyPost_ret (v := .tuple #[.agg #[.int .i64 0, .int .i64 0, .string ⟨#[]⟩, .string ⟨#[]⟩, .string ⟨#[]⟩], .int .i64 20]) (by simp [results, Tryz.results76, go_sem, p0, p1, p2, p3, p4, z1]) rfl ?_
 rw [HP.out]
 refine ⟨rfl, ?_⟩
 have q1 : w.heap.size ≤ w.heap.size + 1 := Nat.le_succ _
 have q2 : w.heap.size ≤ w.heap.size + 1 + 1 := Nat.le_add_right _ 2
 repeat (first | with_reducible refine below_set ?_ q1 _ _ | with_reducible refine below_set ?_ q2 _ _ | with_reducible refine below_new ?_ (Nat.le_refl _) _)
 exact HB4.out
set_option maxHeartbeats 8000000 in
set_option maxRecDepth 100000 in
theorem filled_mem_d_nine (g : Nat) (l : List Ent) (n : Nat) (x : Ent) (w : World) (h : RowsAt w g 130 8 (l.map entV)) (hn : Hid (l.length = n)) (hz : Hid (ZeroL l)) (y1 y2 y3 y4 : Ent) (hy1 : Hid ((entAt l x.a 7).getD Ent.zero = y1)) (hb1 : Hid ((entAt l x.a 7).isSome = true)) (hy2 : Hid ((entAt l y1.a 1).getD Ent.zero = y2)) (hb2 : Hid ((entAt l y1.a 1).isSome = true)) (hy3 : Hid ((entAt l x.b 1).getD Ent.zero = y3)) (hb3 : Hid ((entAt l x.b 1).isSome = true)) (hy4 : Hid ((entAt l x.d 1).getD Ent.zero = y4)) (hb4 : Hid ((entAt l x.d 1).isSome = true)) (hk : Hid (9 ≤ x.kind)) (sC : Hid ((tx y2.text).size ≤ maxLen)) (sN : Hid ((tx y3.text).size ≤ maxLen)) (sD : Hid ((tx y4.text).size ≤ maxLen)) (zD : Hid ((tx y4.text).size ≤ 281474976710656)) (mb : Bool) (h9 : Hid (x.kind = 9)) (q1 : Hid (nameB y2.text false = true)) (q2 : Hid (nameB y3.text false = true)) (q3 : Hid (typeB y4.text = false)) (qm : Hid ((metB y4.text).isSome = mb)) (HP : Hid (resOne l x = (21, Con.zero))) :
  Calls Tryz.prog 76 #[.slice (some ⟨g, 0, none⟩) n n, .agg #[.int .i64 x.kind, .int .i64 x.num, .string (tx x.text), .string ⟨#[]⟩, .string ⟨#[]⟩, .int .i64 x.a, .int .i64 x.b, .int .i64 x.d]] w (ResOut (resOne l x) w) := by
 have t0 : ¬ (x.kind : Int) < 7 := by have := hk.out; omega
 have t9 : ¬ (x.kind : Int) < 9 := by have := hk.out; omega
 have HH := lhid h
 have hsz := h.lt
 clear h
 have t9e : ((x.kind : Int) == 9) = true := by rw [beq_iff_eq]; have := h9.out; omega
 have t9g : ¬ (9 : Int) < x.kind := by have := h9.out; omega
 have t9d : decide ((9 : Int) < x.kind) = false := decide_eq_false t9g
 go_enter Tryz.func76, Tryz.ntmps76
 go_wp2_with fail
 with_reducible refine (of_f g l n x.a 7 7 y1 true _ (((HH.out.alloc _).alloc _).alloc _) hn hz (by decide) (lhid rfl) hy1 hb1).mono ?_
 rintro e w1 ⟨rfl, hb⟩
 have HB1 := lhid ((below3 w _ _ _).trans (hb.mono (by rw [size3]; omega)))
 have HE1 := lhid (EntAt.below (x := x) (new3_0 w _ _ _) hb (by rw [size3]; omega))
 have HP1 := lhid (ConAt.below (x := Con.zero) (new3_1 w _ _ _) hb (by rw [size3]; omega))
 have HC1 := lhid (ConAt.below (x := ⟨x.kind, x.num, x.text, [], []⟩) (new3_2 w _ _ _) hb (by rw [size3]; omega))
 have z0 := HE1.out.lt
 have z1 := heap_lt HP1.out
 have z2 := heap_lt HC1.out
 clear hb
 obtain ⟨a0, a1, a2, a3, a4, a5, a6, a7⟩ := HE1.out.cells
 go_wp2_with fail
 with_reducible refine (of_f g l n y1.a 1 1 y2 true _ ((below_rows HH.out HB1.out).alloc _) hn hz (by decide) (lhid rfl) hy2 hb2).mono ?_
 rintro e w2 ⟨rfl, hb⟩
 clear a0 a1 a2 a3 a4 a5 a6 a7 z0 z1 z2
 have hb0 := ((Below.refl _ w1).alloc (Nat.le_refl _) _).trans (hb.mono (by simp))
 have HB2 := lhid (HB1.out.trans (hb0.mono HB1.out.size))
 have HE2 := lhid (HE1.out.below hb0 HE1.out.lt)
 have HP2 := lhid (HP1.out.below hb0 (heap_lt HP1.out))
 have HC2 := lhid (HC1.out.below hb0 (heap_lt HC1.out))
 have HY1_2 := lhid (EntAt.below (C := w1.heap.size) (x := y1) (heap_alloc_new w1 _) hb (by simp))
 have z0 := HE2.out.lt
 have z1 := heap_lt HP2.out
 have z2 := heap_lt HC2.out
 have zy1 := HY1_2.out.lt
 obtain ⟨y10, y11, y12, y13, y14, y15, y16, y17⟩ := HY1_2.out.cells
 clear hb hb0
 obtain ⟨a0, a1, a2, a3, a4, a5, a6, a7⟩ := HE2.out.cells
 go_wp2_with fail
 with_reducible refine (of_f g l n x.b 1 1 y3 true _ ((below_rows HH.out HB2.out).alloc _) hn hz (by decide) (lhid rfl) hy3 hb3).mono ?_
 rintro e w3 ⟨rfl, hb⟩
 clear a0 a1 a2 a3 a4 a5 a6 a7 z0 z1 z2 y10 y11 y12 y13 y14 y15 y16 y17 zy1
 have hb0 := ((Below.refl _ w2).alloc (Nat.le_refl _) _).trans (hb.mono (by simp))
 have HB3 := lhid (HB2.out.trans (hb0.mono HB2.out.size))
 have HE3 := lhid (HE2.out.below hb0 HE2.out.lt)
 have HP3 := lhid (HP2.out.below hb0 (heap_lt HP2.out))
 have HC3 := lhid (HC2.out.below hb0 (heap_lt HC2.out))
 have HY1_3 := lhid (HY1_2.out.below hb0 HY1_2.out.lt)
 have HY2_3 := lhid (EntAt.below (C := w2.heap.size) (x := y2) (heap_alloc_new w2 _) hb (by simp))
 have z0 := HE3.out.lt
 have z1 := heap_lt HP3.out
 have z2 := heap_lt HC3.out
 have zy1 := HY1_3.out.lt
 obtain ⟨y10, y11, y12, y13, y14, y15, y16, y17⟩ := HY1_3.out.cells
 have zy2 := HY2_3.out.lt
 obtain ⟨y20, y21, y22, y23, y24, y25, y26, y27⟩ := HY2_3.out.cells
 clear hb hb0
 obtain ⟨a0, a1, a2, a3, a4, a5, a6, a7⟩ := HE3.out.cells
 go_wp2_with fail
 with_reducible refine (of_f g l n x.d 1 1 y4 true _ ((below_rows HH.out HB3.out).alloc _) hn hz (by decide) (lhid rfl) hy4 hb4).mono ?_
 rintro e w4 ⟨rfl, hb⟩
 clear a0 a1 a2 a3 a4 a5 a6 a7 z0 z1 z2 y10 y11 y12 y13 y14 y15 y16 y17 zy1 y20 y21 y22 y23 y24 y25 y26 y27 zy2
 have hb0 := ((Below.refl _ w3).alloc (Nat.le_refl _) _).trans (hb.mono (by simp))
 have HB4 := lhid (HB3.out.trans (hb0.mono HB3.out.size))
 have HE4 := lhid (HE3.out.below hb0 HE3.out.lt)
 have HP4 := lhid (HP3.out.below hb0 (heap_lt HP3.out))
 have HC4 := lhid (HC3.out.below hb0 (heap_lt HC3.out))
 have HY1_4 := lhid (HY1_3.out.below hb0 HY1_3.out.lt)
 have HY2_4 := lhid (HY2_3.out.below hb0 HY2_3.out.lt)
 have HY3_4 := lhid (EntAt.below (C := w3.heap.size) (x := y3) (heap_alloc_new w3 _) hb (by simp))
 have z0 := HE4.out.lt
 have z1 := heap_lt HP4.out
 have z2 := heap_lt HC4.out
 have zy1 := HY1_4.out.lt
 obtain ⟨y10, y11, y12, y13, y14, y15, y16, y17⟩ := HY1_4.out.cells
 have zy2 := HY2_4.out.lt
 obtain ⟨y20, y21, y22, y23, y24, y25, y26, y27⟩ := HY2_4.out.cells
 have zy3 := HY3_4.out.lt
 obtain ⟨y30, y31, y32, y33, y34, y35, y36, y37⟩ := HY3_4.out.cells
 clear hb hb0
 obtain ⟨a0, a1, a2, a3, a4, a5, a6, a7⟩ := HE4.out.cells
 obtain ⟨p0, p1, p2, p3, p4⟩ := HP4.out.cells
 have fp := HP4.out.thaw
 obtain ⟨c0, c1, c2, c3, c4⟩ := HC4.out.cells
 have fc := HC4.out.thaw
 have hn3 : ¬ w3.heap.size = w.heap.size + 1 + 1 := by have := heap_lt HC3.out; omega
 have hn4 : ¬ w.heap.size + 1 + 1 = w3.heap.size := by omega
 have hn5 : ¬ w2.heap.size = w.heap.size + 1 + 1 := by have := heap_lt HC2.out; omega
 have hn6 : ¬ w.heap.size + 1 + 1 = w2.heap.size := by omega
 go_wp2_with fail
 with_reducible refine (refName_t y2.text false _ _ sC q1).mono ?_
 rintro e w5 ⟨rfl, rfl⟩
 go_wp2_with fail
 with_reducible refine (refName_t y3.text false _ _ sN q2).mono ?_
 rintro e w5 ⟨rfl, rfl⟩
 go_wp2_with fail
 with_reducible refine (refMethod_t y4.text mb _ sD zD qm).mono ?_
 rintro e w5 ⟨⟨u5, v5, rfl⟩, hb⟩
 generalize (if mb then (0 : Int) else 21) = c5
 have HC5 := lhid (((((HC4.out.set 2 _ ⟨x.kind, x.num, y2.text, [], []⟩ rfl).set 3 _ ⟨x.kind, x.num, y2.text, y3.text, []⟩ rfl).set 4 _ ⟨x.kind, x.num, y2.text, y3.text, y4.text⟩ rfl).alloc _).below hb (by simp [World.setCell]; omega))
 have HP5 := lhid (((((HP4.out.other _ _ (by omega) _).other _ _ (by omega) _).other _ _ (by omega) _).alloc _).below hb (by simp [World.setCell]; omega))
 have hb4 := below_new (below_set (below_set (below_set HB4.out (Nat.le_add_right _ 2) 2 (.string (tx y2.text))) (Nat.le_add_right _ 2) 3 (.string (tx y3.text))) (Nat.le_add_right _ 2) 4 (.string (tx y4.text))) (Nat.le_refl _) (.cells #[.int .i64 y4.kind, .int .i64 y4.num, .string (tx y4.text), .string ⟨#[]⟩, .string ⟨#[]⟩, .int .i64 y4.a, .int .i64 y4.b, .int .i64 y4.d] 130)
 have HB5 := lhid (hb4.trans (hb.mono hb4.size))
 clear hb hb4 a0 a1 a2 a3 a4 a5 a6 a7 z0 z1 z2 p0 p1 p2 p3 p4 c0 c1 c2 c3 c4 fp fc y10 y11 y12 y13 y14 y15 y16 y17 y20 y21 y22 y23 y24 y25 y26 y27 y30 y31 y32 y33 y34 y35 y36 y37 zy1 zy2 zy3
 have z1 := heap_lt HP5.out
 obtain ⟨p0, p1, p2, p3, p4⟩ := HP5.out.cells
 have fp := HP5.out.thaw
 obtain ⟨c0, c1, c2, c3, c4⟩ := HC5.out.cells
 have fc := HC5.out.thaw
 go_wp2_with fail
 with_reducible refine (refType_t y4.text _ _ sD q3).mono ?_
 rintro e w6 ⟨rfl, rfl⟩
 go_wp2_with fail
 refine bodyPost_ret (v := .tuple #[.agg #[.int .i64 0, .int .i64 0, .string ⟨#[]⟩, .string ⟨#[]⟩, .string ⟨#[]⟩], .int .i64 21]) (by simp [results, Tryz.results76, go_sem, p0, p1, p2, p3, p4]) rfl ?_
 rw [HP.out]
 refine ⟨rfl, ?_⟩
 have q1 : w.heap.size ≤ w.heap.size + 1 := Nat.le_succ _
 have q2 : w.heap.size ≤ w.heap.size + 1 + 1 := Nat.le_add_right _ 2
 repeat (first | with_reducible refine below_set ?_ q1 _ _ | with_reducible refine below_set ?_ q2 _ _ | with_reducible refine below_new ?_ (Nat.le_refl _) _)
 exact HB5.out
set_option maxHeartbeats 8000000 in
set_option maxRecDepth 100000 in
theorem filled_mem_ok_nine (g : Nat) (l : List Ent) (n : Nat) (x : Ent) (w : World) (h : RowsAt w g 130 8 (l.map entV)) (hn : Hid (l.length = n)) (hz : Hid (ZeroL l)) (y1 y2 y3 y4 : Ent) (hy1 : Hid ((entAt l x.a 7).getD Ent.zero = y1)) (hb1 : Hid ((entAt l x.a 7).isSome = true)) (hy2 : Hid ((entAt l y1.a 1).getD Ent.zero = y2)) (hb2 : Hid ((entAt l y1.a 1).isSome = true)) (hy3 : Hid ((entAt l x.b 1).getD Ent.zero = y3)) (hb3 : Hid ((entAt l x.b 1).isSome = true)) (hy4 : Hid ((entAt l x.d 1).getD Ent.zero = y4)) (hb4 : Hid ((entAt l x.d 1).isSome = true)) (hk : Hid (9 ≤ x.kind)) (sC : Hid ((tx y2.text).size ≤ maxLen)) (sN : Hid ((tx y3.text).size ≤ maxLen)) (sD : Hid ((tx y4.text).size ≤ maxLen)) (zD : Hid ((tx y4.text).size ≤ 281474976710656)) (mb : Bool) (h9 : Hid (x.kind = 9)) (q1 : Hid (nameB y2.text false = true)) (q2 : Hid (nameB y3.text false = true)) (q3 : Hid (typeB y4.text = true)) (qm : Hid ((metB y4.text).isSome = mb)) (HP : Hid (resOne l x = (0, ⟨x.kind, x.num, y2.text, y3.text, y4.text⟩))) :
  Calls Tryz.prog 76 #[.slice (some ⟨g, 0, none⟩) n n, .agg #[.int .i64 x.kind, .int .i64 x.num, .string (tx x.text), .string ⟨#[]⟩, .string ⟨#[]⟩, .int .i64 x.a, .int .i64 x.b, .int .i64 x.d]] w (ResOut (resOne l x) w) := by
 have t0 : ¬ (x.kind : Int) < 7 := by have := hk.out; omega
 have t9 : ¬ (x.kind : Int) < 9 := by have := hk.out; omega
 have HH := lhid h
 have hsz := h.lt
 clear h
 have t9e : ((x.kind : Int) == 9) = true := by rw [beq_iff_eq]; have := h9.out; omega
 have t9g : ¬ (9 : Int) < x.kind := by have := h9.out; omega
 have t9d : decide ((9 : Int) < x.kind) = false := decide_eq_false t9g
 go_enter Tryz.func76, Tryz.ntmps76
 go_wp2_with fail
 with_reducible refine (of_f g l n x.a 7 7 y1 true _ (((HH.out.alloc _).alloc _).alloc _) hn hz (by decide) (lhid rfl) hy1 hb1).mono ?_
 rintro e w1 ⟨rfl, hb⟩
 have HB1 := lhid ((below3 w _ _ _).trans (hb.mono (by rw [size3]; omega)))
 have HE1 := lhid (EntAt.below (x := x) (new3_0 w _ _ _) hb (by rw [size3]; omega))
 have HP1 := lhid (ConAt.below (x := Con.zero) (new3_1 w _ _ _) hb (by rw [size3]; omega))
 have HC1 := lhid (ConAt.below (x := ⟨x.kind, x.num, x.text, [], []⟩) (new3_2 w _ _ _) hb (by rw [size3]; omega))
 have z0 := HE1.out.lt
 have z1 := heap_lt HP1.out
 have z2 := heap_lt HC1.out
 clear hb
 obtain ⟨a0, a1, a2, a3, a4, a5, a6, a7⟩ := HE1.out.cells
 go_wp2_with fail
 with_reducible refine (of_f g l n y1.a 1 1 y2 true _ ((below_rows HH.out HB1.out).alloc _) hn hz (by decide) (lhid rfl) hy2 hb2).mono ?_
 rintro e w2 ⟨rfl, hb⟩
 clear a0 a1 a2 a3 a4 a5 a6 a7 z0 z1 z2
 have hb0 := ((Below.refl _ w1).alloc (Nat.le_refl _) _).trans (hb.mono (by simp))
 have HB2 := lhid (HB1.out.trans (hb0.mono HB1.out.size))
 have HE2 := lhid (HE1.out.below hb0 HE1.out.lt)
 have HP2 := lhid (HP1.out.below hb0 (heap_lt HP1.out))
 have HC2 := lhid (HC1.out.below hb0 (heap_lt HC1.out))
 have HY1_2 := lhid (EntAt.below (C := w1.heap.size) (x := y1) (heap_alloc_new w1 _) hb (by simp))
 have z0 := HE2.out.lt
 have z1 := heap_lt HP2.out
 have z2 := heap_lt HC2.out
 have zy1 := HY1_2.out.lt
 obtain ⟨y10, y11, y12, y13, y14, y15, y16, y17⟩ := HY1_2.out.cells
 clear hb hb0
 obtain ⟨a0, a1, a2, a3, a4, a5, a6, a7⟩ := HE2.out.cells
 go_wp2_with fail
 with_reducible refine (of_f g l n x.b 1 1 y3 true _ ((below_rows HH.out HB2.out).alloc _) hn hz (by decide) (lhid rfl) hy3 hb3).mono ?_
 rintro e w3 ⟨rfl, hb⟩
 clear a0 a1 a2 a3 a4 a5 a6 a7 z0 z1 z2 y10 y11 y12 y13 y14 y15 y16 y17 zy1
 have hb0 := ((Below.refl _ w2).alloc (Nat.le_refl _) _).trans (hb.mono (by simp))
 have HB3 := lhid (HB2.out.trans (hb0.mono HB2.out.size))
 have HE3 := lhid (HE2.out.below hb0 HE2.out.lt)
 have HP3 := lhid (HP2.out.below hb0 (heap_lt HP2.out))
 have HC3 := lhid (HC2.out.below hb0 (heap_lt HC2.out))
 have HY1_3 := lhid (HY1_2.out.below hb0 HY1_2.out.lt)
 have HY2_3 := lhid (EntAt.below (C := w2.heap.size) (x := y2) (heap_alloc_new w2 _) hb (by simp))
 have z0 := HE3.out.lt
 have z1 := heap_lt HP3.out
 have z2 := heap_lt HC3.out
 have zy1 := HY1_3.out.lt
 obtain ⟨y10, y11, y12, y13, y14, y15, y16, y17⟩ := HY1_3.out.cells
 have zy2 := HY2_3.out.lt
 obtain ⟨y20, y21, y22, y23, y24, y25, y26, y27⟩ := HY2_3.out.cells
 clear hb hb0
 obtain ⟨a0, a1, a2, a3, a4, a5, a6, a7⟩ := HE3.out.cells
 go_wp2_with fail
 with_reducible refine (of_f g l n x.d 1 1 y4 true _ ((below_rows HH.out HB3.out).alloc _) hn hz (by decide) (lhid rfl) hy4 hb4).mono ?_
 rintro e w4 ⟨rfl, hb⟩
 clear a0 a1 a2 a3 a4 a5 a6 a7 z0 z1 z2 y10 y11 y12 y13 y14 y15 y16 y17 zy1 y20 y21 y22 y23 y24 y25 y26 y27 zy2
 have hb0 := ((Below.refl _ w3).alloc (Nat.le_refl _) _).trans (hb.mono (by simp))
 have HB4 := lhid (HB3.out.trans (hb0.mono HB3.out.size))
 have HE4 := lhid (HE3.out.below hb0 HE3.out.lt)
 have HP4 := lhid (HP3.out.below hb0 (heap_lt HP3.out))
 have HC4 := lhid (HC3.out.below hb0 (heap_lt HC3.out))
 have HY1_4 := lhid (HY1_3.out.below hb0 HY1_3.out.lt)
 have HY2_4 := lhid (HY2_3.out.below hb0 HY2_3.out.lt)
 have HY3_4 := lhid (EntAt.below (C := w3.heap.size) (x := y3) (heap_alloc_new w3 _) hb (by simp))
 have z0 := HE4.out.lt
 have z1 := heap_lt HP4.out
 have z2 := heap_lt HC4.out
 have zy1 := HY1_4.out.lt
 obtain ⟨y10, y11, y12, y13, y14, y15, y16, y17⟩ := HY1_4.out.cells
 have zy2 := HY2_4.out.lt
 obtain ⟨y20, y21, y22, y23, y24, y25, y26, y27⟩ := HY2_4.out.cells
 have zy3 := HY3_4.out.lt
 obtain ⟨y30, y31, y32, y33, y34, y35, y36, y37⟩ := HY3_4.out.cells
 clear hb hb0
 obtain ⟨a0, a1, a2, a3, a4, a5, a6, a7⟩ := HE4.out.cells
 obtain ⟨p0, p1, p2, p3, p4⟩ := HP4.out.cells
 have fp := HP4.out.thaw
 obtain ⟨c0, c1, c2, c3, c4⟩ := HC4.out.cells
 have fc := HC4.out.thaw
 have hn3 : ¬ w3.heap.size = w.heap.size + 1 + 1 := by have := heap_lt HC3.out; omega
 have hn4 : ¬ w.heap.size + 1 + 1 = w3.heap.size := by omega
 have hn5 : ¬ w2.heap.size = w.heap.size + 1 + 1 := by have := heap_lt HC2.out; omega
 have hn6 : ¬ w.heap.size + 1 + 1 = w2.heap.size := by omega
 go_wp2_with fail
 with_reducible refine (refName_t y2.text false _ _ sC q1).mono ?_
 rintro e w5 ⟨rfl, rfl⟩
 go_wp2_with fail
 with_reducible refine (refName_t y3.text false _ _ sN q2).mono ?_
 rintro e w5 ⟨rfl, rfl⟩
 go_wp2_with fail
 with_reducible refine (refMethod_t y4.text mb _ sD zD qm).mono ?_
 rintro e w5 ⟨⟨u5, v5, rfl⟩, hb⟩
 generalize (if mb then (0 : Int) else 21) = c5
 have HC5 := lhid (((((HC4.out.set 2 _ ⟨x.kind, x.num, y2.text, [], []⟩ rfl).set 3 _ ⟨x.kind, x.num, y2.text, y3.text, []⟩ rfl).set 4 _ ⟨x.kind, x.num, y2.text, y3.text, y4.text⟩ rfl).alloc _).below hb (by simp [World.setCell]; omega))
 have HP5 := lhid (((((HP4.out.other _ _ (by omega) _).other _ _ (by omega) _).other _ _ (by omega) _).alloc _).below hb (by simp [World.setCell]; omega))
 have hb4 := below_new (below_set (below_set (below_set HB4.out (Nat.le_add_right _ 2) 2 (.string (tx y2.text))) (Nat.le_add_right _ 2) 3 (.string (tx y3.text))) (Nat.le_add_right _ 2) 4 (.string (tx y4.text))) (Nat.le_refl _) (.cells #[.int .i64 y4.kind, .int .i64 y4.num, .string (tx y4.text), .string ⟨#[]⟩, .string ⟨#[]⟩, .int .i64 y4.a, .int .i64 y4.b, .int .i64 y4.d] 130)
 have HB5 := lhid (hb4.trans (hb.mono hb4.size))
 clear hb hb4 a0 a1 a2 a3 a4 a5 a6 a7 z0 z1 z2 p0 p1 p2 p3 p4 c0 c1 c2 c3 c4 fp fc y10 y11 y12 y13 y14 y15 y16 y17 y20 y21 y22 y23 y24 y25 y26 y27 y30 y31 y32 y33 y34 y35 y36 y37 zy1 zy2 zy3
 have z1 := heap_lt HP5.out
 obtain ⟨p0, p1, p2, p3, p4⟩ := HP5.out.cells
 have fp := HP5.out.thaw
 obtain ⟨c0, c1, c2, c3, c4⟩ := HC5.out.cells
 have fc := HC5.out.thaw
 go_wp2_with fail
 with_reducible refine (refType_t y4.text _ _ sD q3).mono ?_
 rintro e w6 ⟨rfl, rfl⟩
 go_wp2_with fail
 refine bodyPost_ret (v := .tuple #[.agg #[.int .i64 x.kind, .int .i64 x.num, .string (tx y2.text), .string (tx y3.text), .string (tx y4.text)], .int .i64 0]) (by simp [results, Tryz.results76, go_sem, p0, p1, p2, p3, p4]) rfl ?_
 rw [HP.out]
 refine ⟨rfl, ?_⟩
 have q1 : w.heap.size ≤ w.heap.size + 1 := Nat.le_succ _
 have q2 : w.heap.size ≤ w.heap.size + 1 + 1 := Nat.le_add_right _ 2
 repeat (first | with_reducible refine below_set ?_ q1 _ _ | with_reducible refine below_set ?_ q2 _ _ | with_reducible refine below_new ?_ (Nat.le_refl _) _)
 exact HB5.out
set_option maxHeartbeats 8000000 in
set_option maxRecDepth 100000 in
theorem filled_mem_n_more (g : Nat) (l : List Ent) (n : Nat) (x : Ent) (w : World) (h : RowsAt w g 130 8 (l.map entV)) (hn : Hid (l.length = n)) (hz : Hid (ZeroL l)) (y1 y2 y3 y4 : Ent) (hy1 : Hid ((entAt l x.a 7).getD Ent.zero = y1)) (hb1 : Hid ((entAt l x.a 7).isSome = true)) (hy2 : Hid ((entAt l y1.a 1).getD Ent.zero = y2)) (hb2 : Hid ((entAt l y1.a 1).isSome = true)) (hy3 : Hid ((entAt l x.b 1).getD Ent.zero = y3)) (hb3 : Hid ((entAt l x.b 1).isSome = true)) (hy4 : Hid ((entAt l x.d 1).getD Ent.zero = y4)) (hb4 : Hid ((entAt l x.d 1).isSome = true)) (hk : Hid (9 ≤ x.kind)) (sC : Hid ((tx y2.text).size ≤ maxLen)) (sN : Hid ((tx y3.text).size ≤ maxLen)) (sD : Hid ((tx y4.text).size ≤ maxLen)) (zD : Hid ((tx y4.text).size ≤ 281474976710656)) (h9 : Hid (9 < x.kind)) (q1 : Hid (nameB y2.text false = true)) (q2 : Hid (nameB y3.text true = false)) (HP : Hid (resOne l x = (20, Con.zero))) :
  Calls Tryz.prog 76 #[.slice (some ⟨g, 0, none⟩) n n, .agg #[.int .i64 x.kind, .int .i64 x.num, .string (tx x.text), .string ⟨#[]⟩, .string ⟨#[]⟩, .int .i64 x.a, .int .i64 x.b, .int .i64 x.d]] w (ResOut (resOne l x) w) := by
 have t0 : ¬ (x.kind : Int) < 7 := by have := hk.out; omega
 have t9 : ¬ (x.kind : Int) < 9 := by have := hk.out; omega
 have HH := lhid h
 have hsz := h.lt
 clear h
 have t9e : ((x.kind : Int) == 9) = false := by rw [beq_eq_false_iff_ne]; have := h9.out; omega
 have t9g : (9 : Int) < x.kind := h9.out |> fun h => by omega
 go_enter Tryz.func76, Tryz.ntmps76
 go_wp2_with fail
 with_reducible refine (of_f g l n x.a 7 7 y1 true _ (((HH.out.alloc _).alloc _).alloc _) hn hz (by decide) (lhid rfl) hy1 hb1).mono ?_
 rintro e w1 ⟨rfl, hb⟩
 have HB1 := lhid ((below3 w _ _ _).trans (hb.mono (by rw [size3]; omega)))
 have HE1 := lhid (EntAt.below (x := x) (new3_0 w _ _ _) hb (by rw [size3]; omega))
 have HP1 := lhid (ConAt.below (x := Con.zero) (new3_1 w _ _ _) hb (by rw [size3]; omega))
 have HC1 := lhid (ConAt.below (x := ⟨x.kind, x.num, x.text, [], []⟩) (new3_2 w _ _ _) hb (by rw [size3]; omega))
 have z0 := HE1.out.lt
 have z1 := heap_lt HP1.out
 have z2 := heap_lt HC1.out
 clear hb
 obtain ⟨a0, a1, a2, a3, a4, a5, a6, a7⟩ := HE1.out.cells
 go_wp2_with fail
 with_reducible refine (of_f g l n y1.a 1 1 y2 true _ ((below_rows HH.out HB1.out).alloc _) hn hz (by decide) (lhid rfl) hy2 hb2).mono ?_
 rintro e w2 ⟨rfl, hb⟩
 clear a0 a1 a2 a3 a4 a5 a6 a7 z0 z1 z2
 have hb0 := ((Below.refl _ w1).alloc (Nat.le_refl _) _).trans (hb.mono (by simp))
 have HB2 := lhid (HB1.out.trans (hb0.mono HB1.out.size))
 have HE2 := lhid (HE1.out.below hb0 HE1.out.lt)
 have HP2 := lhid (HP1.out.below hb0 (heap_lt HP1.out))
 have HC2 := lhid (HC1.out.below hb0 (heap_lt HC1.out))
 have HY1_2 := lhid (EntAt.below (C := w1.heap.size) (x := y1) (heap_alloc_new w1 _) hb (by simp))
 have z0 := HE2.out.lt
 have z1 := heap_lt HP2.out
 have z2 := heap_lt HC2.out
 have zy1 := HY1_2.out.lt
 obtain ⟨y10, y11, y12, y13, y14, y15, y16, y17⟩ := HY1_2.out.cells
 clear hb hb0
 obtain ⟨a0, a1, a2, a3, a4, a5, a6, a7⟩ := HE2.out.cells
 go_wp2_with fail
 with_reducible refine (of_f g l n x.b 1 1 y3 true _ ((below_rows HH.out HB2.out).alloc _) hn hz (by decide) (lhid rfl) hy3 hb3).mono ?_
 rintro e w3 ⟨rfl, hb⟩
 clear a0 a1 a2 a3 a4 a5 a6 a7 z0 z1 z2 y10 y11 y12 y13 y14 y15 y16 y17 zy1
 have hb0 := ((Below.refl _ w2).alloc (Nat.le_refl _) _).trans (hb.mono (by simp))
 have HB3 := lhid (HB2.out.trans (hb0.mono HB2.out.size))
 have HE3 := lhid (HE2.out.below hb0 HE2.out.lt)
 have HP3 := lhid (HP2.out.below hb0 (heap_lt HP2.out))
 have HC3 := lhid (HC2.out.below hb0 (heap_lt HC2.out))
 have HY1_3 := lhid (HY1_2.out.below hb0 HY1_2.out.lt)
 have HY2_3 := lhid (EntAt.below (C := w2.heap.size) (x := y2) (heap_alloc_new w2 _) hb (by simp))
 have z0 := HE3.out.lt
 have z1 := heap_lt HP3.out
 have z2 := heap_lt HC3.out
 have zy1 := HY1_3.out.lt
 obtain ⟨y10, y11, y12, y13, y14, y15, y16, y17⟩ := HY1_3.out.cells
 have zy2 := HY2_3.out.lt
 obtain ⟨y20, y21, y22, y23, y24, y25, y26, y27⟩ := HY2_3.out.cells
 clear hb hb0
 obtain ⟨a0, a1, a2, a3, a4, a5, a6, a7⟩ := HE3.out.cells
 go_wp2_with fail
 with_reducible refine (of_f g l n x.d 1 1 y4 true _ ((below_rows HH.out HB3.out).alloc _) hn hz (by decide) (lhid rfl) hy4 hb4).mono ?_
 rintro e w4 ⟨rfl, hb⟩
 clear a0 a1 a2 a3 a4 a5 a6 a7 z0 z1 z2 y10 y11 y12 y13 y14 y15 y16 y17 zy1 y20 y21 y22 y23 y24 y25 y26 y27 zy2
 have hb0 := ((Below.refl _ w3).alloc (Nat.le_refl _) _).trans (hb.mono (by simp))
 have HB4 := lhid (HB3.out.trans (hb0.mono HB3.out.size))
 have HE4 := lhid (HE3.out.below hb0 HE3.out.lt)
 have HP4 := lhid (HP3.out.below hb0 (heap_lt HP3.out))
 have HC4 := lhid (HC3.out.below hb0 (heap_lt HC3.out))
 have HY1_4 := lhid (HY1_3.out.below hb0 HY1_3.out.lt)
 have HY2_4 := lhid (HY2_3.out.below hb0 HY2_3.out.lt)
 have HY3_4 := lhid (EntAt.below (C := w3.heap.size) (x := y3) (heap_alloc_new w3 _) hb (by simp))
 have z0 := HE4.out.lt
 have z1 := heap_lt HP4.out
 have z2 := heap_lt HC4.out
 have zy1 := HY1_4.out.lt
 obtain ⟨y10, y11, y12, y13, y14, y15, y16, y17⟩ := HY1_4.out.cells
 have zy2 := HY2_4.out.lt
 obtain ⟨y20, y21, y22, y23, y24, y25, y26, y27⟩ := HY2_4.out.cells
 have zy3 := HY3_4.out.lt
 obtain ⟨y30, y31, y32, y33, y34, y35, y36, y37⟩ := HY3_4.out.cells
 clear hb hb0
 obtain ⟨a0, a1, a2, a3, a4, a5, a6, a7⟩ := HE4.out.cells
 obtain ⟨p0, p1, p2, p3, p4⟩ := HP4.out.cells
 have fp := HP4.out.thaw
 obtain ⟨c0, c1, c2, c3, c4⟩ := HC4.out.cells
 have fc := HC4.out.thaw
 have hn3 : ¬ w3.heap.size = w.heap.size + 1 + 1 := by have := heap_lt HC3.out; omega
 have hn4 : ¬ w.heap.size + 1 + 1 = w3.heap.size := by omega
 have hn5 : ¬ w2.heap.size = w.heap.size + 1 + 1 := by have := heap_lt HC2.out; omega
 have hn6 : ¬ w.heap.size + 1 + 1 = w2.heap.size := by omega
 go_wp2_with fail
 with_reducible refine (refName_t y2.text false _ _ sC q1).mono ?_
 rintro e w5 ⟨rfl, rfl⟩
 go_wp2_with fail
 with_reducible refine (refName_t y3.text true _ _ sN q2).mono ?_
 rintro e w5 ⟨rfl, rfl⟩
 go_wp2_with fail
 refine bodyPost_ret (v := .tuple #[.agg #[.int .i64 0, .int .i64 0, .string ⟨#[]⟩, .string ⟨#[]⟩, .string ⟨#[]⟩], .int .i64 20]) (by simp [results, Tryz.results76, go_sem, p0, p1, p2, p3, p4, z1]) rfl ?_
 rw [HP.out]
 refine ⟨rfl, ?_⟩
 have q1 : w.heap.size ≤ w.heap.size + 1 := Nat.le_succ _
 have q2 : w.heap.size ≤ w.heap.size + 1 + 1 := Nat.le_add_right _ 2
 repeat (first | with_reducible refine below_set ?_ q1 _ _ | with_reducible refine below_set ?_ q2 _ _ | with_reducible refine below_new ?_ (Nat.le_refl _) _)
 exact HB4.out
set_option maxHeartbeats 8000000 in
set_option maxRecDepth 100000 in
theorem filled_mem_d_more (g : Nat) (l : List Ent) (n : Nat) (x : Ent) (w : World) (h : RowsAt w g 130 8 (l.map entV)) (hn : Hid (l.length = n)) (hz : Hid (ZeroL l)) (y1 y2 y3 y4 : Ent) (hy1 : Hid ((entAt l x.a 7).getD Ent.zero = y1)) (hb1 : Hid ((entAt l x.a 7).isSome = true)) (hy2 : Hid ((entAt l y1.a 1).getD Ent.zero = y2)) (hb2 : Hid ((entAt l y1.a 1).isSome = true)) (hy3 : Hid ((entAt l x.b 1).getD Ent.zero = y3)) (hb3 : Hid ((entAt l x.b 1).isSome = true)) (hy4 : Hid ((entAt l x.d 1).getD Ent.zero = y4)) (hb4 : Hid ((entAt l x.d 1).isSome = true)) (hk : Hid (9 ≤ x.kind)) (sC : Hid ((tx y2.text).size ≤ maxLen)) (sN : Hid ((tx y3.text).size ≤ maxLen)) (sD : Hid ((tx y4.text).size ≤ maxLen)) (zD : Hid ((tx y4.text).size ≤ 281474976710656)) (h9 : Hid (9 < x.kind)) (q1 : Hid (nameB y2.text false = true)) (q2 : Hid (nameB y3.text true = true)) (q3 : Hid ((metB y4.text).isSome = false)) (HP : Hid (resOne l x = (21, Con.zero))) :
  Calls Tryz.prog 76 #[.slice (some ⟨g, 0, none⟩) n n, .agg #[.int .i64 x.kind, .int .i64 x.num, .string (tx x.text), .string ⟨#[]⟩, .string ⟨#[]⟩, .int .i64 x.a, .int .i64 x.b, .int .i64 x.d]] w (ResOut (resOne l x) w) := by
 have t0 : ¬ (x.kind : Int) < 7 := by have := hk.out; omega
 have t9 : ¬ (x.kind : Int) < 9 := by have := hk.out; omega
 have HH := lhid h
 have hsz := h.lt
 clear h
 have t9e : ((x.kind : Int) == 9) = false := by rw [beq_eq_false_iff_ne]; have := h9.out; omega
 have t9g : (9 : Int) < x.kind := h9.out |> fun h => by omega
 go_enter Tryz.func76, Tryz.ntmps76
 go_wp2_with fail
 with_reducible refine (of_f g l n x.a 7 7 y1 true _ (((HH.out.alloc _).alloc _).alloc _) hn hz (by decide) (lhid rfl) hy1 hb1).mono ?_
 rintro e w1 ⟨rfl, hb⟩
 have HB1 := lhid ((below3 w _ _ _).trans (hb.mono (by rw [size3]; omega)))
 have HE1 := lhid (EntAt.below (x := x) (new3_0 w _ _ _) hb (by rw [size3]; omega))
 have HP1 := lhid (ConAt.below (x := Con.zero) (new3_1 w _ _ _) hb (by rw [size3]; omega))
 have HC1 := lhid (ConAt.below (x := ⟨x.kind, x.num, x.text, [], []⟩) (new3_2 w _ _ _) hb (by rw [size3]; omega))
 have z0 := HE1.out.lt
 have z1 := heap_lt HP1.out
 have z2 := heap_lt HC1.out
 clear hb
 obtain ⟨a0, a1, a2, a3, a4, a5, a6, a7⟩ := HE1.out.cells
 go_wp2_with fail
 with_reducible refine (of_f g l n y1.a 1 1 y2 true _ ((below_rows HH.out HB1.out).alloc _) hn hz (by decide) (lhid rfl) hy2 hb2).mono ?_
 rintro e w2 ⟨rfl, hb⟩
 clear a0 a1 a2 a3 a4 a5 a6 a7 z0 z1 z2
 have hb0 := ((Below.refl _ w1).alloc (Nat.le_refl _) _).trans (hb.mono (by simp))
 have HB2 := lhid (HB1.out.trans (hb0.mono HB1.out.size))
 have HE2 := lhid (HE1.out.below hb0 HE1.out.lt)
 have HP2 := lhid (HP1.out.below hb0 (heap_lt HP1.out))
 have HC2 := lhid (HC1.out.below hb0 (heap_lt HC1.out))
 have HY1_2 := lhid (EntAt.below (C := w1.heap.size) (x := y1) (heap_alloc_new w1 _) hb (by simp))
 have z0 := HE2.out.lt
 have z1 := heap_lt HP2.out
 have z2 := heap_lt HC2.out
 have zy1 := HY1_2.out.lt
 obtain ⟨y10, y11, y12, y13, y14, y15, y16, y17⟩ := HY1_2.out.cells
 clear hb hb0
 obtain ⟨a0, a1, a2, a3, a4, a5, a6, a7⟩ := HE2.out.cells
 go_wp2_with fail
 with_reducible refine (of_f g l n x.b 1 1 y3 true _ ((below_rows HH.out HB2.out).alloc _) hn hz (by decide) (lhid rfl) hy3 hb3).mono ?_
 rintro e w3 ⟨rfl, hb⟩
 clear a0 a1 a2 a3 a4 a5 a6 a7 z0 z1 z2 y10 y11 y12 y13 y14 y15 y16 y17 zy1
 have hb0 := ((Below.refl _ w2).alloc (Nat.le_refl _) _).trans (hb.mono (by simp))
 have HB3 := lhid (HB2.out.trans (hb0.mono HB2.out.size))
 have HE3 := lhid (HE2.out.below hb0 HE2.out.lt)
 have HP3 := lhid (HP2.out.below hb0 (heap_lt HP2.out))
 have HC3 := lhid (HC2.out.below hb0 (heap_lt HC2.out))
 have HY1_3 := lhid (HY1_2.out.below hb0 HY1_2.out.lt)
 have HY2_3 := lhid (EntAt.below (C := w2.heap.size) (x := y2) (heap_alloc_new w2 _) hb (by simp))
 have z0 := HE3.out.lt
 have z1 := heap_lt HP3.out
 have z2 := heap_lt HC3.out
 have zy1 := HY1_3.out.lt
 obtain ⟨y10, y11, y12, y13, y14, y15, y16, y17⟩ := HY1_3.out.cells
 have zy2 := HY2_3.out.lt
 obtain ⟨y20, y21, y22, y23, y24, y25, y26, y27⟩ := HY2_3.out.cells
 clear hb hb0
 obtain ⟨a0, a1, a2, a3, a4, a5, a6, a7⟩ := HE3.out.cells
 go_wp2_with fail
 with_reducible refine (of_f g l n x.d 1 1 y4 true _ ((below_rows HH.out HB3.out).alloc _) hn hz (by decide) (lhid rfl) hy4 hb4).mono ?_
 rintro e w4 ⟨rfl, hb⟩
 clear a0 a1 a2 a3 a4 a5 a6 a7 z0 z1 z2 y10 y11 y12 y13 y14 y15 y16 y17 zy1 y20 y21 y22 y23 y24 y25 y26 y27 zy2
 have hb0 := ((Below.refl _ w3).alloc (Nat.le_refl _) _).trans (hb.mono (by simp))
 have HB4 := lhid (HB3.out.trans (hb0.mono HB3.out.size))
 have HE4 := lhid (HE3.out.below hb0 HE3.out.lt)
 have HP4 := lhid (HP3.out.below hb0 (heap_lt HP3.out))
 have HC4 := lhid (HC3.out.below hb0 (heap_lt HC3.out))
 have HY1_4 := lhid (HY1_3.out.below hb0 HY1_3.out.lt)
 have HY2_4 := lhid (HY2_3.out.below hb0 HY2_3.out.lt)
 have HY3_4 := lhid (EntAt.below (C := w3.heap.size) (x := y3) (heap_alloc_new w3 _) hb (by simp))
 have z0 := HE4.out.lt
 have z1 := heap_lt HP4.out
 have z2 := heap_lt HC4.out
 have zy1 := HY1_4.out.lt
 obtain ⟨y10, y11, y12, y13, y14, y15, y16, y17⟩ := HY1_4.out.cells
 have zy2 := HY2_4.out.lt
 obtain ⟨y20, y21, y22, y23, y24, y25, y26, y27⟩ := HY2_4.out.cells
 have zy3 := HY3_4.out.lt
 obtain ⟨y30, y31, y32, y33, y34, y35, y36, y37⟩ := HY3_4.out.cells
 clear hb hb0
 obtain ⟨a0, a1, a2, a3, a4, a5, a6, a7⟩ := HE4.out.cells
 obtain ⟨p0, p1, p2, p3, p4⟩ := HP4.out.cells
 have fp := HP4.out.thaw
 obtain ⟨c0, c1, c2, c3, c4⟩ := HC4.out.cells
 have fc := HC4.out.thaw
 have hn3 : ¬ w3.heap.size = w.heap.size + 1 + 1 := by have := heap_lt HC3.out; omega
 have hn4 : ¬ w.heap.size + 1 + 1 = w3.heap.size := by omega
 have hn5 : ¬ w2.heap.size = w.heap.size + 1 + 1 := by have := heap_lt HC2.out; omega
 have hn6 : ¬ w.heap.size + 1 + 1 = w2.heap.size := by omega
 go_wp2_with fail
 with_reducible refine (refName_t y2.text false _ _ sC q1).mono ?_
 rintro e w5 ⟨rfl, rfl⟩
 go_wp2_with fail
 with_reducible refine (refName_t y3.text true _ _ sN q2).mono ?_
 rintro e w5 ⟨rfl, rfl⟩
 go_wp2_with fail
 with_reducible refine (refMethod_t y4.text false _ sD zD q3).mono ?_
 rintro e w5 ⟨⟨u5, v5, rfl⟩, hb⟩
 have HC5 := lhid (((((HC4.out.set 2 _ ⟨x.kind, x.num, y2.text, [], []⟩ rfl).set 3 _ ⟨x.kind, x.num, y2.text, y3.text, []⟩ rfl).set 4 _ ⟨x.kind, x.num, y2.text, y3.text, y4.text⟩ rfl).alloc _).below hb (by simp [World.setCell]; omega))
 have HP5 := lhid (((((HP4.out.other _ _ (by omega) _).other _ _ (by omega) _).other _ _ (by omega) _).alloc _).below hb (by simp [World.setCell]; omega))
 have hb4 := below_new (below_set (below_set (below_set HB4.out (Nat.le_add_right _ 2) 2 (.string (tx y2.text))) (Nat.le_add_right _ 2) 3 (.string (tx y3.text))) (Nat.le_add_right _ 2) 4 (.string (tx y4.text))) (Nat.le_refl _) (.cells #[.int .i64 y4.kind, .int .i64 y4.num, .string (tx y4.text), .string ⟨#[]⟩, .string ⟨#[]⟩, .int .i64 y4.a, .int .i64 y4.b, .int .i64 y4.d] 130)
 have HB5 := lhid (hb4.trans (hb.mono hb4.size))
 clear hb hb4 a0 a1 a2 a3 a4 a5 a6 a7 z0 z1 z2 p0 p1 p2 p3 p4 c0 c1 c2 c3 c4 fp fc y10 y11 y12 y13 y14 y15 y16 y17 y20 y21 y22 y23 y24 y25 y26 y27 y30 y31 y32 y33 y34 y35 y36 y37 zy1 zy2 zy3
 have z1 := heap_lt HP5.out
 obtain ⟨p0, p1, p2, p3, p4⟩ := HP5.out.cells
 have fp := HP5.out.thaw
 obtain ⟨c0, c1, c2, c3, c4⟩ := HC5.out.cells
 have fc := HC5.out.thaw
 go_wp2_with fail
 refine bodyPost_ret (v := .tuple #[.agg #[.int .i64 0, .int .i64 0, .string ⟨#[]⟩, .string ⟨#[]⟩, .string ⟨#[]⟩], .int .i64 21]) (by simp [results, Tryz.results76, go_sem, p0, p1, p2, p3, p4]) rfl ?_
 rw [HP.out]
 refine ⟨rfl, ?_⟩
 have q1 : w.heap.size ≤ w.heap.size + 1 := Nat.le_succ _
 have q2 : w.heap.size ≤ w.heap.size + 1 + 1 := Nat.le_add_right _ 2
 repeat (first | with_reducible refine below_set ?_ q1 _ _ | with_reducible refine below_set ?_ q2 _ _ | with_reducible refine below_new ?_ (Nat.le_refl _) _)
 exact HB5.out
set_option maxHeartbeats 8000000 in
set_option maxRecDepth 100000 in
theorem filled_mem_ok_more (g : Nat) (l : List Ent) (n : Nat) (x : Ent) (w : World) (h : RowsAt w g 130 8 (l.map entV)) (hn : Hid (l.length = n)) (hz : Hid (ZeroL l)) (y1 y2 y3 y4 : Ent) (hy1 : Hid ((entAt l x.a 7).getD Ent.zero = y1)) (hb1 : Hid ((entAt l x.a 7).isSome = true)) (hy2 : Hid ((entAt l y1.a 1).getD Ent.zero = y2)) (hb2 : Hid ((entAt l y1.a 1).isSome = true)) (hy3 : Hid ((entAt l x.b 1).getD Ent.zero = y3)) (hb3 : Hid ((entAt l x.b 1).isSome = true)) (hy4 : Hid ((entAt l x.d 1).getD Ent.zero = y4)) (hb4 : Hid ((entAt l x.d 1).isSome = true)) (hk : Hid (9 ≤ x.kind)) (sC : Hid ((tx y2.text).size ≤ maxLen)) (sN : Hid ((tx y3.text).size ≤ maxLen)) (sD : Hid ((tx y4.text).size ≤ maxLen)) (zD : Hid ((tx y4.text).size ≤ 281474976710656)) (h9 : Hid (9 < x.kind)) (q1 : Hid (nameB y2.text false = true)) (q2 : Hid (nameB y3.text true = true)) (q3 : Hid ((metB y4.text).isSome = true)) (HP : Hid (resOne l x = (0, ⟨x.kind, x.num, y2.text, y3.text, y4.text⟩))) :
  Calls Tryz.prog 76 #[.slice (some ⟨g, 0, none⟩) n n, .agg #[.int .i64 x.kind, .int .i64 x.num, .string (tx x.text), .string ⟨#[]⟩, .string ⟨#[]⟩, .int .i64 x.a, .int .i64 x.b, .int .i64 x.d]] w (ResOut (resOne l x) w) := by
 have t0 : ¬ (x.kind : Int) < 7 := by have := hk.out; omega
 have t9 : ¬ (x.kind : Int) < 9 := by have := hk.out; omega
 have HH := lhid h
 have hsz := h.lt
 clear h
 have t9e : ((x.kind : Int) == 9) = false := by rw [beq_eq_false_iff_ne]; have := h9.out; omega
 have t9g : (9 : Int) < x.kind := h9.out |> fun h => by omega
 go_enter Tryz.func76, Tryz.ntmps76
 go_wp2_with fail
 with_reducible refine (of_f g l n x.a 7 7 y1 true _ (((HH.out.alloc _).alloc _).alloc _) hn hz (by decide) (lhid rfl) hy1 hb1).mono ?_
 rintro e w1 ⟨rfl, hb⟩
 have HB1 := lhid ((below3 w _ _ _).trans (hb.mono (by rw [size3]; omega)))
 have HE1 := lhid (EntAt.below (x := x) (new3_0 w _ _ _) hb (by rw [size3]; omega))
 have HP1 := lhid (ConAt.below (x := Con.zero) (new3_1 w _ _ _) hb (by rw [size3]; omega))
 have HC1 := lhid (ConAt.below (x := ⟨x.kind, x.num, x.text, [], []⟩) (new3_2 w _ _ _) hb (by rw [size3]; omega))
 have z0 := HE1.out.lt
 have z1 := heap_lt HP1.out
 have z2 := heap_lt HC1.out
 clear hb
 obtain ⟨a0, a1, a2, a3, a4, a5, a6, a7⟩ := HE1.out.cells
 go_wp2_with fail
 with_reducible refine (of_f g l n y1.a 1 1 y2 true _ ((below_rows HH.out HB1.out).alloc _) hn hz (by decide) (lhid rfl) hy2 hb2).mono ?_
 rintro e w2 ⟨rfl, hb⟩
 clear a0 a1 a2 a3 a4 a5 a6 a7 z0 z1 z2
 have hb0 := ((Below.refl _ w1).alloc (Nat.le_refl _) _).trans (hb.mono (by simp))
 have HB2 := lhid (HB1.out.trans (hb0.mono HB1.out.size))
 have HE2 := lhid (HE1.out.below hb0 HE1.out.lt)
 have HP2 := lhid (HP1.out.below hb0 (heap_lt HP1.out))
 have HC2 := lhid (HC1.out.below hb0 (heap_lt HC1.out))
 have HY1_2 := lhid (EntAt.below (C := w1.heap.size) (x := y1) (heap_alloc_new w1 _) hb (by simp))
 have z0 := HE2.out.lt
 have z1 := heap_lt HP2.out
 have z2 := heap_lt HC2.out
 have zy1 := HY1_2.out.lt
 obtain ⟨y10, y11, y12, y13, y14, y15, y16, y17⟩ := HY1_2.out.cells
 clear hb hb0
 obtain ⟨a0, a1, a2, a3, a4, a5, a6, a7⟩ := HE2.out.cells
 go_wp2_with fail
 with_reducible refine (of_f g l n x.b 1 1 y3 true _ ((below_rows HH.out HB2.out).alloc _) hn hz (by decide) (lhid rfl) hy3 hb3).mono ?_
 rintro e w3 ⟨rfl, hb⟩
 clear a0 a1 a2 a3 a4 a5 a6 a7 z0 z1 z2 y10 y11 y12 y13 y14 y15 y16 y17 zy1
 have hb0 := ((Below.refl _ w2).alloc (Nat.le_refl _) _).trans (hb.mono (by simp))
 have HB3 := lhid (HB2.out.trans (hb0.mono HB2.out.size))
 have HE3 := lhid (HE2.out.below hb0 HE2.out.lt)
 have HP3 := lhid (HP2.out.below hb0 (heap_lt HP2.out))
 have HC3 := lhid (HC2.out.below hb0 (heap_lt HC2.out))
 have HY1_3 := lhid (HY1_2.out.below hb0 HY1_2.out.lt)
 have HY2_3 := lhid (EntAt.below (C := w2.heap.size) (x := y2) (heap_alloc_new w2 _) hb (by simp))
 have z0 := HE3.out.lt
 have z1 := heap_lt HP3.out
 have z2 := heap_lt HC3.out
 have zy1 := HY1_3.out.lt
 obtain ⟨y10, y11, y12, y13, y14, y15, y16, y17⟩ := HY1_3.out.cells
 have zy2 := HY2_3.out.lt
 obtain ⟨y20, y21, y22, y23, y24, y25, y26, y27⟩ := HY2_3.out.cells
 clear hb hb0
 obtain ⟨a0, a1, a2, a3, a4, a5, a6, a7⟩ := HE3.out.cells
 go_wp2_with fail
 with_reducible refine (of_f g l n x.d 1 1 y4 true _ ((below_rows HH.out HB3.out).alloc _) hn hz (by decide) (lhid rfl) hy4 hb4).mono ?_
 rintro e w4 ⟨rfl, hb⟩
 clear a0 a1 a2 a3 a4 a5 a6 a7 z0 z1 z2 y10 y11 y12 y13 y14 y15 y16 y17 zy1 y20 y21 y22 y23 y24 y25 y26 y27 zy2
 have hb0 := ((Below.refl _ w3).alloc (Nat.le_refl _) _).trans (hb.mono (by simp))
 have HB4 := lhid (HB3.out.trans (hb0.mono HB3.out.size))
 have HE4 := lhid (HE3.out.below hb0 HE3.out.lt)
 have HP4 := lhid (HP3.out.below hb0 (heap_lt HP3.out))
 have HC4 := lhid (HC3.out.below hb0 (heap_lt HC3.out))
 have HY1_4 := lhid (HY1_3.out.below hb0 HY1_3.out.lt)
 have HY2_4 := lhid (HY2_3.out.below hb0 HY2_3.out.lt)
 have HY3_4 := lhid (EntAt.below (C := w3.heap.size) (x := y3) (heap_alloc_new w3 _) hb (by simp))
 have z0 := HE4.out.lt
 have z1 := heap_lt HP4.out
 have z2 := heap_lt HC4.out
 have zy1 := HY1_4.out.lt
 obtain ⟨y10, y11, y12, y13, y14, y15, y16, y17⟩ := HY1_4.out.cells
 have zy2 := HY2_4.out.lt
 obtain ⟨y20, y21, y22, y23, y24, y25, y26, y27⟩ := HY2_4.out.cells
 have zy3 := HY3_4.out.lt
 obtain ⟨y30, y31, y32, y33, y34, y35, y36, y37⟩ := HY3_4.out.cells
 clear hb hb0
 obtain ⟨a0, a1, a2, a3, a4, a5, a6, a7⟩ := HE4.out.cells
 obtain ⟨p0, p1, p2, p3, p4⟩ := HP4.out.cells
 have fp := HP4.out.thaw
 obtain ⟨c0, c1, c2, c3, c4⟩ := HC4.out.cells
 have fc := HC4.out.thaw
 have hn3 : ¬ w3.heap.size = w.heap.size + 1 + 1 := by have := heap_lt HC3.out; omega
 have hn4 : ¬ w.heap.size + 1 + 1 = w3.heap.size := by omega
 have hn5 : ¬ w2.heap.size = w.heap.size + 1 + 1 := by have := heap_lt HC2.out; omega
 have hn6 : ¬ w.heap.size + 1 + 1 = w2.heap.size := by omega
 go_wp2_with fail
 with_reducible refine (refName_t y2.text false _ _ sC q1).mono ?_
 rintro e w5 ⟨rfl, rfl⟩
 go_wp2_with fail
 with_reducible refine (refName_t y3.text true _ _ sN q2).mono ?_
 rintro e w5 ⟨rfl, rfl⟩
 go_wp2_with fail
 with_reducible refine (refMethod_t y4.text true _ sD zD q3).mono ?_
 rintro e w5 ⟨⟨u5, v5, rfl⟩, hb⟩
 have HC5 := lhid (((((HC4.out.set 2 _ ⟨x.kind, x.num, y2.text, [], []⟩ rfl).set 3 _ ⟨x.kind, x.num, y2.text, y3.text, []⟩ rfl).set 4 _ ⟨x.kind, x.num, y2.text, y3.text, y4.text⟩ rfl).alloc _).below hb (by simp [World.setCell]; omega))
 have HP5 := lhid (((((HP4.out.other _ _ (by omega) _).other _ _ (by omega) _).other _ _ (by omega) _).alloc _).below hb (by simp [World.setCell]; omega))
 have hb4 := below_new (below_set (below_set (below_set HB4.out (Nat.le_add_right _ 2) 2 (.string (tx y2.text))) (Nat.le_add_right _ 2) 3 (.string (tx y3.text))) (Nat.le_add_right _ 2) 4 (.string (tx y4.text))) (Nat.le_refl _) (.cells #[.int .i64 y4.kind, .int .i64 y4.num, .string (tx y4.text), .string ⟨#[]⟩, .string ⟨#[]⟩, .int .i64 y4.a, .int .i64 y4.b, .int .i64 y4.d] 130)
 have HB5 := lhid (hb4.trans (hb.mono hb4.size))
 clear hb hb4 a0 a1 a2 a3 a4 a5 a6 a7 z0 z1 z2 p0 p1 p2 p3 p4 c0 c1 c2 c3 c4 fp fc y10 y11 y12 y13 y14 y15 y16 y17 y20 y21 y22 y23 y24 y25 y26 y27 y30 y31 y32 y33 y34 y35 y36 y37 zy1 zy2 zy3
 have z1 := heap_lt HP5.out
 obtain ⟨p0, p1, p2, p3, p4⟩ := HP5.out.cells
 have fp := HP5.out.thaw
 obtain ⟨c0, c1, c2, c3, c4⟩ := HC5.out.cells
 have fc := HC5.out.thaw
 go_wp2_with fail
 refine bodyPost_ret (v := .tuple #[.agg #[.int .i64 x.kind, .int .i64 x.num, .string (tx y2.text), .string (tx y3.text), .string (tx y4.text)], .int .i64 0]) (by simp [results, Tryz.results76, go_sem, p0, p1, p2, p3, p4]) rfl ?_
 rw [HP.out]
 refine ⟨rfl, ?_⟩
 have q1 : w.heap.size ≤ w.heap.size + 1 := Nat.le_succ _
 have q2 : w.heap.size ≤ w.heap.size + 1 + 1 := Nat.le_add_right _ 2
 repeat (first | with_reducible refine below_set ?_ q1 _ _ | with_reducible refine below_set ?_ q2 _ _ | with_reducible refine below_new ?_ (Nat.le_refl _) _)
 exact HB5.out
end Go.Proofs.YtgihfcimngogfaaGreat
