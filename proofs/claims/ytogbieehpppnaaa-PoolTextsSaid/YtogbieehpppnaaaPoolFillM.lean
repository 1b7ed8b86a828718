/- The document's 'filled' at a field and at methods. -/
import Derived.Test.YtogbieehpppnaaaPoolFill0
namespace Go.Proofs.Ytogbieehpppnaaa
open Go.RowKit Go
set_option linter.unusedVariables false

theorem ConAt.set {w : World} {C T : Nat} {x : Con} (h : ConAt w C T x) (i : Nat) (v : Value) (y : Con) (hy : (conV x).toArray.setIfInBounds i v = (conV y).toArray) : ConAt (w.setCell ⟨C, i, none⟩ v) C T y := by
  have := heap_set (i := i) h v
  unfold ConAt
  rw [this, hy]
theorem ConAt.other {w : World} {C T : Nat} {x : Con} (h : ConAt w C T x) (b i : Nat) (hp : C ≠ b) (v : Value) : ConAt (w.setCell ⟨b, i, none⟩ v) C T x := by
  unfold ConAt
  rw [Below.heap_setCell _ _ _ _ (by exact hp)]
  exact h
theorem ConAt.alloc {w : World} {C T : Nat} {x : Con} (h : ConAt w C T x) (o : Obj) : ConAt (w.alloc o) C T x := by
  unfold ConAt
  rw [Below.heap_alloc _ _ _ (heap_lt h)]
  exact h
theorem class_none1 {l : List Ent} {i : Nat} (h : (entAt l i 7).isSome = false) : classAt l i = none := by
  unfold classAt
  cases hx : entAt l i 7 with
  | none => rfl
  | some x => rw [hx] at h; cases h
theorem class_none2 {l : List Ent} {i : Nat} {y : Ent} (hy : (entAt l i 7).getD Ent.zero = y) (h : (entAt l i 7).isSome = true) (h2 : (entAt l y.a 1).isSome = false) : classAt l i = none := by
  unfold classAt
  cases hx : entAt l i 7 with
  | none => rfl
  | some x => rw [hx] at hy; simp at hy; subst hy; exact text_none h2
theorem class_some {l : List Ent} {i : Nat} {y z : Ent} (hy : (entAt l i 7).getD Ent.zero = y) (h : (entAt l i 7).isSome = true) (hz : (entAt l y.a 1).getD Ent.zero = z) (h2 : (entAt l y.a 1).isSome = true) : classAt l i = some z.text := by
  unfold classAt
  cases hx : entAt l i 7 with
  | none => rw [hx] at h; cases h
  | some x => rw [hx] at hy; simp at hy; subst hy; exact text_some hz h2
theorem resMem_no (l : List Ent) (x : Ent) (h : classAt l x.a = none ∨ textAt l x.b = none ∨ textAt l x.d = none) : resMem l x = (12, Con.zero) := by
  unfold resMem
  rcases h with h | h | h
  · rw [h]
  · rw [h]
    cases classAt l x.a <;> rfl
  · rw [h]
    cases classAt l x.a <;> cases textAt l x.b <;> rfl
set_option maxHeartbeats 8000000 in
set_option maxRecDepth 100000 in
theorem filled_mem_f1 (g : Nat) (l : List Ent) (n : Nat) (x : Ent) (w : World) (h : RowsAt w g 69 8 (l.map entV)) (hn : Hid (l.length = n)) (hz : Hid (ZeroL l)) (y1 y2 y3 y4 : Ent) (b2 b3 b4 : Bool) (hy1 : Hid ((entAt l x.a 7).getD Ent.zero = y1)) (hb1 : Hid ((entAt l x.a 7).isSome = false)) (hy2 : Hid ((entAt l y1.a 1).getD Ent.zero = y2)) (hb2 : Hid ((entAt l y1.a 1).isSome = b2)) (hy3 : Hid ((entAt l x.b 1).getD Ent.zero = y3)) (hb3 : Hid ((entAt l x.b 1).isSome = b3)) (hy4 : Hid ((entAt l x.d 1).getD Ent.zero = y4)) (hb4 : Hid ((entAt l x.d 1).isSome = b4)) (hk : Hid (9 ≤ x.kind)) (HP : Hid (resOne l x = (12, Con.zero))) :
    Calls Try.prog 24 #[.slice (some ⟨g, 0, none⟩) n n, .agg #[.int .i64 x.kind, .int .i64 x.num, .string (tx x.text), .string ⟨#[]⟩, .string ⟨#[]⟩, .int .i64 x.a, .int .i64 x.b, .int .i64 x.d]] w (ResOut (resOne l x) w) := by
  have t0 : ¬ (x.kind : Int) < 7 := by have := hk.out; omega
  have t9 : ¬ (x.kind : Int) < 9 := by have := hk.out; omega
  have HH := lhid h
  have hsz := h.lt
  clear h
  go_enter Try.func24, Try.ntmps24
  go_wp2_with fail
  with_reducible refine (of_f g l n x.a 7 7 y1 false _ (((HH.out.alloc _).alloc _).alloc _) hn hz (by decide) (lhid rfl) hy1 hb1).mono ?_
  rintro e w1 ⟨rfl, hb⟩
  have HB1 := lhid ((below3 w _ _ _).trans (hb.mono (by rw [size3]; omega)))
  have HE1 := lhid (EntAt.below (x := x) (new3_0 w _ _ _) hb (by rw [size3]; omega))
  have HP1 := lhid (ConAt.below (x := Con.zero) (new3_1 w _ _ _) hb (by rw [size3]; omega))
  have HC1 := lhid (ConAt.below (x := ⟨x.kind, x.num, x.text, [], []⟩) (new3_2 w _ _ _) hb (by rw [size3]; omega))
  have z0 := HE1.out.lt
  have z1 := heap_lt HP1.out
  have z2 := heap_lt HC1.out
  clear hb
  obtain ⟨a0, a1, a2, a3, a4, a5, a6, a7⟩ := HE1.out.cells
  go_wp2_with fail
  with_reducible refine (of_f g l n y1.a 1 1 y2 b2 _ ((below_rows HH.out HB1.out).alloc _) hn hz (by decide) (lhid rfl) hy2 hb2).mono ?_
  rintro e w2 ⟨rfl, hb⟩
  clear a0 a1 a2 a3 a4 a5 a6 a7 z0 z1 z2
  have hb0 := ((Below.refl _ w1).alloc (Nat.le_refl _) _).trans (hb.mono (by simp))
  have HB2 := lhid (HB1.out.trans (hb0.mono HB1.out.size))
  have HE2 := lhid (HE1.out.below hb0 HE1.out.lt)
  have HP2 := lhid (HP1.out.below hb0 (heap_lt HP1.out))
  have HC2 := lhid (HC1.out.below hb0 (heap_lt HC1.out))
  have z0 := HE2.out.lt
  have z1 := heap_lt HP2.out
  have z2 := heap_lt HC2.out
  clear hb hb0
  obtain ⟨a0, a1, a2, a3, a4, a5, a6, a7⟩ := HE2.out.cells
  go_wp2_with fail
  with_reducible refine (of_f g l n x.b 1 1 y3 b3 _ ((below_rows HH.out HB2.out).alloc _) hn hz (by decide) (lhid rfl) hy3 hb3).mono ?_
  rintro e w3 ⟨rfl, hb⟩
  clear a0 a1 a2 a3 a4 a5 a6 a7 z0 z1 z2
  have hb0 := ((Below.refl _ w2).alloc (Nat.le_refl _) _).trans (hb.mono (by simp))
  have HB3 := lhid (HB2.out.trans (hb0.mono HB2.out.size))
  have HE3 := lhid (HE2.out.below hb0 HE2.out.lt)
  have HP3 := lhid (HP2.out.below hb0 (heap_lt HP2.out))
  have HC3 := lhid (HC2.out.below hb0 (heap_lt HC2.out))
  have z0 := HE3.out.lt
  have z1 := heap_lt HP3.out
  have z2 := heap_lt HC3.out
  clear hb hb0
  obtain ⟨a0, a1, a2, a3, a4, a5, a6, a7⟩ := HE3.out.cells
  go_wp2_with fail
  with_reducible refine (of_f g l n x.d 1 1 y4 b4 _ ((below_rows HH.out HB3.out).alloc _) hn hz (by decide) (lhid rfl) hy4 hb4).mono ?_
  rintro e w4 ⟨rfl, hb⟩
  clear a0 a1 a2 a3 a4 a5 a6 a7 z0 z1 z2
  have hb0 := ((Below.refl _ w3).alloc (Nat.le_refl _) _).trans (hb.mono (by simp))
  have HB4 := lhid (HB3.out.trans (hb0.mono HB3.out.size))
  have HE4 := lhid (HE3.out.below hb0 HE3.out.lt)
  have HP4 := lhid (HP3.out.below hb0 (heap_lt HP3.out))
  have HC4 := lhid (HC3.out.below hb0 (heap_lt HC3.out))
  have z0 := HE4.out.lt
  have z1 := heap_lt HP4.out
  have z2 := heap_lt HC4.out
  clear hb hb0
  obtain ⟨a0, a1, a2, a3, a4, a5, a6, a7⟩ := HE4.out.cells
  obtain ⟨p0, p1, p2, p3, p4⟩ := HP4.out.cells
  have fp := HP4.out.thaw
  obtain ⟨c0, c1, c2, c3, c4⟩ := HC4.out.cells
  have fc := HC4.out.thaw
  go_wp2_with fail
  refine bodyPost_ret (v := .tuple #[.agg #[.int .i64 0, .int .i64 0, .string ⟨#[]⟩, .string ⟨#[]⟩, .string ⟨#[]⟩], .int .i64 12]) (by simp [results, Try.results24, go_sem, p0, p1, p2, p3, p4, z1]) rfl ?_
  rw [HP.out]
  refine ⟨rfl, ?_⟩
  have q1 : w.heap.size ≤ w.heap.size + 1 := Nat.le_succ _
  have q2 : w.heap.size ≤ w.heap.size + 1 + 1 := Nat.le_add_right _ 2
  repeat (first | with_reducible refine below_set ?_ q1 _ _ | with_reducible refine below_set ?_ q2 _ _ | with_reducible refine below_new ?_ (Nat.le_refl _) _)
  exact HB4.out
set_option maxHeartbeats 8000000 in
set_option maxRecDepth 100000 in
theorem filled_mem_f2 (g : Nat) (l : List Ent) (n : Nat) (x : Ent) (w : World) (h : RowsAt w g 69 8 (l.map entV)) (hn : Hid (l.length = n)) (hz : Hid (ZeroL l)) (y1 y2 y3 y4 : Ent) (b3 b4 : Bool) (hy1 : Hid ((entAt l x.a 7).getD Ent.zero = y1)) (hb1 : Hid ((entAt l x.a 7).isSome = true)) (hy2 : Hid ((entAt l y1.a 1).getD Ent.zero = y2)) (hb2 : Hid ((entAt l y1.a 1).isSome = false)) (hy3 : Hid ((entAt l x.b 1).getD Ent.zero = y3)) (hb3 : Hid ((entAt l x.b 1).isSome = b3)) (hy4 : Hid ((entAt l x.d 1).getD Ent.zero = y4)) (hb4 : Hid ((entAt l x.d 1).isSome = b4)) (hk : Hid (9 ≤ x.kind)) (HP : Hid (resOne l x = (12, Con.zero))) :
    Calls Try.prog 24 #[.slice (some ⟨g, 0, none⟩) n n, .agg #[.int .i64 x.kind, .int .i64 x.num, .string (tx x.text), .string ⟨#[]⟩, .string ⟨#[]⟩, .int .i64 x.a, .int .i64 x.b, .int .i64 x.d]] w (ResOut (resOne l x) w) := by
  have t0 : ¬ (x.kind : Int) < 7 := by have := hk.out; omega
  have t9 : ¬ (x.kind : Int) < 9 := by have := hk.out; omega
  have HH := lhid h
  have hsz := h.lt
  clear h
  go_enter Try.func24, Try.ntmps24
  go_wp2_with fail
  with_reducible refine (of_f g l n x.a 7 7 y1 true _ (((HH.out.alloc _).alloc _).alloc _) hn hz (by decide) (lhid rfl) hy1 hb1).mono ?_
  rintro e w1 ⟨rfl, hb⟩
  have HB1 := lhid ((below3 w _ _ _).trans (hb.mono (by rw [size3]; omega)))
  have HE1 := lhid (EntAt.below (x := x) (new3_0 w _ _ _) hb (by rw [size3]; omega))
  have HP1 := lhid (ConAt.below (x := Con.zero) (new3_1 w _ _ _) hb (by rw [size3]; omega))
  have HC1 := lhid (ConAt.below (x := ⟨x.kind, x.num, x.text, [], []⟩) (new3_2 w _ _ _) hb (by rw [size3]; omega))
  have z0 := HE1.out.lt
  have z1 := heap_lt HP1.out
  have z2 := heap_lt HC1.out
  clear hb
  obtain ⟨a0, a1, a2, a3, a4, a5, a6, a7⟩ := HE1.out.cells
  go_wp2_with fail
  with_reducible refine (of_f g l n y1.a 1 1 y2 false _ ((below_rows HH.out HB1.out).alloc _) hn hz (by decide) (lhid rfl) hy2 hb2).mono ?_
  rintro e w2 ⟨rfl, hb⟩
  clear a0 a1 a2 a3 a4 a5 a6 a7 z0 z1 z2
  have hb0 := ((Below.refl _ w1).alloc (Nat.le_refl _) _).trans (hb.mono (by simp))
  have HB2 := lhid (HB1.out.trans (hb0.mono HB1.out.size))
  have HE2 := lhid (HE1.out.below hb0 HE1.out.lt)
  have HP2 := lhid (HP1.out.below hb0 (heap_lt HP1.out))
  have HC2 := lhid (HC1.out.below hb0 (heap_lt HC1.out))
  have z0 := HE2.out.lt
  have z1 := heap_lt HP2.out
  have z2 := heap_lt HC2.out
  clear hb hb0
  obtain ⟨a0, a1, a2, a3, a4, a5, a6, a7⟩ := HE2.out.cells
  go_wp2_with fail
  with_reducible refine (of_f g l n x.b 1 1 y3 b3 _ ((below_rows HH.out HB2.out).alloc _) hn hz (by decide) (lhid rfl) hy3 hb3).mono ?_
  rintro e w3 ⟨rfl, hb⟩
  clear a0 a1 a2 a3 a4 a5 a6 a7 z0 z1 z2
  have hb0 := ((Below.refl _ w2).alloc (Nat.le_refl _) _).trans (hb.mono (by simp))
  have HB3 := lhid (HB2.out.trans (hb0.mono HB2.out.size))
  have HE3 := lhid (HE2.out.below hb0 HE2.out.lt)
  have HP3 := lhid (HP2.out.below hb0 (heap_lt HP2.out))
  have HC3 := lhid (HC2.out.below hb0 (heap_lt HC2.out))
  have z0 := HE3.out.lt
  have z1 := heap_lt HP3.out
  have z2 := heap_lt HC3.out
  clear hb hb0
  obtain ⟨a0, a1, a2, a3, a4, a5, a6, a7⟩ := HE3.out.cells
  go_wp2_with fail
  with_reducible refine (of_f g l n x.d 1 1 y4 b4 _ ((below_rows HH.out HB3.out).alloc _) hn hz (by decide) (lhid rfl) hy4 hb4).mono ?_
  rintro e w4 ⟨rfl, hb⟩
  clear a0 a1 a2 a3 a4 a5 a6 a7 z0 z1 z2
  have hb0 := ((Below.refl _ w3).alloc (Nat.le_refl _) _).trans (hb.mono (by simp))
  have HB4 := lhid (HB3.out.trans (hb0.mono HB3.out.size))
  have HE4 := lhid (HE3.out.below hb0 HE3.out.lt)
  have HP4 := lhid (HP3.out.below hb0 (heap_lt HP3.out))
  have HC4 := lhid (HC3.out.below hb0 (heap_lt HC3.out))
  have z0 := HE4.out.lt
  have z1 := heap_lt HP4.out
  have z2 := heap_lt HC4.out
  clear hb hb0
  obtain ⟨a0, a1, a2, a3, a4, a5, a6, a7⟩ := HE4.out.cells
  obtain ⟨p0, p1, p2, p3, p4⟩ := HP4.out.cells
  have fp := HP4.out.thaw
  obtain ⟨c0, c1, c2, c3, c4⟩ := HC4.out.cells
  have fc := HC4.out.thaw
  go_wp2_with fail
  refine bodyPost_ret (v := .tuple #[.agg #[.int .i64 0, .int .i64 0, .string ⟨#[]⟩, .string ⟨#[]⟩, .string ⟨#[]⟩], .int .i64 12]) (by simp [results, Try.results24, go_sem, p0, p1, p2, p3, p4, z1]) rfl ?_
  rw [HP.out]
  refine ⟨rfl, ?_⟩
  have q1 : w.heap.size ≤ w.heap.size + 1 := Nat.le_succ _
  have q2 : w.heap.size ≤ w.heap.size + 1 + 1 := Nat.le_add_right _ 2
  repeat (first | with_reducible refine below_set ?_ q1 _ _ | with_reducible refine below_set ?_ q2 _ _ | with_reducible refine below_new ?_ (Nat.le_refl _) _)
  exact HB4.out
set_option maxHeartbeats 8000000 in
set_option maxRecDepth 100000 in
theorem filled_mem_f3 (g : Nat) (l : List Ent) (n : Nat) (x : Ent) (w : World) (h : RowsAt w g 69 8 (l.map entV)) (hn : Hid (l.length = n)) (hz : Hid (ZeroL l)) (y1 y2 y3 y4 : Ent) (b4 : Bool) (hy1 : Hid ((entAt l x.a 7).getD Ent.zero = y1)) (hb1 : Hid ((entAt l x.a 7).isSome = true)) (hy2 : Hid ((entAt l y1.a 1).getD Ent.zero = y2)) (hb2 : Hid ((entAt l y1.a 1).isSome = true)) (hy3 : Hid ((entAt l x.b 1).getD Ent.zero = y3)) (hb3 : Hid ((entAt l x.b 1).isSome = false)) (hy4 : Hid ((entAt l x.d 1).getD Ent.zero = y4)) (hb4 : Hid ((entAt l x.d 1).isSome = b4)) (hk : Hid (9 ≤ x.kind)) (HP : Hid (resOne l x = (12, Con.zero))) :
    Calls Try.prog 24 #[.slice (some ⟨g, 0, none⟩) n n, .agg #[.int .i64 x.kind, .int .i64 x.num, .string (tx x.text), .string ⟨#[]⟩, .string ⟨#[]⟩, .int .i64 x.a, .int .i64 x.b, .int .i64 x.d]] w (ResOut (resOne l x) w) := by
  have t0 : ¬ (x.kind : Int) < 7 := by have := hk.out; omega
  have t9 : ¬ (x.kind : Int) < 9 := by have := hk.out; omega
  have HH := lhid h
  have hsz := h.lt
  clear h
  go_enter Try.func24, Try.ntmps24
  go_wp2_with fail
  with_reducible refine (of_f g l n x.a 7 7 y1 true _ (((HH.out.alloc _).alloc _).alloc _) hn hz (by decide) (lhid rfl) hy1 hb1).mono ?_
  rintro e w1 ⟨rfl, hb⟩
  have HB1 := lhid ((below3 w _ _ _).trans (hb.mono (by rw [size3]; omega)))
  have HE1 := lhid (EntAt.below (x := x) (new3_0 w _ _ _) hb (by rw [size3]; omega))
  have HP1 := lhid (ConAt.below (x := Con.zero) (new3_1 w _ _ _) hb (by rw [size3]; omega))
  have HC1 := lhid (ConAt.below (x := ⟨x.kind, x.num, x.text, [], []⟩) (new3_2 w _ _ _) hb (by rw [size3]; omega))
  have z0 := HE1.out.lt
  have z1 := heap_lt HP1.out
  have z2 := heap_lt HC1.out
  clear hb
  obtain ⟨a0, a1, a2, a3, a4, a5, a6, a7⟩ := HE1.out.cells
  go_wp2_with fail
  with_reducible refine (of_f g l n y1.a 1 1 y2 true _ ((below_rows HH.out HB1.out).alloc _) hn hz (by decide) (lhid rfl) hy2 hb2).mono ?_
  rintro e w2 ⟨rfl, hb⟩
  clear a0 a1 a2 a3 a4 a5 a6 a7 z0 z1 z2
  have hb0 := ((Below.refl _ w1).alloc (Nat.le_refl _) _).trans (hb.mono (by simp))
  have HB2 := lhid (HB1.out.trans (hb0.mono HB1.out.size))
  have HE2 := lhid (HE1.out.below hb0 HE1.out.lt)
  have HP2 := lhid (HP1.out.below hb0 (heap_lt HP1.out))
  have HC2 := lhid (HC1.out.below hb0 (heap_lt HC1.out))
  have z0 := HE2.out.lt
  have z1 := heap_lt HP2.out
  have z2 := heap_lt HC2.out
  clear hb hb0
  obtain ⟨a0, a1, a2, a3, a4, a5, a6, a7⟩ := HE2.out.cells
  go_wp2_with fail
  with_reducible refine (of_f g l n x.b 1 1 y3 false _ ((below_rows HH.out HB2.out).alloc _) hn hz (by decide) (lhid rfl) hy3 hb3).mono ?_
  rintro e w3 ⟨rfl, hb⟩
  clear a0 a1 a2 a3 a4 a5 a6 a7 z0 z1 z2
  have hb0 := ((Below.refl _ w2).alloc (Nat.le_refl _) _).trans (hb.mono (by simp))
  have HB3 := lhid (HB2.out.trans (hb0.mono HB2.out.size))
  have HE3 := lhid (HE2.out.below hb0 HE2.out.lt)
  have HP3 := lhid (HP2.out.below hb0 (heap_lt HP2.out))
  have HC3 := lhid (HC2.out.below hb0 (heap_lt HC2.out))
  have z0 := HE3.out.lt
  have z1 := heap_lt HP3.out
  have z2 := heap_lt HC3.out
  clear hb hb0
  obtain ⟨a0, a1, a2, a3, a4, a5, a6, a7⟩ := HE3.out.cells
  go_wp2_with fail
  with_reducible refine (of_f g l n x.d 1 1 y4 b4 _ ((below_rows HH.out HB3.out).alloc _) hn hz (by decide) (lhid rfl) hy4 hb4).mono ?_
  rintro e w4 ⟨rfl, hb⟩
  clear a0 a1 a2 a3 a4 a5 a6 a7 z0 z1 z2
  have hb0 := ((Below.refl _ w3).alloc (Nat.le_refl _) _).trans (hb.mono (by simp))
  have HB4 := lhid (HB3.out.trans (hb0.mono HB3.out.size))
  have HE4 := lhid (HE3.out.below hb0 HE3.out.lt)
  have HP4 := lhid (HP3.out.below hb0 (heap_lt HP3.out))
  have HC4 := lhid (HC3.out.below hb0 (heap_lt HC3.out))
  have z0 := HE4.out.lt
  have z1 := heap_lt HP4.out
  have z2 := heap_lt HC4.out
  clear hb hb0
  obtain ⟨a0, a1, a2, a3, a4, a5, a6, a7⟩ := HE4.out.cells
  obtain ⟨p0, p1, p2, p3, p4⟩ := HP4.out.cells
  have fp := HP4.out.thaw
  obtain ⟨c0, c1, c2, c3, c4⟩ := HC4.out.cells
  have fc := HC4.out.thaw
  go_wp2_with fail
  refine bodyPost_ret (v := .tuple #[.agg #[.int .i64 0, .int .i64 0, .string ⟨#[]⟩, .string ⟨#[]⟩, .string ⟨#[]⟩], .int .i64 12]) (by simp [results, Try.results24, go_sem, p0, p1, p2, p3, p4, z1]) rfl ?_
  rw [HP.out]
  refine ⟨rfl, ?_⟩
  have q1 : w.heap.size ≤ w.heap.size + 1 := Nat.le_succ _
  have q2 : w.heap.size ≤ w.heap.size + 1 + 1 := Nat.le_add_right _ 2
  repeat (first | with_reducible refine below_set ?_ q1 _ _ | with_reducible refine below_set ?_ q2 _ _ | with_reducible refine below_new ?_ (Nat.le_refl _) _)
  exact HB4.out
set_option maxHeartbeats 8000000 in
set_option maxRecDepth 100000 in
theorem filled_mem_f4 (g : Nat) (l : List Ent) (n : Nat) (x : Ent) (w : World) (h : RowsAt w g 69 8 (l.map entV)) (hn : Hid (l.length = n)) (hz : Hid (ZeroL l)) (y1 y2 y3 y4 : Ent)  (hy1 : Hid ((entAt l x.a 7).getD Ent.zero = y1)) (hb1 : Hid ((entAt l x.a 7).isSome = true)) (hy2 : Hid ((entAt l y1.a 1).getD Ent.zero = y2)) (hb2 : Hid ((entAt l y1.a 1).isSome = true)) (hy3 : Hid ((entAt l x.b 1).getD Ent.zero = y3)) (hb3 : Hid ((entAt l x.b 1).isSome = true)) (hy4 : Hid ((entAt l x.d 1).getD Ent.zero = y4)) (hb4 : Hid ((entAt l x.d 1).isSome = false)) (hk : Hid (9 ≤ x.kind)) (HP : Hid (resOne l x = (12, Con.zero))) :
    Calls Try.prog 24 #[.slice (some ⟨g, 0, none⟩) n n, .agg #[.int .i64 x.kind, .int .i64 x.num, .string (tx x.text), .string ⟨#[]⟩, .string ⟨#[]⟩, .int .i64 x.a, .int .i64 x.b, .int .i64 x.d]] w (ResOut (resOne l x) w) := by
  have t0 : ¬ (x.kind : Int) < 7 := by have := hk.out; omega
  have t9 : ¬ (x.kind : Int) < 9 := by have := hk.out; omega
  have HH := lhid h
  have hsz := h.lt
  clear h
  go_enter Try.func24, Try.ntmps24
  go_wp2_with fail
  with_reducible refine (of_f g l n x.a 7 7 y1 true _ (((HH.out.alloc _).alloc _).alloc _) hn hz (by decide) (lhid rfl) hy1 hb1).mono ?_
  rintro e w1 ⟨rfl, hb⟩
  have HB1 := lhid ((below3 w _ _ _).trans (hb.mono (by rw [size3]; omega)))
  have HE1 := lhid (EntAt.below (x := x) (new3_0 w _ _ _) hb (by rw [size3]; omega))
  have HP1 := lhid (ConAt.below (x := Con.zero) (new3_1 w _ _ _) hb (by rw [size3]; omega))
  have HC1 := lhid (ConAt.below (x := ⟨x.kind, x.num, x.text, [], []⟩) (new3_2 w _ _ _) hb (by rw [size3]; omega))
  have z0 := HE1.out.lt
  have z1 := heap_lt HP1.out
  have z2 := heap_lt HC1.out
  clear hb
  obtain ⟨a0, a1, a2, a3, a4, a5, a6, a7⟩ := HE1.out.cells
  go_wp2_with fail
  with_reducible refine (of_f g l n y1.a 1 1 y2 true _ ((below_rows HH.out HB1.out).alloc _) hn hz (by decide) (lhid rfl) hy2 hb2).mono ?_
  rintro e w2 ⟨rfl, hb⟩
  clear a0 a1 a2 a3 a4 a5 a6 a7 z0 z1 z2
  have hb0 := ((Below.refl _ w1).alloc (Nat.le_refl _) _).trans (hb.mono (by simp))
  have HB2 := lhid (HB1.out.trans (hb0.mono HB1.out.size))
  have HE2 := lhid (HE1.out.below hb0 HE1.out.lt)
  have HP2 := lhid (HP1.out.below hb0 (heap_lt HP1.out))
  have HC2 := lhid (HC1.out.below hb0 (heap_lt HC1.out))
  have z0 := HE2.out.lt
  have z1 := heap_lt HP2.out
  have z2 := heap_lt HC2.out
  clear hb hb0
  obtain ⟨a0, a1, a2, a3, a4, a5, a6, a7⟩ := HE2.out.cells
  go_wp2_with fail
  with_reducible refine (of_f g l n x.b 1 1 y3 true _ ((below_rows HH.out HB2.out).alloc _) hn hz (by decide) (lhid rfl) hy3 hb3).mono ?_
  rintro e w3 ⟨rfl, hb⟩
  clear a0 a1 a2 a3 a4 a5 a6 a7 z0 z1 z2
  have hb0 := ((Below.refl _ w2).alloc (Nat.le_refl _) _).trans (hb.mono (by simp))
  have HB3 := lhid (HB2.out.trans (hb0.mono HB2.out.size))
  have HE3 := lhid (HE2.out.below hb0 HE2.out.lt)
  have HP3 := lhid (HP2.out.below hb0 (heap_lt HP2.out))
  have HC3 := lhid (HC2.out.below hb0 (heap_lt HC2.out))
  have z0 := HE3.out.lt
  have z1 := heap_lt HP3.out
  have z2 := heap_lt HC3.out
  clear hb hb0
  obtain ⟨a0, a1, a2, a3, a4, a5, a6, a7⟩ := HE3.out.cells
  go_wp2_with fail
  with_reducible refine (of_f g l n x.d 1 1 y4 false _ ((below_rows HH.out HB3.out).alloc _) hn hz (by decide) (lhid rfl) hy4 hb4).mono ?_
  rintro e w4 ⟨rfl, hb⟩
  clear a0 a1 a2 a3 a4 a5 a6 a7 z0 z1 z2
  have hb0 := ((Below.refl _ w3).alloc (Nat.le_refl _) _).trans (hb.mono (by simp))
  have HB4 := lhid (HB3.out.trans (hb0.mono HB3.out.size))
  have HE4 := lhid (HE3.out.below hb0 HE3.out.lt)
  have HP4 := lhid (HP3.out.below hb0 (heap_lt HP3.out))
  have HC4 := lhid (HC3.out.below hb0 (heap_lt HC3.out))
  have z0 := HE4.out.lt
  have z1 := heap_lt HP4.out
  have z2 := heap_lt HC4.out
  clear hb hb0
  obtain ⟨a0, a1, a2, a3, a4, a5, a6, a7⟩ := HE4.out.cells
  obtain ⟨p0, p1, p2, p3, p4⟩ := HP4.out.cells
  have fp := HP4.out.thaw
  obtain ⟨c0, c1, c2, c3, c4⟩ := HC4.out.cells
  have fc := HC4.out.thaw
  go_wp2_with fail
  refine bodyPost_ret (v := .tuple #[.agg #[.int .i64 0, .int .i64 0, .string ⟨#[]⟩, .string ⟨#[]⟩, .string ⟨#[]⟩], .int .i64 12]) (by simp [results, Try.results24, go_sem, p0, p1, p2, p3, p4, z1]) rfl ?_
  rw [HP.out]
  refine ⟨rfl, ?_⟩
  have q1 : w.heap.size ≤ w.heap.size + 1 := Nat.le_succ _
  have q2 : w.heap.size ≤ w.heap.size + 1 + 1 := Nat.le_add_right _ 2
  repeat (first | with_reducible refine below_set ?_ q1 _ _ | with_reducible refine below_set ?_ q2 _ _ | with_reducible refine below_new ?_ (Nat.le_refl _) _)
  exact HB4.out
end Go.Proofs.Ytogbieehpppnaaa
