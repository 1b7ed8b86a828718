/- The document's 'filled' at a class and a string. -/
import Derived.Test.YtogbieehpppnaaaPoolFill0
namespace Go.Proofs.Ytogbieehpppnaaa
open Go.RowKit Go
set_option linter.unusedVariables false

set_option maxHeartbeats 8000000 in
set_option maxRecDepth 100000 in
theorem filled_text_no (g : Nat) (l : List Ent) (n : Nat) (x : Ent) (w : World) (h : RowsAt w g 69 8 (l.map entV)) (hn : Hid (l.length = n)) (hz : Hid (ZeroL l)) (y : Ent) (hy : Hid ((entAt l x.a 1).getD Ent.zero = y)) (hb1 : Hid ((entAt l x.a 1).isSome = false)) (hk : Hid (x.kind = 7 ∨ x.kind = 8)) :
    Calls Try.prog 24 #[.slice (some ⟨g, 0, none⟩) n n, .agg #[.int .i64 x.kind, .int .i64 x.num, .string (tx x.text), .string ⟨#[]⟩, .string ⟨#[]⟩, .int .i64 x.a, .int .i64 x.b, .int .i64 x.d]] w (ResOut (resOne l x) w) := by
  have HP : Hid (resOne l x = (12, Con.zero)) := lhid (by rw [res_text0 l x hk.out, resText_no l x (text_none hb1.out)])
  have t0 : ¬ (x.kind : Int) < 7 := by have := hk.out; omega
  have t9 : (x.kind : Int) < 9 := by have := hk.out; omega
  have HH := lhid h
  have hsz := h.lt
  clear h
  go_enter Try.func24, Try.ntmps24
  go_wp2_with fail
  with_reducible refine (of_f g l n x.a 1 1 y false _ (((HH.out.alloc _).alloc _).alloc _) hn hz (by decide) (lhid rfl) hy hb1).mono ?_
  rintro e w1 ⟨rfl, hb⟩
  have HB1 := lhid ((below3 w _ _ _).trans (hb.mono (by rw [size3]; omega)))
  have HE1 := lhid (EntAt.below (x := x) (new3_0 w _ _ _) hb (by rw [size3]; omega))
  have HP1 := lhid (ConAt.below (x := Con.zero) (new3_1 w _ _ _) hb (by rw [size3]; omega))
  have HC1 := lhid (ConAt.below (x := ⟨x.kind, x.num, x.text, [], []⟩) (new3_2 w _ _ _) hb (by rw [size3]; omega))
  have z0 := HE1.out.lt
  have z1 := heap_lt HP1.out
  have z2 := heap_lt HC1.out
  clear hb
  obtain ⟨a0, a1, a2, a3, a4, a5, a6, a7⟩ := HE1.out.cells
  obtain ⟨p0, p1, p2, p3, p4⟩ := HP1.out.cells
  have fp := HP1.out.thaw
  obtain ⟨c0, c1, c2, c3, c4⟩ := HC1.out.cells
  have fc := HC1.out.thaw
  go_wp2_with fail
  refine bodyPost_ret (v := .tuple #[.agg #[.int .i64 0, .int .i64 0, .string ⟨#[]⟩, .string ⟨#[]⟩, .string ⟨#[]⟩], .int .i64 12]) (by simp [results, Try.results24, go_sem, p0, p1, p2, p3, p4, z1]) rfl ?_
  rw [HP.out]
  refine ⟨rfl, ?_⟩
  have q1 : w.heap.size ≤ w.heap.size + 1 := Nat.le_succ _
  have q2 : w.heap.size ≤ w.heap.size + 1 + 1 := Nat.le_add_right _ 2
  repeat (first | with_reducible refine below_set ?_ q1 _ _ | with_reducible refine below_set ?_ q2 _ _ | with_reducible refine below_new ?_ (Nat.le_refl _) _)
  exact HB1.out
set_option maxHeartbeats 8000000 in
set_option maxRecDepth 100000 in
theorem filled_text_bad (g : Nat) (l : List Ent) (n : Nat) (x : Ent) (w : World) (h : RowsAt w g 69 8 (l.map entV)) (hn : Hid (l.length = n)) (hz : Hid (ZeroL l)) (y : Ent) (hy : Hid ((entAt l x.a 1).getD Ent.zero = y)) (hb1 : Hid ((entAt l x.a 1).isSome = true)) (hk : Hid (x.kind = 7)) (sT : Hid ((tx y.text).size ≤ maxLen)) (q : Hid (namedB y.text = false)) :
    Calls Try.prog 24 #[.slice (some ⟨g, 0, none⟩) n n, .agg #[.int .i64 x.kind, .int .i64 x.num, .string (tx x.text), .string ⟨#[]⟩, .string ⟨#[]⟩, .int .i64 x.a, .int .i64 x.b, .int .i64 x.d]] w (ResOut (resOne l x) w) := by
  have HP : Hid (resOne l x = (20, Con.zero)) := lhid (by rw [res_text0 l x (.inl hk.out), resText_bad l x y.text (text_some hy.out hb1.out) hk.out q.out])
  have t0 : ¬ (x.kind : Int) < 7 := by have := hk.out; omega
  have t9 : (x.kind : Int) < 9 := by have := hk.out; omega
  have t7 : ((x.kind : Int) == 7) = true := by rw [beq_iff_eq]; have := hk.out; omega
  have HH := lhid h
  have hsz := h.lt
  clear h
  go_enter Try.func24, Try.ntmps24
  go_wp2_with fail
  with_reducible refine (of_f g l n x.a 1 1 y true _ (((HH.out.alloc _).alloc _).alloc _) hn hz (by decide) (lhid rfl) hy hb1).mono ?_
  rintro e w1 ⟨rfl, hb⟩
  have HB1 := lhid ((below3 w _ _ _).trans (hb.mono (by rw [size3]; omega)))
  have HE1 := lhid (EntAt.below (x := x) (new3_0 w _ _ _) hb (by rw [size3]; omega))
  have HP1 := lhid (ConAt.below (x := Con.zero) (new3_1 w _ _ _) hb (by rw [size3]; omega))
  have HC1 := lhid (ConAt.below (x := ⟨x.kind, x.num, x.text, [], []⟩) (new3_2 w _ _ _) hb (by rw [size3]; omega))
  have z0 := HE1.out.lt
  have z1 := heap_lt HP1.out
  have z2 := heap_lt HC1.out
  clear hb
  obtain ⟨a0, a1, a2, a3, a4, a5, a6, a7⟩ := HE1.out.cells
  obtain ⟨p0, p1, p2, p3, p4⟩ := HP1.out.cells
  have fp := HP1.out.thaw
  obtain ⟨c0, c1, c2, c3, c4⟩ := HC1.out.cells
  have fc := HC1.out.thaw
  go_wp2_with (go_at_call 19; (with_reducible refine (refNamed_t y.text _ _ sT q).mono ?_); rintro e w' ⟨rfl, rfl⟩)
  refine bodyPost_ret (v := .tuple #[.agg #[.int .i64 0, .int .i64 0, .string ⟨#[]⟩, .string ⟨#[]⟩, .string ⟨#[]⟩], .int .i64 20]) (by simp [results, Try.results24, go_sem, p0, p1, p2, p3, p4, z1]) rfl ?_
  rw [HP.out]
  refine ⟨rfl, ?_⟩
  have q1 : w.heap.size ≤ w.heap.size + 1 := Nat.le_succ _
  have q2 : w.heap.size ≤ w.heap.size + 1 + 1 := Nat.le_add_right _ 2
  repeat (first | with_reducible refine below_set ?_ q1 _ _ | with_reducible refine below_set ?_ q2 _ _ | with_reducible refine below_new ?_ (Nat.le_refl _) _)
  exact HB1.out
set_option maxHeartbeats 8000000 in
set_option maxRecDepth 100000 in
theorem filled_text_ok7 (g : Nat) (l : List Ent) (n : Nat) (x : Ent) (w : World) (h : RowsAt w g 69 8 (l.map entV)) (hn : Hid (l.length = n)) (hz : Hid (ZeroL l)) (y : Ent) (hy : Hid ((entAt l x.a 1).getD Ent.zero = y)) (hb1 : Hid ((entAt l x.a 1).isSome = true)) (hk : Hid (x.kind = 7)) (sT : Hid ((tx y.text).size ≤ maxLen)) (q : Hid (namedB y.text = true)) :
    Calls Try.prog 24 #[.slice (some ⟨g, 0, none⟩) n n, .agg #[.int .i64 x.kind, .int .i64 x.num, .string (tx x.text), .string ⟨#[]⟩, .string ⟨#[]⟩, .int .i64 x.a, .int .i64 x.b, .int .i64 x.d]] w (ResOut (resOne l x) w) := by
  have HP : Hid (resOne l x = (0, ⟨x.kind, x.num, y.text, [], []⟩)) := lhid (by rw [res_text0 l x (.inl hk.out), resText_ok l x y.text (text_some hy.out hb1.out) (.inr q.out)])
  have t0 : ¬ (x.kind : Int) < 7 := by have := hk.out; omega
  have t9 : (x.kind : Int) < 9 := by have := hk.out; omega
  have t7 : ((x.kind : Int) == 7) = true := by rw [beq_iff_eq]; have := hk.out; omega
  have HH := lhid h
  have hsz := h.lt
  clear h
  go_enter Try.func24, Try.ntmps24
  go_wp2_with fail
  with_reducible refine (of_f g l n x.a 1 1 y true _ (((HH.out.alloc _).alloc _).alloc _) hn hz (by decide) (lhid rfl) hy hb1).mono ?_
  rintro e w1 ⟨rfl, hb⟩
  have HB1 := lhid ((below3 w _ _ _).trans (hb.mono (by rw [size3]; omega)))
  have HE1 := lhid (EntAt.below (x := x) (new3_0 w _ _ _) hb (by rw [size3]; omega))
  have HP1 := lhid (ConAt.below (x := Con.zero) (new3_1 w _ _ _) hb (by rw [size3]; omega))
  have HC1 := lhid (ConAt.below (x := ⟨x.kind, x.num, x.text, [], []⟩) (new3_2 w _ _ _) hb (by rw [size3]; omega))
  have z0 := HE1.out.lt
  have z1 := heap_lt HP1.out
  have z2 := heap_lt HC1.out
  clear hb
  obtain ⟨a0, a1, a2, a3, a4, a5, a6, a7⟩ := HE1.out.cells
  obtain ⟨p0, p1, p2, p3, p4⟩ := HP1.out.cells
  have fp := HP1.out.thaw
  obtain ⟨c0, c1, c2, c3, c4⟩ := HC1.out.cells
  have fc := HC1.out.thaw
  go_wp2_with (go_at_call 19; (with_reducible refine (refNamed_t y.text _ _ sT q).mono ?_); rintro e w' ⟨rfl, rfl⟩)
  refine bodyPost_ret (v := .tuple #[.agg #[.int .i64 x.kind, .int .i64 x.num, .string (tx y.text), .string ⟨#[]⟩, .string ⟨#[]⟩], .int .i64 0]) (by simp [results, Try.results24, go_sem, p0, p1, p2, p3, p4, z1, tx_nil]) rfl ?_
  rw [HP.out]
  refine ⟨rfl, ?_⟩
  have q1 : w.heap.size ≤ w.heap.size + 1 := Nat.le_succ _
  have q2 : w.heap.size ≤ w.heap.size + 1 + 1 := Nat.le_add_right _ 2
  repeat (first | with_reducible refine below_set ?_ q1 _ _ | with_reducible refine below_set ?_ q2 _ _ | with_reducible refine below_new ?_ (Nat.le_refl _) _)
  exact HB1.out
set_option maxHeartbeats 8000000 in
set_option maxRecDepth 100000 in
theorem filled_text_ok8 (g : Nat) (l : List Ent) (n : Nat) (x : Ent) (w : World) (h : RowsAt w g 69 8 (l.map entV)) (hn : Hid (l.length = n)) (hz : Hid (ZeroL l)) (y : Ent) (hy : Hid ((entAt l x.a 1).getD Ent.zero = y)) (hb1 : Hid ((entAt l x.a 1).isSome = true)) (hk : Hid (x.kind = 8)) :
    Calls Try.prog 24 #[.slice (some ⟨g, 0, none⟩) n n, .agg #[.int .i64 x.kind, .int .i64 x.num, .string (tx x.text), .string ⟨#[]⟩, .string ⟨#[]⟩, .int .i64 x.a, .int .i64 x.b, .int .i64 x.d]] w (ResOut (resOne l x) w) := by
  have HP : Hid (resOne l x = (0, ⟨x.kind, x.num, y.text, [], []⟩)) := lhid (by rw [res_text0 l x (.inr hk.out), resText_ok l x y.text (text_some hy.out hb1.out) (.inl (by have := hk.out; omega))])
  have t0 : ¬ (x.kind : Int) < 7 := by have := hk.out; omega
  have t9 : (x.kind : Int) < 9 := by have := hk.out; omega
  have t7 : ((x.kind : Int) == 7) = false := by rw [beq_eq_false_iff_ne]; have := hk.out; omega
  have HH := lhid h
  have hsz := h.lt
  clear h
  go_enter Try.func24, Try.ntmps24
  go_wp2_with fail
  with_reducible refine (of_f g l n x.a 1 1 y true _ (((HH.out.alloc _).alloc _).alloc _) hn hz (by decide) (lhid rfl) hy hb1).mono ?_
  rintro e w1 ⟨rfl, hb⟩
  have HB1 := lhid ((below3 w _ _ _).trans (hb.mono (by rw [size3]; omega)))
  have HE1 := lhid (EntAt.below (x := x) (new3_0 w _ _ _) hb (by rw [size3]; omega))
  have HP1 := lhid (ConAt.below (x := Con.zero) (new3_1 w _ _ _) hb (by rw [size3]; omega))
  have HC1 := lhid (ConAt.below (x := ⟨x.kind, x.num, x.text, [], []⟩) (new3_2 w _ _ _) hb (by rw [size3]; omega))
  have z0 := HE1.out.lt
  have z1 := heap_lt HP1.out
  have z2 := heap_lt HC1.out
  clear hb
  obtain ⟨a0, a1, a2, a3, a4, a5, a6, a7⟩ := HE1.out.cells
  obtain ⟨p0, p1, p2, p3, p4⟩ := HP1.out.cells
  have fp := HP1.out.thaw
  obtain ⟨c0, c1, c2, c3, c4⟩ := HC1.out.cells
  have fc := HC1.out.thaw
  go_wp2_with fail
  refine bodyPost_ret (v := .tuple #[.agg #[.int .i64 x.kind, .int .i64 x.num, .string (tx y.text), .string ⟨#[]⟩, .string ⟨#[]⟩], .int .i64 0]) (by simp [results, Try.results24, go_sem, p0, p1, p2, p3, p4, z1, tx_nil]) rfl ?_
  rw [HP.out]
  refine ⟨rfl, ?_⟩
  have q1 : w.heap.size ≤ w.heap.size + 1 := Nat.le_succ _
  have q2 : w.heap.size ≤ w.heap.size + 1 + 1 := Nat.le_add_right _ 2
  repeat (first | with_reducible refine below_set ?_ q1 _ _ | with_reducible refine below_set ?_ q2 _ _ | with_reducible refine below_new ?_ (Nat.le_refl _) _)
  exact HB1.out
end Go.Proofs.Ytogbieehpppnaaa
