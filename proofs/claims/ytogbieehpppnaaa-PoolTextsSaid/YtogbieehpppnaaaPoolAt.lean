/- Contracts of entryAt, textAt, classAt. -/
import Derived.Test.YtogbieehpppnaaaPoolEntries
namespace Go.Proofs.Ytogbieehpppnaaa
open Go.RowKit Go
set_option linter.unusedVariables false

theorem entAt_some {l : List Ent} {i k : Nat} {x : Ent} (h : entAt l i k = some x) : l[i]? = some x ∧ x.kind = k := by
  unfold entAt at h
  cases hl : l[i]? with
  | none => rw [hl] at h; cases h
  | some y =>
    rw [hl] at h
    simp only at h
    by_cases hy : y.kind = k
    · rw [if_pos hy] at h
      cases h
      exact ⟨rfl, hy⟩
    · rw [if_neg hy] at h
      cases h
theorem entAt_none {l : List Ent} {i k : Nat} (h : entAt l i k = none) : l.length ≤ i ∨ ∃ x, l[i]? = some x ∧ x.kind ≠ k := by
  unfold entAt at h
  cases hl : l[i]? with
  | none => exact .inl (List.getElem?_eq_none_iff.1 hl)
  | some y =>
    rw [hl] at h
    simp only at h
    by_cases hy : y.kind = k
    · rw [if_pos hy] at h; cases h
    · exact .inr ⟨y, rfl, hy⟩
theorem rows_at {w : World} {g T : Nat} {l : List Ent} (h : RowsAt w g T 8 (l.map entV)) {i : Nat} {x : Ent} (hx : l[i]? = some x) :
    w.cell? ⟨g, i * 8, none⟩ = some (.int .i64 x.kind) ∧ w.cell? ⟨g, i * 8 + 1, none⟩ = some (.int .i64 x.num) ∧ w.cell? ⟨g, i * 8 + 2, none⟩ = some (.string (tx x.text)) ∧ w.cell? ⟨g, i * 8 + 3, none⟩ = some (.string ⟨#[]⟩) ∧ w.cell? ⟨g, i * 8 + 4, none⟩ = some (.string ⟨#[]⟩) ∧ w.cell? ⟨g, i * 8 + 5, none⟩ = some (.int .i64 x.a) ∧ w.cell? ⟨g, i * 8 + 6, none⟩ = some (.int .i64 x.b) ∧ w.cell? ⟨g, i * 8 + 7, none⟩ = some (.int .i64 x.d) := by
  have hr : (l.map entV)[i]? = some (entV x) := by rw [List.getElem?_map, hx]; rfl
  exact ⟨h.cell hr (j := 0) rfl, h.cell hr (j := 1) rfl, h.cell hr (j := 2) rfl, h.cell hr (j := 3) rfl, h.cell hr (j := 4) rfl, h.cell hr (j := 5) rfl, h.cell hr (j := 6) rfl, h.cell hr (j := 7) rfl⟩

set_option maxHeartbeats 4000000 in
set_option maxRecDepth 100000 in
theorem entryAt_no (g : Nat) (l : List Ent) (n i k : Nat) (kk : Int) (w : World) (h : RowsAt w g 64 8 (l.map entV)) (hn : Hid (l.length = n)) (hk : Hid (kk = k)) (hat : Hid (entAt l i k = none)) :
    Calls Try.prog 49 #[.slice (some ⟨g, 0, none⟩) n n, .int .i64 i, .int .i64 kk] w fun e w' => e = .returned (.tuple #[.agg #[.int .i64 0, .int .i64 0, .string ⟨#[]⟩, .string ⟨#[]⟩, .string ⟨#[]⟩, .int .i64 0, .int .i64 0, .int .i64 0], .bool false]) ∧ Below w.heap.size w w' := by
  rcases entAt_none hat.out with hl | ⟨x, hx, hne⟩
  · have hge : ¬ (i < n) := by rw [← hn.out]; omega
    clear h
    go_enter Try.func49, Try.ntmps49
    go_wp2_with fail
    refine bodyPost_ret (v := .tuple #[.agg #[.int .i64 0, .int .i64 0, .string ⟨#[]⟩, .string ⟨#[]⟩, .string ⟨#[]⟩, .int .i64 0, .int .i64 0, .int .i64 0], .bool false]) (by simp [results, Try.results49, go_sem]) rfl ⟨rfl, ?_⟩
    exact (Below.refl _ _).alloc (Nat.le_refl _) _
  · have hlt : i < n := by rw [← hn.out]; exact (List.getElem?_eq_some_iff.1 hx).1
    obtain ⟨a0, a1, a2, a3, a4, a5, a6, a7⟩ := rows_at h hx
    have hgs := h.lt
    have t1 : ((x.kind : Int) != kk) = true := by rw [bne_iff_ne, hk.out]; omega
    have t2 : ((x.kind : Int) == kk) = false := by rw [beq_eq_false_iff_ne, hk.out]; omega
    clear h hx hne a1 a2 a3 a4 a5 a6 a7
    go_enter Try.func49, Try.ntmps49
    go_wp2_with fail
    refine bodyPost_ret (v := .tuple #[.agg #[.int .i64 0, .int .i64 0, .string ⟨#[]⟩, .string ⟨#[]⟩, .string ⟨#[]⟩, .int .i64 0, .int .i64 0, .int .i64 0], .bool false]) (by simp [results, Try.results49, go_sem]) rfl ⟨rfl, ?_⟩
    exact (Below.refl _ _).alloc (Nat.le_refl _) _
set_option maxHeartbeats 4000000 in
set_option maxRecDepth 100000 in
theorem entryAt_yes (g : Nat) (l : List Ent) (n i k : Nat) (kk : Int) (x : Ent) (w : World) (h : RowsAt w g 64 8 (l.map entV)) (hn : Hid (l.length = n)) (hk : Hid (kk = k)) (hat : Hid (entAt l i k = some x)) :
    Calls Try.prog 49 #[.slice (some ⟨g, 0, none⟩) n n, .int .i64 i, .int .i64 kk] w fun e w' => e = .returned (.tuple #[.agg #[.int .i64 x.kind, .int .i64 x.num, .string (tx x.text), .string ⟨#[]⟩, .string ⟨#[]⟩, .int .i64 x.a, .int .i64 x.b, .int .i64 x.d], .bool true]) ∧ Below w.heap.size w w' := by
  obtain ⟨hx, hxk⟩ := entAt_some hat.out
  have hlt : i < n := by rw [← hn.out]; exact (List.getElem?_eq_some_iff.1 hx).1
  obtain ⟨a0, a1, a2, a3, a4, a5, a6, a7⟩ := rows_at h hx
  have hgs := h.lt
  have t1 : ((x.kind : Int) != kk) = false := by rw [bne_eq_false_iff_eq, hk.out]; omega
  have t2 : ((x.kind : Int) == kk) = true := by rw [beq_iff_eq, hk.out]; omega
  clear h hx hxk
  go_enter Try.func49, Try.ntmps49
  go_wp2_with fail
  refine bodyPost_ret (v := .tuple #[.agg #[.int .i64 x.kind, .int .i64 x.num, .string (tx x.text), .string ⟨#[]⟩, .string ⟨#[]⟩, .int .i64 x.a, .int .i64 x.b, .int .i64 x.d], .bool true]) (by simp [results, Try.results49, go_sem]) rfl ⟨rfl, ?_⟩
  exact (Below.refl _ _).alloc (Nat.le_refl _) _
set_option maxHeartbeats 4000000 in
set_option maxRecDepth 100000 in
theorem textAt_no (g : Nat) (l : List Ent) (n i : Nat) (w : World) (h : Hid (RowsAt w g 64 8 (l.map entV))) (hn : Hid (l.length = n)) (hat : Hid (textAt l i = none)) :
    Calls Try.prog 42 #[.slice (some ⟨g, 0, none⟩) n n, .int .i64 i] w fun e w' => e = .returned (.tuple #[.string ⟨#[]⟩, .bool false]) ∧ Below w.heap.size w w' := by
  have HA : Hid (entAt l i 1 = none) := lhid (by have := hat.out; unfold textAt at this; simpa using this)
  have HK : Hid ((1 : Int) = (1 : Nat)) := lhid rfl
  go_enter Try.func42, Try.ntmps42
  go_wp2_with fail
  with_reducible refine (entryAt_no g l n i 1 1 _ h.out hn HK HA).mono ?_
  rintro e w1 ⟨rfl, hb⟩
  have HB := lhid hb
  clear hb
  go_wp2_with fail
  go_ret2
  exact ⟨rfl, HB.out.alloc HB.out.size _⟩
set_option maxHeartbeats 4000000 in
set_option maxRecDepth 100000 in
theorem textAt_yes (g : Nat) (l : List Ent) (n i : Nat) (t : Bs) (w : World) (h : Hid (RowsAt w g 64 8 (l.map entV))) (hn : Hid (l.length = n)) (hat : Hid (textAt l i = some t)) :
    Calls Try.prog 42 #[.slice (some ⟨g, 0, none⟩) n n, .int .i64 i] w fun e w' => e = .returned (.tuple #[.string (tx t), .bool true]) ∧ Below w.heap.size w w' := by
  obtain ⟨x, HA, HT⟩ : ∃ x, Hid (entAt l i 1 = some x) ∧ Hid (x.text = t) := by
    have := hat.out
    unfold textAt at this
    obtain ⟨x, h1, h2⟩ := Option.map_eq_some_iff.1 this
    exact ⟨x, lhid h1, lhid h2⟩
  have HK : Hid ((1 : Int) = (1 : Nat)) := lhid rfl
  go_enter Try.func42, Try.ntmps42
  go_wp2_with fail
  with_reducible refine (entryAt_yes g l n i 1 1 x _ h.out hn HK HA).mono ?_
  rintro e w1 ⟨rfl, hb⟩
  rw [HT.out]
  have HB := lhid hb
  clear hb
  go_wp2_with fail
  go_ret2
  exact ⟨rfl, HB.out.alloc HB.out.size _⟩
theorem below_rows {w w' : World} {g T k : Nat} {rows : List (List Value)} (h : RowsAt w g T k rows) (hb : Below w.heap.size w w') : RowsAt w' g T k rows := h.of_block (hb.block g h.lt)
set_option maxHeartbeats 4000000 in
set_option maxRecDepth 100000 in
theorem classAt_no (g : Nat) (l : List Ent) (n i : Nat) (w : World) (h : Hid (RowsAt w g 64 8 (l.map entV))) (hn : Hid (l.length = n)) (hat : Hid (classAt l i = none)) :
    Calls Try.prog 43 #[.slice (some ⟨g, 0, none⟩) n n, .int .i64 i] w fun e w' => e = .returned (.tuple #[.string ⟨#[]⟩, .bool false]) ∧ Below w.heap.size w w' := by
  have HK : Hid ((7 : Int) = (7 : Nat)) := lhid rfl
  cases hx : entAt l i 7 with
  | none =>
    have HA := lhid hx
    clear hx
    go_enter Try.func43, Try.ntmps43
    go_wp2_with fail
    with_reducible refine (entryAt_no g l n i 7 7 _ h.out hn HK HA).mono ?_
    rintro e w1 ⟨rfl, hb⟩
    have HB := lhid hb
    clear hb
    go_wp2_with fail
    go_ret2
    exact ⟨rfl, HB.out.alloc HB.out.size _⟩
  | some x =>
    have HA := lhid hx
    have HT : Hid (textAt l x.a = none) := lhid (by have := hat.out; unfold classAt at this; rw [hx] at this; exact this)
    clear hx
    go_enter Try.func43, Try.ntmps43
    go_wp2_with fail
    with_reducible refine (entryAt_yes g l n i 7 7 x _ h.out hn HK HA).mono ?_
    rintro e w1 ⟨rfl, hb⟩
    have HB := lhid hb
    clear hb
    go_wp2_with fail
    with_reducible refine (textAt_no g l n x.a _ (lhid ((below_rows h.out HB.out).alloc _)) hn HT).mono ?_
    rintro e w2 ⟨rfl, hb⟩
    have HB2 := lhid hb
    clear hb
    go_wp2_with fail
    go_ret2
    exact ⟨rfl, (HB.out.alloc HB.out.size _).trans (HB2.out.mono (by have := HB.out.size; simp; omega))⟩
set_option maxHeartbeats 4000000 in
set_option maxRecDepth 100000 in
theorem classAt_yes (g : Nat) (l : List Ent) (n i : Nat) (t : Bs) (w : World) (h : Hid (RowsAt w g 64 8 (l.map entV))) (hn : Hid (l.length = n)) (hat : Hid (classAt l i = some t)) :
    Calls Try.prog 43 #[.slice (some ⟨g, 0, none⟩) n n, .int .i64 i] w fun e w' => e = .returned (.tuple #[.string (tx t), .bool true]) ∧ Below w.heap.size w w' := by
  have HK : Hid ((7 : Int) = (7 : Nat)) := lhid rfl
  obtain ⟨x, HA, HT⟩ : ∃ x, Hid (entAt l i 7 = some x) ∧ Hid (textAt l x.a = some t) := by
    have := hat.out
    unfold classAt at this
    obtain ⟨x, h1, h2⟩ := Option.bind_eq_some_iff.1 this
    exact ⟨x, lhid h1, lhid h2⟩
  go_enter Try.func43, Try.ntmps43
  go_wp2_with fail
  with_reducible refine (entryAt_yes g l n i 7 7 x _ h.out hn HK HA).mono ?_
  rintro e w1 ⟨rfl, hb⟩
  have HB := lhid hb
  clear hb
  go_wp2_with fail
  with_reducible refine (textAt_yes g l n x.a t _ (lhid ((below_rows h.out HB.out).alloc _)) hn HT).mono ?_
  rintro e w2 ⟨rfl, hb⟩
  have HB2 := lhid hb
  clear hb
  go_wp2_with fail
  go_ret2
  exact ⟨rfl, (HB.out.alloc HB.out.size _).trans (HB2.out.mono (by have := HB.out.size; simp; omega))⟩
end Go.Proofs.Ytogbieehpppnaaa
