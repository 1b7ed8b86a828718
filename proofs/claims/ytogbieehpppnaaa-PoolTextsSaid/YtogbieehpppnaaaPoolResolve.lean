/- Contracts of resolveText, resolveMember, resolve. -/
import Derived.Test.YtogbieehpppnaaaPoolAt
import Derived.Test.YtogbieehpppnaaaPoolNamed
namespace Go.Proofs.Ytogbieehpppnaaa
open Go.RowKit Go
set_option linter.unusedVariables false

def conV (x : Con) : List Value := [.int .i64 x.kind, .int .i64 x.num, .string (tx x.text), .string (tx x.name), .string (tx x.desc)]
def ConAt (w : World) (C T : Nat) (x : Con) : Prop := w.heap[C]? = some (.cells (conV x).toArray T (0, 0))
theorem ConAt.cell {w : World} {C T : Nat} {x : Con} (h : ConAt w C T x) {i : Nat} {v : Value} (hv : (conV x)[i]? = some v) : w.cell? ⟨C, i, none⟩ = some v := heap_cell h (by simpa using hv)
theorem ConAt.thaw {w : World} {C T : Nat} {x : Con} (h : ConAt w C T x) : ∀ i, w.frozen? ⟨C, i, none⟩ = false := fun i => heap_thaw h i
theorem ConAt.cells {w : World} {C T : Nat} {x : Con} (h : ConAt w C T x) :
    w.cell? ⟨C, 0, none⟩ = some (.int .i64 x.kind) ∧ w.cell? ⟨C, 1, none⟩ = some (.int .i64 x.num) ∧ w.cell? ⟨C, 2, none⟩ = some (.string (tx x.text)) ∧ w.cell? ⟨C, 3, none⟩ = some (.string (tx x.name)) ∧ w.cell? ⟨C, 4, none⟩ = some (.string (tx x.desc)) :=
  ⟨h.cell rfl, h.cell rfl, h.cell rfl, h.cell rfl, h.cell rfl⟩
/-- A constant, and what errs, as it is answered; nothing that was there has turned. -/
def ResOut (p : Nat × Con) (w : World) (e : Ending) (w' : World) : Prop :=
  e = .returned (.tuple #[.agg #[.int .i64 p.2.kind, .int .i64 p.2.num, .string (tx p.2.text), .string (tx p.2.name), .string (tx p.2.desc)], .int .i64 p.1]) ∧ Below w.heap.size w w'
theorem new_one (w : World) (o o' : Obj) : ((w.alloc o).alloc o').heap[w.heap.size]? = some o := by
  rw [Below.heap_alloc _ _ _ (by simp)]
  exact heap_alloc_new _ _
theorem EntAt.below {w w' : World} {B C T : Nat} {x : Ent} (h : EntAt w C T x) (hb : Below B w w') (hB : C < B) : EntAt w' C T x := (hb.block C hB).trans h
theorem ConAt.below {w w' : World} {B C T : Nat} {x : Con} (h : ConAt w C T x) (hb : Below B w w') (hB : C < B) : ConAt w' C T x := (hb.block C hB).trans h
/-- The texts of a pool are short. -/
def ShortL (l : List Ent) : Prop := ∀ x, x ∈ l → x.text.length < 65536
theorem short_text {l : List Ent} (h : ShortL l) {i : Nat} {t : Bs} (ht : textAt l i = some t) : (tx t).size ≤ maxLen := by
  unfold textAt at ht
  obtain ⟨x, h1, h2⟩ := Option.map_eq_some_iff.1 ht
  have h3 := h x (List.mem_of_getElem? (entAt_some h1).1)
  rw [tx_size, ← h2]
  unfold maxLen
  omega
theorem short_class {l : List Ent} (h : ShortL l) {i : Nat} {t : Bs} (ht : classAt l i = some t) : (tx t).size ≤ maxLen := by
  unfold classAt at ht
  obtain ⟨x, h1, h2⟩ := Option.bind_eq_some_iff.1 ht
  exact short_text h h2
theorem named_r (l : Bs) (b : Bool) (w : World) (hs : Hid ((tx l).size ≤ maxLen)) (h : Hid (namedB l = b)) :
    Calls Try.prog 18 #[.string (tx l)] w fun e w' => e = .returned (.bool b) ∧ ∃ n, w' = w.drewN n := by
  have := named_any (tx l) w hs.out
  rw [tx_list, h.out] at this
  exact this
theorem name_t (l : Bs) (m b : Bool) (w : World) (hs : Hid ((tx l).size ≤ maxLen)) (h : Hid (nameB l m = b)) :
    Calls Try.prog 20 #[.string (tx l), .bool m] w fun e w' => e = .returned (.bool b) ∧ w = w' := by
  have := name_any (tx l) m w hs.out
  rw [tx_list, h.out] at this
  exact this
theorem describes_t (l : Bs) (m b : Bool) (w : World) (hs : Hid ((tx l).size ≤ maxLen)) (h : Hid (descB l m = b)) :
    Calls Try.prog 44 #[.string (tx l), .bool m] w fun e w' => e = .returned (.bool b) ∧ Below w.heap.size w w' :=
  describes_any (tx l) m b w hs (lhid (by rw [tx_list]; exact h.out))

set_option maxHeartbeats 4000000 in
set_option maxRecDepth 100000 in
theorem resolveText_any (g : Nat) (l : List Ent) (n : Nat) (x : Ent) (w : World) (h : RowsAt w g 64 8 (l.map entV)) (hn : Hid (l.length = n)) (hs : Hid (ShortL l)) (hk : x.kind = 7 ∨ x.kind = 8) :
    Calls Try.prog 33 #[.slice (some ⟨g, 0, none⟩) n n, .agg #[.int .i64 x.kind, .int .i64 x.num, .string (tx x.text), .string ⟨#[]⟩, .string ⟨#[]⟩, .int .i64 x.a, .int .i64 x.b, .int .i64 x.d]] w (ResOut (resText l x) w) := by
  have HH := lhid h
  have hsz := h.lt
  clear h
  cases ht : textAt l x.a with
  | none =>
    have HT := lhid ht
    have HP : Hid (resText l x = (12, Con.zero)) := lhid (by unfold resText; rw [ht])
    clear ht
    go_enter Try.func33, Try.ntmps33
    go_wp2_with fail
    with_reducible refine (textAt_no g l n x.a _ (lhid ((HH.out.alloc _).alloc _)) hn HT).mono ?_
    rintro e w1 ⟨rfl, hb⟩
    have HB := lhid hb
    have HC := lhid (ConAt.below (x := Con.zero) (new_two w _ _) hb (by simp))
    obtain ⟨p0, p1, p2, p3, p4⟩ := HC.out.cells
    have fp := HC.out.thaw
    clear hb
    go_wp2_with fail
    refine bodyPost_ret (v := .tuple #[.agg #[.int .i64 0, .int .i64 0, .string ⟨#[]⟩, .string ⟨#[]⟩, .string ⟨#[]⟩], .int .i64 12]) (by simp [results, Try.results33, go_sem, p0, p1, p2, p3, p4]) rfl ?_
    rw [HP.out]
    refine ⟨rfl, ?_⟩
    repeat (refine Below.setCell ?_ (by simp) _)
    exact (((Below.refl _ _).alloc (Nat.le_refl _) _).alloc (by simp) _).trans (HB.out.mono (by simp; omega))
  | some t =>
    have HT := lhid ht
    have HS := lhid (short_text hs.out ht)
    have HPX : Hid (resText l x = if x.kind = 7 ∧ namedB t = false then (20, Con.zero) else (0, ⟨x.kind, x.num, t, [], []⟩)) := lhid (by unfold resText; rw [ht])
    clear ht
    rcases hk with hk | hk
    · cases hnm : namedB t
      · have HP : Hid (resText l x = (20, Con.zero)) := lhid (by rw [HPX.out, if_pos ⟨hk, hnm⟩])
        have HNM := lhid hnm
        have HK := lhid hk
        rw [hk]
        clear hk hnm HPX
        go_enter Try.func33, Try.ntmps33
        go_wp2_with fail
        with_reducible refine (textAt_yes g l n x.a t _ (lhid ((HH.out.alloc _).alloc _)) hn HT).mono ?_
        rintro e w1 ⟨rfl, hb⟩
        have HB := lhid hb
        have HC := lhid (ConAt.below (x := Con.zero) (new_two w _ _) hb (by simp))
        have HE := lhid (EntAt.below (x := ⟨7, x.num, x.text, x.a, x.b, x.d⟩) (new_one w _ _) hb (by simp; omega))
        obtain ⟨a0, a1, a2, a3, a4, a5, a6, a7⟩ := HE.out.cells
        obtain ⟨p0, p1, p2, p3, p4⟩ := HC.out.cells
        have fp := HC.out.thaw
        clear hb
        go_wp2_with (go_at_call 18; (with_reducible refine (named_r t false _ HS HNM).mono ?_); rintro e w' ⟨rfl, q, rfl⟩)
        refine bodyPost_ret (v := .tuple #[.agg #[.int .i64 0, .int .i64 0, .string ⟨#[]⟩, .string ⟨#[]⟩, .string ⟨#[]⟩], .int .i64 20]) (by simp [results, Try.results33, go_sem, p0, p1, p2, p3, p4]) rfl ?_
        rw [HP.out]
        refine ⟨rfl, ?_⟩
        repeat (refine Below.setCell ?_ (by simp) _)
        exact below_drewN ((((Below.refl _ _).alloc (Nat.le_refl _) _).alloc (by simp) _).trans (HB.out.mono (by simp; omega))) q
      · have HP : Hid (resText l x = (0, ⟨7, x.num, t, [], []⟩)) := lhid (by rw [HPX.out, if_neg (by rw [hnm]; simp), hk])
        have HNM := lhid hnm
        have HK := lhid hk
        rw [hk]
        clear hk hnm HPX
        go_enter Try.func33, Try.ntmps33
        go_wp2_with fail
        with_reducible refine (textAt_yes g l n x.a t _ (lhid ((HH.out.alloc _).alloc _)) hn HT).mono ?_
        rintro e w1 ⟨rfl, hb⟩
        have HB := lhid hb
        have HC := lhid (ConAt.below (x := Con.zero) (new_two w _ _) hb (by simp))
        have HE := lhid (EntAt.below (x := ⟨7, x.num, x.text, x.a, x.b, x.d⟩) (new_one w _ _) hb (by simp; omega))
        obtain ⟨a0, a1, a2, a3, a4, a5, a6, a7⟩ := HE.out.cells
        have fa := HE.out.thaw
        obtain ⟨p0, p1, p2, p3, p4⟩ := HC.out.cells
        have fp := HC.out.thaw
        clear hb
        go_wp2_with (go_at_call 18; (with_reducible refine (named_r t true _ HS HNM).mono ?_); rintro e w' ⟨rfl, q, rfl⟩)
        refine bodyPost_ret (v := .tuple #[.agg #[.int .i64 7, .int .i64 x.num, .string (tx t), .string ⟨#[]⟩, .string ⟨#[]⟩], .int .i64 0]) (by simp [results, Try.results33, go_sem, p0, p1, p2, p3, p4]) rfl ?_
        rw [HP.out]
        refine ⟨rfl, ?_⟩
        repeat (refine Below.setCell ?_ (by simp) _)
        exact below_drewN ((((Below.refl _ _).alloc (Nat.le_refl _) _).alloc (by simp) _).trans (HB.out.mono (by simp; omega))) q
    · have HP : Hid (resText l x = (0, ⟨8, x.num, t, [], []⟩)) := lhid (by rw [HPX.out, if_neg (by rw [hk]; simp), hk])
      have HK := lhid hk
      rw [hk]
      clear hk HPX
      go_enter Try.func33, Try.ntmps33
      go_wp2_with fail
      with_reducible refine (textAt_yes g l n x.a t _ (lhid ((HH.out.alloc _).alloc _)) hn HT).mono ?_
      rintro e w1 ⟨rfl, hb⟩
      have HB := lhid hb
      have HC := lhid (ConAt.below (x := Con.zero) (new_two w _ _) hb (by simp))
      have HE := lhid (EntAt.below (x := ⟨8, x.num, x.text, x.a, x.b, x.d⟩) (new_one w _ _) hb (by simp; omega))
      obtain ⟨a0, a1, a2, a3, a4, a5, a6, a7⟩ := HE.out.cells
      have fa := HE.out.thaw
      obtain ⟨p0, p1, p2, p3, p4⟩ := HC.out.cells
      have fp := HC.out.thaw
      clear hb
      go_wp2_with fail
      refine bodyPost_ret (v := .tuple #[.agg #[.int .i64 8, .int .i64 x.num, .string (tx t), .string ⟨#[]⟩, .string ⟨#[]⟩], .int .i64 0]) (by simp [results, Try.results33, go_sem, p0, p1, p2, p3, p4]) rfl ?_
      rw [HP.out]
      refine ⟨rfl, ?_⟩
      repeat (refine Below.setCell ?_ (by simp) _)
      exact ((((Below.refl _ _).alloc (Nat.le_refl _) _).alloc (by simp) _).trans (HB.out.mono (by simp; omega)))
end Go.Proofs.Ytogbieehpppnaaa
