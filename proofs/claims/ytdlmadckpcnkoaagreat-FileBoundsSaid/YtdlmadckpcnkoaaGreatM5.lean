/- Texts of this claim, joined: PoolResolve, PoolOf, PoolFill0, PoolFillT, PoolFillM. -/
import Derived.Test.YtdlmadckpcnkoaaGreatM2
import Derived.Test.YtdlmadckpcnkoaaGreatJPoolNamed
import Derived.Test.YtdlmadckpcnkoaaGreatM1
/- Contracts of resolveText, resolveMember, resolve. -/
namespace Go.Proofs.YtdlmadckpcnkoaaGreat
open Go.RowKit Go
set_option linter.unusedVariables false

def ConAt (w : World) (C T : Nat) (x : Con) : Prop := w.heap[C]? = some (.cells (conV x).toArray T (0, 0))
theorem ConAt.cell {w : World} {C T : Nat} {x : Con} (h : ConAt w C T x) {i : Nat} {v : Value} (hv : (conV x)[i]? = some v) : w.cell? ⟨C, i, none⟩ = some v := heap_cell h (by simpa using hv)
theorem ConAt.thaw {w : World} {C T : Nat} {x : Con} (h : ConAt w C T x) : ∀ i, w.frozen? ⟨C, i, none⟩ = false := fun i => heap_thaw h i
theorem ConAt.cells {w : World} {C T : Nat} {x : Con} (h : ConAt w C T x) :
    w.cell? ⟨C, 0, none⟩ = some (.int .i64 x.kind) ∧ w.cell? ⟨C, 1, none⟩ = some (.int .i64 x.num) ∧ w.cell? ⟨C, 2, none⟩ = some (.string (tx x.text)) ∧ w.cell? ⟨C, 3, none⟩ = some (.string (tx x.name)) ∧ w.cell? ⟨C, 4, none⟩ = some (.string (tx x.desc)) :=
  ⟨h.cell rfl, h.cell rfl, h.cell rfl, h.cell rfl, h.cell rfl⟩
/-- A constant, and what errs, as it is answered; nothing that was there has turned. -/
def ResOut (p : Nat × Con) (w : World) (e : Ending) (w' : World) : Prop :=
  e = .returned (.tuple #[.agg #[.int .i64 p.2.kind, .int .i64 p.2.num, .string (tx p.2.text), .string (tx p.2.name), .string (tx p.2.desc)], .int .i64 p.1]) ∧ Below w.heap.size w w'
theorem new_one (w : World) (o o' : Obj) : ((w.alloc o).alloc o').heap[w.heap.size]? = some o := by
  rw [Below.heap_alloc _ _ _ (by simp)]
  exact heap_alloc_new _ _
theorem EntAt.below {w w' : World} {B C T : Nat} {x : Ent} (h : EntAt w C T x) (hb : Below B w w') (hB : C < B) : EntAt w' C T x := (hb.block C hB).trans h
theorem ConAt.below {w w' : World} {B C T : Nat} {x : Con} (h : ConAt w C T x) (hb : Below B w w') (hB : C < B) : ConAt w' C T x := (hb.block C hB).trans h
/-- The texts of a pool are short. -/
def ShortL (l : List Ent) : Prop := ∀ x, x ∈ l → x.text.length < 65536
theorem short_text {l : List Ent} (h : ShortL l) {i : Nat} {t : Bs} (ht : textAt l i = some t) : (tx t).size ≤ maxLen := by
  unfold textAt at ht
  obtain ⟨x, h1, h2⟩ := Option.map_eq_some_iff.1 ht
  have h3 := h x (List.mem_of_getElem? (entAt_some h1).1)
  rw [tx_size, ← h2]
  unfold maxLen
  omega
theorem short_class {l : List Ent} (h : ShortL l) {i : Nat} {t : Bs} (ht : classAt l i = some t) : (tx t).size ≤ maxLen := by
  unfold classAt at ht
  obtain ⟨x, h1, h2⟩ := Option.bind_eq_some_iff.1 ht
  exact short_text h h2
theorem named_r (l : Bs) (b : Bool) (w : World) (hs : Hid ((tx l).size ≤ maxLen)) (h : Hid (namedB l = b)) :
    Calls Tryz.prog 136 #[.string (tx l)] w fun e w' => e = .returned (.bool b) ∧ ∃ n, w' = w.drewN n := by
  have := named_any (tx l) w hs.out
  rw [tx_list, h.out] at this
  exact this
theorem name_t (l : Bs) (m b : Bool) (w : World) (hs : Hid ((tx l).size ≤ maxLen)) (h : Hid (nameB l m = b)) :
    Calls Tryz.prog 18 #[.string (tx l), .bool m] w fun e w' => e = .returned (.bool b) ∧ w = w' := by
  have := name_any (tx l) m w hs.out
  rw [tx_list, h.out] at this
  exact this
theorem describes_t (l : Bs) (m b : Bool) (w : World) (hs : Hid ((tx l).size ≤ maxLen)) (h : Hid (descB l m = b)) :
    Calls Tryz.prog 138 #[.string (tx l), .bool m] w fun e w' => e = .returned (.bool b) ∧ Below w.heap.size w w' :=
  describes_any (tx l) m b w hs (lhid (by rw [tx_list]; exact h.out))

set_option maxHeartbeats 4000000 in
set_option maxRecDepth 100000 in
theorem resolveText_any (g : Nat) (l : List Ent) (n : Nat) (x : Ent) (w : World) (h : RowsAt w g 154 8 (l.map entV)) (hn : Hid (l.length = n)) (hs : Hid (ShortL l)) (hk : x.kind = 7 ∨ x.kind = 8) :
    Calls Tryz.prog 122 #[.slice (some ⟨g, 0, none⟩) n n, .agg #[.int .i64 x.kind, .int .i64 x.num, .string (tx x.text), .string ⟨#[]⟩, .string ⟨#[]⟩, .int .i64 x.a, .int .i64 x.b, .int .i64 x.d]] w (ResOut (resText l x) w) := by
  have HH := lhid h
  have hsz := h.lt
  clear h
  cases ht : textAt l x.a with
  | none =>
    have HT := lhid ht
    have HP : Hid (resText l x = (12, Con.zero)) := lhid (by unfold resText; rw [ht])
    clear ht
    go_enter Tryz.func122, Tryz.ntmps122
    go_wp2_with fail
    with_reducible refine (textAt_no g l n x.a _ (lhid ((HH.out.alloc _).alloc _)) hn HT).mono ?_
    rintro e w1 ⟨rfl, hb⟩
    have HB := lhid hb
    have HC := lhid (ConAt.below (x := Con.zero) (new_two w _ _) hb (by simp))
    obtain ⟨p0, p1, p2, p3, p4⟩ := HC.out.cells
    have fp := HC.out.thaw
    clear hb
    go_wp2_with fail
    refine bodyPost_ret (v := .tuple #[.agg #[.int .i64 0, .int .i64 0, .string ⟨#[]⟩, .string ⟨#[]⟩, .string ⟨#[]⟩], .int .i64 12]) (by simp [results, Tryz.results122, go_sem, p0, p1, p2, p3, p4]) rfl ?_
    rw [HP.out]
    refine ⟨rfl, ?_⟩
    repeat (refine Below.setCell ?_ (by simp) _)
    exact (((Below.refl _ _).alloc (Nat.le_refl _) _).alloc (by simp) _).trans (HB.out.mono (by simp; omega))
  | some t =>
    have HT := lhid ht
    have HS := lhid (short_text hs.out ht)
    have HPX : Hid (resText l x = if x.kind = 7 ∧ namedB t = false then (20, Con.zero) else (0, ⟨x.kind, x.num, t, [], []⟩)) := lhid (by unfold resText; rw [ht])
    clear ht
    rcases hk with hk | hk
    · cases hnm : namedB t
      · have HP : Hid (resText l x = (20, Con.zero)) := lhid (by rw [HPX.out, if_pos ⟨hk, hnm⟩])
        have HNM := lhid hnm
        have HK := lhid hk
        rw [hk]
        clear hk hnm HPX
        go_enter Tryz.func122, Tryz.ntmps122
        go_wp2_with fail
        with_reducible refine (textAt_yes g l n x.a t _ (lhid ((HH.out.alloc _).alloc _)) hn HT).mono ?_
        rintro e w1 ⟨rfl, hb⟩
        have HB := lhid hb
        have HC := lhid (ConAt.below (x := Con.zero) (new_two w _ _) hb (by simp))
        have HE := lhid (EntAt.below (x := ⟨7, x.num, x.text, x.a, x.b, x.d⟩) (new_one w _ _) hb (by simp; omega))
        obtain ⟨a0, a1, a2, a3, a4, a5, a6, a7⟩ := HE.out.cells
        obtain ⟨p0, p1, p2, p3, p4⟩ := HC.out.cells
        have fp := HC.out.thaw
        clear hb
        go_wp2_with (go_at_call 136; (with_reducible refine (named_r t false _ HS HNM).mono ?_); rintro e w' ⟨rfl, q, rfl⟩)
        refine bodyPost_ret (v := .tuple #[.agg #[.int .i64 0, .int .i64 0, .string ⟨#[]⟩, .string ⟨#[]⟩, .string ⟨#[]⟩], .int .i64 20]) (by simp [results, Tryz.results122, go_sem, p0, p1, p2, p3, p4]) rfl ?_
        rw [HP.out]
        refine ⟨rfl, ?_⟩
        repeat (refine Below.setCell ?_ (by simp) _)
        exact below_drewN ((((Below.refl _ _).alloc (Nat.le_refl _) _).alloc (by simp) _).trans (HB.out.mono (by simp; omega))) q
      · have HP : Hid (resText l x = (0, ⟨7, x.num, t, [], []⟩)) := lhid (by rw [HPX.out, if_neg (by rw [hnm]; simp), hk])
        have HNM := lhid hnm
        have HK := lhid hk
        rw [hk]
        clear hk hnm HPX
        go_enter Tryz.func122, Tryz.ntmps122
        go_wp2_with fail
        with_reducible refine (textAt_yes g l n x.a t _ (lhid ((HH.out.alloc _).alloc _)) hn HT).mono ?_
        rintro e w1 ⟨rfl, hb⟩
        have HB := lhid hb
        have HC := lhid (ConAt.below (x := Con.zero) (new_two w _ _) hb (by simp))
        have HE := lhid (EntAt.below (x := ⟨7, x.num, x.text, x.a, x.b, x.d⟩) (new_one w _ _) hb (by simp; omega))
        obtain ⟨a0, a1, a2, a3, a4, a5, a6, a7⟩ := HE.out.cells
        have fa := HE.out.thaw
        obtain ⟨p0, p1, p2, p3, p4⟩ := HC.out.cells
        have fp := HC.out.thaw
        clear hb
        go_wp2_with (go_at_call 136; (with_reducible refine (named_r t true _ HS HNM).mono ?_); rintro e w' ⟨rfl, q, rfl⟩)
        refine bodyPost_ret (v := .tuple #[.agg #[.int .i64 7, .int .i64 x.num, .string (tx t), .string ⟨#[]⟩, .string ⟨#[]⟩], .int .i64 0]) (by simp [results, Tryz.results122, go_sem, p0, p1, p2, p3, p4]) rfl ?_
        rw [HP.out]
        refine ⟨rfl, ?_⟩
        repeat (refine Below.setCell ?_ (by simp) _)
        exact below_drewN ((((Below.refl _ _).alloc (Nat.le_refl _) _).alloc (by simp) _).trans (HB.out.mono (by simp; omega))) q
    · have HP : Hid (resText l x = (0, ⟨8, x.num, t, [], []⟩)) := lhid (by rw [HPX.out, if_neg (by rw [hk]; simp), hk])
      have HK := lhid hk
      rw [hk]
      clear hk HPX
      go_enter Tryz.func122, Tryz.ntmps122
      go_wp2_with fail
      with_reducible refine (textAt_yes g l n x.a t _ (lhid ((HH.out.alloc _).alloc _)) hn HT).mono ?_
      rintro e w1 ⟨rfl, hb⟩
      have HB := lhid hb
      have HC := lhid (ConAt.below (x := Con.zero) (new_two w _ _) hb (by simp))
      have HE := lhid (EntAt.below (x := ⟨8, x.num, x.text, x.a, x.b, x.d⟩) (new_one w _ _) hb (by simp; omega))
      obtain ⟨a0, a1, a2, a3, a4, a5, a6, a7⟩ := HE.out.cells
      have fa := HE.out.thaw
      obtain ⟨p0, p1, p2, p3, p4⟩ := HC.out.cells
      have fp := HC.out.thaw
      clear hb
      go_wp2_with fail
      refine bodyPost_ret (v := .tuple #[.agg #[.int .i64 8, .int .i64 x.num, .string (tx t), .string ⟨#[]⟩, .string ⟨#[]⟩], .int .i64 0]) (by simp [results, Tryz.results122, go_sem, p0, p1, p2, p3, p4]) rfl ?_
      rw [HP.out]
      refine ⟨rfl, ?_⟩
      repeat (refine Below.setCell ?_ (by simp) _)
      exact ((((Below.refl _ _).alloc (Nat.le_refl _) _).alloc (by simp) _).trans (HB.out.mono (by simp; omega)))
end Go.Proofs.YtdlmadckpcnkoaaGreat
/- Contracts of the document's 'of', and of what it fills of a text. -/
namespace Go.Proofs.YtdlmadckpcnkoaaGreat
open Go.RowKit Go
set_option linter.unusedVariables false

/-- Constant 0 is none. -/
def ZeroL (l : List Ent) : Prop := ∀ x, l[0]? = some x → x.kind = 0
theorem zero_none {l : List Ent} (h : ZeroL l) (k : Nat) (hk : k ≠ 0) : entAt l 0 k = none := by
  unfold entAt
  cases hl : l[0]? with
  | none => rfl
  | some x =>
    simp only
    rw [if_neg (by rw [h x hl]; omega)]
set_option maxHeartbeats 4000000 in
set_option maxRecDepth 100000 in
theorem of_no (g : Nat) (l : List Ent) (n i k : Nat) (kk : Int) (w : World) (h : RowsAt w g 126 8 (l.map entV)) (hn : Hid (l.length = n)) (hk : Hid (kk = k)) (hat : Hid (entAt l i k = none)) :
    Calls Tryz.prog 106 #[.slice (some ⟨g, 0, none⟩) n n, .int .i64 i, .int .i64 kk] w fun e w' => e = .returned (.tuple #[.agg #[.int .i64 0, .int .i64 0, .string ⟨#[]⟩, .string ⟨#[]⟩, .string ⟨#[]⟩, .int .i64 0, .int .i64 0, .int .i64 0], .bool false]) ∧ Below w.heap.size w w' := by
  by_cases hi : (i : Int) < 1
  · clear h
    go_enter Tryz.func106, Tryz.ntmps106
    go_wp2_with fail
    refine bodyPost_ret (v := .tuple #[.agg #[.int .i64 0, .int .i64 0, .string ⟨#[]⟩, .string ⟨#[]⟩, .string ⟨#[]⟩, .int .i64 0, .int .i64 0, .int .i64 0], .bool false]) (by simp [results, Tryz.results106, go_sem]) rfl ⟨rfl, ?_⟩
    exact (Below.refl _ _).alloc (Nat.le_refl _) _
  have hi1 : (1 : Int) ≤ i := by omega
  have hi0 : ¬ i = 0 := by omega
  rcases entAt_none hat.out with hl | ⟨x, hx, hne⟩
  · have hge : ¬ (i < n) := by rw [← hn.out]; omega
    clear h
    go_enter Tryz.func106, Tryz.ntmps106
    go_wp2_with fail
    refine bodyPost_ret (v := .tuple #[.agg #[.int .i64 0, .int .i64 0, .string ⟨#[]⟩, .string ⟨#[]⟩, .string ⟨#[]⟩, .int .i64 0, .int .i64 0, .int .i64 0], .bool false]) (by simp [results, Tryz.results106, go_sem]) rfl ⟨rfl, ?_⟩
    exact (Below.refl _ _).alloc (Nat.le_refl _) _
  · have hlt : i < n := by rw [← hn.out]; exact (List.getElem?_eq_some_iff.1 hx).1
    obtain ⟨a0, a1, a2, a3, a4, a5, a6, a7⟩ := rows_at h hx
    have hgs := h.lt
    have t1 : ((x.kind : Int) != kk) = true := by rw [bne_iff_ne, hk.out]; omega
    have t2 : ((x.kind : Int) == kk) = false := by rw [beq_eq_false_iff_ne, hk.out]; omega
    clear h hx hne a1 a2 a3 a4 a5 a6 a7
    go_enter Tryz.func106, Tryz.ntmps106
    go_wp2_with fail
    refine bodyPost_ret (v := .tuple #[.agg #[.int .i64 0, .int .i64 0, .string ⟨#[]⟩, .string ⟨#[]⟩, .string ⟨#[]⟩, .int .i64 0, .int .i64 0, .int .i64 0], .bool false]) (by simp [results, Tryz.results106, go_sem]) rfl ⟨rfl, ?_⟩
    exact (Below.refl _ _).alloc (Nat.le_refl _) _
set_option maxHeartbeats 4000000 in
set_option maxRecDepth 100000 in
theorem of_yes (g : Nat) (l : List Ent) (n i k : Nat) (kk : Int) (x : Ent) (w : World) (h : RowsAt w g 126 8 (l.map entV)) (hn : Hid (l.length = n)) (hk : Hid (kk = k)) (hat : Hid (entAt l i k = some x)) (hi : 1 ≤ (i : Int)) :
    Calls Tryz.prog 106 #[.slice (some ⟨g, 0, none⟩) n n, .int .i64 i, .int .i64 kk] w fun e w' => e = .returned (.tuple #[.agg #[.int .i64 x.kind, .int .i64 x.num, .string (tx x.text), .string ⟨#[]⟩, .string ⟨#[]⟩, .int .i64 x.a, .int .i64 x.b, .int .i64 x.d], .bool true]) ∧ Below w.heap.size w w' := by
  obtain ⟨hx, hxk⟩ := entAt_some hat.out
  have hlt : i < n := by rw [← hn.out]; exact (List.getElem?_eq_some_iff.1 hx).1
  obtain ⟨a0, a1, a2, a3, a4, a5, a6, a7⟩ := rows_at h hx
  have hgs := h.lt
  have hi0 : ¬ i = 0 := by omega
  have hi1 : ¬ (i : Int) < 1 := by omega
  have t1 : ((x.kind : Int) != kk) = false := by rw [bne_eq_false_iff_eq, hk.out]; omega
  have t2 : ((x.kind : Int) == kk) = true := by rw [beq_iff_eq, hk.out]; omega
  clear h hx hxk
  go_enter Tryz.func106, Tryz.ntmps106
  go_wp2_with fail
  refine bodyPost_ret (v := .tuple #[.agg #[.int .i64 x.kind, .int .i64 x.num, .string (tx x.text), .string ⟨#[]⟩, .string ⟨#[]⟩, .int .i64 x.a, .int .i64 x.b, .int .i64 x.d], .bool true]) (by simp [results, Tryz.results106, go_sem]) rfl ⟨rfl, ?_⟩
  exact (Below.refl _ _).alloc (Nat.le_refl _) _
theorem of_f (g : Nat) (l : List Ent) (n i k : Nat) (kk : Int) (y : Ent) (b : Bool) (w : World) (h : RowsAt w g 126 8 (l.map entV)) (hn : Hid (l.length = n)) (hz : Hid (ZeroL l)) (hk0 : k ≠ 0) (hk : Hid (kk = k)) (hy : Hid ((entAt l i k).getD Ent.zero = y)) (hb : Hid ((entAt l i k).isSome = b)) :
    Calls Tryz.prog 106 #[.slice (some ⟨g, 0, none⟩) n n, .int .i64 i, .int .i64 kk] w fun e w' => e = .returned (.tuple #[.agg #[.int .i64 y.kind, .int .i64 y.num, .string (tx y.text), .string ⟨#[]⟩, .string ⟨#[]⟩, .int .i64 y.a, .int .i64 y.b, .int .i64 y.d], .bool b]) ∧ Below w.heap.size w w' := by
  have h1 := hy.out
  have h2 := hb.out
  cases hx : entAt l i k with
  | none =>
    rw [hx] at h1 h2
    simp only [Option.getD_none, Option.isSome_none] at h1 h2
    subst h1 h2
    exact of_no g l n i k kk w h hn hk (lhid hx)
  | some x =>
    rw [hx] at h1 h2
    simp only [Option.getD_some, Option.isSome_some] at h1 h2
    subst h1 h2
    refine of_yes g l n i k kk x w h hn hk (lhid hx) ?_
    rcases Nat.eq_zero_or_pos i with rfl | hi
    · rw [zero_none hz.out k hk0] at hx
      cases hx
    · omega
end Go.Proofs.YtdlmadckpcnkoaaGreat
/- Contract of the document's 'filled'. -/
namespace Go.Proofs.YtdlmadckpcnkoaaGreat
open Go.RowKit Go
set_option linter.unusedVariables false

theorem new3_0 (w : World) (o o' o'' : Obj) : (((w.alloc o).alloc o').alloc o'').heap[w.heap.size]? = some o := by
  rw [Below.heap_alloc _ _ _ (by rw [World.size_alloc, World.size_alloc]; omega)]
  exact new_one w o o'
theorem new3_1 (w : World) (o o' o'' : Obj) : (((w.alloc o).alloc o').alloc o'').heap[w.heap.size + 1]? = some o' := by
  rw [Below.heap_alloc _ _ _ (by simp)]
  exact new_two w o o'
theorem new3_2 (w : World) (o o' o'' : Obj) : (((w.alloc o).alloc o').alloc o'').heap[w.heap.size + 2]? = some o'' := by
  have := new_two (w.alloc o) o' o''
  rwa [World.size_alloc] at this
theorem size3 (w : World) (o o' o'' : Obj) : (((w.alloc o).alloc o').alloc o'').heap.size = w.heap.size + 3 := by simp
theorem below3 (w : World) (o o' o'' : Obj) : Below w.heap.size w (((w.alloc o).alloc o').alloc o'') := by
  have h := ((Below.refl w.heap.size w).alloc (Nat.le_refl _) o).alloc (by simp) o'
  exact h.alloc (by rw [World.size_alloc, World.size_alloc]; omega) o''
theorem below_set {B : Nat} {a w : World} (h : Below B a w) {b : Nat} (hb : B ≤ b) (i : Nat) (v : Value) : Below B a (w.setCell ⟨b, i, none⟩ v) := h.setCell hb v
theorem below_new {B : Nat} {a w : World} (h : Below B a w) (hB : B ≤ a.heap.size) (o : Obj) : Below B a (w.alloc o) := h.alloc (Nat.le_trans hB h.size) o
theorem refName_t (l : Bs) (m b : Bool) (w : World) (hs : Hid ((tx l).size ≤ maxLen)) (h : Hid (nameB l m = b)) :
    Calls Tryz.prog 75 #[.string (tx l), .bool m] w fun e w' => e = .returned (.bool b) ∧ w = w' := by
  have := refName_any (tx l) m w hs.out
  rw [tx_list, h.out] at this
  exact this
theorem refType_t (l : Bs) (b : Bool) (w : World) (hs : Hid ((tx l).size ≤ maxLen)) (h : Hid (typeB l = b)) :
    Calls Tryz.prog 77 #[.string (tx l)] w fun e w' => e = .returned (.bool b) ∧ w = w' := by
  have := refType_any (tx l) w hs.out
  rw [tx_list, h.out] at this
  exact this
theorem refNamed_t (l : Bs) (b : Bool) (w : World) (hs : Hid ((tx l).size ≤ maxLen)) (h : Hid (namedB l = b)) :
    Calls Tryz.prog 107 #[.string (tx l)] w fun e w' => e = .returned (.bool b) ∧ w = w' := by
  have := refNamed_any (tx l) w hs.out
  rw [tx_list, h.out] at this
  exact this
theorem refMethod_t (l : Bs) (b : Bool) (w : World) (hs : Hid ((tx l).size ≤ maxLen)) (hz : Hid ((tx l).size ≤ 281474976710656)) (h : Hid ((metB l).isSome = b)) :
    Calls Tryz.prog 76 #[.string (tx l)] w fun e w' => (∃ u t, e = .returned (.tuple #[u, t, .int .i64 (if b then 0 else 21)])) ∧ Below w.heap.size w w' :=
  refMethod_err (tx l) b w hs (lhid (by rw [tx_list]; exact h.out)) hz
set_option maxHeartbeats 8000000 in
set_option maxRecDepth 100000 in
theorem filled_told (g : Nat) (l : List Ent) (n : Nat) (x : Ent) (w : World) (hk : x.kind < 7) :
    Calls Tryz.prog 72 #[.slice (some ⟨g, 0, none⟩) n n, .agg #[.int .i64 x.kind, .int .i64 x.num, .string (tx x.text), .string ⟨#[]⟩, .string ⟨#[]⟩, .int .i64 x.a, .int .i64 x.b, .int .i64 x.d]] w (ResOut (resOne l x) w) := by
  have HP : Hid (resOne l x = (0, ⟨x.kind, x.num, x.text, [], []⟩)) := lhid (by unfold resOne; rw [if_neg (by omega), if_neg (by omega)])
  have t7 : (x.kind : Int) < 7 := by omega
  clear hk
  go_enter Tryz.func72, Tryz.ntmps72
  go_wp2_with fail
  refine bodyPost_ret (v := .tuple #[.agg #[.int .i64 x.kind, .int .i64 x.num, .string (tx x.text), .string ⟨#[]⟩, .string ⟨#[]⟩], .int .i64 0]) (by simp [results, Tryz.results72, go_sem]) rfl ?_
  rw [HP.out]
  exact ⟨rfl, below3 w _ _ _⟩
theorem res_text0 (l : List Ent) (x : Ent) (h : x.kind = 7 ∨ x.kind = 8) : resOne l x = resText l x := by unfold resOne; rw [if_pos h]
theorem text_none {l : List Ent} {i : Nat} (h : (entAt l i 1).isSome = false) : textAt l i = none := by
  unfold textAt
  cases hx : entAt l i 1 with
  | none => rfl
  | some x => rw [hx] at h; cases h
theorem text_some {l : List Ent} {i : Nat} {y : Ent} (hy : (entAt l i 1).getD Ent.zero = y) (h : (entAt l i 1).isSome = true) : textAt l i = some y.text := by
  unfold textAt
  cases hx : entAt l i 1 with
  | none => rw [hx] at h; cases h
  | some x => rw [hx] at hy; simp at hy; subst hy; rfl
theorem resText_no (l : List Ent) (x : Ent) (h : textAt l x.a = none) : resText l x = (12, Con.zero) := by unfold resText; rw [h]
theorem resText_bad (l : List Ent) (x : Ent) (t : Bs) (h : textAt l x.a = some t) (h7 : x.kind = 7) (hn : namedB t = false) : resText l x = (20, Con.zero) := by unfold resText; rw [h]; simp only; rw [if_pos ⟨h7, hn⟩]
theorem resText_ok (l : List Ent) (x : Ent) (t : Bs) (h : textAt l x.a = some t) (h7 : x.kind ≠ 7 ∨ namedB t = true) : resText l x = (0, ⟨x.kind, x.num, t, [], []⟩) := by
  unfold resText
  rw [h]
  simp only
  rw [if_neg]
  rintro ⟨e1, e2⟩
  rcases h7 with h7 | h7
  · exact h7 e1
  · rw [h7] at e2; cases e2
end Go.Proofs.YtdlmadckpcnkoaaGreat
/- The document's 'filled' at a class and a string. -/
namespace Go.Proofs.YtdlmadckpcnkoaaGreat
open Go.RowKit Go
set_option linter.unusedVariables false

set_option maxHeartbeats 8000000 in
set_option maxRecDepth 100000 in
theorem filled_text_no (g : Nat) (l : List Ent) (n : Nat) (x : Ent) (w : World) (h : RowsAt w g 126 8 (l.map entV)) (hn : Hid (l.length = n)) (hz : Hid (ZeroL l)) (y : Ent) (hy : Hid ((entAt l x.a 1).getD Ent.zero = y)) (hb1 : Hid ((entAt l x.a 1).isSome = false)) (hk : Hid (x.kind = 7 ∨ x.kind = 8)) :
    Calls Tryz.prog 72 #[.slice (some ⟨g, 0, none⟩) n n, .agg #[.int .i64 x.kind, .int .i64 x.num, .string (tx x.text), .string ⟨#[]⟩, .string ⟨#[]⟩, .int .i64 x.a, .int .i64 x.b, .int .i64 x.d]] w (ResOut (resOne l x) w) := by
  have HP : Hid (resOne l x = (12, Con.zero)) := lhid (by rw [res_text0 l x hk.out, resText_no l x (text_none hb1.out)])
  have t0 : ¬ (x.kind : Int) < 7 := by have := hk.out; omega
  have t9 : (x.kind : Int) < 9 := by have := hk.out; omega
  have HH := lhid h
  have hsz := h.lt
  clear h
  go_enter Tryz.func72, Tryz.ntmps72
  go_wp2_with fail
  with_reducible refine (of_f g l n x.a 1 1 y false _ (((HH.out.alloc _).alloc _).alloc _) hn hz (by decide) (lhid rfl) hy hb1).mono ?_
  rintro e w1 ⟨rfl, hb⟩
  have HB1 := lhid ((below3 w _ _ _).trans (hb.mono (by rw [size3]; omega)))
  have HE1 := lhid (EntAt.below (x := x) (new3_0 w _ _ _) hb (by rw [size3]; omega))
  have HP1 := lhid (ConAt.below (x := Con.zero) (new3_1 w _ _ _) hb (by rw [size3]; omega))
  have HC1 := lhid (ConAt.below (x := ⟨x.kind, x.num, x.text, [], []⟩) (new3_2 w _ _ _) hb (by rw [size3]; omega))
  have z0 := HE1.out.lt
  have z1 := heap_lt HP1.out
  have z2 := heap_lt HC1.out
  clear hb
  obtain ⟨a0, a1, a2, a3, a4, a5, a6, a7⟩ := HE1.out.cells
  obtain ⟨p0, p1, p2, p3, p4⟩ := HP1.out.cells
  have fp := HP1.out.thaw
  obtain ⟨c0, c1, c2, c3, c4⟩ := HC1.out.cells
  have fc := HC1.out.thaw
  go_wp2_with fail
  refine bodyPost_ret (v := .tuple #[.agg #[.int .i64 0, .int .i64 0, .string ⟨#[]⟩, .string ⟨#[]⟩, .string ⟨#[]⟩], .int .i64 12]) (by simp [results, Tryz.results72, go_sem, p0, p1, p2, p3, p4, z1]) rfl ?_
  rw [HP.out]
  refine ⟨rfl, ?_⟩
  have q1 : w.heap.size ≤ w.heap.size + 1 := Nat.le_succ _
  have q2 : w.heap.size ≤ w.heap.size + 1 + 1 := Nat.le_add_right _ 2
  repeat (first | with_reducible refine below_set ?_ q1 _ _ | with_reducible refine below_set ?_ q2 _ _ | with_reducible refine below_new ?_ (Nat.le_refl _) _)
  exact HB1.out
set_option maxHeartbeats 8000000 in
set_option maxRecDepth 100000 in
theorem filled_text_bad (g : Nat) (l : List Ent) (n : Nat) (x : Ent) (w : World) (h : RowsAt w g 126 8 (l.map entV)) (hn : Hid (l.length = n)) (hz : Hid (ZeroL l)) (y : Ent) (hy : Hid ((entAt l x.a 1).getD Ent.zero = y)) (hb1 : Hid ((entAt l x.a 1).isSome = true)) (hk : Hid (x.kind = 7)) (sT : Hid ((tx y.text).size ≤ maxLen)) (q : Hid (namedB y.text = false)) :
    Calls Tryz.prog 72 #[.slice (some ⟨g, 0, none⟩) n n, .agg #[.int .i64 x.kind, .int .i64 x.num, .string (tx x.text), .string ⟨#[]⟩, .string ⟨#[]⟩, .int .i64 x.a, .int .i64 x.b, .int .i64 x.d]] w (ResOut (resOne l x) w) := by
  have HP : Hid (resOne l x = (20, Con.zero)) := lhid (by rw [res_text0 l x (.inl hk.out), resText_bad l x y.text (text_some hy.out hb1.out) hk.out q.out])
  have t0 : ¬ (x.kind : Int) < 7 := by have := hk.out; omega
  have t9 : (x.kind : Int) < 9 := by have := hk.out; omega
  have t7 : ((x.kind : Int) == 7) = true := by rw [beq_iff_eq]; have := hk.out; omega
  have HH := lhid h
  have hsz := h.lt
  clear h
  go_enter Tryz.func72, Tryz.ntmps72
  go_wp2_with fail
  with_reducible refine (of_f g l n x.a 1 1 y true _ (((HH.out.alloc _).alloc _).alloc _) hn hz (by decide) (lhid rfl) hy hb1).mono ?_
  rintro e w1 ⟨rfl, hb⟩
  have HB1 := lhid ((below3 w _ _ _).trans (hb.mono (by rw [size3]; omega)))
  have HE1 := lhid (EntAt.below (x := x) (new3_0 w _ _ _) hb (by rw [size3]; omega))
  have HP1 := lhid (ConAt.below (x := Con.zero) (new3_1 w _ _ _) hb (by rw [size3]; omega))
  have HC1 := lhid (ConAt.below (x := ⟨x.kind, x.num, x.text, [], []⟩) (new3_2 w _ _ _) hb (by rw [size3]; omega))
  have z0 := HE1.out.lt
  have z1 := heap_lt HP1.out
  have z2 := heap_lt HC1.out
  clear hb
  obtain ⟨a0, a1, a2, a3, a4, a5, a6, a7⟩ := HE1.out.cells
  obtain ⟨p0, p1, p2, p3, p4⟩ := HP1.out.cells
  have fp := HP1.out.thaw
  obtain ⟨c0, c1, c2, c3, c4⟩ := HC1.out.cells
  have fc := HC1.out.thaw
  go_wp2_with (go_at_call 107; (with_reducible refine (refNamed_t y.text _ _ sT q).mono ?_); rintro e w' ⟨rfl, rfl⟩)
  refine bodyPost_ret (v := .tuple #[.agg #[.int .i64 0, .int .i64 0, .string ⟨#[]⟩, .string ⟨#[]⟩, .string ⟨#[]⟩], .int .i64 20]) (by simp [results, Tryz.results72, go_sem, p0, p1, p2, p3, p4, z1]) rfl ?_
  rw [HP.out]
  refine ⟨rfl, ?_⟩
  have q1 : w.heap.size ≤ w.heap.size + 1 := Nat.le_succ _
  have q2 : w.heap.size ≤ w.heap.size + 1 + 1 := Nat.le_add_right _ 2
  repeat (first | with_reducible refine below_set ?_ q1 _ _ | with_reducible refine below_set ?_ q2 _ _ | with_reducible refine below_new ?_ (Nat.le_refl _) _)
  exact HB1.out
set_option maxHeartbeats 8000000 in
set_option maxRecDepth 100000 in
theorem filled_text_ok7 (g : Nat) (l : List Ent) (n : Nat) (x : Ent) (w : World) (h : RowsAt w g 126 8 (l.map entV)) (hn : Hid (l.length = n)) (hz : Hid (ZeroL l)) (y : Ent) (hy : Hid ((entAt l x.a 1).getD Ent.zero = y)) (hb1 : Hid ((entAt l x.a 1).isSome = true)) (hk : Hid (x.kind = 7)) (sT : Hid ((tx y.text).size ≤ maxLen)) (q : Hid (namedB y.text = true)) :
    Calls Tryz.prog 72 #[.slice (some ⟨g, 0, none⟩) n n, .agg #[.int .i64 x.kind, .int .i64 x.num, .string (tx x.text), .string ⟨#[]⟩, .string ⟨#[]⟩, .int .i64 x.a, .int .i64 x.b, .int .i64 x.d]] w (ResOut (resOne l x) w) := by
  have HP : Hid (resOne l x = (0, ⟨x.kind, x.num, y.text, [], []⟩)) := lhid (by rw [res_text0 l x (.inl hk.out), resText_ok l x y.text (text_some hy.out hb1.out) (.inr q.out)])
  have t0 : ¬ (x.kind : Int) < 7 := by have := hk.out; omega
  have t9 : (x.kind : Int) < 9 := by have := hk.out; omega
  have t7 : ((x.kind : Int) == 7) = true := by rw [beq_iff_eq]; have := hk.out; omega
  have HH := lhid h
  have hsz := h.lt
  clear h
  go_enter Tryz.func72, Tryz.ntmps72
  go_wp2_with fail
  with_reducible refine (of_f g l n x.a 1 1 y true _ (((HH.out.alloc _).alloc _).alloc _) hn hz (by decide) (lhid rfl) hy hb1).mono ?_
  rintro e w1 ⟨rfl, hb⟩
  have HB1 := lhid ((below3 w _ _ _).trans (hb.mono (by rw [size3]; omega)))
  have HE1 := lhid (EntAt.below (x := x) (new3_0 w _ _ _) hb (by rw [size3]; omega))
  have HP1 := lhid (ConAt.below (x := Con.zero) (new3_1 w _ _ _) hb (by rw [size3]; omega))
  have HC1 := lhid (ConAt.below (x := ⟨x.kind, x.num, x.text, [], []⟩) (new3_2 w _ _ _) hb (by rw [size3]; omega))
  have z0 := HE1.out.lt
  have z1 := heap_lt HP1.out
  have z2 := heap_lt HC1.out
  clear hb
  obtain ⟨a0, a1, a2, a3, a4, a5, a6, a7⟩ := HE1.out.cells
  obtain ⟨p0, p1, p2, p3, p4⟩ := HP1.out.cells
  have fp := HP1.out.thaw
  obtain ⟨c0, c1, c2, c3, c4⟩ := HC1.out.cells
  have fc := HC1.out.thaw
  go_wp2_with (go_at_call 107; (with_reducible refine (refNamed_t y.text _ _ sT q).mono ?_); rintro e w' ⟨rfl, rfl⟩)
  refine bodyPost_ret (v := .tuple #[.agg #[.int .i64 x.kind, .int .i64 x.num, .string (tx y.text), .string ⟨#[]⟩, .string ⟨#[]⟩], .int .i64 0]) (by simp [results, Tryz.results72, go_sem, p0, p1, p2, p3, p4, z1, tx_nil]) rfl ?_
  rw [HP.out]
  refine ⟨rfl, ?_⟩
  have q1 : w.heap.size ≤ w.heap.size + 1 := Nat.le_succ _
  have q2 : w.heap.size ≤ w.heap.size + 1 + 1 := Nat.le_add_right _ 2
  repeat (first | with_reducible refine below_set ?_ q1 _ _ | with_reducible refine below_set ?_ q2 _ _ | with_reducible refine below_new ?_ (Nat.le_refl _) _)
  exact HB1.out
set_option maxHeartbeats 8000000 in
set_option maxRecDepth 100000 in
theorem filled_text_ok8 (g : Nat) (l : List Ent) (n : Nat) (x : Ent) (w : World) (h : RowsAt w g 126 8 (l.map entV)) (hn : Hid (l.length = n)) (hz : Hid (ZeroL l)) (y : Ent) (hy : Hid ((entAt l x.a 1).getD Ent.zero = y)) (hb1 : Hid ((entAt l x.a 1).isSome = true)) (hk : Hid (x.kind = 8)) :
    Calls Tryz.prog 72 #[.slice (some ⟨g, 0, none⟩) n n, .agg #[.int .i64 x.kind, .int .i64 x.num, .string (tx x.text), .string ⟨#[]⟩, .string ⟨#[]⟩, .int .i64 x.a, .int .i64 x.b, .int .i64 x.d]] w (ResOut (resOne l x) w) := by
  have HP : Hid (resOne l x = (0, ⟨x.kind, x.num, y.text, [], []⟩)) := lhid (by rw [res_text0 l x (.inr hk.out), resText_ok l x y.text (text_some hy.out hb1.out) (.inl (by have := hk.out; omega))])
  have t0 : ¬ (x.kind : Int) < 7 := by have := hk.out; omega
  have t9 : (x.kind : Int) < 9 := by have := hk.out; omega
  have t7 : ((x.kind : Int) == 7) = false := by rw [beq_eq_false_iff_ne]; have := hk.out; omega
  have HH := lhid h
  have hsz := h.lt
  clear h
  go_enter Tryz.func72, Tryz.ntmps72
  go_wp2_with fail
  with_reducible refine (of_f g l n x.a 1 1 y true _ (((HH.out.alloc _).alloc _).alloc _) hn hz (by decide) (lhid rfl) hy hb1).mono ?_
  rintro e w1 ⟨rfl, hb⟩
  have HB1 := lhid ((below3 w _ _ _).trans (hb.mono (by rw [size3]; omega)))
  have HE1 := lhid (EntAt.below (x := x) (new3_0 w _ _ _) hb (by rw [size3]; omega))
  have HP1 := lhid (ConAt.below (x := Con.zero) (new3_1 w _ _ _) hb (by rw [size3]; omega))
  have HC1 := lhid (ConAt.below (x := ⟨x.kind, x.num, x.text, [], []⟩) (new3_2 w _ _ _) hb (by rw [size3]; omega))
  have z0 := HE1.out.lt
  have z1 := heap_lt HP1.out
  have z2 := heap_lt HC1.out
  clear hb
  obtain ⟨a0, a1, a2, a3, a4, a5, a6, a7⟩ := HE1.out.cells
  obtain ⟨p0, p1, p2, p3, p4⟩ := HP1.out.cells
  have fp := HP1.out.thaw
  obtain ⟨c0, c1, c2, c3, c4⟩ := HC1.out.cells
  have fc := HC1.out.thaw
  go_wp2_with fail
  refine bodyPost_ret (v := .tuple #[.agg #[.int .i64 x.kind, .int .i64 x.num, .string (tx y.text), .string ⟨#[]⟩, .string ⟨#[]⟩], .int .i64 0]) (by simp [results, Tryz.results72, go_sem, p0, p1, p2, p3, p4, z1, tx_nil]) rfl ?_
  rw [HP.out]
  refine ⟨rfl, ?_⟩
  have q1 : w.heap.size ≤ w.heap.size + 1 := Nat.le_succ _
  have q2 : w.heap.size ≤ w.heap.size + 1 + 1 := Nat.le_add_right _ 2
  repeat (first | with_reducible refine below_set ?_ q1 _ _ | with_reducible refine below_set ?_ q2 _ _ | with_reducible refine below_new ?_ (Nat.le_refl _) _)
  exact HB1.out
end Go.Proofs.YtdlmadckpcnkoaaGreat
/- The document's 'filled' at a field and at methods. -/
namespace Go.Proofs.YtdlmadckpcnkoaaGreat
open Go.RowKit Go
set_option linter.unusedVariables false

theorem ConAt.set {w : World} {C T : Nat} {x : Con} (h : ConAt w C T x) (i : Nat) (v : Value) (y : Con) (hy : (conV x).toArray.setIfInBounds i v = (conV y).toArray) : ConAt (w.setCell ⟨C, i, none⟩ v) C T y := by
  have := heap_set (i := i) h v
  unfold ConAt
  rw [this, hy]
theorem ConAt.other {w : World} {C T : Nat} {x : Con} (h : ConAt w C T x) (b i : Nat) (hp : C ≠ b) (v : Value) : ConAt (w.setCell ⟨b, i, none⟩ v) C T x := by
  unfold ConAt
  rw [Below.heap_setCell _ _ _ _ (by exact hp)]
  exact h
theorem ConAt.alloc {w : World} {C T : Nat} {x : Con} (h : ConAt w C T x) (o : Obj) : ConAt (w.alloc o) C T x := by
  unfold ConAt
  rw [Below.heap_alloc _ _ _ (heap_lt h)]
  exact h
theorem class_none1 {l : List Ent} {i : Nat} (h : (entAt l i 7).isSome = false) : classAt l i = none := by
  unfold classAt
  cases hx : entAt l i 7 with
  | none => rfl
  | some x => rw [hx] at h; cases h
theorem class_none2 {l : List Ent} {i : Nat} {y : Ent} (hy : (entAt l i 7).getD Ent.zero = y) (h : (entAt l i 7).isSome = true) (h2 : (entAt l y.a 1).isSome = false) : classAt l i = none := by
  unfold classAt
  cases hx : entAt l i 7 with
  | none => rfl
  | some x => rw [hx] at hy; simp at hy; subst hy; exact text_none h2
theorem class_some {l : List Ent} {i : Nat} {y z : Ent} (hy : (entAt l i 7).getD Ent.zero = y) (h : (entAt l i 7).isSome = true) (hz : (entAt l y.a 1).getD Ent.zero = z) (h2 : (entAt l y.a 1).isSome = true) : classAt l i = some z.text := by
  unfold classAt
  cases hx : entAt l i 7 with
  | none => rw [hx] at h; cases h
  | some x => rw [hx] at hy; simp at hy; subst hy; exact text_some hz h2
theorem resMem_no (l : List Ent) (x : Ent) (h : classAt l x.a = none ∨ textAt l x.b = none ∨ textAt l x.d = none) : resMem l x = (12, Con.zero) := by
  unfold resMem
  rcases h with h | h | h
  · rw [h]
  · rw [h]
    cases classAt l x.a <;> rfl
  · rw [h]
    cases classAt l x.a <;> cases textAt l x.b <;> rfl
set_option maxHeartbeats 8000000 in
set_option maxRecDepth 100000 in
theorem filled_mem_f1 (g : Nat) (l : List Ent) (n : Nat) (x : Ent) (w : World) (h : RowsAt w g 126 8 (l.map entV)) (hn : Hid (l.length = n)) (hz : Hid (ZeroL l)) (y1 y2 y3 y4 : Ent) (b2 b3 b4 : Bool) (hy1 : Hid ((entAt l x.a 7).getD Ent.zero = y1)) (hb1 : Hid ((entAt l x.a 7).isSome = false)) (hy2 : Hid ((entAt l y1.a 1).getD Ent.zero = y2)) (hb2 : Hid ((entAt l y1.a 1).isSome = b2)) (hy3 : Hid ((entAt l x.b 1).getD Ent.zero = y3)) (hb3 : Hid ((entAt l x.b 1).isSome = b3)) (hy4 : Hid ((entAt l x.d 1).getD Ent.zero = y4)) (hb4 : Hid ((entAt l x.d 1).isSome = b4)) (hk : Hid (9 ≤ x.kind)) (HP : Hid (resOne l x = (12, Con.zero))) :
    Calls Tryz.prog 72 #[.slice (some ⟨g, 0, none⟩) n n, .agg #[.int .i64 x.kind, .int .i64 x.num, .string (tx x.text), .string ⟨#[]⟩, .string ⟨#[]⟩, .int .i64 x.a, .int .i64 x.b, .int .i64 x.d]] w (ResOut (resOne l x) w) := by
  have t0 : ¬ (x.kind : Int) < 7 := by have := hk.out; omega
  have t9 : ¬ (x.kind : Int) < 9 := by have := hk.out; omega
  have HH := lhid h
  have hsz := h.lt
  clear h
  go_enter Tryz.func72, Tryz.ntmps72
  go_wp2_with fail
  with_reducible refine (of_f g l n x.a 7 7 y1 false _ (((HH.out.alloc _).alloc _).alloc _) hn hz (by decide) (lhid rfl) hy1 hb1).mono ?_
  rintro e w1 ⟨rfl, hb⟩
  have HB1 := lhid ((below3 w _ _ _).trans (hb.mono (by rw [size3]; omega)))
  have HE1 := lhid (EntAt.below (x := x) (new3_0 w _ _ _) hb (by rw [size3]; omega))
  have HP1 := lhid (ConAt.below (x := Con.zero) (new3_1 w _ _ _) hb (by rw [size3]; omega))
  have HC1 := lhid (ConAt.below (x := ⟨x.kind, x.num, x.text, [], []⟩) (new3_2 w _ _ _) hb (by rw [size3]; omega))
  have z0 := HE1.out.lt
  have z1 := heap_lt HP1.out
  have z2 := heap_lt HC1.out
  clear hb
  obtain ⟨a0, a1, a2, a3, a4, a5, a6, a7⟩ := HE1.out.cells
  go_wp2_with fail
  with_reducible refine (of_f g l n y1.a 1 1 y2 b2 _ ((below_rows HH.out HB1.out).alloc _) hn hz (by decide) (lhid rfl) hy2 hb2).mono ?_
  rintro e w2 ⟨rfl, hb⟩
  clear a0 a1 a2 a3 a4 a5 a6 a7 z0 z1 z2
  have hb0 := ((Below.refl _ w1).alloc (Nat.le_refl _) _).trans (hb.mono (by simp))
  have HB2 := lhid (HB1.out.trans (hb0.mono HB1.out.size))
  have HE2 := lhid (HE1.out.below hb0 HE1.out.lt)
  have HP2 := lhid (HP1.out.below hb0 (heap_lt HP1.out))
  have HC2 := lhid (HC1.out.below hb0 (heap_lt HC1.out))
  have z0 := HE2.out.lt
  have z1 := heap_lt HP2.out
  have z2 := heap_lt HC2.out
  clear hb hb0
  obtain ⟨a0, a1, a2, a3, a4, a5, a6, a7⟩ := HE2.out.cells
  go_wp2_with fail
  with_reducible refine (of_f g l n x.b 1 1 y3 b3 _ ((below_rows HH.out HB2.out).alloc _) hn hz (by decide) (lhid rfl) hy3 hb3).mono ?_
  rintro e w3 ⟨rfl, hb⟩
  clear a0 a1 a2 a3 a4 a5 a6 a7 z0 z1 z2
  have hb0 := ((Below.refl _ w2).alloc (Nat.le_refl _) _).trans (hb.mono (by simp))
  have HB3 := lhid (HB2.out.trans (hb0.mono HB2.out.size))
  have HE3 := lhid (HE2.out.below hb0 HE2.out.lt)
  have HP3 := lhid (HP2.out.below hb0 (heap_lt HP2.out))
  have HC3 := lhid (HC2.out.below hb0 (heap_lt HC2.out))
  have z0 := HE3.out.lt
  have z1 := heap_lt HP3.out
  have z2 := heap_lt HC3.out
  clear hb hb0
  obtain ⟨a0, a1, a2, a3, a4, a5, a6, a7⟩ := HE3.out.cells
  go_wp2_with fail
  with_reducible refine (of_f g l n x.d 1 1 y4 b4 _ ((below_rows HH.out HB3.out).alloc _) hn hz (by decide) (lhid rfl) hy4 hb4).mono ?_
  rintro e w4 ⟨rfl, hb⟩
  clear a0 a1 a2 a3 a4 a5 a6 a7 z0 z1 z2
  have hb0 := ((Below.refl _ w3).alloc (Nat.le_refl _) _).trans (hb.mono (by simp))
  have HB4 := lhid (HB3.out.trans (hb0.mono HB3.out.size))
  have HE4 := lhid (HE3.out.below hb0 HE3.out.lt)
  have HP4 := lhid (HP3.out.below hb0 (heap_lt HP3.out))
  have HC4 := lhid (HC3.out.below hb0 (heap_lt HC3.out))
  have z0 := HE4.out.lt
  have z1 := heap_lt HP4.out
  have z2 := heap_lt HC4.out
  clear hb hb0
  obtain ⟨a0, a1, a2, a3, a4, a5, a6, a7⟩ := HE4.out.cells
  obtain ⟨p0, p1, p2, p3, p4⟩ := HP4.out.cells
  have fp := HP4.out.thaw
  obtain ⟨c0, c1, c2, c3, c4⟩ := HC4.out.cells
  have fc := HC4.out.thaw
  go_wp2_with fail
  refine bodyPost_ret (v := .tuple #[.agg #[.int .i64 0, .int .i64 0, .string ⟨#[]⟩, .string ⟨#[]⟩, .string ⟨#[]⟩], .int .i64 12]) (by simp [results, Tryz.results72, go_sem, p0, p1, p2, p3, p4, z1]) rfl ?_
  rw [HP.out]
  refine ⟨rfl, ?_⟩
  have q1 : w.heap.size ≤ w.heap.size + 1 := Nat.le_succ _
  have q2 : w.heap.size ≤ w.heap.size + 1 + 1 := Nat.le_add_right _ 2
  repeat (first | with_reducible refine below_set ?_ q1 _ _ | with_reducible refine below_set ?_ q2 _ _ | with_reducible refine below_new ?_ (Nat.le_refl _) _)
  exact HB4.out
set_option maxHeartbeats 8000000 in
set_option maxRecDepth 100000 in
theorem filled_mem_f2 (g : Nat) (l : List Ent) (n : Nat) (x : Ent) (w : World) (h : RowsAt w g 126 8 (l.map entV)) (hn : Hid (l.length = n)) (hz : Hid (ZeroL l)) (y1 y2 y3 y4 : Ent) (b3 b4 : Bool) (hy1 : Hid ((entAt l x.a 7).getD Ent.zero = y1)) (hb1 : Hid ((entAt l x.a 7).isSome = true)) (hy2 : Hid ((entAt l y1.a 1).getD Ent.zero = y2)) (hb2 : Hid ((entAt l y1.a 1).isSome = false)) (hy3 : Hid ((entAt l x.b 1).getD Ent.zero = y3)) (hb3 : Hid ((entAt l x.b 1).isSome = b3)) (hy4 : Hid ((entAt l x.d 1).getD Ent.zero = y4)) (hb4 : Hid ((entAt l x.d 1).isSome = b4)) (hk : Hid (9 ≤ x.kind)) (HP : Hid (resOne l x = (12, Con.zero))) :
    Calls Tryz.prog 72 #[.slice (some ⟨g, 0, none⟩) n n, .agg #[.int .i64 x.kind, .int .i64 x.num, .string (tx x.text), .string ⟨#[]⟩, .string ⟨#[]⟩, .int .i64 x.a, .int .i64 x.b, .int .i64 x.d]] w (ResOut (resOne l x) w) := by
  have t0 : ¬ (x.kind : Int) < 7 := by have := hk.out; omega
  have t9 : ¬ (x.kind : Int) < 9 := by have := hk.out; omega
  have HH := lhid h
  have hsz := h.lt
  clear h
  go_enter Tryz.func72, Tryz.ntmps72
  go_wp2_with fail
  with_reducible refine (of_f g l n x.a 7 7 y1 true _ (((HH.out.alloc _).alloc _).alloc _) hn hz (by decide) (lhid rfl) hy1 hb1).mono ?_
  rintro e w1 ⟨rfl, hb⟩
  have HB1 := lhid ((below3 w _ _ _).trans (hb.mono (by rw [size3]; omega)))
  have HE1 := lhid (EntAt.below (x := x) (new3_0 w _ _ _) hb (by rw [size3]; omega))
  have HP1 := lhid (ConAt.below (x := Con.zero) (new3_1 w _ _ _) hb (by rw [size3]; omega))
  have HC1 := lhid (ConAt.below (x := ⟨x.kind, x.num, x.text, [], []⟩) (new3_2 w _ _ _) hb (by rw [size3]; omega))
  have z0 := HE1.out.lt
  have z1 := heap_lt HP1.out
  have z2 := heap_lt HC1.out
  clear hb
  obtain ⟨a0, a1, a2, a3, a4, a5, a6, a7⟩ := HE1.out.cells
  go_wp2_with fail
  with_reducible refine (of_f g l n y1.a 1 1 y2 false _ ((below_rows HH.out HB1.out).alloc _) hn hz (by decide) (lhid rfl) hy2 hb2).mono ?_
  rintro e w2 ⟨rfl, hb⟩
  clear a0 a1 a2 a3 a4 a5 a6 a7 z0 z1 z2
  have hb0 := ((Below.refl _ w1).alloc (Nat.le_refl _) _).trans (hb.mono (by simp))
  have HB2 := lhid (HB1.out.trans (hb0.mono HB1.out.size))
  have HE2 := lhid (HE1.out.below hb0 HE1.out.lt)
  have HP2 := lhid (HP1.out.below hb0 (heap_lt HP1.out))
  have HC2 := lhid (HC1.out.below hb0 (heap_lt HC1.out))
  have z0 := HE2.out.lt
  have z1 := heap_lt HP2.out
  have z2 := heap_lt HC2.out
  clear hb hb0
  obtain ⟨a0, a1, a2, a3, a4, a5, a6, a7⟩ := HE2.out.cells
  go_wp2_with fail
  with_reducible refine (of_f g l n x.b 1 1 y3 b3 _ ((below_rows HH.out HB2.out).alloc _) hn hz (by decide) (lhid rfl) hy3 hb3).mono ?_
  rintro e w3 ⟨rfl, hb⟩
  clear a0 a1 a2 a3 a4 a5 a6 a7 z0 z1 z2
  have hb0 := ((Below.refl _ w2).alloc (Nat.le_refl _) _).trans (hb.mono (by simp))
  have HB3 := lhid (HB2.out.trans (hb0.mono HB2.out.size))
  have HE3 := lhid (HE2.out.below hb0 HE2.out.lt)
  have HP3 := lhid (HP2.out.below hb0 (heap_lt HP2.out))
  have HC3 := lhid (HC2.out.below hb0 (heap_lt HC2.out))
  have z0 := HE3.out.lt
  have z1 := heap_lt HP3.out
  have z2 := heap_lt HC3.out
  clear hb hb0
  obtain ⟨a0, a1, a2, a3, a4, a5, a6, a7⟩ := HE3.out.cells
  go_wp2_with fail
  with_reducible refine (of_f g l n x.d 1 1 y4 b4 _ ((below_rows HH.out HB3.out).alloc _) hn hz (by decide) (lhid rfl) hy4 hb4).mono ?_
  rintro e w4 ⟨rfl, hb⟩
  clear a0 a1 a2 a3 a4 a5 a6 a7 z0 z1 z2
  have hb0 := ((Below.refl _ w3).alloc (Nat.le_refl _) _).trans (hb.mono (by simp))
  have HB4 := lhid (HB3.out.trans (hb0.mono HB3.out.size))
  have HE4 := lhid (HE3.out.below hb0 HE3.out.lt)
  have HP4 := lhid (HP3.out.below hb0 (heap_lt HP3.out))
  have HC4 := lhid (HC3.out.below hb0 (heap_lt HC3.out))
  have z0 := HE4.out.lt
  have z1 := heap_lt HP4.out
  have z2 := heap_lt HC4.out
  clear hb hb0
  obtain ⟨a0, a1, a2, a3, a4, a5, a6, a7⟩ := HE4.out.cells
  obtain ⟨p0, p1, p2, p3, p4⟩ := HP4.out.cells
  have fp := HP4.out.thaw
  obtain ⟨c0, c1, c2, c3, c4⟩ := HC4.out.cells
  have fc := HC4.out.thaw
  go_wp2_with fail
  refine bodyPost_ret (v := .tuple #[.agg #[.int .i64 0, .int .i64 0, .string ⟨#[]⟩, .string ⟨#[]⟩, .string ⟨#[]⟩], .int .i64 12]) (by simp [results, Tryz.results72, go_sem, p0, p1, p2, p3, p4, z1]) rfl ?_
  rw [HP.out]
  refine ⟨rfl, ?_⟩
  have q1 : w.heap.size ≤ w.heap.size + 1 := Nat.le_succ _
  have q2 : w.heap.size ≤ w.heap.size + 1 + 1 := Nat.le_add_right _ 2
  repeat (first | with_reducible refine below_set ?_ q1 _ _ | with_reducible refine below_set ?_ q2 _ _ | with_reducible refine below_new ?_ (Nat.le_refl _) _)
  exact HB4.out
set_option maxHeartbeats 8000000 in
set_option maxRecDepth 100000 in
theorem filled_mem_f3 (g : Nat) (l : List Ent) (n : Nat) (x : Ent) (w : World) (h : RowsAt w g 126 8 (l.map entV)) (hn : Hid (l.length = n)) (hz : Hid (ZeroL l)) (y1 y2 y3 y4 : Ent) (b4 : Bool) (hy1 : Hid ((entAt l x.a 7).getD Ent.zero = y1)) (hb1 : Hid ((entAt l x.a 7).isSome = true)) (hy2 : Hid ((entAt l y1.a 1).getD Ent.zero = y2)) (hb2 : Hid ((entAt l y1.a 1).isSome = true)) (hy3 : Hid ((entAt l x.b 1).getD Ent.zero = y3)) (hb3 : Hid ((entAt l x.b 1).isSome = false)) (hy4 : Hid ((entAt l x.d 1).getD Ent.zero = y4)) (hb4 : Hid ((entAt l x.d 1).isSome = b4)) (hk : Hid (9 ≤ x.kind)) (HP : Hid (resOne l x = (12, Con.zero))) :
    Calls Tryz.prog 72 #[.slice (some ⟨g, 0, none⟩) n n, .agg #[.int .i64 x.kind, .int .i64 x.num, .string (tx x.text), .string ⟨#[]⟩, .string ⟨#[]⟩, .int .i64 x.a, .int .i64 x.b, .int .i64 x.d]] w (ResOut (resOne l x) w) := by
  have t0 : ¬ (x.kind : Int) < 7 := by have := hk.out; omega
  have t9 : ¬ (x.kind : Int) < 9 := by have := hk.out; omega
  have HH := lhid h
  have hsz := h.lt
  clear h
  go_enter Tryz.func72, Tryz.ntmps72
  go_wp2_with fail
  with_reducible refine (of_f g l n x.a 7 7 y1 true _ (((HH.out.alloc _).alloc _).alloc _) hn hz (by decide) (lhid rfl) hy1 hb1).mono ?_
  rintro e w1 ⟨rfl, hb⟩
  have HB1 := lhid ((below3 w _ _ _).trans (hb.mono (by rw [size3]; omega)))
  have HE1 := lhid (EntAt.below (x := x) (new3_0 w _ _ _) hb (by rw [size3]; omega))
  have HP1 := lhid (ConAt.below (x := Con.zero) (new3_1 w _ _ _) hb (by rw [size3]; omega))
  have HC1 := lhid (ConAt.below (x := ⟨x.kind, x.num, x.text, [], []⟩) (new3_2 w _ _ _) hb (by rw [size3]; omega))
  have z0 := HE1.out.lt
  have z1 := heap_lt HP1.out
  have z2 := heap_lt HC1.out
  clear hb
  obtain ⟨a0, a1, a2, a3, a4, a5, a6, a7⟩ := HE1.out.cells
  go_wp2_with fail
  with_reducible refine (of_f g l n y1.a 1 1 y2 true _ ((below_rows HH.out HB1.out).alloc _) hn hz (by decide) (lhid rfl) hy2 hb2).mono ?_
  rintro e w2 ⟨rfl, hb⟩
  clear a0 a1 a2 a3 a4 a5 a6 a7 z0 z1 z2
  have hb0 := ((Below.refl _ w1).alloc (Nat.le_refl _) _).trans (hb.mono (by simp))
  have HB2 := lhid (HB1.out.trans (hb0.mono HB1.out.size))
  have HE2 := lhid (HE1.out.below hb0 HE1.out.lt)
  have HP2 := lhid (HP1.out.below hb0 (heap_lt HP1.out))
  have HC2 := lhid (HC1.out.below hb0 (heap_lt HC1.out))
  have z0 := HE2.out.lt
  have z1 := heap_lt HP2.out
  have z2 := heap_lt HC2.out
  clear hb hb0
  obtain ⟨a0, a1, a2, a3, a4, a5, a6, a7⟩ := HE2.out.cells
  go_wp2_with fail
  with_reducible refine (of_f g l n x.b 1 1 y3 false _ ((below_rows HH.out HB2.out).alloc _) hn hz (by decide) (lhid rfl) hy3 hb3).mono ?_
  rintro e w3 ⟨rfl, hb⟩
  clear a0 a1 a2 a3 a4 a5 a6 a7 z0 z1 z2
  have hb0 := ((Below.refl _ w2).alloc (Nat.le_refl _) _).trans (hb.mono (by simp))
  have HB3 := lhid (HB2.out.trans (hb0.mono HB2.out.size))
  have HE3 := lhid (HE2.out.below hb0 HE2.out.lt)
  have HP3 := lhid (HP2.out.below hb0 (heap_lt HP2.out))
  have HC3 := lhid (HC2.out.below hb0 (heap_lt HC2.out))
  have z0 := HE3.out.lt
  have z1 := heap_lt HP3.out
  have z2 := heap_lt HC3.out
  clear hb hb0
  obtain ⟨a0, a1, a2, a3, a4, a5, a6, a7⟩ := HE3.out.cells
  go_wp2_with fail
  with_reducible refine (of_f g l n x.d 1 1 y4 b4 _ ((below_rows HH.out HB3.out).alloc _) hn hz (by decide) (lhid rfl) hy4 hb4).mono ?_
  rintro e w4 ⟨rfl, hb⟩
  clear a0 a1 a2 a3 a4 a5 a6 a7 z0 z1 z2
  have hb0 := ((Below.refl _ w3).alloc (Nat.le_refl _) _).trans (hb.mono (by simp))
  have HB4 := lhid (HB3.out.trans (hb0.mono HB3.out.size))
  have HE4 := lhid (HE3.out.below hb0 HE3.out.lt)
  have HP4 := lhid (HP3.out.below hb0 (heap_lt HP3.out))
  have HC4 := lhid (HC3.out.below hb0 (heap_lt HC3.out))
  have z0 := HE4.out.lt
  have z1 := heap_lt HP4.out
  have z2 := heap_lt HC4.out
  clear hb hb0
  obtain ⟨a0, a1, a2, a3, a4, a5, a6, a7⟩ := HE4.out.cells
  obtain ⟨p0, p1, p2, p3, p4⟩ := HP4.out.cells
  have fp := HP4.out.thaw
  obtain ⟨c0, c1, c2, c3, c4⟩ := HC4.out.cells
  have fc := HC4.out.thaw
  go_wp2_with fail
  refine bodyPost_ret (v := .tuple #[.agg #[.int .i64 0, .int .i64 0, .string ⟨#[]⟩, .string ⟨#[]⟩, .string ⟨#[]⟩], .int .i64 12]) (by simp [results, Tryz.results72, go_sem, p0, p1, p2, p3, p4, z1]) rfl ?_
  rw [HP.out]
  refine ⟨rfl, ?_⟩
  have q1 : w.heap.size ≤ w.heap.size + 1 := Nat.le_succ _
  have q2 : w.heap.size ≤ w.heap.size + 1 + 1 := Nat.le_add_right _ 2
  repeat (first | with_reducible refine below_set ?_ q1 _ _ | with_reducible refine below_set ?_ q2 _ _ | with_reducible refine below_new ?_ (Nat.le_refl _) _)
  exact HB4.out
set_option maxHeartbeats 8000000 in
set_option maxRecDepth 100000 in
theorem filled_mem_f4 (g : Nat) (l : List Ent) (n : Nat) (x : Ent) (w : World) (h : RowsAt w g 126 8 (l.map entV)) (hn : Hid (l.length = n)) (hz : Hid (ZeroL l)) (y1 y2 y3 y4 : Ent)  (hy1 : Hid ((entAt l x.a 7).getD Ent.zero = y1)) (hb1 : Hid ((entAt l x.a 7).isSome = true)) (hy2 : Hid ((entAt l y1.a 1).getD Ent.zero = y2)) (hb2 : Hid ((entAt l y1.a 1).isSome = true)) (hy3 : Hid ((entAt l x.b 1).getD Ent.zero = y3)) (hb3 : Hid ((entAt l x.b 1).isSome = true)) (hy4 : Hid ((entAt l x.d 1).getD Ent.zero = y4)) (hb4 : Hid ((entAt l x.d 1).isSome = false)) (hk : Hid (9 ≤ x.kind)) (HP : Hid (resOne l x = (12, Con.zero))) :
    Calls Tryz.prog 72 #[.slice (some ⟨g, 0, none⟩) n n, .agg #[.int .i64 x.kind, .int .i64 x.num, .string (tx x.text), .string ⟨#[]⟩, .string ⟨#[]⟩, .int .i64 x.a, .int .i64 x.b, .int .i64 x.d]] w (ResOut (resOne l x) w) := by
  have t0 : ¬ (x.kind : Int) < 7 := by have := hk.out; omega
  have t9 : ¬ (x.kind : Int) < 9 := by have := hk.out; omega
  have HH := lhid h
  have hsz := h.lt
  clear h
  go_enter Tryz.func72, Tryz.ntmps72
  go_wp2_with fail
  with_reducible refine (of_f g l n x.a 7 7 y1 true _ (((HH.out.alloc _).alloc _).alloc _) hn hz (by decide) (lhid rfl) hy1 hb1).mono ?_
  rintro e w1 ⟨rfl, hb⟩
  have HB1 := lhid ((below3 w _ _ _).trans (hb.mono (by rw [size3]; omega)))
  have HE1 := lhid (EntAt.below (x := x) (new3_0 w _ _ _) hb (by rw [size3]; omega))
  have HP1 := lhid (ConAt.below (x := Con.zero) (new3_1 w _ _ _) hb (by rw [size3]; omega))
  have HC1 := lhid (ConAt.below (x := ⟨x.kind, x.num, x.text, [], []⟩) (new3_2 w _ _ _) hb (by rw [size3]; omega))
  have z0 := HE1.out.lt
  have z1 := heap_lt HP1.out
  have z2 := heap_lt HC1.out
  clear hb
  obtain ⟨a0, a1, a2, a3, a4, a5, a6, a7⟩ := HE1.out.cells
  go_wp2_with fail
  with_reducible refine (of_f g l n y1.a 1 1 y2 true _ ((below_rows HH.out HB1.out).alloc _) hn hz (by decide) (lhid rfl) hy2 hb2).mono ?_
  rintro e w2 ⟨rfl, hb⟩
  clear a0 a1 a2 a3 a4 a5 a6 a7 z0 z1 z2
  have hb0 := ((Below.refl _ w1).alloc (Nat.le_refl _) _).trans (hb.mono (by simp))
  have HB2 := lhid (HB1.out.trans (hb0.mono HB1.out.size))
  have HE2 := lhid (HE1.out.below hb0 HE1.out.lt)
  have HP2 := lhid (HP1.out.below hb0 (heap_lt HP1.out))
  have HC2 := lhid (HC1.out.below hb0 (heap_lt HC1.out))
  have z0 := HE2.out.lt
  have z1 := heap_lt HP2.out
  have z2 := heap_lt HC2.out
  clear hb hb0
  obtain ⟨a0, a1, a2, a3, a4, a5, a6, a7⟩ := HE2.out.cells
  go_wp2_with fail
  with_reducible refine (of_f g l n x.b 1 1 y3 true _ ((below_rows HH.out HB2.out).alloc _) hn hz (by decide) (lhid rfl) hy3 hb3).mono ?_
  rintro e w3 ⟨rfl, hb⟩
  clear a0 a1 a2 a3 a4 a5 a6 a7 z0 z1 z2
  have hb0 := ((Below.refl _ w2).alloc (Nat.le_refl _) _).trans (hb.mono (by simp))
  have HB3 := lhid (HB2.out.trans (hb0.mono HB2.out.size))
  have HE3 := lhid (HE2.out.below hb0 HE2.out.lt)
  have HP3 := lhid (HP2.out.below hb0 (heap_lt HP2.out))
  have HC3 := lhid (HC2.out.below hb0 (heap_lt HC2.out))
  have z0 := HE3.out.lt
  have z1 := heap_lt HP3.out
  have z2 := heap_lt HC3.out
  clear hb hb0
  obtain ⟨a0, a1, a2, a3, a4, a5, a6, a7⟩ := HE3.out.cells
  go_wp2_with fail
  with_reducible refine (of_f g l n x.d 1 1 y4 false _ ((below_rows HH.out HB3.out).alloc _) hn hz (by decide) (lhid rfl) hy4 hb4).mono ?_
  rintro e w4 ⟨rfl, hb⟩
  clear a0 a1 a2 a3 a4 a5 a6 a7 z0 z1 z2
  have hb0 := ((Below.refl _ w3).alloc (Nat.le_refl _) _).trans (hb.mono (by simp))
  have HB4 := lhid (HB3.out.trans (hb0.mono HB3.out.size))
  have HE4 := lhid (HE3.out.below hb0 HE3.out.lt)
  have HP4 := lhid (HP3.out.below hb0 (heap_lt HP3.out))
  have HC4 := lhid (HC3.out.below hb0 (heap_lt HC3.out))
  have z0 := HE4.out.lt
  have z1 := heap_lt HP4.out
  have z2 := heap_lt HC4.out
  clear hb hb0
  obtain ⟨a0, a1, a2, a3, a4, a5, a6, a7⟩ := HE4.out.cells
  obtain ⟨p0, p1, p2, p3, p4⟩ := HP4.out.cells
  have fp := HP4.out.thaw
  obtain ⟨c0, c1, c2, c3, c4⟩ := HC4.out.cells
  have fc := HC4.out.thaw
  go_wp2_with fail
  refine bodyPost_ret (v := .tuple #[.agg #[.int .i64 0, .int .i64 0, .string ⟨#[]⟩, .string ⟨#[]⟩, .string ⟨#[]⟩], .int .i64 12]) (by simp [results, Tryz.results72, go_sem, p0, p1, p2, p3, p4, z1]) rfl ?_
  rw [HP.out]
  refine ⟨rfl, ?_⟩
  have q1 : w.heap.size ≤ w.heap.size + 1 := Nat.le_succ _
  have q2 : w.heap.size ≤ w.heap.size + 1 + 1 := Nat.le_add_right _ 2
  repeat (first | with_reducible refine below_set ?_ q1 _ _ | with_reducible refine below_set ?_ q2 _ _ | with_reducible refine below_new ?_ (Nat.le_refl _) _)
  exact HB4.out
end Go.Proofs.YtdlmadckpcnkoaaGreat
