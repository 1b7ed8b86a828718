/- A copy that is written over: what stays. No walk in this text. -/
import Derived.Test.YthaijdcgmcfpiaaInsCopy
namespace Go.Proofs.Ythaijdcgmcfpiaa
open Go.RowKit Go
set_option linter.unusedVariables false
set_option linter.unusedSimpArgs false

/-- A store leaves every block's type and size. -/
theorem heap_any {w : World} {k : Nat} {cur : Array Value} {T : TypeId} {fz : Nat × Nat} (h : w.heap[k]? = some (.cells cur T fz)) (g j : Nat) (x : Value) : ∃ cur', (w.setCell ⟨g, j, none⟩ x).heap[k]? = some (.cells cur' T fz) ∧ cur'.size = cur.size ∧ ∀ i, (k = g → i ≠ j) → cur'[i]? = cur[i]? := by
  by_cases e : k = g
  · subst e
    exact ⟨cur.setIfInBounds j x, heap_set h x, by simp, fun i hi => Array.getElem?_setIfInBounds_ne (fun e => hi rfl e.symm)⟩
  · exact ⟨cur, (Below.heap_setCell _ _ _ _ e).trans h, rfl, fun _ _ => rfl⟩
def NumSh (B1 B2 : Nat) (w : World) (v : Value) (m : Nat) : Prop := ∃ A c, v = .slice A m c ∧ (0 < m → ∃ g cur, A = some ⟨g, 0, none⟩ ∧ B1 ≤ g ∧ g < B2 ∧ w.heap[g]? = some (.cells cur 3 (0, 0)) ∧ m ≤ cur.size ∧ m ≤ maxLen)
def RowSh (B1 B2 : Nat) (w : World) (v : Value) (m : Nat) : Prop := ∃ A c, v = .slice A m c ∧ (0 < m → ∃ g cur, A = some ⟨g, 0, none⟩ ∧ B1 ≤ g ∧ g < B2 ∧ w.heap[g]? = some (.cells cur 45 (0, 0)) ∧ m * 4 ≤ cur.size)
def CodeSh (B1 B2 : Nat) (w : World) (v : Value) (n : Nat) : Prop := ∃ A c, v = .slice A n c ∧ (0 < n → ∃ g cur, A = some ⟨g, 0, none⟩ ∧ B1 ≤ g ∧ g < B2 ∧ w.heap[g]? = some (.cells cur 24 (0, 0)) ∧ n * 9 ≤ cur.size ∧ ∀ i, i < n → ∃ u m, cur[i * 9 + 8]? = some u ∧ NumSh B1 B2 w u m)
theorem NumSh.set {B1 B2 : Nat} {w : World} {v : Value} {m : Nat} (h : NumSh B1 B2 w v m) (g j : Nat) (x : Value) : NumSh B1 B2 (w.setCell ⟨g, j, none⟩ x) v m := by
  obtain ⟨A, c, h1, h2⟩ := h
  refine ⟨A, c, h1, fun hm => ?_⟩
  obtain ⟨g', cur, h3, h4, h5, h6, h7, h7'⟩ := h2 hm
  obtain ⟨cur', h8, h9, _⟩ := heap_any h6 g j x
  exact ⟨g', cur', h3, h4, h5, h8, by omega, h7'⟩
theorem RowSh.set {B1 B2 : Nat} {w : World} {v : Value} {m : Nat} (h : RowSh B1 B2 w v m) (g j : Nat) (x : Value) : RowSh B1 B2 (w.setCell ⟨g, j, none⟩ x) v m := by
  obtain ⟨A, c, h1, h2⟩ := h
  refine ⟨A, c, h1, fun hm => ?_⟩
  obtain ⟨g', cur, h3, h4, h5, h6, h7⟩ := h2 hm
  obtain ⟨cur', h8, h9, _⟩ := heap_any h6 g j x
  exact ⟨g', cur', h3, h4, h5, h8, by omega⟩
/-- A store into no instruction's Args. -/
def Spares (w : World) (g j : Nat) : Prop := j % 9 ≠ 8 ∨ ∃ cur T fz, w.heap[g]? = some (.cells cur T fz) ∧ T ≠ 24
theorem CodeSh.set {B1 B2 : Nat} {w : World} {v : Value} {n : Nat} (h : CodeSh B1 B2 w v n) (g j : Nat) (x : Value) (hs : Spares w g j) : CodeSh B1 B2 (w.setCell ⟨g, j, none⟩ x) v n := by
  obtain ⟨A, c, h1, h2⟩ := h
  refine ⟨A, c, h1, fun hm => ?_⟩
  obtain ⟨g', cur, h3, h4, h5, h6, h7, h8⟩ := h2 hm
  obtain ⟨cur', h9, h10, h11⟩ := heap_any h6 g j x
  refine ⟨g', cur', h3, h4, h5, h9, by omega, fun i hi => ?_⟩
  obtain ⟨u, m, h12, h13⟩ := h8 i hi
  refine ⟨u, m, (h11 _ fun e => ?_).trans h12, h13.set g j x⟩
  rcases hs with hs | ⟨cur2, T, fz, h14, h15⟩
  · intro e2
    rw [← e2] at hs
    omega
  · rw [e, h14] at h6
    injection h6 with h6
    injection h6 with _ h6
    exact absurd h6 h15
/-- The worlds in which the copy's lists are written over: w7 is the one ahead of it. -/
structure MuS (B0 B1 B2 : Nat) (w w7 : World) (ga gb gd ge : Value) (na nb nd ne : Nat) (wr : World) : Prop where
  below : Below B0 w wr
  keep : ∀ b, (b < B1 ∨ B2 ≤ b) → b < w7.heap.size → wr.heap[b]? = w7.heap[b]?
  a : NumSh B1 B2 wr ga na
  b : NumSh B1 B2 wr gb nb
  d : CodeSh B1 B2 wr gd nd
  e : RowSh B1 B2 wr ge ne
theorem MuS.set {B0 B1 B2 : Nat} {w w7 : World} {ga gb gd ge : Value} {na nb nd ne : Nat} {wr : World} (h : MuS B0 B1 B2 w w7 ga gb gd ge na nb nd ne wr) (g j : Nat) (x : Value) (hB : B0 ≤ B1) (h1 : B1 ≤ g) (h2 : g < B2) (hs : Spares wr g j) : MuS B0 B1 B2 w w7 ga gb gd ge na nb nd ne (wr.setCell ⟨g, j, none⟩ x) :=
  ⟨h.below.setCell (by show B0 ≤ g; omega) _, fun b hb hl => (Below.heap_setCell _ _ _ _ (by show b ≠ g; omega)).trans (h.keep b hb hl), h.a.set g j x, h.b.set g j x, h.d.set g j x hs, h.e.set g j x⟩
theorem MuS.drew {B0 B1 B2 : Nat} {w w7 : World} {ga gb gd ge : Value} {na nb nd ne : Nat} {wr : World} (h : MuS B0 B1 B2 w w7 ga gb gd ge na nb nd ne wr) : MuS B0 B1 B2 w w7 ga gb gd ge na nb nd ne wr.drew :=
  ⟨Below.drew' h.below, h.keep, h.a, h.b, h.d, h.e⟩
theorem MuS.num {B1 B2 : Nat} {wr : World} {A : Option Addr} {m c k : Nat} (h : NumSh B1 B2 wr (.slice A m c) m) (hk : k < m) : ∃ g, A = some ⟨g, 0, none⟩ ∧ B1 ≤ g ∧ g < B2 ∧ (∃ u, wr.cell? ⟨g, k, none⟩ = some u) ∧ wr.frozen? ⟨g, k, none⟩ = false ∧ Spares wr g k ∧ m ≤ maxLen := by
  obtain ⟨A', c', h1, h2⟩ := h
  injection h1 with e1 _ _
  subst e1
  obtain ⟨g, cur, h3, h4, h5, h6, h7, h7'⟩ := h2 (by omega)
  exact ⟨g, h3, h4, h5, ⟨_, heap_cell h6 (Array.getElem?_eq_getElem (by omega))⟩, heap_thaw h6 _, .inr ⟨cur, _, _, h6, by decide⟩, h7'⟩
theorem MuS.row {B1 B2 : Nat} {wr : World} {A : Option Addr} {m c k : Nat} (h : RowSh B1 B2 wr (.slice A m c) m) (hk : k < m) : ∃ g, A = some ⟨g, 0, none⟩ ∧ B1 ≤ g ∧ g < B2 ∧ (∃ u, wr.cell? ⟨g, k * 4 + 2, none⟩ = some u) ∧ wr.frozen? ⟨g, k * 4 + 2, none⟩ = false ∧ Spares wr g (k * 4 + 2) := by
  obtain ⟨A', c', h1, h2⟩ := h
  injection h1 with e1 _ _
  subst e1
  obtain ⟨g, cur, h3, h4, h5, h6, h7⟩ := h2 (by omega)
  exact ⟨g, h3, h4, h5, ⟨_, heap_cell h6 (Array.getElem?_eq_getElem (by omega))⟩, heap_thaw h6 _, .inr ⟨cur, _, _, h6, by decide⟩⟩
theorem MuS.code {B1 B2 : Nat} {wr : World} {A : Option Addr} {n c k : Nat} (h : CodeSh B1 B2 wr (.slice A n c) n) (hk : k < n) : ∃ g u m, A = some ⟨g, 0, none⟩ ∧ B1 ≤ g ∧ g < B2 ∧ (∃ u, wr.cell? ⟨g, k * 9, none⟩ = some u) ∧ (∃ u, wr.cell? ⟨g, k * 9 + 5, none⟩ = some u) ∧ wr.cell? ⟨g, k * 9 + 8, none⟩ = some u ∧ NumSh B1 B2 wr u m ∧ (∀ j, wr.frozen? ⟨g, j, none⟩ = false) ∧ Spares wr g (k * 9) ∧ (∀ x, Spares (wr.setCell ⟨g, k * 9, none⟩ x) g (k * 9 + 5)) ∧ Spares wr g (k * 9 + 5) ∧ ∀ x, Spares (wr.setCell ⟨g, k * 9 + 5, none⟩ x) g (k * 9) := by
  obtain ⟨A', c', h1, h2⟩ := h
  injection h1 with e1 _ _
  subst e1
  obtain ⟨g, cur, h3, h4, h5, h6, h7, h8⟩ := h2 (by omega)
  obtain ⟨u, m, h9, h10⟩ := h8 k hk
  have hlt := (Array.getElem?_eq_some_iff.1 h9).1
  exact ⟨g, u, m, h3, h4, h5, ⟨_, heap_cell h6 (Array.getElem?_eq_getElem (i := k * 9) (by omega))⟩, ⟨_, heap_cell h6 (Array.getElem?_eq_getElem (i := k * 9 + 5) (by omega))⟩, heap_cell h6 h9, h10, fun j => heap_thaw h6 j, .inl (by omega), fun _ => .inl (by omega), .inl (by omega), fun _ => .inl (by omega)⟩
/-- A copy's lists, ahead of it. -/
theorem num_of {B1 B2 : Nat} {w : World} {v : Value} {l : List Int} (h : OwN w B1 v l) (hb : w.heap.size ≤ B2) : NumSh B1 B2 w v l.length := by
  obtain ⟨A, c, hv⟩ := own_shape h
  refine ⟨A, c, hv, fun hm => ?_⟩
  rcases h.2 with ⟨_, h2⟩ | ⟨g, cap, cur, h1, h3, h4, h5, h6, h7, h8⟩
  · omega
  · rw [hv] at h1
    injection h1 with e1 _ _
    have hl := heap_lt h4
    exact ⟨g, cur, e1, h3, by omega, h4, by omega, by omega⟩
theorem NumSh.grow {B1 B2 : Nat} {w w' : World} {v : Value} {m : Nat} (h : NumSh B1 B2 w v m) (hb : Below w.heap.size w w') : NumSh B1 B2 w' v m := by
  obtain ⟨A, c, h1, h2⟩ := h
  refine ⟨A, c, h1, fun hm => ?_⟩
  obtain ⟨g', cur, h3, h4, h5, h6, h7⟩ := h2 hm
  exact ⟨g', cur, h3, h4, h5, heap_keep h6 hb, h7⟩
theorem MuS.start {B0 B1 B2 : Nat} {w w2 w7 : World} {f : FuI} {ga gb gd ge : Value} (h : CpV B1 w2 f ga gb gd ge) (h2 : w2.heap.size = B2) (h7 : Below w2.heap.size w2 w7) (hb : Below B0 w w7) : MuS B0 B1 B2 w w7 ga gb gd ge f.regs.length f.params.length f.code.length f.rows.length w7 := by
  refine ⟨hb, fun _ _ _ => rfl, (num_of h.a (by omega)).grow h7, (num_of h.b (by omega)).grow h7, ?_, ?_⟩
  · rcases h.d with ⟨h3, h4⟩ | ⟨g, cap, h3, h4, h5, h6, cur, h8, h9⟩
    · exact ⟨none, 0, by rw [h3, h4]; rfl, fun hm => absurd hm (by rw [h4]; decide)⟩
    · have hl := heap_lt h8
      refine ⟨some ⟨g, 0, none⟩, cap, h3, fun hm => ⟨g, cur, rfl, h4, by omega, heap_keep h8 h7, ?_, fun i hi => ?_⟩⟩
      · obtain ⟨v, h10, _, _⟩ := h9 (f.code.length - 1) _ (List.getElem?_eq_getElem (by omega))
        have := (Array.getElem?_eq_some_iff.1 (h10 8 v rfl)).1
        omega
      · obtain ⟨v, h10, h11, _⟩ := h9 i _ (List.getElem?_eq_getElem hi)
        exact ⟨v, _, h10 8 v rfl, (num_of (h11 hi) (by omega)).grow h7⟩
  · obtain ⟨xs, h3, h4⟩ := h.e
    obtain ⟨A, c, hv⟩ := own_shape h3
    refine ⟨A, c, hv, fun hm => ?_⟩
    rcases h3.2 with ⟨_, h5⟩ | ⟨g, cap, cur, h1, h5, h6, h8, h9, h10, h11⟩
    · omega
    · rw [hv] at h1
      injection h1 with e1 _ _
      have hl := heap_lt h6
      exact ⟨g, cur, e1, h5, by omega, heap_keep h6 h7, by omega⟩
end Go.Proofs.Ythaijdcgmcfpiaa
