/- Slices of structs: a block of rows, each of k cells. -/
import Derived.Test.YtdlmadckpcnkoaaGreatJPoolMem
import Derived.Laws.IdiomCopy
import Derived.Laws.MakeOwn
namespace Go.Proofs.YtdlmadckpcnkoaaGreat
open Go.RowKit Go
set_option linter.unusedVariables false

def putA (c : Array Value) : Nat → List Value → Array Value
  | _, [] => c
  | o, v :: r => putA (c.setIfInBounds o v) (o + 1) r
theorem putA_size : ∀ (vs : List Value) (o : Nat) (c : Array Value), (putA c o vs).size = c.size
  | [], _, _ => rfl
  | v :: r, o, c => by rw [putA, putA_size]; simp
theorem putA_out : ∀ (vs : List Value) (o : Nat) (c : Array Value) (x : Nat), x < o ∨ o + vs.length ≤ x → (putA c o vs)[x]? = c[x]?
  | [], _, _, _, _ => rfl
  | v :: r, o, c, x, h => by
    have hl : (v :: r).length = r.length + 1 := rfl
    rw [putA, putA_out r (o + 1) _ x (by omega), Array.getElem?_setIfInBounds, if_neg (by omega)]
theorem putA_in : ∀ (vs : List Value) (o : Nat) (c : Array Value) (j : Nat) (v : Value), o + vs.length ≤ c.size → vs[j]? = some v → (putA c o vs)[o + j]? = some v
  | [], _, _, _, _, _, h => by simp at h
  | u :: r, o, c, 0, v, hs, h => by
    have hl : (u :: r).length = r.length + 1 := rfl
    simp at h
    subst h
    rw [putA]
    show (putA (c.setIfInBounds o u) (o + 1) r)[o]? = some u
    rw [putA_out r (o + 1) _ o (by omega), Array.getElem?_setIfInBounds, if_pos rfl, if_pos (by omega)]
  | u :: r, o, c, j + 1, v, hs, h => by
    have hl : (u :: r).length = r.length + 1 := rfl
    rw [putA, show o + (j + 1) = o + 1 + j by omega]
    exact putA_in r (o + 1) _ j v (by simp; omega) (by simpa using h)
theorem heap_setCells {b : Nat} {t : TypeId} {f : Nat × Nat} : ∀ (vs : List Value) (o : Nat) (w : World) (c : Array Value), w.heap[b]? = some (.cells c t f) → (w.setCells b o vs).heap[b]? = some (.cells (putA c o vs) t f)
  | [], _, _, _, h => h
  | v :: r, o, w, c, h => by
    rw [World.setCells, putA]
    exact heap_setCells r (o + 1) _ _ (heap_set h v)
/-- Block g holds these rows, each of k cells. -/
def RowsAt (w : World) (g T k : Nat) (rows : List (List Value)) : Prop :=
  ∃ c : Array Value, w.heap[g]? = some (.cells c T (0, 0)) ∧ c.size = rows.length * k ∧ ∀ (i : Nat) r, rows[i]? = some r → r.length = k ∧ ∀ (j : Nat) v, r[j]? = some v → c[i * k + j]? = some v
theorem RowsAt.lt {w : World} {g T k : Nat} {rows : List (List Value)} (h : RowsAt w g T k rows) : g < w.heap.size := by
  obtain ⟨c, h1, _⟩ := h
  exact heap_lt h1
theorem RowsAt.cell {w : World} {g T k : Nat} {rows : List (List Value)} (h : RowsAt w g T k rows) {i : Nat} {r : List Value} (hr : rows[i]? = some r) {j : Nat} {v : Value} (hv : r[j]? = some v) : w.cell? ⟨g, i * k + j, none⟩ = some v := by
  obtain ⟨c, h1, _, h3⟩ := h
  exact heap_cell h1 ((h3 i r hr).2 j v hv)
theorem RowsAt.fz {w : World} {g T k : Nat} {rows : List (List Value)} (h : RowsAt w g T k rows) (i : Nat) : w.frozen? ⟨g, i, none⟩ = false := by
  obtain ⟨c, h1, _⟩ := h
  exact heap_thaw h1 i
theorem RowsAt.of_block {w w' : World} {g T k : Nat} {rows : List (List Value)} (h : RowsAt w g T k rows) (e : w'.heap[g]? = w.heap[g]?) : RowsAt w' g T k rows := by
  obtain ⟨c, h1, h2⟩ := h
  exact ⟨c, e.trans h1, h2⟩
theorem RowsAt.keep {w w' : World} {g T k R : Nat} {rows : List (List Value)} (h : RowsAt w g T k rows) (ho : Only R w w') (hr : g ≠ R) : RowsAt w' g T k rows := h.of_block (ho.block g h.lt hr)
theorem RowsAt.other {w : World} {g T k : Nat} {rows : List (List Value)} (h : RowsAt w g T k rows) {p : Addr} (hp : g ≠ p.block) (v : Value) : RowsAt (w.setCell p v) g T k rows := h.of_block (Below.heap_setCell _ _ _ _ hp)
theorem RowsAt.alloc {w : World} {g T k : Nat} {rows : List (List Value)} (h : RowsAt w g T k rows) (o : Obj) : RowsAt (w.alloc o) g T k rows := h.of_block (Below.heap_alloc _ _ _ h.lt)
theorem RowsAt.drewN {w : World} {g T k : Nat} {rows : List (List Value)} (h : RowsAt w g T k rows) (n : Nat) : RowsAt (w.drewN n) g T k rows := h
theorem RowsAt.put {w : World} {g T k : Nat} {rows : List (List Value)} (h : RowsAt w g T k rows) (i : Nat) (hi : i < rows.length) (r : List Value) (hr : r.length = k) : RowsAt (w.setCells g (i * k) r) g T k (rows.set i r) := by
  obtain ⟨c, h1, h2, h3⟩ := h
  have hk : i * k + k ≤ rows.length * k := by
    have := Nat.mul_le_mul_right k (Nat.succ_le_of_lt hi)
    rwa [Nat.succ_mul] at this
  refine ⟨_, heap_setCells r (i * k) w c h1, by rw [putA_size, List.length_set]; exact h2, fun i' r' hr' => ?_⟩
  rw [List.getElem?_set] at hr'
  by_cases e : i = i'
  · subst e
    rw [if_pos rfl, if_pos hi] at hr'
    simp at hr'
    subst hr'
    exact ⟨hr, fun j v hv => putA_in _ _ _ _ _ (by omega) hv⟩
  · rw [if_neg e] at hr'
    obtain ⟨hl, hc⟩ := h3 i' r' hr'
    refine ⟨hl, fun j v hv => ?_⟩
    have hj : j < k := by
      have := (List.getElem?_eq_some_iff.1 hv).1
      omega
    rw [putA_out _ _ _ _ ?_]
    · exact hc j v hv
    · rw [hr]
      rcases Nat.lt_or_ge i' i with hlt | hge
      · left
        have := Nat.mul_le_mul_right k (Nat.succ_le_of_lt hlt)
        rw [Nat.succ_mul] at this
        omega
      · right
        have := Nat.mul_le_mul_right k (Nat.succ_le_of_lt (Nat.lt_of_le_of_ne hge e))
        rw [Nat.succ_mul] at this
        omega
theorem made_at (z : Array Value) (n x : Nat) (v : Value) (hx : x < n) (hz : z[x % z.size]? = some v) : (madeCells z n)[x]? = some v := by
  unfold madeCells
  rw [Array.getElem?_map, Array.getElem?_range, if_pos hx]
  simp only [Option.map_some]
  obtain ⟨h1, h2⟩ := Array.getElem?_eq_some_iff.1 hz
  rw [getElem!_pos z _ h1, h2]
theorem RowsAt.made (w : World) (T k n : Nat) (z : Array Value) (r : List Value) (hz : z = r.toArray) (hr : r.length = k) (hk : 0 < k) : RowsAt (w.alloc (.cells (madeCells z (n * k)) T)) w.heap.size T k (List.replicate n r) := by
  subst hz
  refine ⟨_, heap_alloc_new w _, by rw [size_madeCells]; simp, fun i r' hr' => ?_⟩
  rw [List.getElem?_replicate] at hr'
  by_cases hi : i < n
  · rw [if_pos hi] at hr'
    simp at hr'
    subst hr'
    refine ⟨hr, fun j v hv => ?_⟩
    have hj : j < k := by
      have := (List.getElem?_eq_some_iff.1 hv).1
      omega
    apply made_at
    · have := Nat.mul_le_mul_right k (Nat.succ_le_of_lt hi)
      rw [Nat.succ_mul] at this
      omega
    · rw [show r.toArray.size = k by simpa using hr, Nat.mul_comm, Nat.mul_add_mod, Nat.mod_eq_of_lt hj]
      simpa using hv
  · rw [if_neg hi] at hr'
    cases hr'
def conV (x : Con) : List Value := [.int .i64 x.kind, .int .i64 x.num, .string (tx x.text), .string (tx x.name), .string (tx x.desc)]
theorem con_at {w : World} {g T : Nat} {l : List Con} (h : RowsAt w g T 5 (l.map conV)) {i : Nat} {x : Con} (hx : l[i]? = some x) :
    w.cell? ⟨g, i * 5, none⟩ = some (.int .i64 x.kind) ∧ w.cell? ⟨g, i * 5 + 1, none⟩ = some (.int .i64 x.num) ∧ w.cell? ⟨g, i * 5 + 2, none⟩ = some (.string (tx x.text)) ∧ w.cell? ⟨g, i * 5 + 3, none⟩ = some (.string (tx x.name)) ∧ w.cell? ⟨g, i * 5 + 4, none⟩ = some (.string (tx x.desc)) := by
  have hr : (l.map conV)[i]? = some (conV x) := by rw [List.getElem?_map, hx]; rfl
  exact ⟨h.cell hr (j := 0) rfl, h.cell hr (j := 1) rfl, h.cell hr (j := 2) rfl, h.cell hr (j := 3) rfl, h.cell hr (j := 4) rfl⟩
end Go.Proofs.YtdlmadckpcnkoaaGreat
