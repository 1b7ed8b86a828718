/- Texts of this claim, joined: CdDec, CdMem. -/
import Derived.Test.YtpdnonlelocfbaaGreatDoorM7
/- Code taken apart, in plain words. No program in this text. -/
namespace Go.Proofs.YtpdnonlelocfbaaGreatDoor.Cd
open Go.RowKit Go
set_option linter.unusedVariables false

/-- A byte of code, as a number. -/
def bN (L : Bs) (k : Nat) : Nat := (L.getD k 0).toNat
theorem bN_lt (L : Bs) (k : Nat) : bN L k < 256 := UInt8.toNat_lt _
def sg8 (n : Nat) : Int := if 128 ≤ n then (n : Int) - 256 else n
def sg16 (n : Nat) : Int := if 32768 ≤ n then (n : Int) - 65536 else n
def two (L : Bs) (k : Nat) : Nat := 256 * bN L (k + 1) + bN L (k + 2)
theorem two_lt (L : Bs) (k : Nat) : two L k < 65536 := by
  have h1 := bN_lt L (k + 1)
  have h2 := bN_lt L (k + 2)
  unfold two
  omega
/-- An instruction's first number and its second, by the table's row. -/
def opA (r f h : Nat) (k : Nat) : Int :=
  match r with
  | 2 => f
  | 3 => sg8 f
  | 4 => sg16 h
  | 5 => h
  | 6 => (k : Int) + sg16 h
  | 7 => f
  | _ => 0
def opB (r s : Nat) : Int := if r = 7 then sg8 s else 0
def opAt (L : Bs) (k : Nat) : Cop := ⟨k, bN L k, opA (rowN (bN L k)) (bN L (k + 1)) (two L k) k, opB (rowN (bN L k)) (bN L (k + 2))⟩
/-- What comes from place k on. -/
def run (L : Bs) : Nat → Nat → Option (List Cop)
  | 0, _ => none
  | f + 1, k => if L.length ≤ k then some [] else if szN (bN L k) = 0 ∨ L.length < k + szN (bN L k) then none else (run L f (k + szN (bN L k))).map (opAt L k :: ·)
def Lead (x : Cop) : Prop := rowN x.code = 6
def Led (D : List Cop) (n : Int) : Prop := ∀ x ∈ D, Lead x → 0 ≤ x.a ∧ x.a < n ∧ ∃ y ∈ D, y.pc = x.a
instance (D : List Cop) (n : Int) : Decidable (Led D n) := by unfold Led Lead; infer_instance
/-- What code comes to: what is wrong, the instructions. -/
def decR (L : Bs) : Int × List Cop :=
  if L.length = 0 then (40, []) else if 4000 < L.length then (2, []) else
    match run L (L.length + 1) 0 with
    | none => (40, [])
    | some D => if Led D L.length then (0, D) else (41, [])

theorem run_end {L : Bs} {f k : Nat} (h : L.length ≤ k) : run L (f + 1) k = some [] := by rw [run, if_pos h]
theorem run_no {L : Bs} {f k : Nat} (h : k < L.length) (h2 : szN (bN L k) = 0 ∨ L.length < k + szN (bN L k)) : run L (f + 1) k = none := by rw [run, if_neg (by omega), if_pos h2]
theorem run_on {L : Bs} {f k : Nat} (h : k < L.length) (h1 : szN (bN L k) ≠ 0) (h2 : k + szN (bN L k) ≤ L.length) : run L (f + 1) k = (run L f (k + szN (bN L k))).map (opAt L k :: ·) := by
  rw [run, if_neg (by omega), if_neg (by omega)]
/-- The loop at place k: the instructions D are taken. -/
structure At (L : Bs) (k : Nat) (D : List Cop) : Prop where
  le : k ≤ L.length
  all : ∃ f, L.length - k < f ∧ run L (L.length + 1) 0 = (run L f k).map (D ++ ·)
  len : D.length ≤ k
  pcs : ∀ x ∈ D, ∃ p : Nat, x = opAt L p ∧ p < k
theorem At.start (L : Bs) : At L 0 [] := ⟨by omega, ⟨L.length + 1, by omega, by cases run L (L.length + 1) 0 <;> simp⟩, by simp, by simp⟩
theorem At.step {L : Bs} {k : Nat} {D : List Cop} (h : At L k D) (h0 : k < L.length) (h1 : szN (bN L k) ≠ 0) (h2 : k + szN (bN L k) ≤ L.length) : At L (k + szN (bN L k)) (D ++ [opAt L k]) := by
  obtain ⟨f, hf, e⟩ := h.all
  cases f with
  | zero => omega
  | succ f =>
    refine ⟨h2, ⟨f, by omega, ?_⟩, by have := h.len; simp; omega, ?_⟩
    · rw [e, run_on h0 h1 h2]
      cases run L f (k + szN (bN L k)) <;> simp
    · intro x hx
      rcases List.mem_append.1 hx with hx | hx
      · obtain ⟨p, h3, h4⟩ := h.pcs x hx
        exact ⟨p, h3, by omega⟩
      · simp at hx
        exact ⟨k, hx, by omega⟩
theorem At.fail {L : Bs} {k : Nat} {D : List Cop} (h : At L k D) (h0 : k < L.length) (h2 : szN (bN L k) = 0 ∨ L.length < k + szN (bN L k)) : run L (L.length + 1) 0 = none := by
  obtain ⟨f, hf, e⟩ := h.all
  cases f with
  | zero => omega
  | succ f => rw [e, run_no h0 h2]; rfl
theorem At.done {L : Bs} {D : List Cop} (h : At L L.length D) : run L (L.length + 1) 0 = some D := by
  obtain ⟨f, hf, e⟩ := h.all
  cases f with
  | zero => omega
  | succ f => rw [e, run_end (by omega)]; simp
theorem decR_nil (L : Bs) (h : L.length = 0) : decR L = (40, []) := by unfold decR; rw [if_pos h]
theorem decR_long (L : Bs) (h : 4000 < L.length) : decR L = (2, []) := by unfold decR; rw [if_neg (by omega), if_pos h]
theorem decR_none (L : Bs) (h0 : L.length ≠ 0) (h1 : L.length ≤ 4000) (h : run L (L.length + 1) 0 = none) : decR L = (40, []) := by unfold decR; rw [if_neg h0, if_neg (by omega), h]
theorem decR_led (L : Bs) (D : List Cop) (h0 : L.length ≠ 0) (h1 : L.length ≤ 4000) (h : run L (L.length + 1) 0 = some D) (h2 : Led D L.length) : decR L = (0, D) := by
  unfold decR
  rw [if_neg h0, if_neg (by omega), h]
  exact if_pos h2
theorem decR_astray (L : Bs) (D : List Cop) (h0 : L.length ≠ 0) (h1 : L.length ≤ 4000) (h : run L (L.length + 1) 0 = some D) (h2 : ¬ Led D L.length) : decR L = (41, []) := by
  unfold decR
  rw [if_neg h0, if_neg (by omega), h]
  exact if_neg h2
end Go.Proofs.YtpdnonlelocfbaaGreatDoor.Cd
/- Memory for package code: lists that grow, marks, what stands. -/
namespace Go.Proofs.YtpdnonlelocfbaaGreatDoor.Cd
open Go.RowKit Go
set_option linter.unusedVariables false

theorem infoOp : (Tryz.prog.info? 187).map (fun i => (i.zero, i.size, i.bytes)) = some (some (.agg #[.int .i64 0, .int .i64 0, .int .i64 0, .int .i64 0]), 4, 32) := by kernel_rfl
theorem infoBy : (Tryz.prog.info? 5).map (fun i => (i.zero, i.size, i.bytes)) = some (some (.int .u8 0), 1, 1) := by kernel_rfl
theorem new_cells (w : World) (l : List Value) (T : TypeId) : ∀ (j : Nat) (u : Value), l[j]? = some u → (w.alloc (.cells l.toArray T)).cell? ((⟨w.heap.size, 0, none⟩ : Addr).add j) = some u := by
  intro j u hu
  have hadd : (⟨w.heap.size, 0, none⟩ : Addr).add j = ⟨w.heap.size, j, none⟩ := by unfold Addr.add; split <;> simp_all
  rw [hadd]
  exact heap_cell (heap_alloc_new w _) (by simpa using hu)
theorem own_lt {w : World} {B e size n : Nat} {v : Value} {xs : List Value} (h : w.ownsRow B e size v n xs) : ∀ k, v.ownBlock = some k → B ≤ k := fun k hk => (h.lt k hk).1
theorem own_shape {w : World} {B e size n : Nat} {v : Value} {xs : List Value} (h : w.ownsRow B e size v n xs) : ∃ A c, v = .slice A n c := by
  rcases h.2 with ⟨rfl, rfl⟩ | ⟨g, cap, cur, rfl, _⟩
  · exact ⟨_, _, rfl⟩
  · exact ⟨_, _, rfl⟩
theorem own_of {w w' : World} {B e size n : Nat} {v : Value} {xs : List Value} (h : w.ownsRow B e size v n xs) (hb : ∀ g, v.ownBlock = some g → w'.heap[g]? = w.heap[g]?) : w'.ownsRow B e size v n xs := by
  refine ⟨h.1, ?_⟩
  rcases h.2 with h2 | ⟨g, cap, cur, rfl, h2, h3, h4⟩
  · exact .inl h2
  · exact .inr ⟨g, cap, cur, rfl, h2, (hb g rfl).trans h3, h4⟩
theorem own_below {w w' : World} {B e size n : Nat} {v : Value} {xs : List Value} (h : w.ownsRow B e size v n xs) (hb : Below w.heap.size w w') : w'.ownsRow B e size v n xs :=
  own_of h fun g hg => hb.block g (h.lt g hg).2
theorem own_set {w : World} {B e size n b : Nat} {v : Value} {xs : List Value} (h : w.ownsRow B e size v n xs) (hb : b < B) (i : Nat) (u : Value) : (w.setCell ⟨b, i, none⟩ u).ownsRow B e size v n xs :=
  own_of h fun g hg => Below.heap_setCell _ _ _ _ (by have := own_lt h g hg; show g ≠ b; omega)
theorem own_base {w : World} {B B' e size n : Nat} {v : Value} {xs : List Value} (h : w.ownsRow B e size v n xs) (hB : B' ≤ B) : w.ownsRow B' e size v n xs := by
  refine ⟨h.1, ?_⟩
  rcases h.2 with h2 | ⟨g, cap, cur, h1, h2, h3⟩
  · exact .inl h2
  · exact .inr ⟨g, cap, cur, h1, Nat.le_trans hB h2, h3⟩
theorem Below.grown {B : Nat} {a w w' : World} {row : Option Nat} (h : Below B a w) (hg : w.grownBy w' row) (hs : B ≤ w.heap.size) (hr : ∀ k, row = some k → B ≤ k) : Below B a w' :=
  h.trans ⟨hg.os, hg.tape, hg.output, hg.size, fun k hk => hg.block k (Nat.lt_of_lt_of_le hk hs) (fun e => by have := hr k e.symm; omega)⟩
theorem rows_at {α : Type} {k : Nat} {E : α → List Value} (hE : ∀ a, (E a).length = k) : ∀ (l : List α) (i : Nat) (a : α) (j : Nat) (u : Value), l[i]? = some a → (E a)[j]? = some u → (l.flatMap E)[i * k + j]? = some u
  | [], i, a, j, u, h, _ => by simp at h
  | b :: l, 0, a, j, u, h, hu => by
    simp at h
    subst h
    rw [List.flatMap_cons, Nat.zero_mul, Nat.zero_add, List.getElem?_append_left (List.getElem?_eq_some_iff.1 hu).1]
    exact hu
  | b :: l, i + 1, a, j, u, h, hu => by
    rw [List.flatMap_cons, List.getElem?_append_right (by rw [hE, Nat.succ_mul]; omega), hE, show (i + 1) * k + j - k = i * k + j by rw [Nat.succ_mul]; omega]
    exact rows_at hE l i a j u (by simpa using h) hu
/-- A list that a call made can be read. -/
theorem rdl_own {α : Type} {k : Nat} {E : α → List Value} (hE : ∀ a, (E a).length = k) {w : World} {B e : Nat} {v : Value} {l : List α} (h : w.ownsRow B e k v l.length (l.flatMap E)) (hl : l.length ≤ 140737488355328) : RdL k E w v l := by
  rcases h.2 with ⟨rfl, h2⟩ | ⟨g, cap, cur, rfl, h2, h3, h4, h5, h6, h7⟩
  · have : l = [] := List.length_eq_zero_iff.1 h2
    subst this
    exact rdl_nil _ _ _ _ _
  · refine ⟨_, cap, rfl, hl, fun i a hi => ⟨g, 0, rfl, fun j u hj => ?_⟩⟩
    refine heap_cell h3 ?_
    have h8 := rows_at hE l i a j u hi hj
    rw [← h7] at h8
    have h9 := List.getElem?_take_of_lt (l := cur.toList) (i := i * k + j) (j := l.length * k) (by
      have := (List.getElem?_eq_some_iff.1 h8).1
      rw [List.length_take] at this
      omega)
    rw [h9] at h8
    rw [Nat.zero_add]
    simpa using h8
theorem copE_len (x : Cop) : (copE x).length = 4 := rfl
theorem bytE_len (x : UInt8) : (bytE x).length = 1 := rfl
abbrev OwO (w : World) (B : Nat) (v : Value) (D : List Cop) : Prop := w.ownsRow B 187 4 v D.length (D.flatMap copE)
abbrev OwB (w : World) (B : Nat) (v : Value) (l : Bs) : Prop := w.ownsRow B 5 1 v l.length (l.flatMap bytE)
/-- Block g holds a mark a place: which of them instructions begin at. -/
def Marks (w : World) (g n : Nat) (P : Nat → Prop) : Prop := ∃ c : Array Value, w.heap[g]? = some (.cells c 4 (0, 0)) ∧ c.size = n ∧ ∀ i, i < n → ∃ b : Bool, c[i]? = some (.bool b) ∧ (b = true ↔ P i)
theorem Marks.lt {w : World} {g n : Nat} {P : Nat → Prop} (h : Marks w g n P) : g < w.heap.size := by
  obtain ⟨c, h1, _⟩ := h
  exact heap_lt h1
theorem Marks.fz {w : World} {g n : Nat} {P : Nat → Prop} (h : Marks w g n P) (i : Nat) : w.frozen? ⟨g, i, none⟩ = false := by
  obtain ⟨c, h1, _⟩ := h
  exact heap_thaw h1 i
theorem Marks.cell {w : World} {g n : Nat} {P : Nat → Prop} (h : Marks w g n P) {i : Nat} (hi : i < n) : ∃ b : Bool, w.cell? ⟨g, i, none⟩ = some (.bool b) ∧ (b = true ↔ P i) := by
  obtain ⟨c, h1, h2, h3⟩ := h
  obtain ⟨b, h4, h5⟩ := h3 i hi
  exact ⟨b, heap_cell h1 h4, h5⟩
theorem Marks.of {w w' : World} {g n : Nat} {P : Nat → Prop} (h : Marks w g n P) (e : w'.heap[g]? = w.heap[g]?) : Marks w' g n P := by
  obtain ⟨c, h1, h2⟩ := h
  exact ⟨c, e.trans h1, h2⟩
theorem Marks.below {w w' : World} {g n : Nat} {P : Nat → Prop} (h : Marks w g n P) (hb : Below w.heap.size w w') : Marks w' g n P := h.of (hb.block g h.lt)
theorem Marks.set {w : World} {g n : Nat} {P Q : Nat → Prop} (h : Marks w g n P) {k : Nat} (hk : k < n) (hQ : ∀ i, Q i ↔ P i ∨ i = k) : Marks (w.setCell ⟨g, k, none⟩ (.bool true)) g n Q := by
  obtain ⟨c, h1, h2, h3⟩ := h
  refine ⟨_, heap_set h1 _, by simpa using h2, fun i hi => ?_⟩
  by_cases e : k = i
  · subst e
    exact ⟨true, by rw [Array.getElem?_setIfInBounds, if_pos rfl, if_pos (by omega)], by simp [hQ]⟩
  · obtain ⟨b, h4, h5⟩ := h3 i hi
    refine ⟨b, by rw [Array.getElem?_setIfInBounds, if_neg e]; exact h4, ?_⟩
    rw [h5, hQ]
    constructor
    · exact .inl
    · rintro (h | h)
      · exact h
      · exact absurd h.symm e
theorem Marks.grown {w w' : World} {g n : Nat} {P : Nat → Prop} {row : Option Nat} (h : Marks w g n P) (hg : w.grownBy w' row) (hr : ∀ k, row = some k → g < k) : Marks w' g n P :=
  h.of (hg.block g h.lt (fun e => by have := hr g e.symm; omega))
theorem made_at (z : Array Value) (n x : Nat) (v : Value) (hx : x < n) (hz : z[x % z.size]? = some v) : (madeCells z n)[x]? = some v := by
  unfold madeCells
  rw [Array.getElem?_map, Array.getElem?_range, if_pos hx]
  simp only [Option.map_some]
  obtain ⟨h1, h2⟩ := Array.getElem?_eq_some_iff.1 hz
  rw [getElem!_pos z _ h1, h2]
theorem Marks.made (w : World) (n : Nat) (z : Array Value) (hz : z = #[.bool false]) (P : Nat → Prop) (hP : ∀ i, ¬ P i) (m : Nat) (hm : m = n) : Marks (w.alloc (.cells (madeCells z m) 4)) w.heap.size n P := by
  subst hz hm
  refine ⟨_, heap_alloc_new w _, by rw [size_madeCells], fun i hi => ⟨false, made_at _ _ _ _ hi ?_, by simp [hP]⟩⟩
  rw [show i % (#[Value.bool false] : Array Value).size = 0 from Nat.mod_one i]
  rfl
end Go.Proofs.YtpdnonlelocfbaaGreatDoor.Cd
