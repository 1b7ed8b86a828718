/- Memory for package ins: texts, what changes, slices that can be read, instructions, functions. -/
import Derived.Test.YthaijdcgmcfpiaaDescName
import Derived.Below
import Derived.Deep.Draws
import Derived.Deep.OwnRows
import Derived.Laws.AppendOwn
import Derived.Laws.OwnMore
import Derived.Laws.IdiomCopy
import Derived.Laws.IdiomStrings
import Derived.OwnWalk
namespace Go.Proofs.Ythaijdcgmcfpiaa
open Go.RowKit Go
set_option linter.unusedVariables false

theorem lhid {p : Prop} (h : p) : Hid p := h
def tx (l : Bs) : ByteArray := ⟨l.toArray⟩
theorem tx_list (l : Bs) : (tx l).data.toList = l := by simp [tx]
theorem tx_size (l : Bs) : (tx l).size = l.length := by
  show (tx l).data.size = _
  simp [tx]
theorem tx_self (s : ByteArray) : tx s.data.toList = s := by unfold tx; simp
theorem tx_nil : tx [] = ⟨#[]⟩ := rfl
theorem tx_eq (s : ByteArray) (l : Bs) (h : s.data.toList = l) : s = tx l := by rw [← h, tx_self]
theorem tx_toL (l : Bs) : (tx l).toList = l := by rw [Lib.toList_data, tx_list]
theorem tx_inj {a b : Bs} (h : tx a = tx b) : a = b := by rw [← tx_list a, h, tx_list]
theorem tx_nes {a b : Bs} (h : ¬ a = b) : ((tx a).toList == (tx b).toList) = false := by rw [tx_toL, tx_toL, beq_eq_false_iff_ne]; exact h
theorem tx_yes {a b : Bs} (h : a = b) : ((tx a).toList == (tx b).toList) = true := by rw [h]; simp
theorem heap_set {w : World} {R i : Nat} {c : Array Value} {t : TypeId} {f : Nat × Nat} (h : w.heap[R]? = some (.cells c t f)) (v : Value) : (w.setCell ⟨R, i, none⟩ v).heap[R]? = some (.cells (c.setIfInBounds i v) t f) := by
  simp [World.setCell, Array.getElem?_modify, h]
theorem heap_cell {w : World} {R i : Nat} {c : Array Value} {t : TypeId} {f : Nat × Nat} {v : Value} (h : w.heap[R]? = some (.cells c t f)) (hv : c[i]? = some v) : w.cell? ⟨R, i, none⟩ = some v := by
  simp [World.cell?, h, hv]
theorem heap_thaw {w : World} {R : Nat} {c : Array Value} {t : TypeId} (h : w.heap[R]? = some (.cells c t (0, 0))) (i : Nat) : w.frozen? ⟨R, i, none⟩ = false := by
  simp [World.frozen?, h]
theorem heap_lt {w : World} {R : Nat} {o : Obj} (h : w.heap[R]? = some o) : R < w.heap.size := (Array.getElem?_eq_some_iff.1 h).1
theorem cell_lt {w : World} {p : Addr} {u : Value} (h : w.cell? p = some u) : p.block < w.heap.size := by
  unfold World.cell? at h
  cases hb : w.heap[p.block]? with
  | none => rw [hb] at h; simp at h
  | some o => exact (Array.getElem?_eq_some_iff.1 hb).1
theorem cell_heap {w w' : World} {g : Nat} (h : w'.heap[g]? = w.heap[g]?) (j : Nat) : w'.cell? ⟨g, j, none⟩ = w.cell? ⟨g, j, none⟩ := by
  unfold World.cell?
  rw [h]
theorem addr_add (g o j : Nat) : (⟨g, o, none⟩ : Addr).add j = ⟨g, o + j, none⟩ := by unfold Addr.add; split <;> simp_all
theorem Below.drewN' {B : Nat} {a w : World} (h : Below B a w) (n : Nat) : Below B a (w.drewN n) := ⟨h.os, h.tape, h.output, h.size, h.block⟩
theorem Below.drew' {B : Nat} {a w : World} (h : Below B a w) : Below B a w.drew := ⟨h.os, h.tape, h.output, h.size, h.block⟩
theorem Below.grown {B : Nat} {a w w' : World} {row : Option Nat} (h : Below B a w) (hg : w.grownBy w' row) (hs : B ≤ w.heap.size) (hr : ∀ k, row = some k → B ≤ k) : Below B a w' :=
  h.trans ⟨hg.os, hg.tape, hg.output, hg.size, fun k hk => hg.block k (Nat.lt_of_lt_of_le hk hs) (fun e => by have := hr k e.symm; omega)⟩
theorem Below.less {B C : Nat} {a w : World} (h : Below B a w) (hC : C ≤ B) : Below C a w := ⟨h.os, h.tape, h.output, h.size, fun k hk => h.block k (by omega)⟩
/-- Of what was there, only blocks of X have turned. -/
structure Ch (X : Nat → Prop) (w w' : World) : Prop where
  os : w'.os = w.os
  tape : w'.tape = w.tape
  output : w'.output = w.output
  size : w.heap.size ≤ w'.heap.size
  block : ∀ k, k < w.heap.size → ¬ X k → w'.heap[k]? = w.heap[k]?
theorem Ch.refl (X : Nat → Prop) (w : World) : Ch X w w := ⟨rfl, rfl, rfl, Nat.le_refl _, fun _ _ _ => rfl⟩
theorem Ch.trans {X Y : Nat → Prop} {a b c : World} (h : Ch X a b) (k : Ch Y b c) (hY : ∀ i, i < a.heap.size → Y i → X i) : Ch X a c :=
  ⟨k.os.trans h.os, k.tape.trans h.tape, k.output.trans h.output, Nat.le_trans h.size k.size, fun i hi hx => (k.block i (Nat.lt_of_lt_of_le hi h.size) (fun hy => hx (hY i hi hy))).trans (h.block i hi hx)⟩
theorem Ch.mono {X Y : Nat → Prop} {a b : World} (h : Ch X a b) (hY : ∀ i, i < a.heap.size → X i → Y i) : Ch Y a b := ⟨h.os, h.tape, h.output, h.size, fun i hi hy => h.block i hi (fun hx => hy (hY i hi hx))⟩
theorem Ch.drew {X : Nat → Prop} {a w : World} (h : Ch X a w) : Ch X a w.drew := ⟨h.os, h.tape, h.output, h.size, h.block⟩
theorem Ch.drewN {X : Nat → Prop} {a w : World} (h : Ch X a w) (n : Nat) : Ch X a (w.drewN n) := ⟨h.os, h.tape, h.output, h.size, h.block⟩
theorem Ch.below {X : Nat → Prop} {a w w' : World} (h : Ch X a w) (hb : Below w.heap.size w w') : Ch X a w' :=
  h.trans (Y := fun _ => False) ⟨hb.os, hb.tape, hb.output, hb.size, fun k hk _ => hb.block k hk⟩ (fun _ _ h => h.elim)
theorem Ch.of {X : Nat → Prop} {w w' : World} (hb : Below w.heap.size w w') : Ch X w w' := (Ch.refl X w).below hb
theorem Ch.alloc {X : Nat → Prop} {a w : World} (h : Ch X a w) (o : Obj) : Ch X a (w.alloc o) := h.below ((Below.refl _ _).alloc (Nat.le_refl _) o)
theorem Ch.grown {X : Nat → Prop} {a w w' : World} {row : Option Nat} (h : Ch X a w) (hg : w.grownBy w' row) (hr : ∀ k, row = some k → k < a.heap.size → X k) : Ch X a w' :=
  h.trans (Y := fun k => row = some k) ⟨hg.os, hg.tape, hg.output, hg.size, fun k hk hne => hg.block k hk (fun e => hne e.symm)⟩ (fun i hi e => hr i e hi)
theorem Ch.set {X : Nat → Prop} {a w : World} (h : Ch X a w) {p : Addr} (hp : p.block < a.heap.size → X p.block) (u : Value) : Ch X a (w.setCell p u) :=
  ⟨h.os, h.tape, h.output, by have := h.size; simpa [World.setCell] using this, fun k hk hx => by
    have hne : k ≠ p.block := fun e => hx (by rw [e]; exact hp (by rw [← e]; exact hk))
    rw [Below.heap_setCell _ _ _ _ hne]
    exact h.block k hk hx⟩
theorem Ch.to {X : Nat → Prop} {B : Nat} {a w : World} (h : Ch X a w) (hB : B ≤ a.heap.size) (hX : ∀ k, X k → B ≤ k) : Below B a w := ⟨h.os, h.tape, h.output, h.size, fun k hk => h.block k (by omega) (fun hx => by have := hX k hx; omega)⟩
theorem Ch.keep {X : Nat → Prop} {a w : World} (h : Ch X a w) {k : Nat} {o : Obj} (hk : a.heap[k]? = some o) (hx : ¬ X k) : w.heap[k]? = some o := by
  rw [h.block k (heap_lt hk) hx]
  exact hk
theorem setCells_other {b k : Nat} (hk : k ≠ b) : ∀ (vs : List Value) (o : Nat) (w : World), (w.setCells b o vs).heap[k]? = w.heap[k]?
  | [], _, _ => rfl
  | v :: r, o, w => by
    rw [World.setCells, setCells_other hk r (o + 1) _]
    exact Below.heap_setCell _ _ _ _ hk
theorem setCells_size (b : Nat) : ∀ (vs : List Value) (o : Nat) (w : World), (w.setCells b o vs).heap.size = w.heap.size
  | [], _, _ => rfl
  | v :: r, o, w => by
    rw [World.setCells, setCells_size b r (o + 1) _]
    simp [World.setCell]
theorem setCells_rest (b : Nat) : ∀ (vs : List Value) (o : Nat) (w : World), (w.setCells b o vs).os = w.os ∧ (w.setCells b o vs).tape = w.tape ∧ (w.setCells b o vs).output = w.output
  | [], _, _ => ⟨rfl, rfl, rfl⟩
  | v :: r, o, w => by
    rw [World.setCells]
    exact setCells_rest b r (o + 1) _
theorem Ch.cells {X : Nat → Prop} {a w : World} (h : Ch X a w) {b : Nat} (hp : b < a.heap.size → X b) (o : Nat) (vs : List Value) : Ch X a (w.setCells b o vs) := by
  have hr := setCells_rest b vs o w
  refine ⟨hr.1.trans h.os, hr.2.1.trans h.tape, hr.2.2.trans h.output, by rw [setCells_size]; exact h.size, fun k hk hx => ?_⟩
  have hne : k ≠ b := fun e => hx (by rw [e]; exact hp (by rw [← e]; exact hk))
  rw [setCells_other hne]
  exact h.block k hk hx

theorem new_cells (w : World) (l : List Value) (T : TypeId) : ∀ (j : Nat) (u : Value), l[j]? = some u → (w.alloc (.cells l.toArray T)).cell? ((⟨w.heap.size, 0, none⟩ : Addr).add j) = some u := by
  intro j u hu
  rw [addr_add, Nat.zero_add]
  exact heap_cell (heap_alloc_new w _) (by simpa using hu)
theorem own_lt {w : World} {B e size n : Nat} {v : Value} {xs : List Value} (h : w.ownsRow B e size v n xs) : ∀ k, v.ownBlock = some k → B ≤ k := fun k hk => (h.lt k hk).1
theorem own_shape {w : World} {B e size n : Nat} {v : Value} {xs : List Value} (h : w.ownsRow B e size v n xs) : ∃ A c, v = .slice A n c := by
  rcases h.2 with ⟨rfl, rfl⟩ | ⟨g, cap, cur, rfl, _⟩
  · exact ⟨_, _, rfl⟩
  · exact ⟨_, _, rfl⟩
theorem own_of {w w' : World} {B e size n : Nat} {v : Value} {xs : List Value} (h : w.ownsRow B e size v n xs) (hb : ∀ g, v.ownBlock = some g → w'.heap[g]? = w.heap[g]?) : w'.ownsRow B e size v n xs := by
  refine ⟨h.1, ?_⟩
  rcases h.2 with h2 | ⟨g, cap, cur, rfl, h2, h3, h4⟩
  · exact .inl h2
  · exact .inr ⟨g, cap, cur, rfl, h2, (hb g rfl).trans h3, h4⟩
theorem own_below {w w' : World} {B e size n : Nat} {v : Value} {xs : List Value} (h : w.ownsRow B e size v n xs) (hb : Below w.heap.size w w') : w'.ownsRow B e size v n xs :=
  own_of h fun g hg => hb.block g (h.lt g hg).2
theorem own_ch {X : Nat → Prop} {w w' : World} {B e size n : Nat} {v : Value} {xs : List Value} (h : w.ownsRow B e size v n xs) (hc : Ch X w w') (hX : ∀ g, v.ownBlock = some g → ¬ X g) : w'.ownsRow B e size v n xs :=
  own_of h fun g hg => hc.block g (h.lt g hg).2 (hX g hg)
theorem own_base {w : World} {B B' e size n : Nat} {v : Value} {xs : List Value} (h : w.ownsRow B e size v n xs) (hB : B' ≤ B) : w.ownsRow B' e size v n xs := by
  refine ⟨h.1, ?_⟩
  rcases h.2 with h2 | ⟨g, cap, cur, h1, h2, h3⟩
  · exact .inl h2
  · exact .inr ⟨g, cap, cur, h1, Nat.le_trans hB h2, h3⟩

structure RwI where
  fr : Int
  too : Int
  at_ : Int
  cls : Bs
/-- A slice that can be read: the things of l, in rows of k cells; its block is one of P. -/
def RdX {α : Type} (P : Nat → Prop) (k : Nat) (E : World → α → List Value → Prop) (w : World) (v : Value) (l : List α) : Prop :=
  ∃ A cap, v = .slice A l.length cap ∧ (A = none → cap = 0) ∧ l.length ≤ 140737488355328 ∧ ∀ (i : Nat) (a : α), l[i]? = some a → ∃ g o c, A = some ⟨g, o, none⟩ ∧ P g ∧ E w a c ∧ ∀ (j : Nat) u, c[j]? = some u → w.cell? ⟨g, o + i * k + j, none⟩ = some u
def StE (_ : World) (t : Bs) (c : List Value) : Prop := c = [.string (tx t)]
def ByE (_ : World) (b : UInt8) (c : List Value) : Prop := c = [.int .u8 (b.toNat : Int)]
def RwE (_ : World) (r : RwI) (c : List Value) : Prop := c = [.int .i64 r.fr, .int .i64 r.too, .int .i64 r.at_, .string (tx r.cls)]
/-- What stays where blocks of P stay. -/
def KeptX {α : Type} (P : Nat → Prop) (E : World → α → List Value → Prop) : Prop := ∀ w w' a c, (∀ g, P g → g < w.heap.size → w'.heap[g]? = w.heap[g]?) → E w a c → E w' a c
theorem RdX.kept {α : Type} {P : Nat → Prop} {k : Nat} {E : World → α → List Value → Prop} (hE : KeptX P E) {w w' : World} {v : Value} {l : List α} (h : RdX P k E w v l) (hb : ∀ g, P g → g < w.heap.size → w'.heap[g]? = w.heap[g]?) : RdX P k E w' v l := by
  obtain ⟨A, cap, h1, h0, h2, h3⟩ := h
  refine ⟨A, cap, h1, h0, h2, fun i a hi => ?_⟩
  obtain ⟨g, o, c, h4, hg, h5, h6⟩ := h3 i a hi
  exact ⟨g, o, c, h4, hg, hE _ _ _ _ hb h5, fun j u hj => (cell_heap (hb g hg (cell_lt (h6 j u hj))) _).trans (h6 j u hj)⟩
theorem keptX_pure {α : Type} (P : Nat → Prop) (E : World → α → List Value → Prop) (h : ∀ w w', E w = E w') : KeptX P E := fun w w' a c _ hc => by rw [h w' w]; exact hc
theorem keptX_st (P : Nat → Prop) : KeptX P StE := keptX_pure _ _ fun _ _ => rfl
theorem keptX_by (P : Nat → Prop) : KeptX P ByE := keptX_pure _ _ fun _ _ => rfl
theorem keptX_rw (P : Nat → Prop) : KeptX P RwE := keptX_pure _ _ fun _ _ => rfl
theorem RdX.mono {α : Type} {P Q : Nat → Prop} {k : Nat} {E E' : World → α → List Value → Prop} {w : World} (hE : ∀ a c, E w a c → E' w a c) (hP : ∀ g, P g → g < w.heap.size → Q g) (hk : ∀ a c, E w a c → c ≠ []) {v : Value} {l : List α} (h : RdX P k E w v l) : RdX Q k E' w v l := by
  obtain ⟨A, cap, h1, h0, h2, h3⟩ := h
  refine ⟨A, cap, h1, h0, h2, fun i a hi => ?_⟩
  obtain ⟨g, o, c, h4, hg, h5, h6⟩ := h3 i a hi
  refine ⟨g, o, c, h4, hP g hg ?_, hE _ _ h5, h6⟩
  cases c with
  | nil => exact absurd rfl (hk _ _ h5)
  | cons u r => exact cell_lt (h6 0 u rfl)
theorem st_ne {w : World} (a : Bs) (c : List Value) (h : StE w a c) : c ≠ [] := by rw [h]; simp
theorem by_ne {w : World} (a : UInt8) (c : List Value) (h : ByE w a c) : c ≠ [] := by rw [h]; simp
theorem rw_ne {w : World} (a : RwI) (c : List Value) (h : RwE w a c) : c ≠ [] := by rw [h]; simp
theorem RdX.ch {α : Type} {P X : Nat → Prop} {k : Nat} {E : World → α → List Value → Prop} (hE : KeptX P E) {w w' : World} {v : Value} {l : List α} (h : RdX P k E w v l) (hc : Ch X w w') (hP : ∀ g, P g → ¬ X g) : RdX P k E w' v l :=
  h.kept hE fun g hg hl => hc.block g hl (hP g hg)
theorem RdX.below {α : Type} {P : Nat → Prop} {k : Nat} {E : World → α → List Value → Prop} (hE : KeptX P E) {w w' : World} {v : Value} {l : List α} (h : RdX P k E w v l) (hb : Below w.heap.size w w') : RdX P k E w' v l :=
  h.kept hE fun g _ hl => hb.block g hl
theorem rdX_nil {α : Type} (P : Nat → Prop) (k : Nat) (E : World → α → List Value → Prop) (w : World) (A : Option Addr) (cap : Nat) (h : A = none → cap = 0) : RdX P k E w (.slice A 0 cap) [] := ⟨A, cap, rfl, h, Nat.zero_le _, fun i a h => by simp at h⟩
theorem RdX.shape {α : Type} {P : Nat → Prop} {k : Nat} {E : World → α → List Value → Prop} {w : World} {v : Value} {l : List α} (h : RdX P k E w v l) : ∃ A cap, v = .slice A l.length cap := by
  obtain ⟨A, cap, h1, _⟩ := h
  exact ⟨A, cap, h1⟩
theorem RdX.len {α : Type} {P : Nat → Prop} {k : Nat} {E : World → α → List Value → Prop} {w : World} {v : Value} {l : List α} (h : RdX P k E w v l) : l.length ≤ 140737488355328 := by
  obtain ⟨A, cap, h1, _, h2, _⟩ := h
  exact h2
theorem RdX.at' {α : Type} {P : Nat → Prop} {k : Nat} {E : World → α → List Value → Prop} {w : World} {A : Option Addr} {n cap : Nat} {l : List α} (h : RdX P k E w (.slice A n cap) l) {i : Nat} {a : α} (hi : l[i]? = some a) :
    ∃ g o c, A = some ⟨g, o, none⟩ ∧ P g ∧ E w a c ∧ ∀ (j : Nat) u, c[j]? = some u → w.cell? ⟨g, o + i * k + j, none⟩ = some u := by
  obtain ⟨A', cap', h1, _, _, h3⟩ := h
  injection h1 with e1 _ _
  subst e1
  exact h3 i a hi
/-- The cells xs are the things of l, in rows of k. -/
def RowsE {α : Type} (k : Nat) (E : α → List Value → Prop) (l : List α) (xs : List Value) : Prop := xs.length = l.length * k ∧ ∀ (i : Nat) (a : α), l[i]? = some a → ∃ c, E a c ∧ ∀ (j : Nat) u, c[j]? = some u → xs[i * k + j]? = some u
theorem rowsE_nil {α : Type} (k : Nat) (E : α → List Value → Prop) : RowsE k E [] [] := ⟨by simp, fun i a h => by simp at h⟩
theorem RowsE.app {α : Type} {k : Nat} {E : α → List Value → Prop} {l m : List α} {xs ys : List Value} (h : RowsE k E l xs) (h' : RowsE k E m ys) : RowsE k E (l ++ m) (xs ++ ys) := by
  refine ⟨by rw [List.length_append, List.length_append, h.1, h'.1, Nat.add_mul], fun i a hi => ?_⟩
  rcases Nat.lt_or_ge i l.length with hlt | hge
  · rw [List.getElem?_append_left hlt] at hi
    obtain ⟨c, h1, h2⟩ := h.2 i a hi
    refine ⟨c, h1, fun j u hj => ?_⟩
    have := h2 j u hj
    rw [List.getElem?_append_left (List.getElem?_eq_some_iff.1 this).1]
    exact this
  · rw [List.getElem?_append_right hge] at hi
    obtain ⟨c, h1, h2⟩ := h'.2 _ a hi
    refine ⟨c, h1, fun j u hj => ?_⟩
    have h3 := h2 j u hj
    have h4 : l.length * k ≤ i * k := Nat.mul_le_mul_right _ hge
    rw [List.getElem?_append_right (by rw [h.1]; omega), h.1, show i * k + j - l.length * k = (i - l.length) * k + j by rw [Nat.sub_mul]; omega]
    exact h3
theorem rowsE_one {α : Type} {k : Nat} {E : α → List Value → Prop} {a : α} {c : List Value} (h : E a c) (hk : c.length = k) : RowsE k E [a] c :=
  ⟨by simp [hk], fun i x hi => by
    cases i with
    | succ i => simp at hi
    | zero =>
      simp at hi
      subst hi
      exact ⟨c, h, fun j u hj => by rw [Nat.zero_mul, Nat.zero_add]; exact hj⟩⟩
theorem RowsE.imp {α : Type} {k : Nat} {E E' : α → List Value → Prop} {l : List α} {xs : List Value} (h : RowsE k E l xs) (hE : ∀ a c, E a c → E' a c) : RowsE k E' l xs :=
  ⟨h.1, fun i a hi => by obtain ⟨c, h1, h2⟩ := h.2 i a hi; exact ⟨c, hE _ _ h1, h2⟩⟩
/-- All cells of a slice that can be read, as one list. -/
theorem rows_list {α : Type} {k : Nat} {E : α → List Value → Prop} (hk : ∀ a c, E a c → c.length = k) (C : Nat → Option Value) : ∀ (l : List α) (o : Nat), (∀ (i : Nat) (a : α), l[i]? = some a → ∃ c, E a c ∧ ∀ (j : Nat) u, c[j]? = some u → C (o + i * k + j) = some u) →
    ∃ xs, RowsE k E l xs ∧ ∀ (j : Nat) u, xs[j]? = some u → C (o + j) = some u
  | [], o, _ => ⟨[], rowsE_nil _ _, fun j u h => by simp at h⟩
  | a :: l, o, h => by
    obtain ⟨c, h1, h2⟩ := h 0 a rfl
    obtain ⟨xs, h3, h4⟩ := rows_list hk C l (o + k) (fun i b hi => by
      obtain ⟨c', h5, h6⟩ := h (i + 1) b (by simpa using hi)
      refine ⟨c', h5, fun j u hj => ?_⟩
      have := h6 j u hj
      rw [show o + k + i * k + j = o + (i + 1) * k + j by rw [Nat.succ_mul]; omega]
      exact this)
    have hc := hk _ _ h1
    refine ⟨c ++ xs, (rowsE_one h1 hc).app h3, fun j u hj => ?_⟩
    rcases Nat.lt_or_ge j k with hlt | hge
    · rw [List.getElem?_append_left (by omega)] at hj
      have := h2 j u hj
      rwa [Nat.zero_mul, Nat.add_zero] at this
    · rw [List.getElem?_append_right (by omega), hc] at hj
      have := h4 _ u hj
      rwa [show o + k + (j - k) = o + j by omega] at this
/-- A list that a call made can be read. -/
theorem rdX_own {α : Type} {k : Nat} {E : World → α → List Value → Prop} {w : World} {B e : Nat} {v : Value} {l : List α} {xs : List Value} (h : w.ownsRow B e k v l.length xs) (hl : l.length ≤ 140737488355328) (hr : RowsE k (E w) l xs) : RdX (fun g => B ≤ g ∧ v.ownBlock = some g) k E w v l := by
  rcases h.2 with ⟨rfl, h2⟩ | ⟨g, cap, cur, rfl, h2, h3, h4, h5, h6, h7⟩
  · have : l = [] := List.length_eq_zero_iff.1 h2
    subst this
    exact rdX_nil _ _ _ _ _ _ (fun _ => rfl)
  · refine ⟨_, cap, rfl, fun e => (by cases e), hl, fun i a hi => ?_⟩
    obtain ⟨c, h8, h9⟩ := hr.2 i a hi
    refine ⟨g, 0, c, rfl, ⟨h2, rfl⟩, h8, fun j u hj => ?_⟩
    have := h9 j u hj
    rw [Nat.zero_add]
    refine heap_cell h3 ?_
    rw [← h7] at this
    have h10 := (List.getElem?_eq_some_iff.1 this).1
    rw [List.length_take] at h10
    rw [List.getElem?_take_of_lt (by omega)] at this
    simpa using this
theorem RdX.any {α : Type} {P Q : Nat → Prop} {k : Nat} {E : World → α → List Value → Prop} {w : World} {v : Value} {l : List α} (h : RdX P k E w v l) (hP : ∀ g, P g → Q g) : RdX Q k E w v l := by
  obtain ⟨A, cap, h1, h0, h2, h3⟩ := h
  refine ⟨A, cap, h1, h0, h2, fun i a hi => ?_⟩
  obtain ⟨g, o, c, h4, hg, h5⟩ := h3 i a hi
  exact ⟨g, o, c, h4, hP g hg, h5⟩
theorem RdX.none0 {α : Type} {P : Nat → Prop} {k : Nat} {E : World → α → List Value → Prop} {w : World} {n cap : Nat} {l : List α} (h : RdX P k E w (.slice none n cap) l) : l = [] ∧ n = 0 ∧ cap = 0 := by
  obtain ⟨A, c, h1, h0, h2, h3⟩ := h
  injection h1 with e1 e2 e3
  subst e1
  have : l = [] := by
    cases l with
    | nil => rfl
    | cons a r =>
      obtain ⟨g, o, cc, hA, _⟩ := h3 0 a rfl
      cases hA
  subst this
  exact ⟨rfl, e2, e3.trans (h0 rfl)⟩
/-- An instruction. -/
structure InI where
  op : Int
  dst : Int
  a : Int
  b : Int
  c : Int
  num : Int
  too : Int
  ref : Bs
  args : List Int
/-- A function. -/
structure FuI where
  regs : List Int
  params : List Int
  ret : Int
  code : List InI
  rows : List RwI
def NuE (_ : World) (z : Int) (c : List Value) : Prop := c = [.int .i64 z]
def InE (P : Nat → Prop) (w : World) (x : InI) (c : List Value) : Prop := ∃ v, c = [.int .i64 x.op, .int .i64 x.dst, .int .i64 x.a, .int .i64 x.b, .int .i64 x.c, .int .i64 x.num, .int .i64 x.too, .string (tx x.ref), v] ∧ RdX P 1 NuE w v x.args
def FuE (P : Nat → Prop) (w : World) (f : FuI) (c : List Value) : Prop := ∃ a b d e, c = [a, b, .int .i64 f.ret, d, e] ∧ RdX P 1 NuE w a f.regs ∧ RdX P 1 NuE w b f.params ∧ RdX P 9 (InE P) w d f.code ∧ RdX P 4 RwE w e f.rows
theorem keptX_nu (P : Nat → Prop) : KeptX P NuE := keptX_pure _ _ fun _ _ => rfl
theorem keptX_in (P : Nat → Prop) : KeptX P (InE P) := by
  rintro w w' x c hb ⟨v, rfl, h⟩
  exact ⟨v, rfl, h.kept (keptX_nu P) hb⟩
theorem keptX_fu (P : Nat → Prop) : KeptX P (FuE P) := by
  rintro w w' x c hb ⟨a, b, d, e, rfl, h1, h2, h3, h4⟩
  exact ⟨a, b, d, e, rfl, h1.kept (keptX_nu P) hb, h2.kept (keptX_nu P) hb, h3.kept (keptX_in P) hb, h4.kept (keptX_rw P) hb⟩
theorem nu_ne {w : World} (a : Int) (c : List Value) (h : NuE w a c) : c ≠ [] := by rw [h]; simp
theorem in_ne {P : Nat → Prop} {w : World} (a : InI) (c : List Value) (h : InE P w a c) : c ≠ [] := by obtain ⟨_, rfl, _⟩ := h; simp
theorem inE_mono {P Q : Nat → Prop} {w : World} (hP : ∀ g, P g → g < w.heap.size → Q g) (a : InI) (c : List Value) (h : InE P w a c) : InE Q w a c := by
  obtain ⟨x, rfl, h1⟩ := h
  exact ⟨x, rfl, h1.mono (fun _ _ h => h) hP nu_ne⟩
end Go.Proofs.Ythaijdcgmcfpiaa
