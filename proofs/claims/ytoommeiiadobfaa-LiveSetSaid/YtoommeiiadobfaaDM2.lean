/- Texts of this claim, joined: DInsBase, DInsMath, DInsTab, DInsClone, DInsUses, DInsUsesW, DInsUsesX, DInsRef, DInsRow. -/
import Derived.Test.YtoommeiiadobfaaDM1
import Derived.Below
import Derived.Deep.Draws
import Derived.Deep.OwnRows
import Derived.Laws.AppendOwn
import Derived.Laws.OwnMore
import Derived.Laws.IdiomCopy
import Derived.Laws.IdiomStrings
import Derived.OwnWalk
import Derived.WalkKit
import Derived.ProofKit
import Derived.Laws.AppendOwnNone
import Derived.Deep.Cut
import Derived.Deep.CutBlock
import Derived.KernelRfl
/- Memory for package ins: texts, what changes, slices that can be read, instructions, functions. -/
namespace Go.Proofs.Ytoommeiiadobfaa
open Go.RowKit Go
set_option linter.unusedVariables false
theorem lhid {p : Prop} (h : p) : Hid p := h
def tx (l : Bs) : ByteArray := ⟨l.toArray⟩
theorem tx_list (l : Bs) : (tx l).data.toList = l := by simp [tx]
theorem tx_size (l : Bs) : (tx l).size = l.length := by
 show (tx l).data.size = _
 simp [tx]
theorem tx_nil : tx [] = ⟨#[]⟩ := rfl
theorem tx_toL (l : Bs) : (tx l).toList = l := by rw [Lib.toList_data, tx_list]
theorem heap_set {w : World} {R i : Nat} {c : Array Value} {t : TypeId} {f : Nat × Nat} (h : w.heap[R]? = some (.cells c t f)) (v : Value) : (w.setCell ⟨R, i, none⟩ v).heap[R]? = some (.cells (c.setIfInBounds i v) t f) := by
 simp [World.setCell, Array.getElem?_modify, h]
theorem heap_cell {w : World} {R i : Nat} {c : Array Value} {t : TypeId} {f : Nat × Nat} {v : Value} (h : w.heap[R]? = some (.cells c t f)) (hv : c[i]? = some v) : w.cell? ⟨R, i, none⟩ = some v := by
 simp [World.cell?, h, hv]
theorem heap_thaw {w : World} {R : Nat} {c : Array Value} {t : TypeId} (h : w.heap[R]? = some (.cells c t (0, 0))) (i : Nat) : w.frozen? ⟨R, i, none⟩ = false := by
 simp [World.frozen?, h]
theorem heap_lt {w : World} {R : Nat} {o : Obj} (h : w.heap[R]? = some o) : R < w.heap.size := (Array.getElem?_eq_some_iff.1 h).1
theorem cell_lt {w : World} {p : Addr} {u : Value} (h : w.cell? p = some u) : p.block < w.heap.size := by
 unfold World.cell? at h
 cases hb : w.heap[p.block]? with
 | none => rw [hb] at h; simp at h
 | some o => exact (Array.getElem?_eq_some_iff.1 hb).1
theorem cell_heap {w w' : World} {g : Nat} (h : w'.heap[g]? = w.heap[g]?) (j : Nat) : w'.cell? ⟨g, j, none⟩ = w.cell? ⟨g, j, none⟩ := by
 unfold World.cell?
 rw [h]
theorem addr_add (g o j : Nat) : (⟨g, o, none⟩ : Addr).add j = ⟨g, o + j, none⟩ := by unfold Addr.add; split <;> simp_all
theorem Below.drewN' {B : Nat} {a w : World} (h : Below B a w) (n : Nat) : Below B a (w.drewN n) := ⟨h.os, h.tape, h.output, h.size, h.block⟩
theorem Below.drew' {B : Nat} {a w : World} (h : Below B a w) : Below B a w.drew := ⟨h.os, h.tape, h.output, h.size, h.block⟩
theorem Below.grown {B : Nat} {a w w' : World} {row : Option Nat} (h : Below B a w) (hg : w.grownBy w' row) (hs : B ≤ w.heap.size) (hr : ∀ k, row = some k → B ≤ k) : Below B a w' :=
 h.trans ⟨hg.os, hg.tape, hg.output, hg.size, fun k hk => hg.block k (Nat.lt_of_lt_of_le hk hs) (fun e => by have := hr k e.symm; omega)⟩
theorem Below.less {B C : Nat} {a w : World} (h : Below B a w) (hC : C ≤ B) : Below C a w := ⟨h.os, h.tape, h.output, h.size, fun k hk => h.block k (by omega)⟩
structure Ch (X : Nat → Prop) (w w' : World) : Prop where
 os : w'.os = w.os
 tape : w'.tape = w.tape
 output : w'.output = w.output
 size : w.heap.size ≤ w'.heap.size
 block : ∀ k, k < w.heap.size → ¬ X k → w'.heap[k]? = w.heap[k]?
theorem Ch.refl (X : Nat → Prop) (w : World) : Ch X w w := ⟨rfl, rfl, rfl, Nat.le_refl _, fun _ _ _ => rfl⟩
theorem Ch.trans {X Y : Nat → Prop} {a b c : World} (h : Ch X a b) (k : Ch Y b c) (hY : ∀ i, i < a.heap.size → Y i → X i) : Ch X a c :=
 ⟨k.os.trans h.os, k.tape.trans h.tape, k.output.trans h.output, Nat.le_trans h.size k.size, fun i hi hx => (k.block i (Nat.lt_of_lt_of_le hi h.size) (fun hy => hx (hY i hi hy))).trans (h.block i hi hx)⟩
theorem Ch.mono {X Y : Nat → Prop} {a b : World} (h : Ch X a b) (hY : ∀ i, i < a.heap.size → X i → Y i) : Ch Y a b := ⟨h.os, h.tape, h.output, h.size, fun i hi hy => h.block i hi (fun hx => hy (hY i hi hx))⟩
theorem Ch.drew {X : Nat → Prop} {a w : World} (h : Ch X a w) : Ch X a w.drew := ⟨h.os, h.tape, h.output, h.size, h.block⟩
theorem Ch.drewN {X : Nat → Prop} {a w : World} (h : Ch X a w) (n : Nat) : Ch X a (w.drewN n) := ⟨h.os, h.tape, h.output, h.size, h.block⟩
theorem Ch.below {X : Nat → Prop} {a w w' : World} (h : Ch X a w) (hb : Below w.heap.size w w') : Ch X a w' :=
 h.trans (Y := fun _ => False) ⟨hb.os, hb.tape, hb.output, hb.size, fun k hk _ => hb.block k hk⟩ (fun _ _ h => h.elim)
theorem Ch.of {X : Nat → Prop} {w w' : World} (hb : Below w.heap.size w w') : Ch X w w' := (Ch.refl X w).below hb
theorem Ch.alloc {X : Nat → Prop} {a w : World} (h : Ch X a w) (o : Obj) : Ch X a (w.alloc o) := h.below ((Below.refl _ _).alloc (Nat.le_refl _) o)
theorem Ch.grown {X : Nat → Prop} {a w w' : World} {row : Option Nat} (h : Ch X a w) (hg : w.grownBy w' row) (hr : ∀ k, row = some k → k < a.heap.size → X k) : Ch X a w' :=
 h.trans (Y := fun k => row = some k) ⟨hg.os, hg.tape, hg.output, hg.size, fun k hk hne => hg.block k hk (fun e => hne e.symm)⟩ (fun i hi e => hr i e hi)
theorem Ch.set {X : Nat → Prop} {a w : World} (h : Ch X a w) {p : Addr} (hp : p.block < a.heap.size → X p.block) (u : Value) : Ch X a (w.setCell p u) :=
 ⟨h.os, h.tape, h.output, by have := h.size; simpa [World.setCell] using this, fun k hk hx => by
  have hne : k ≠ p.block := fun e => hx (by rw [e]; exact hp (by rw [← e]; exact hk))
  rw [Below.heap_setCell _ _ _ _ hne]
  exact h.block k hk hx⟩
theorem Ch.to {X : Nat → Prop} {B : Nat} {a w : World} (h : Ch X a w) (hB : B ≤ a.heap.size) (hX : ∀ k, X k → B ≤ k) : Below B a w := ⟨h.os, h.tape, h.output, h.size, fun k hk => h.block k (by omega) (fun hx => by have := hX k hx; omega)⟩
theorem Ch.keep {X : Nat → Prop} {a w : World} (h : Ch X a w) {k : Nat} {o : Obj} (hk : a.heap[k]? = some o) (hx : ¬ X k) : w.heap[k]? = some o := by
 rw [h.block k (heap_lt hk) hx]
 exact hk
theorem setCells_other {b k : Nat} (hk : k ≠ b) : ∀ (vs : List Value) (o : Nat) (w : World), (w.setCells b o vs).heap[k]? = w.heap[k]?
 | [], _, _ => rfl
 | v :: r, o, w => by
  rw [World.setCells, setCells_other hk r (o + 1) _]
  exact Below.heap_setCell _ _ _ _ hk
theorem setCells_size (b : Nat) : ∀ (vs : List Value) (o : Nat) (w : World), (w.setCells b o vs).heap.size = w.heap.size
 | [], _, _ => rfl
 | v :: r, o, w => by
  rw [World.setCells, setCells_size b r (o + 1) _]
  simp [World.setCell]
theorem setCells_rest (b : Nat) : ∀ (vs : List Value) (o : Nat) (w : World), (w.setCells b o vs).os = w.os ∧ (w.setCells b o vs).tape = w.tape ∧ (w.setCells b o vs).output = w.output
 | [], _, _ => ⟨rfl, rfl, rfl⟩
 | v :: r, o, w => by
  rw [World.setCells]
  exact setCells_rest b r (o + 1) _
theorem Ch.cells {X : Nat → Prop} {a w : World} (h : Ch X a w) {b : Nat} (hp : b < a.heap.size → X b) (o : Nat) (vs : List Value) : Ch X a (w.setCells b o vs) := by
 have hr := setCells_rest b vs o w
 refine ⟨hr.1.trans h.os, hr.2.1.trans h.tape, hr.2.2.trans h.output, by rw [setCells_size]; exact h.size, fun k hk hx => ?_⟩
 have hne : k ≠ b := fun e => hx (by rw [e]; exact hp (by rw [← e]; exact hk))
 rw [setCells_other hne]
 exact h.block k hk hx
theorem new_cells (w : World) (l : List Value) (T : TypeId) : ∀ (j : Nat) (u : Value), l[j]? = some u → (w.alloc (.cells l.toArray T)).cell? ((⟨w.heap.size, 0, none⟩ : Addr).add j) = some u := by
 intro j u hu
 rw [addr_add, Nat.zero_add]
 exact heap_cell (heap_alloc_new w _) (by simpa using hu)
theorem own_lt {w : World} {B e size n : Nat} {v : Value} {xs : List Value} (h : w.ownsRow B e size v n xs) : ∀ k, v.ownBlock = some k → B ≤ k := fun k hk => (h.lt k hk).1
theorem own_shape {w : World} {B e size n : Nat} {v : Value} {xs : List Value} (h : w.ownsRow B e size v n xs) : ∃ A c, v = .slice A n c := by
 rcases h.2 with ⟨rfl, rfl⟩ | ⟨g, cap, cur, rfl, _⟩
 ·exact ⟨_, _, rfl⟩
 ·exact ⟨_, _, rfl⟩
theorem own_of {w w' : World} {B e size n : Nat} {v : Value} {xs : List Value} (h : w.ownsRow B e size v n xs) (hb : ∀ g, v.ownBlock = some g → w'.heap[g]? = w.heap[g]?) : w'.ownsRow B e size v n xs := by
 refine ⟨h.1, ?_⟩
 rcases h.2 with h2 | ⟨g, cap, cur, rfl, h2, h3, h4⟩
 ·exact .inl h2
 ·exact .inr ⟨g, cap, cur, rfl, h2, (hb g rfl).trans h3, h4⟩
theorem own_below {w w' : World} {B e size n : Nat} {v : Value} {xs : List Value} (h : w.ownsRow B e size v n xs) (hb : Below w.heap.size w w') : w'.ownsRow B e size v n xs :=
 own_of h fun g hg => hb.block g (h.lt g hg).2
theorem own_ch {X : Nat → Prop} {w w' : World} {B e size n : Nat} {v : Value} {xs : List Value} (h : w.ownsRow B e size v n xs) (hc : Ch X w w') (hX : ∀ g, v.ownBlock = some g → ¬ X g) : w'.ownsRow B e size v n xs :=
 own_of h fun g hg => hc.block g (h.lt g hg).2 (hX g hg)
theorem own_base {w : World} {B B' e size n : Nat} {v : Value} {xs : List Value} (h : w.ownsRow B e size v n xs) (hB : B' ≤ B) : w.ownsRow B' e size v n xs := by
 refine ⟨h.1, ?_⟩
 rcases h.2 with h2 | ⟨g, cap, cur, h1, h2, h3⟩
 ·exact .inl h2
 ·exact .inr ⟨g, cap, cur, h1, Nat.le_trans hB h2, h3⟩
structure RwI where
 fr : Int
 too : Int
 at_ : Int
 cls : Bs
def RdX {α : Type} (P : Nat → Prop) (k : Nat) (E : World → α → List Value → Prop) (w : World) (v : Value) (l : List α) : Prop :=
 ∃ A cap, v = .slice A l.length cap ∧ (A = none → cap = 0) ∧ l.length ≤ 140737488355328 ∧ ∀ (i : Nat) (a : α), l[i]? = some a → ∃ g o c, A = some ⟨g, o, none⟩ ∧ P g ∧ E w a c ∧ ∀ (j : Nat) u, c[j]? = some u → w.cell? ⟨g, o + i * k + j, none⟩ = some u
def RwE (_ : World) (r : RwI) (c : List Value) : Prop := c = [.int .i64 r.fr, .int .i64 r.too, .int .i64 r.at_, .string (tx r.cls)]
def KeptX {α : Type} (P : Nat → Prop) (E : World → α → List Value → Prop) : Prop := ∀ w w' a c, (∀ g, P g → g < w.heap.size → w'.heap[g]? = w.heap[g]?) → E w a c → E w' a c
theorem RdX.kept {α : Type} {P : Nat → Prop} {k : Nat} {E : World → α → List Value → Prop} (hE : KeptX P E) {w w' : World} {v : Value} {l : List α} (h : RdX P k E w v l) (hb : ∀ g, P g → g < w.heap.size → w'.heap[g]? = w.heap[g]?) : RdX P k E w' v l := by
 obtain ⟨A, cap, h1, h0, h2, h3⟩ := h
 refine ⟨A, cap, h1, h0, h2, fun i a hi => ?_⟩
 obtain ⟨g, o, c, h4, hg, h5, h6⟩ := h3 i a hi
 exact ⟨g, o, c, h4, hg, hE _ _ _ _ hb h5, fun j u hj => (cell_heap (hb g hg (cell_lt (h6 j u hj))) _).trans (h6 j u hj)⟩
theorem keptX_pure {α : Type} (P : Nat → Prop) (E : World → α → List Value → Prop) (h : ∀ w w', E w = E w') : KeptX P E := fun w w' a c _ hc => by rw [h w' w]; exact hc
theorem keptX_rw (P : Nat → Prop) : KeptX P RwE := keptX_pure _ _ fun _ _ => rfl
theorem RdX.mono {α : Type} {P Q : Nat → Prop} {k : Nat} {E E' : World → α → List Value → Prop} {w : World} (hE : ∀ a c, E w a c → E' w a c) (hP : ∀ g, P g → g < w.heap.size → Q g) (hk : ∀ a c, E w a c → c ≠ []) {v : Value} {l : List α} (h : RdX P k E w v l) : RdX Q k E' w v l := by
 obtain ⟨A, cap, h1, h0, h2, h3⟩ := h
 refine ⟨A, cap, h1, h0, h2, fun i a hi => ?_⟩
 obtain ⟨g, o, c, h4, hg, h5, h6⟩ := h3 i a hi
 refine ⟨g, o, c, h4, hP g hg ?_, hE _ _ h5, h6⟩
 cases c with
 | nil => exact absurd rfl (hk _ _ h5)
 | cons u r => exact cell_lt (h6 0 u rfl)
theorem rw_ne {w : World} (a : RwI) (c : List Value) (h : RwE w a c) : c ≠ [] := by rw [h]; simp
theorem RdX.ch {α : Type} {P X : Nat → Prop} {k : Nat} {E : World → α → List Value → Prop} (hE : KeptX P E) {w w' : World} {v : Value} {l : List α} (h : RdX P k E w v l) (hc : Ch X w w') (hP : ∀ g, P g → ¬ X g) : RdX P k E w' v l :=
 h.kept hE fun g hg hl => hc.block g hl (hP g hg)
theorem RdX.below {α : Type} {P : Nat → Prop} {k : Nat} {E : World → α → List Value → Prop} (hE : KeptX P E) {w w' : World} {v : Value} {l : List α} (h : RdX P k E w v l) (hb : Below w.heap.size w w') : RdX P k E w' v l :=
 h.kept hE fun g _ hl => hb.block g hl
theorem rdX_nil {α : Type} (P : Nat → Prop) (k : Nat) (E : World → α → List Value → Prop) (w : World) (A : Option Addr) (cap : Nat) (h : A = none → cap = 0) : RdX P k E w (.slice A 0 cap) [] := ⟨A, cap, rfl, h, Nat.zero_le _, fun i a h => by simp at h⟩
theorem RdX.shape {α : Type} {P : Nat → Prop} {k : Nat} {E : World → α → List Value → Prop} {w : World} {v : Value} {l : List α} (h : RdX P k E w v l) : ∃ A cap, v = .slice A l.length cap := by
 obtain ⟨A, cap, h1, _⟩ := h
 exact ⟨A, cap, h1⟩
theorem RdX.len {α : Type} {P : Nat → Prop} {k : Nat} {E : World → α → List Value → Prop} {w : World} {v : Value} {l : List α} (h : RdX P k E w v l) : l.length ≤ 140737488355328 := by
 obtain ⟨A, cap, h1, _, h2, _⟩ := h
 exact h2
theorem RdX.at' {α : Type} {P : Nat → Prop} {k : Nat} {E : World → α → List Value → Prop} {w : World} {A : Option Addr} {n cap : Nat} {l : List α} (h : RdX P k E w (.slice A n cap) l) {i : Nat} {a : α} (hi : l[i]? = some a) :
  ∃ g o c, A = some ⟨g, o, none⟩ ∧ P g ∧ E w a c ∧ ∀ (j : Nat) u, c[j]? = some u → w.cell? ⟨g, o + i * k + j, none⟩ = some u := by
 obtain ⟨A', cap', h1, _, _, h3⟩ := h
 injection h1 with e1 _ _
 subst e1
 exact h3 i a hi
def RowsE {α : Type} (k : Nat) (E : α → List Value → Prop) (l : List α) (xs : List Value) : Prop := xs.length = l.length * k ∧ ∀ (i : Nat) (a : α), l[i]? = some a → ∃ c, E a c ∧ ∀ (j : Nat) u, c[j]? = some u → xs[i * k + j]? = some u
theorem rowsE_nil {α : Type} (k : Nat) (E : α → List Value → Prop) : RowsE k E [] [] := ⟨by simp, fun i a h => by simp at h⟩
theorem RowsE.app {α : Type} {k : Nat} {E : α → List Value → Prop} {l m : List α} {xs ys : List Value} (h : RowsE k E l xs) (h' : RowsE k E m ys) : RowsE k E (l ++ m) (xs ++ ys) := by
 refine ⟨by rw [List.length_append, List.length_append, h.1, h'.1, Nat.add_mul], fun i a hi => ?_⟩
 rcases Nat.lt_or_ge i l.length with hlt | hge
 ·rw [List.getElem?_append_left hlt] at hi
  obtain ⟨c, h1, h2⟩ := h.2 i a hi
  refine ⟨c, h1, fun j u hj => ?_⟩
  have := h2 j u hj
  rw [List.getElem?_append_left (List.getElem?_eq_some_iff.1 this).1]
  exact this
 ·rw [List.getElem?_append_right hge] at hi
  obtain ⟨c, h1, h2⟩ := h'.2 _ a hi
  refine ⟨c, h1, fun j u hj => ?_⟩
  have h3 := h2 j u hj
  have h4 : l.length * k ≤ i * k := Nat.mul_le_mul_right _ hge
  rw [List.getElem?_append_right (by rw [h.1]; omega), h.1, show i * k + j - l.length * k = (i - l.length) * k + j by rw [Nat.sub_mul]; omega]
  exact h3
theorem rowsE_one {α : Type} {k : Nat} {E : α → List Value → Prop} {a : α} {c : List Value} (h : E a c) (hk : c.length = k) : RowsE k E [a] c :=
 ⟨by simp [hk], fun i x hi => by
  cases i with
  | succ i => simp at hi
  | zero =>
   simp at hi
   subst hi
   exact ⟨c, h, fun j u hj => by rw [Nat.zero_mul, Nat.zero_add]; exact hj⟩⟩
theorem RowsE.imp {α : Type} {k : Nat} {E E' : α → List Value → Prop} {l : List α} {xs : List Value} (h : RowsE k E l xs) (hE : ∀ a c, E a c → E' a c) : RowsE k E' l xs :=
 ⟨h.1, fun i a hi => by obtain ⟨c, h1, h2⟩ := h.2 i a hi; exact ⟨c, hE _ _ h1, h2⟩⟩
theorem rows_list {α : Type} {k : Nat} {E : α → List Value → Prop} (hk : ∀ a c, E a c → c.length = k) (C : Nat → Option Value) : ∀ (l : List α) (o : Nat), (∀ (i : Nat) (a : α), l[i]? = some a → ∃ c, E a c ∧ ∀ (j : Nat) u, c[j]? = some u → C (o + i * k + j) = some u) →
  ∃ xs, RowsE k E l xs ∧ ∀ (j : Nat) u, xs[j]? = some u → C (o + j) = some u
 | [], o, _ => ⟨[], rowsE_nil _ _, fun j u h => by simp at h⟩
 | a :: l, o, h => by
  obtain ⟨c, h1, h2⟩ := h 0 a rfl
  obtain ⟨xs, h3, h4⟩ := rows_list hk C l (o + k) (fun i b hi => by
   obtain ⟨c', h5, h6⟩ := h (i + 1) b (by simpa using hi)
   refine ⟨c', h5, fun j u hj => ?_⟩
   have := h6 j u hj
   rw [show o + k + i * k + j = o + (i + 1) * k + j by rw [Nat.succ_mul]; omega]
   exact this)
  have hc := hk _ _ h1
  refine ⟨c ++ xs, (rowsE_one h1 hc).app h3, fun j u hj => ?_⟩
  rcases Nat.lt_or_ge j k with hlt | hge
  ·rw [List.getElem?_append_left (by omega)] at hj
   have := h2 j u hj
   rwa [Nat.zero_mul, Nat.add_zero] at this
  ·rw [List.getElem?_append_right (by omega), hc] at hj
   have := h4 _ u hj
   rwa [show o + k + (j - k) = o + j by omega] at this
theorem rdX_own {α : Type} {k : Nat} {E : World → α → List Value → Prop} {w : World} {B e : Nat} {v : Value} {l : List α} {xs : List Value} (h : w.ownsRow B e k v l.length xs) (hl : l.length ≤ 140737488355328) (hr : RowsE k (E w) l xs) : RdX (fun g => B ≤ g ∧ v.ownBlock = some g) k E w v l := by
 rcases h.2 with ⟨rfl, h2⟩ | ⟨g, cap, cur, rfl, h2, h3, h4, h5, h6, h7⟩
 ·have : l = [] := List.length_eq_zero_iff.1 h2
  subst this
  exact rdX_nil _ _ _ _ _ _ (fun _ => rfl)
 ·refine ⟨_, cap, rfl, fun e => (by cases e), hl, fun i a hi => ?_⟩
  obtain ⟨c, h8, h9⟩ := hr.2 i a hi
  refine ⟨g, 0, c, rfl, ⟨h2, rfl⟩, h8, fun j u hj => ?_⟩
  have := h9 j u hj
  rw [Nat.zero_add]
  refine heap_cell h3 ?_
  rw [← h7] at this
  have h10 := (List.getElem?_eq_some_iff.1 this).1
  rw [List.length_take] at h10
  rw [List.getElem?_take_of_lt (by omega)] at this
  simpa using this
theorem RdX.any {α : Type} {P Q : Nat → Prop} {k : Nat} {E : World → α → List Value → Prop} {w : World} {v : Value} {l : List α} (h : RdX P k E w v l) (hP : ∀ g, P g → Q g) : RdX Q k E w v l := by
 obtain ⟨A, cap, h1, h0, h2, h3⟩ := h
 refine ⟨A, cap, h1, h0, h2, fun i a hi => ?_⟩
 obtain ⟨g, o, c, h4, hg, h5⟩ := h3 i a hi
 exact ⟨g, o, c, h4, hP g hg, h5⟩
theorem RdX.none0 {α : Type} {P : Nat → Prop} {k : Nat} {E : World → α → List Value → Prop} {w : World} {n cap : Nat} {l : List α} (h : RdX P k E w (.slice none n cap) l) : l = [] ∧ n = 0 ∧ cap = 0 := by
 obtain ⟨A, c, h1, h0, h2, h3⟩ := h
 injection h1 with e1 e2 e3
 subst e1
 have : l = [] := by
  cases l with
  | nil => rfl
  | cons a r =>
   obtain ⟨g, o, cc, hA, _⟩ := h3 0 a rfl
   cases hA
 subst this
 exact ⟨rfl, e2, e3.trans (h0 rfl)⟩
structure InI where
 op : Int
 dst : Int
 a : Int
 b : Int
 c : Int
 num : Int
 too : Int
 ref : Bs
 args : List Int
structure FuI where
 regs : List Int
 params : List Int
 ret : Int
 code : List InI
 rows : List RwI
def NuE (_ : World) (z : Int) (c : List Value) : Prop := c = [.int .i64 z]
def InE (P : Nat → Prop) (w : World) (x : InI) (c : List Value) : Prop := ∃ v, c = [.int .i64 x.op, .int .i64 x.dst, .int .i64 x.a, .int .i64 x.b, .int .i64 x.c, .int .i64 x.num, .int .i64 x.too, .string (tx x.ref), v] ∧ RdX P 1 NuE w v x.args
theorem keptX_nu (P : Nat → Prop) : KeptX P NuE := keptX_pure _ _ fun _ _ => rfl
theorem keptX_in (P : Nat → Prop) : KeptX P (InE P) := by
 rintro w w' x c hb ⟨v, rfl, h⟩
 exact ⟨v, rfl, h.kept (keptX_nu P) hb⟩
theorem nu_ne {w : World} (a : Int) (c : List Value) (h : NuE w a c) : c ≠ [] := by rw [h]; simp
theorem in_ne {P : Nat → Prop} {w : World} (a : InI) (c : List Value) (h : InE P w a c) : c ≠ [] := by obtain ⟨_, rfl, _⟩ := h; simp
theorem inE_mono {P Q : Nat → Prop} {w : World} (hP : ∀ g, P g → g < w.heap.size → Q g) (a : InI) (c : List Value) (h : InE P w a c) : InE Q w a c := by
 obtain ⟨x, rfl, h1⟩ := h
 exact ⟨x, rfl, h1.mono (fun _ _ h => h) hP nu_ne⟩
end Go.Proofs.Ytoommeiiadobfaa
/- The instructions' table in plain words. No program in this text. -/
namespace Go.Proofs.Ytoommeiiadobfaa
open Go.RowKit Go
set_option linter.unusedVariables false
def cA : List Int := [4, 6, 7, 8, 10, 12, 15, 16, 19, 21, 22, 31]
def cAB : List Int := [5, 9, 11, 13, 17, 28]
def rk (c : Int) : Nat := if c ∈ cA then 1 else if c ∈ cAB then 2 else if c = 14 then 3 else if c = 29 then 4 else if c = 30 then 5 else if c ∈ ([23, 24, 25, 26] : List Int) then 6 else 0
def usesI (x : InI) : List Int := match rk x.op with
 | 1 => [x.a]
 | 2 => [x.a, x.b]
 | 3 => [x.a, x.b, x.c]
 | 4 => if 0 ≤ x.b then [x.a, x.b] else [x.a]
 | 5 => if 0 ≤ x.a then [x.a] else []
 | 6 => x.args
 | _ => []
def cW : List Int := [1, 2, 3, 4, 5, 6, 13, 15, 16, 18, 20, 21, 22, 23, 24, 25, 26, 32]
def wrB (c : Int) : Bool := decide (c ∈ cW)
def defI (x : InI) : Int := if wrB x.op then x.dst else -1
def callsB (c : Int) : Bool := decide (c ∈ ([23, 24, 25, 26] : List Int))
def throwsB (c : Int) : Bool := decide (c ∈ ([7, 8, 9, 10, 11, 12, 20, 21, 31, 23, 24, 25, 26] : List Int))
def pureB (c : Int) : Bool := decide (c ∈ ([1, 2, 3, 4, 5, 6, 13, 15, 16, 18, 22] : List Int))
def leadsB (c : Int) : Bool := decide (c ∈ ([27, 28, 29] : List Int))
def endsB (c : Int) : Bool := decide (c ∈ ([27, 30, 31] : List Int))
def fdT (c : Int) : Int × Int × Int × Int :=
 if c = 1 then (6, 0, 0, 0) else if c ∈ ([2, 3, 20, 32] : List Int) then (8, 0, 0, 0) else if c = 18 then (14, 0, 0, 0)
 else if c ∈ ([23, 24, 25, 26] : List Int) then (15, 0, 0, 0) else if c = 4 then (14, 14, 0, 0) else if c = 5 then (6, 6, 6, 0)
 else if c = 6 then (6, 6, 0, 0) else if c = 13 then (14, 8, 2, 0) else if c = 15 ∨ c = 22 then (2, 8, 0, 0) else if c = 16 then (14, 8, 0, 0)
 else if c = 21 then (8, 2, 0, 0) else if c = 7 then (0, 6, 0, 0) else if c = 8 ∨ c = 12 ∨ c = 31 then (0, 8, 0, 0) else if c = 9 then (0, 8, 2, 0)
 else if c = 10 then (0, 2, 0, 0) else if c = 11 then (0, 8, 8, 0) else if c = 14 then (0, 8, 2, 14) else if c = 17 then (0, 8, 14, 0)
 else if c = 19 then (0, 14, 0, 0) else if c = 28 then (0, 2, 2, 0) else if c = 29 then (0, 8, 9, 0) else if c = 30 then (0, 15, 0, 0) else (0, 0, 0, 0)
def rowT (c : Int) : Bs :=
 if c = 1 then [110, 45, 45, 45] else if c ∈ ([2, 3, 20, 32] : List Int) then [51, 45, 45, 45] else if c = 4 then [42, 61, 45, 45]
 else if c ∈ ([5, 6, 23, 24, 25, 26] : List Int) then [63, 63, 63, 63] else if c = 7 then [45, 110, 45, 45] else if c ∈ ([8, 12, 31] : List Int) then [45, 51, 45, 45]
 else if c = 9 then [45, 51, 49, 45] else if c = 10 then [45, 49, 45, 45] else if c = 11 then [45, 51, 51, 45] else if c = 13 then [42, 51, 49, 45]
 else if c = 14 then [45, 51, 49, 42] else if c = 15 ∨ c = 22 then [49, 51, 45, 45] else if c = 16 then [42, 51, 45, 45] else if c = 17 then [45, 51, 42, 45]
 else if c = 18 then [42, 45, 45, 45] else if c = 19 then [45, 42, 45, 45] else if c = 21 then [51, 49, 45, 45] else if c = 27 ∨ c = 33 then [45, 45, 45, 45]
 else if c = 28 then [45, 49, 49, 45] else if c = 29 then [45, 51, 63, 45] else if c = 30 then [45, 63, 45, 45] else []
theorem op_ways (c : Int) : c = 1 ∨ c = 2 ∨ c = 3 ∨ c = 4 ∨ c = 5 ∨ c = 6 ∨ c = 7 ∨ c = 8 ∨ c = 9 ∨ c = 10 ∨ c = 11 ∨ c = 12 ∨ c = 13 ∨ c = 14 ∨ c = 15 ∨ c = 16 ∨ c = 17 ∨ c = 18 ∨ c = 19 ∨ c = 20 ∨ c = 21 ∨ c = 22 ∨ c = 23 ∨ c = 24 ∨ c = 25 ∨ c = 26 ∨ c = 27 ∨ c = 28 ∨ c = 29 ∨ c = 30 ∨ c = 31 ∨ c = 32 ∨ c = 33 ∨ c < 1 ∨ 34 ≤ c := by omega
theorem out_of (c : Int) (h : c < 1 ∨ 34 ≤ c) : rk c = 0 ∧ wrB c = false ∧ callsB c = false ∧ throwsB c = false ∧ pureB c = false ∧ leadsB c = false ∧ endsB c = false ∧ fdT c = (0, 0, 0, 0) ∧ rowT c = [] := by
 have g : c ≠ 1 ∧ c ≠ 2 ∧ c ≠ 3 ∧ c ≠ 4 ∧ c ≠ 5 ∧ c ≠ 6 ∧ c ≠ 7 ∧ c ≠ 8 ∧ c ≠ 9 ∧ c ≠ 10 ∧ c ≠ 11 ∧ c ≠ 12 ∧ c ≠ 13 ∧ c ≠ 14 ∧ c ≠ 15 ∧ c ≠ 16 ∧ c ≠ 17 ∧ c ≠ 18 ∧ c ≠ 19 ∧ c ≠ 20 ∧ c ≠ 21 ∧ c ≠ 22 ∧ c ≠ 23 ∧ c ≠ 24 ∧ c ≠ 25 ∧ c ≠ 26 ∧ c ≠ 27 ∧ c ≠ 28 ∧ c ≠ 29 ∧ c ≠ 30 ∧ c ≠ 31 ∧ c ≠ 32 ∧ c ≠ 33 := by omega
 obtain ⟨_, _, _, _, _, _, _, _, _, _, _, _, _, _, _, _, _, _, _, _, _, _, _, _, _, _, _, _, _, _, _, _, _⟩ := g
 refine ⟨?_, ?_, ?_, ?_, ?_, ?_, ?_, ?_, ?_⟩
 ·simp [rk, cA, cAB, *]
 ·simp [wrB, cW, *]
 ·simp [callsB, *]
 ·simp [throwsB, *]
 ·simp [pureB, *]
 ·simp [leadsB, *]
 ·simp [endsB, *]
 ·simp [fdT, *]
 ·simp [rowT, *]
theorem all_ops {Q : Int → Prop} (h : ∀ i : Fin 33, Q (i.val + 1)) (ho : ∀ c, c < 1 ∨ 34 ≤ c → Q c) (c : Int) : Q c := by
 by_cases hc : c < 1 ∨ 34 ≤ c
 ·exact ho c hc
 ·have := h ⟨(c - 1).toNat, by omega⟩
  rwa [show (((c - 1).toNat : Nat) : Int) + 1 = c by omega] at this
def sg (c : Int) (i : Nat) : UInt8 := (rowT c).getD i 0
end Go.Proofs.Ytoommeiiadobfaa
/- Contracts of the table's words, the program's: fieldsOf, readsOnly, Calls, Throws, Pure, Leads, Ends, Def. -/
namespace Go.Proofs.Ytoommeiiadobfaa
open Go.RowKit Go
set_option linter.unusedVariables false
set_option linter.unusedSimpArgs false
abbrev fdV (c : Int) : Value := .agg #[.int .u64 (fdT c).1, .int .u64 (fdT c).2.1, .int .u64 (fdT c).2.2.1, .int .u64 (fdT c).2.2.2]
theorem sizeK3 : (Try.prog.info? 85).map (·.size) = some 3 := by kernel_rfl
theorem sizeFd : (Try.prog.info? 87).map (·.size) = some 4 := by kernel_rfl
theorem four_set {w : World} {R : Nat} {T : TypeId} {z0 z1 z2 z3 : Value} (h : w.heap[R]? = some (.cells #[z0, z1, z2, z3] T (0, 0))) (a b c d : Value) :
  ((((w.setCell ⟨R, 0, none⟩ a).setCell ⟨R, 1, none⟩ b).setCell ⟨R, 2, none⟩ c).setCell ⟨R, 3, none⟩ d).heap[R]? = some (.cells #[a, b, c, d] T (0, 0)) := by
 have := heap_set (i := 3) (heap_set (i := 2) (heap_set (i := 1) (heap_set (i := 0) h a) b) c) d
 simpa using this
theorem four_below {B R : Nat} {a0 w : World} (h : Below B a0 w) (hR : B ≤ R) (a b c d : Value) : Below B a0 ((((w.setCell ⟨R, 0, none⟩ a).setCell ⟨R, 1, none⟩ b).setCell ⟨R, 2, none⟩ c).setCell ⟨R, 3, none⟩ d) :=
 (((h.setCell hR a).setCell hR b).setCell hR c).setCell hR d
theorem ret_val {a b : Value} (h : a = b) : Ending.returned a = .returned b := by rw [h]
set_option maxHeartbeats 8000000 in
set_option maxRecDepth 100000 in
theorem readsOnly_any (c : Int) (w : World) (h : (fdT c).1 = 0) :
    Calls Try.prog 93 #[.int .i64 c] w fun e w' => e = .returned (.agg #[.int .u64 (fdT c).2.1, .int .u64 (fdT c).2.2.1, .int .u64 (fdT c).2.2.2]) ∧ Below w.heap.size w w' := by
  have H := lhid h
  clear h
  go_enter Try.func93, Try.ntmps93
  go_wp2
  all_goals refine bodyPost_ret (results_cell_row rfl _ _ w.heap.size 85 _ _ _ rfl (heap_alloc_new w _) Try.underlying85 rfl sizeK3) rfl ?_
  all_goals
    refine ⟨?_, by first | exact (Below.refl w.heap.size w).alloc (Nat.le_refl _) _ | exact ((Below.refl w.heap.size w).alloc (Nat.le_refl _) _)⟩
    rename_i hx
    first
      | (obtain rfl := eq_of_beq hx; rfl)
      | (have hz := H.out
         simp only [beq_eq_false_iff_ne, ne_eq] at *
         refine ret_val ?_
         have : fdT c = (0, 0, 0, 0) := by
           refine all_ops (Q := fun c => (fdT c).1 = 0 → ¬ c = 7 → ¬ c = 8 → ¬ c = 12 → ¬ c = 31 → ¬ c = 9 → ¬ c = 10 → ¬ c = 11 → ¬ c = 14 → ¬ c = 17 → ¬ c = 19 → ¬ c = 28 → ¬ c = 29 → ¬ c = 30 → fdT c = (0, 0, 0, 0)) (by decide +kernel) (fun c hc _ _ _ _ _ _ _ _ _ _ _ _ _ _ => (out_of c hc).2.2.2.2.2.2.2.1) c hz ?_ ?_ ?_ ?_ ?_ ?_ ?_ ?_ ?_ ?_ ?_ ?_ ?_ <;> assumption
         rw [this])
theorem reads_fst0 (c : Int) : c ∉ ([1, 2, 3, 20, 32, 18, 23, 24, 25, 26, 4, 5, 6, 13, 15, 22, 16, 21] : List Int) → (fdT c).1 = 0 := by
 refine all_ops (Q := fun c => c ∉ ([1, 2, 3, 20, 32, 18, 23, 24, 25, 26, 4, 5, 6, 13, 15, 22, 16, 21] : List Int) → (fdT c).1 = 0) (by decide +kernel) (fun c hc _ => by rw [(out_of c hc).2.2.2.2.2.2.2.1]) c
theorem reads_fst (c : Int) : ¬ c = 1 → ¬ c = 2 → ¬ c = 3 → ¬ c = 20 → ¬ c = 32 → ¬ c = 18 → ¬ c = 23 → ¬ c = 24 → ¬ c = 25 → ¬ c = 26 → ¬ c = 4 → ¬ c = 5 → ¬ c = 6 → ¬ c = 13 → ¬ c = 15 → ¬ c = 22 → ¬ c = 16 → ¬ c = 21 → (fdT c).1 = 0 := by
 intros
 refine reads_fst0 c ?_
 simp [*]
theorem wrB_fd (c : Int) : wrB c = !((fdT c).1 == 0) := by
 refine all_ops (Q := fun c => wrB c = !((fdT c).1 == 0)) (by decide +kernel) (fun c hc => by rw [(out_of c hc).2.2.2.2.2.2.2.1, (out_of c hc).2.1]; rfl) c
set_option maxHeartbeats 8000000 in
set_option maxRecDepth 100000 in
theorem fieldsOf_any (c : Int) (w : World) :
    Calls Try.prog 65 #[.int .i64 c] w fun e w' => e = .returned (fdV c) ∧ Below w.heap.size w w' := by
  by_cases hs : (fdT c).1 = 0
  · have H := lhid hs
    have g : c ≠ 1 ∧ c ≠ 2 ∧ c ≠ 3 ∧ c ≠ 20 ∧ c ≠ 32 ∧ c ≠ 18 ∧ c ≠ 23 ∧ c ≠ 24 ∧ c ≠ 25 ∧ c ≠ 26 ∧ c ≠ 4 ∧ c ≠ 5 ∧ c ≠ 6 ∧ c ≠ 13 ∧ c ≠ 15 ∧ c ≠ 22 ∧ c ≠ 16 ∧ c ≠ 21 := by
      refine ⟨?_, ?_, ?_, ?_, ?_, ?_, ?_, ?_, ?_, ?_, ?_, ?_, ?_, ?_, ?_, ?_, ?_, ?_⟩ <;> (rintro rfl; exact absurd hs (by decide))
    have HR := lhid (readsOnly_any c)
    obtain ⟨r1, hr1⟩ : ∃ x, (fdT c).2.1 = x := ⟨_, rfl⟩
    obtain ⟨r2, hr2⟩ : ∃ x, (fdT c).2.2.1 = x := ⟨_, rfl⟩
    obtain ⟨r3, hr3⟩ : ∃ x, (fdT c).2.2.2 = x := ⟨_, rfl⟩
    have HV : Hid (fdV c = .agg #[.int .u64 0, .int .u64 r1, .int .u64 r2, .int .u64 r3]) := lhid (by unfold fdV; rw [hs, hr1, hr2, hr3])
    rw [hr1, hr2, hr3] at HR
    clear hr1 hr2 hr3 hs
    obtain ⟨_, _, _, _, _, _, _, _, _, _, _, _, _, _, _, _, _, _⟩ := g
    go_enter Try.func65, Try.ntmps65
    go_wp2_with fail
    with_reducible refine (HR.out _ H.out).mono ?_
    rintro e w1 ⟨rfl, hb⟩
    have h0 := (hb.block w.heap.size (by simp)).trans (heap_alloc_new w _)
    have c0 : w1.cell? ⟨w.heap.size, 0, none⟩ = some (.int .u64 0) := heap_cell h0 rfl
    have f0 : w1.frozen? ⟨w.heap.size, 0, none⟩ = false := heap_thaw h0 0
    have c1 : w1.cell? ⟨w.heap.size, 1, none⟩ = some (.int .u64 0) := heap_cell h0 rfl
    have f1 : w1.frozen? ⟨w.heap.size, 1, none⟩ = false := heap_thaw h0 1
    have c2 : w1.cell? ⟨w.heap.size, 2, none⟩ = some (.int .u64 0) := heap_cell h0 rfl
    have f2 : w1.frozen? ⟨w.heap.size, 2, none⟩ = false := heap_thaw h0 2
    have c3 : w1.cell? ⟨w.heap.size, 3, none⟩ = some (.int .u64 0) := heap_cell h0 rfl
    have f3 : w1.frozen? ⟨w.heap.size, 3, none⟩ = false := heap_thaw h0 3
    have HB := lhid (((Below.refl w.heap.size w).alloc (Nat.le_refl _) _).trans (hb.mono (by simp)))
    have H0 := lhid h0
    clear hb h0
    go_wp2_with fail
    refine bodyPost_ret (results_cell_row rfl _ _ w.heap.size 87 _ _ _ rfl (four_set H0.out _ _ _ _) Try.underlying87 rfl sizeFd) rfl ?_
    exact ⟨by rw [HV.out], four_below HB.out (Nat.le_refl _) _ _ _ _⟩
  · have H := lhid hs
    clear hs
    go_enter Try.func65, Try.ntmps65
    go_wp2_with (first
      | (go_at_call 93
         exfalso
         refine H.out (reads_fst c ?_ ?_ ?_ ?_ ?_ ?_ ?_ ?_ ?_ ?_ ?_ ?_ ?_ ?_ ?_ ?_ ?_ ?_) <;> (simp only [beq_eq_false_iff_ne, ne_eq] at *; assumption)))
    all_goals refine bodyPost_ret (results_cell_row rfl _ _ w.heap.size 87 _ _ _ rfl (heap_alloc_new w _) Try.underlying87 rfl sizeFd) rfl ?_
    all_goals
      refine ⟨?_, (Below.refl w.heap.size w).alloc (Nat.le_refl _) _⟩
      rename_i hx
      obtain rfl := eq_of_beq hx
      rfl
abbrev inA (x : InI) (v : Value) : Value := .agg #[.int .i64 x.op, .int .i64 x.dst, .int .i64 x.a, .int .i64 x.b, .int .i64 x.c, .int .i64 x.num, .int .i64 x.too, .string (tx x.ref), v]
set_option maxHeartbeats 8000000 in
set_option maxRecDepth 100000 in
theorem calls_any (x : InI) (v : Value) (w : World) :
    Calls Try.prog 89 #[inA x v] w fun e w' => e = .returned (.bool (callsB x.op)) ∧ Below w.heap.size w w' := by
  obtain ⟨c, HC⟩ : ∃ c, Hid (x.op = c) := ⟨_, lhid rfl⟩
  rw [HC.out]
  unfold inA
  rw [HC.out]
  go_enter Try.func89, Try.ntmps89
  go_wp2
  all_goals go_ret
  all_goals
    refine ⟨?_, (Below.refl w.heap.size w).alloc (Nat.le_refl _) _⟩
    rename_i h
    first
      | (obtain rfl := eq_of_beq h; rfl)
      | (simp only [beq_eq_false_iff_ne, ne_eq] at *
         rw [show callsB c = false by unfold callsB; simp [*]]
         rfl)
set_option maxHeartbeats 8000000 in
set_option maxRecDepth 100000 in
theorem leads_any (x : InI) (v : Value) (w : World) :
    Calls Try.prog 88 #[inA x v] w fun e w' => e = .returned (.bool (leadsB x.op)) ∧ Below w.heap.size w w' := by
  obtain ⟨c, HC⟩ : ∃ c, Hid (x.op = c) := ⟨_, lhid rfl⟩
  rw [HC.out]
  unfold inA
  rw [HC.out]
  go_enter Try.func88, Try.ntmps88
  go_wp2
  all_goals go_ret
  all_goals
    refine ⟨?_, (Below.refl w.heap.size w).alloc (Nat.le_refl _) _⟩
    rename_i h
    first
      | (obtain rfl := eq_of_beq h; rfl)
      | (simp only [beq_eq_false_iff_ne, ne_eq] at *
         rw [show leadsB c = false by unfold leadsB; simp [*]]
         rfl)
set_option maxHeartbeats 8000000 in
set_option maxRecDepth 100000 in
theorem ends_any (x : InI) (v : Value) (w : World) :
    Calls Try.prog 85 #[inA x v] w fun e w' => e = .returned (.bool (endsB x.op)) ∧ Below w.heap.size w w' := by
  obtain ⟨c, HC⟩ : ∃ c, Hid (x.op = c) := ⟨_, lhid rfl⟩
  rw [HC.out]
  unfold inA
  rw [HC.out]
  go_enter Try.func85, Try.ntmps85
  go_wp2
  all_goals go_ret
  all_goals
    refine ⟨?_, (Below.refl w.heap.size w).alloc (Nat.le_refl _) _⟩
    rename_i h
    first
      | (obtain rfl := eq_of_beq h; rfl)
      | (simp only [beq_eq_false_iff_ne, ne_eq] at *
         rw [show endsB c = false by unfold endsB; simp [*]]
         rfl)
end Go.Proofs.Ytoommeiiadobfaa
/- slices.Clone at int, api.Row, api.Ins. -/
namespace Go.Proofs.Ytoommeiiadobfaa
open Go.RowKit Go
set_option linter.unusedVariables false
def Row1 {α : Type} (k : Nat) (E : World → α → List Value → Prop) : Prop := ∀ w a c, E w a c → c.length = k ∧ ∀ u, u ∈ c → u.oneCell' = true
theorem info_parts {P : Program} {e : TypeId} {z : Value} {n b : Nat} (h : (P.info? e).map (fun i => (i.zero, i.size, i.bytes)) = some (some z, n, b)) : ∃ i, P.info? e = some i ∧ i.zero = some z ∧ i.size = n ∧ i.bytes = b := by
 cases hi : P.info? e with
 | none => rw [hi] at h; cases h
 | some i =>
  rw [hi] at h
  simp only [Option.map_some, Option.some.injEq, Prod.mk.injEq] at h
  exact ⟨i, rfl, h⟩
theorem row_nu : Row1 1 NuE := by rintro w a c rfl; simp [Value.oneCell']
theorem rdX_cells {α : Type} {P : Nat → Prop} {k : Nat} {E : World → α → List Value → Prop} (hk : Row1 k E) {w : World} {ad : Addr} {n cap : Nat} {l : List α} (h : RdX P k E w (.slice (some ad) n cap) l) :
  ∃ xs, RowsE k (E w) l xs ∧ (∀ (j : Nat) u, xs[j]? = some u → w.cell? (ad.add j) = some u) ∧ ∀ u, u ∈ xs → u.oneCell' = true := by
 cases l with
 | nil => exact ⟨[], rowsE_nil _ _, fun j u hj => by simp at hj, fun u hu => by simp at hu⟩
 | cons a0 r =>
  obtain ⟨g, o, c0, hA, _, hE0, _⟩ := h.at' (i := 0) (a := a0) rfl
  injection hA with hA
  subst hA
  obtain ⟨xs, h1, h2⟩ := rows_list (fun a c hc => (hk w a c hc).1) (fun j => w.cell? ⟨g, j, none⟩) (a0 :: r) o (fun i a hi => by
   obtain ⟨g', o', c, hA', _, h5, h6⟩ := h.at' hi
   injection hA' with hA'
   injection hA' with e1 e2
   subst e1
   subst e2
   exact ⟨c, h5, h6⟩)
  refine ⟨xs, h1, fun j u hj => by rw [addr_add]; exact h2 j u hj, fun u hu => ?_⟩
  obtain ⟨j, hj⟩ := List.getElem?_of_mem hu
  have hlen := (List.getElem?_eq_some_iff.1 hj).1
  have h0 := hk w a0 c0 hE0
  rw [h1.1] at hlen
  have hkpos : 0 < k := by
   rcases Nat.eq_zero_or_pos k with e | e
   ·rw [e] at hlen; omega
   ·exact e
  have hdiv : j / k < (a0 :: r).length := by rw [Nat.div_lt_iff_lt_mul hkpos]; exact hlen
  obtain ⟨c, h3, h4⟩ := h1.2 (j / k) _ (List.getElem?_eq_getElem hdiv)
  have hc := (hk w _ c h3)
  have hm : j % k < c.length := by rw [hc.1]; exact Nat.mod_lt _ hkpos
  have h5 := h4 (j % k) _ (List.getElem?_eq_getElem hm)
  rw [show j / k * k + j % k = j by rw [Nat.mul_comm]; exact Nat.div_add_mod j k, hj] at h5
  injection h5 with h5
  rw [h5]
  exact hc.2 _ (List.getElem_mem hm)
theorem info_nu : (Try.prog.info? 3).map (fun i => (i.zero, i.size, i.bytes)) = some (some (.int .i64 0), 1, 8) := by kernel_rfl
set_option maxHeartbeats 1000000 in
set_option maxRecDepth 100000 in
theorem clone_nu {α : Type} {P : Nat → Prop} {E : World → α → List Value → Prop} (hk : Row1 1 E) (v : Value) (l : List α) (w : World) (h : Hid (RdX P 1 E w v l)) (hby : l.length * 8 ≤ 140737488355328) :
  Calls Try.prog 73 #[v] w fun e w' => ∃ v' xs, e = .returned v' ∧ w'.ownsRow w.heap.size 3 1 v' l.length xs ∧ RowsE 1 (E w) l xs ∧ Below w.heap.size w w' := by
 obtain ⟨A, cap, rfl⟩ := h.out.shape
 have hlen := h.out.len
 obtain ⟨i0, hi, hz0, hz1, hz2⟩ := info_parts info_nu
 cases A with
 | none =>
  have hl := h.out.none0.1
  subst hl
  have hq : ∀ w', (binOp .eql 22 (.slice none 0 cap) (.slice none 0 0)).run Try.prog w' = .ok (.bool true) w' := fun w' => by kernel_rfl
  go_enter Try.func73, Try.ntmps73
  go_wp2_with fail
  go_ret
  exact ⟨_, [], rfl, World.ownsRow_nil _ _ _ _, rowsE_nil _ _, Below.refl _ _⟩
 | some ad =>
  obtain ⟨xs, HX⟩ : ∃ xs, Hid (RowsE 1 (E w) l xs ∧ (∀ (j : Nat) u, xs[j]? = some u → w.cell? (ad.add j) = some u) ∧ ∀ u, u ∈ xs → u.oneCell' = true) := by
   obtain ⟨xs, hx⟩ := rdX_cells hk h.out
   exact ⟨xs, lhid hx⟩
  have hq : ∀ w', (binOp .eql 22 (.slice (some ad) l.length cap) (.slice none 0 0)).run Try.prog w' = .ok (.bool false) w' := fun w' => by kernel_rfl
  go_enter Try.func73, Try.ntmps73
  go_wp2_with (at_builtin; refine wpList_append_own _ rfl (.tmp 5) (.tmp 6) 22 rfl w.heap.size 3 i0 (.int .i64 0) 1 8 Try.underlying22 hi hz0 hz1 hz2 rfl (by decide) (.slice (some ⟨w.heap.size, 0, none⟩) 0 0) 0 [] rfl (World.ownsRow_lit _ #[] 0 (Nat.le_refl _) (Nat.zero_le _) (by simp)) ad l.length cap xs rfl HX.out.1.1 ?a2 HX.out.2.2 ?a4 ?a5 ?a6 ?_)
  case a2 =>
   intro j u hj
   have h1 := HX.out.2.1 j u hj
   rw [Go.RowKit.Below.cell ((Below.refl w.heap.size w).alloc (Nat.le_refl _) _) (cell_lt h1)]
   exact h1
  case a4 => unfold maxLen; omega
  case a5 => omega
  case a6 => simp
  intro v' w' hown hgrow hnil
  go_wp2_with fail
  go_ret
  refine ⟨v', xs, rfl, ?_, HX.out.1, ?_⟩
  ·exact hown
  ·exact Below.grown ((Below.refl _ _).alloc (Nat.le_refl _) _) hgrow (by simp) (by rintro k e; injection e with e; rw [← e]; exact Nat.le_refl _)
end Go.Proofs.Ytoommeiiadobfaa
/- Contracts of Throws, Def, Uses, the program's. -/
namespace Go.Proofs.Ytoommeiiadobfaa
open Go.RowKit Go
set_option linter.unusedVariables false
set_option linter.unusedSimpArgs false
abbrev inL (c d a b k n t : Int) (r : Bs) (v : Value) : Value := .agg #[.int .i64 c, .int .i64 d, .int .i64 a, .int .i64 b, .int .i64 k, .int .i64 n, .int .i64 t, .string (tx r), v]
theorem field_w (f0 f1 f2 f3 : Int) : ∀ w', (Instr.field 87 (.agg #[.int .u64 f0, .int .u64 f1, .int .u64 f2, .int .u64 f3]) 0).run Try.prog w' = .ok (.int .u64 f0) w' := fun w' => by kernel_rfl
theorem field_r (f0 f1 f2 f3 : Int) : ∀ w', (Instr.field 87 (.agg #[.int .u64 f0, .int .u64 f1, .int .u64 f2, .int .u64 f3]) 1).run Try.prog w' = .ok (.agg #[.int .u64 f1, .int .u64 f2, .int .u64 f3]) w' := fun w' => by kernel_rfl
theorem throws_calls (c : Int) : ¬ c = 7 → ¬ c = 8 → ¬ c = 9 → ¬ c = 10 → ¬ c = 11 → ¬ c = 12 → ¬ c = 20 → ¬ c = 21 → ¬ c = 31 → callsB c = throwsB c := by
 intros
 unfold callsB throwsB
 simp [*]
set_option maxHeartbeats 8000000 in
set_option maxRecDepth 100000 in
theorem throws_any (x : InI) (v : Value) (w : World) :
    Calls Try.prog 67 #[inA x v] w fun e w' => e = .returned (.bool (throwsB x.op)) ∧ Below w.heap.size w w' := by
  obtain ⟨c, d, a, b, k, n, t, r, l⟩ := x
  have HX : ∀ w, Hid (Calls Try.prog 89 #[inL c d a b k n t r v] w fun e w' => e = .returned (.bool (callsB c)) ∧ Below w.heap.size w w') := fun w => lhid (calls_any ⟨c, d, a, b, k, n, t, r, l⟩ v w)
  show Calls Try.prog 67 #[inL c d a b k n t r v] w fun e w' => e = .returned (.bool (throwsB c)) ∧ Below w.heap.size w w'
  go_enter Try.func67, Try.ntmps67
  go_wp2_with (with_reducible refine (HX _).out.mono ?_; rintro e w1 ⟨rfl, hb⟩)
  all_goals go_ret
  all_goals
    refine ⟨?_, by first | exact (Below.refl w.heap.size w).alloc (Nat.le_refl _) _ | (rename Below _ _ _ => hb; exact ((Below.refl w.heap.size w).alloc (Nat.le_refl _) _).trans (hb.mono (by simp)))⟩
    first
      | (rename_i h; obtain rfl := eq_of_beq h; rfl)
      | (simp only [beq_eq_false_iff_ne, ne_eq] at *
         exact ret_val (by rw [← throws_calls c (by assumption) (by assumption) (by assumption) (by assumption) (by assumption) (by assumption) (by assumption) (by assumption) (by assumption)]; rfl))
set_option maxHeartbeats 8000000 in
set_option maxRecDepth 100000 in
theorem def_any (x : InI) (v : Value) (w : World) :
  Calls Try.prog 37 #[inA x v] w fun e w' => e = .returned (.int .i64 (defI x)) ∧ Below w.heap.size w w' := by
 obtain ⟨c, d, a, b, k, n, t, r, l⟩ := x
 have HF : ∀ w, Hid (Calls Try.prog 65 #[.int .i64 c] w fun e w' => e = .returned (fdV c) ∧ Below w.heap.size w w') := fun w => lhid (fieldsOf_any c w)
 have hd := wrB_fd c
 show Calls Try.prog 37 #[inL c d a b k n t r v] w fun e w' => e = .returned (.int .i64 (if wrB c then d else -1)) ∧ Below w.heap.size w w'
 unfold fdV at HF
 generalize wrB c = z at *
 generalize (fdT c).1 = f0 at *
 generalize (fdT c).2.1 = f1 at *
 generalize (fdT c).2.2.1 = f2 at *
 generalize (fdT c).2.2.2 = f3 at *
 have hz : (f0 == 0) = !z := by rw [hd]; simp
 clear hd
 cases z
 all_goals
  simp only [Bool.not_true, Bool.not_false] at hz
  have hq := field_w f0 f1 f2 f3
  go_enter Try.func37, Try.ntmps37
  go_wp2_with fail
  with_reducible refine (HF _).out.mono ?_
  rintro e w1 ⟨rfl, hb⟩
  have c1 : w1.cell? ⟨w.heap.size, 1, none⟩ = some (.int .i64 d) := (hb.cell (p := ⟨w.heap.size, 1, none⟩) (by simp)).trans (heap_cell (heap_alloc_new w _) rfl)
  have HB := lhid (((Below.refl w.heap.size w).alloc (Nat.le_refl _) _).trans (hb.mono (by simp)))
  clear hb
  go_wp2_with fail
  go_ret
  exact ⟨rfl, HB.out⟩
end Go.Proofs.Ytoommeiiadobfaa
/- Contract of Uses, the program's. -/
namespace Go.Proofs.Ytoommeiiadobfaa
open Go.RowKit Go
set_option linter.unusedVariables false
set_option linter.unusedSimpArgs false
def setsL : List Int := [0, 2, 6, 8, 9, 14, 15]
theorem fd_sets (c : Int) : (fdT c).2.1 ∈ setsL ∧ (fdT c).2.2.1 ∈ setsL ∧ (fdT c).2.2.2 ∈ setsL ∧ (fdT c).1 ∈ setsL := by
 refine all_ops (Q := fun c => (fdT c).2.1 ∈ setsL ∧ (fdT c).2.2.1 ∈ setsL ∧ (fdT c).2.2.2 ∈ setsL ∧ (fdT c).1 ∈ setsL) (by decide +kernel) (fun c hc => by rw [(out_of c hc).2.2.2.2.2.2.2.1]; decide) c
def hasB (f kd : Int) : Bool := f.toNat / 2 ^ kd.toNat % 2 == 1
set_option maxHeartbeats 8000000 in
set_option maxRecDepth 100000 in
theorem has_any (f kd : Int) (hf : f ∈ setsL) (hk : kd = 0 ∨ kd = 1 ∨ kd = 2 ∨ kd = 3) (w : World) :
  Calls Try.prog 90 #[.int .u64 f, .int .i64 kd] w fun e w' => e = .returned (.bool (hasB f kd)) ∧ w = w' := by
 unfold setsL at hf
 simp only [List.mem_cons, List.not_mem_nil, or_false] at hf
 rcases hf with rfl | rfl | rfl | rfl | rfl | rfl | rfl <;> rcases hk with rfl | rfl | rfl | rfl
 all_goals
  go_enter Try.func90, Try.ntmps90
  go_wp2
  go_ret
  exact ⟨by with_unfolding_all rfl, rfl⟩
def tkB (f r : Int) : Bool := !(f == 0) && !(decide (r < 0) && hasB f 0)
def us1 (f r : Int) : List Int := if tkB f r then [r] else []
theorem uses_us (x : InI) (h : callsB x.op = false) : usesI x = us1 (fdT x.op).2.1 x.a ++ us1 (fdT x.op).2.2.1 x.b ++ us1 (fdT x.op).2.2.2 x.c := by
 obtain ⟨c, d, a, b, k, n, t, r, l⟩ := x
 revert h
 show callsB c = false → usesI ⟨c, d, a, b, k, n, t, r, l⟩ = us1 (fdT c).2.1 a ++ us1 (fdT c).2.2.1 b ++ us1 (fdT c).2.2.2 k
 have key : ∀ c : Int, callsB c = false → (rk c = 0 ∧ (fdT c).2 = (0, 0, 0)) ∨ (rk c = 1 ∧ (fdT c).2.1 ≠ 0 ∧ hasB (fdT c).2.1 0 = false ∧ (fdT c).2.2 = (0, 0)) ∨ (rk c = 2 ∧ (fdT c).2.1 ≠ 0 ∧ hasB (fdT c).2.1 0 = false ∧ (fdT c).2.2.1 ≠ 0 ∧ hasB (fdT c).2.2.1 0 = false ∧ (fdT c).2.2.2 = 0) ∨ (rk c = 3 ∧ (fdT c).2 = (8, 2, 14)) ∨ (rk c = 4 ∧ (fdT c).2 = (8, 9, 0)) ∨ (rk c = 5 ∧ (fdT c).2 = (15, 0, 0)) := by
  refine all_ops (Q := fun c => callsB c = false → (rk c = 0 ∧ (fdT c).2 = (0, 0, 0)) ∨ (rk c = 1 ∧ (fdT c).2.1 ≠ 0 ∧ hasB (fdT c).2.1 0 = false ∧ (fdT c).2.2 = (0, 0)) ∨ (rk c = 2 ∧ (fdT c).2.1 ≠ 0 ∧ hasB (fdT c).2.1 0 = false ∧ (fdT c).2.2.1 ≠ 0 ∧ hasB (fdT c).2.2.1 0 = false ∧ (fdT c).2.2.2 = 0) ∨ (rk c = 3 ∧ (fdT c).2 = (8, 2, 14)) ∨ (rk c = 4 ∧ (fdT c).2 = (8, 9, 0)) ∨ (rk c = 5 ∧ (fdT c).2 = (15, 0, 0))) (by decide +kernel) (fun c hc _ => .inl ?_)
  exact ⟨(out_of c hc).1, by rw [(out_of c hc).2.2.2.2.2.2.2.1]⟩
 intro h
 rcases key c h with ⟨h1, h2⟩ | ⟨h1, h2, h3, h4⟩ | ⟨h1, h2, h3, h4, h5, h6⟩ | ⟨h1, h2⟩ | ⟨h1, h2⟩ | ⟨h1, h2⟩
 ·simp [usesI, h1, h2, us1, tkB]
 ·simp [usesI, h1, h2, h3, h4, us1, tkB]
 ·simp [usesI, h1, h2, h3, h4, h5, h6, us1, tkB]
 ·simp [usesI, h1, h2, us1, tkB, hasB]
 ·simp only [usesI, h1, h2, us1, tkB, hasB]
  by_cases hb : 0 ≤ b
  ·simp [hb, show ¬ b < 0 by omega]
  ·simp [hb, show b < 0 by omega]
 ·simp only [usesI, h1, h2, us1, tkB, hasB]
  by_cases hb : 0 ≤ a
  ·simp [hb, show ¬ a < 0 by omega]
  ·simp [hb, show a < 0 by omega]
end Go.Proofs.Ytoommeiiadobfaa
/- Contract of Uses, the program's: the walk. -/
namespace Go.Proofs.Ytoommeiiadobfaa
open Go.RowKit Go
set_option linter.unusedVariables false
set_option linter.unusedSimpArgs false
abbrev vI (z : Int) : Value := .int .i64 z
abbrev OwN (w : World) (B : Nat) (v : Value) (l : List Int) : Prop := w.ownsRow B 3 1 v l.length (l.map vI)
theorem rowsE_nu {w : World} {l : List Int} {xs : List Value} (h : RowsE 1 (NuE w) l xs) : xs = l.map vI := by
 apply List.ext_getElem?
 intro i
 rw [List.getElem?_map]
 cases hi : l[i]? with
 | none =>
  have h1 := List.getElem?_eq_none_iff.1 hi
  rw [List.getElem?_eq_none_iff.2 (by rw [h.1]; omega)]
  rfl
 | some z =>
  obtain ⟨c, h2, h3⟩ := h.2 i z hi
  rw [h2] at h3
  have := h3 0 (vI z) rfl
  rw [Nat.mul_one, Nat.add_zero] at this
  rw [this]
  rfl
theorem nu_rowsE (w : World) (l : List Int) : RowsE 1 (NuE w) l (l.map vI) := by
 refine ⟨by simp, fun i a hi => ⟨[vI a], rfl, fun j u hj => ?_⟩⟩
 cases j with
 | succ j => simp at hj
 | zero =>
  simp at hj
  subst hj
  rw [Nat.mul_one, Nat.add_zero, List.getElem?_map, hi]
  rfl
theorem OwN.rd {w : World} {B : Nat} {v : Value} {l : List Int} (h : OwN w B v l) (hl : l.length ≤ 140737488355328) : RdX (fun g => B ≤ g ∧ v.ownBlock = some g) 1 NuE w v l := rdX_own h hl (nu_rowsE w l)
theorem info_nuP : (Try.prog.info? 3).map (fun i => (i.zero, i.size, i.bytes)) = some (some (.int .i64 0), 1, 8) := by kernel_rfl
theorem idx3 (a b k : Int) : (∀ w', (Instr.index 123 (.agg #[vI a, vI b, vI k]) (vI 0)).run Try.prog w' = .ok (vI a) w') ∧ (∀ w', (Instr.index 123 (.agg #[vI a, vI b, vI k]) (vI 1)).run Try.prog w' = .ok (vI b) w') ∧ (∀ w', (Instr.index 123 (.agg #[vI a, vI b, vI k]) (vI 2)).run Try.prog w' = .ok (vI k) w') :=
 ⟨fun w' => by kernel_rfl, fun w' => by kernel_rfl, fun w' => by kernel_rfl⟩
theorem tk_ways (f r : Int) : (us1 f r = [] ∧ (f == 0) = true) ∨ (us1 f r = [r] ∧ ¬ f = 0 ∧ ¬ r < 0) ∨ (us1 f r = [] ∧ ¬ f = 0 ∧ r < 0 ∧ hasB f 0 = true) ∨ (us1 f r = [r] ∧ ¬ f = 0 ∧ r < 0 ∧ hasB f 0 = false) := by
 unfold us1 tkB
 by_cases h0 : f = 0
 ·exact .inl (by simp [h0])
 ·by_cases h1 : r < 0
  ·cases h2 : hasB f 0
   ·exact .inr (.inr (.inr (by simp [h0, h1])))
   ·exact .inr (.inr (.inl (by simp [h0, h1])))
  ·exact .inr (.inl (by simp [h0, h1]))
def usU (f1 f2 f3 a b k : Int) (j : Nat) : List Int := (if 0 < j then us1 f1 a else []) ++ (if 1 < j then us1 f2 b else []) ++ (if 2 < j then us1 f3 k else [])
set_option maxHeartbeats 8000000 in
set_option maxRecDepth 100000 in
theorem uses_any {P : Nat → Prop} (x : InI) (v : Value) (w : World) (h : Hid (RdX P 1 NuE w v x.args)) (hby : Hid (x.args.length * 8 ≤ 140737488355328)) :
  Calls Try.prog 52 #[inA x v] w fun e w' => ∃ v', e = .returned v' ∧ OwN w' w.heap.size v' (usesI x) ∧ Below w.heap.size w w' := by
 have hus := uses_us x
 have huc : callsB x.op = true → usesI x = x.args := by
  intro hc
  unfold callsB at hc
  rw [decide_eq_true_eq] at hc
  have : rk x.op = 6 := by
   simp only [List.mem_cons, List.not_mem_nil, or_false] at hc
   rcases hc with e | e | e | e <;> rw [e] <;> decide
  unfold usesI
  rw [this]
  rfl
 have hfs := fd_sets x.op
 have HCa : ∀ w, Hid (Calls Try.prog 89 #[inA x v] w fun e w' => e = .returned (.bool (callsB x.op)) ∧ Below w.heap.size w w') := fun w => lhid (calls_any x v w)
 have HF : ∀ w, Hid (Calls Try.prog 65 #[.int .i64 x.op] w fun e w' => e = .returned (fdV x.op) ∧ Below w.heap.size w w') := fun w => lhid (fieldsOf_any x.op w)
 unfold fdV at HF
 generalize usesI x = U at *
 generalize callsB x.op = z at *
 generalize (fdT x.op).1 = f0 at *
 generalize (fdT x.op).2.1 = f1 at *
 generalize (fdT x.op).2.2.1 = f2 at *
 generalize (fdT x.op).2.2.2 = f3 at *
 obtain ⟨c, d, a, b, k, n, t, r, l⟩ := x
 dsimp only [inA] at *
 cases z
 ·have HU := lhid (hus rfl)
  have HFS := lhid hfs
  clear hus huc hfs
  have hq := field_r f0 f1 f2 f3
  obtain ⟨x0, x1, x2⟩ := idx3 a b k
  obtain ⟨i0, hi0, hz0, hz1, hz2⟩ := info_parts info_nuP
  go_enter Try.func52, Try.ntmps52
  go_wp2_with fail
  with_reducible refine (HCa _).out.mono ?_
  rintro e w1 ⟨rfl, hb⟩
  have h0 := (hb.block w.heap.size (by simp)).trans (heap_alloc_new w _)
  have c0 : w1.cell? ⟨w.heap.size, 0, none⟩ = some (vI c) := heap_cell h0 rfl
  have H0 := lhid h0
  have HB1 := lhid (((Below.refl w.heap.size w).alloc (Nat.le_refl _) _).trans (hb.mono (by simp)))
  have HS1 := lhid (show w.heap.size + 1 ≤ w1.heap.size by have := hb.size; simpa using this)
  clear hb h0
  go_wp2_with fail
  with_reducible refine (HF _).out.mono ?_
  rintro e w2 ⟨rfl, hb⟩
  have h0 := (hb.block w.heap.size (by have := HS1.out; omega)).trans H0.out
  have c2 : w2.cell? ⟨w.heap.size, 2, none⟩ = some (vI a) := heap_cell h0 rfl
  have c3 : w2.cell? ⟨w.heap.size, 3, none⟩ = some (vI b) := heap_cell h0 rfl
  have c4 : w2.cell? ⟨w.heap.size, 4, none⟩ = some (vI k) := heap_cell h0 rfl
  have HB2 := lhid (HB1.out.trans (hb.mono HB1.out.size))
  have hs2 : w.heap.size < w2.heap.size := by have := HS1.out; have := hb.size; omega
  have n2 : ¬ w.heap.size = w2.heap.size := by omega
  have n2' : ¬ w2.heap.size = w.heap.size := by omega
  clear hb h0
  go_wp2_with fail
  have HU0 := lhid (show usU f1 f2 f3 a b k 3 = U from by rw [HU.out]; simp [usU])
  have HW3 := lhid (Below.refl w2.heap.size w2)
  go_loopw [3, 23] (fun v i wr => ∃ (D : List Int) (A : Option Addr) (q j : Nat), v = .slice A D.length q ∧ i = .int .i64 j ∧ j ≤ 3 ∧ Hid (D = usU f1 f2 f3 a b k j) ∧ Hid (OwN wr (w2.heap.size + 1) (.slice A D.length q) D) ∧ Hid (wr.heap[w2.heap.size]? = some (.cells #[.int .u64 f1, .int .u64 f2, .int .u64 f3] 85 (0, 0))) ∧ Hid (Below w.heap.size w wr)) (fun _ i _ => 3 - (intOf i).toNat)
  case atStart => exact ⟨[], none, 0, 0, rfl, rfl, by omega, lhid (by simp [usU]), lhid (World.ownsRow_nil _ _ _ _), lhid (heap_alloc_new _ _), lhid (HB2.out.alloc HB2.out.size _)⟩
  case round =>
   obtain ⟨D, A, q, j, rfl, rfl, hj, HD, HO, HC, HB⟩ := hrel
   have r0 : wr.cell? ⟨w2.heap.size, 0, none⟩ = some (.int .u64 f1) := heap_cell HC.out rfl
   have r1 : wr.cell? ⟨w2.heap.size, 1, none⟩ = some (.int .u64 f2) := heap_cell HC.out rfl
   have r2 : wr.cell? ⟨w2.heap.size, 2, none⟩ = some (.int .u64 f3) := heap_cell HC.out rfl
   have hDl : D.length ≤ 3 := by
    rw [HD.out]
    simp only [usU, us1]
    repeat' split
    all_goals simp
   have hRlt : w2.heap.size < wr.heap.size := heap_lt HC.out
   have hj4 : j = 0 ∨ j = 1 ∨ j = 2 ∨ j = 3 := by omega
   have hfs := HFS.out
   rcases hj4 with rfl | rfl | rfl | rfl
   ·have HH := has_any f1 0 hfs.1 (.inl rfl)
    have HHH := lhid HH
    clear HH hfs
    rcases tk_ways f1 a with ⟨HT, t0⟩ | ⟨HT, t0, t1⟩ | ⟨HT, t0, t1, t2⟩ | ⟨HT, t0, t1, t2⟩
    all_goals
     have hD2 := HD.out
     have HDT := lhid HT
     clear HT
    ·have HD2 : Hid (D = usU f1 f2 f3 a b k 1) := lhid (by rw [HD.out]; simp [usU, HDT.out])
     clear hD2
     obtain rfl := eq_of_beq t0
     clear t0
     go_wp2_with fail
     go_roundw
     case rel => exact ⟨D, A, q, 1, rfl, rfl, by omega, HD2, HO, HC, HB⟩
     case measure => simp [intOf]
    ·have HD2 : Hid (D ++ [a] = usU f1 f2 f3 a b k 1) := lhid (by rw [HD.out]; simp [usU, HDT.out])
     clear hD2
     go_wp2_with (at_builtin; refine wpList_append_own _ rfl (.tmp 42) (.tmp 44) 22 rfl (w2.heap.size + 1) 3 i0 (.int .i64 0) 1 8 Try.underlying22 hi0 hz0 hz1 hz2 rfl (by decide) (.slice A D.length q) D.length (D.map vI) rfl (HO.out.alloc _) ⟨wr.heap.size, 0, none⟩ 1 1 [vI a] rfl rfl ?g0c1 ?g0c2 ?g0c3 ?g0c4 ?g0c5 ?_)
     try case g0c1 => exact new_cells _ _ _
     case g0c2 => first | rfl | (intro u hu; simp at hu; subst hu; rfl)
     case g0c3 => unfold maxLen; omega
     case g0c4 => omega
     case g0c5 => first | omega | (simp; omega)
     intro v' w' hown hgrow hnil
     have hsh := own_shape hown
     obtain ⟨A', q', rfl⟩ := hsh
     have HO2 : Hid (OwN w' (w2.heap.size + 1) (.slice A' (D ++ [a]).length q') (D ++ [a])) := lhid (by simpa [OwN] using hown)
     have HC2 : Hid (w'.heap[w2.heap.size]? = some (.cells #[.int .u64 f1, .int .u64 f2, .int .u64 f3] 85 (0, 0))) := lhid ((hgrow.block w2.heap.size (by simp; omega) (fun e => by have := own_lt HO.out w2.heap.size (by first | exact e.symm | exact e); omega)).trans ((Below.heap_alloc _ _ _ hRlt).trans HC.out))
     have HB3 := lhid (Below.grown (HB.out.alloc HB.out.size _) hgrow (by simp; have := HB.out.size; omega) (fun k e => by have := own_lt HO.out k e; omega))
     obtain ⟨E, hE⟩ : ∃ E, D ++ [a] = E := ⟨_, rfl⟩
     have hEl : D.length + 1 = E.length := by rw [← hE]; simp
     rw [hE] at HO2 HD2
     clear hown hgrow hnil hE
     go_wp2_with fail
     go_roundw
     case rel => exact ⟨E, A', q', 1, by rw [hEl], rfl, by omega, HD2, HO2, HC2, HB3⟩
     case measure => simp [intOf]
    ·have HD2 : Hid (D = usU f1 f2 f3 a b k 1) := lhid (by rw [HD.out]; simp [usU, HDT.out])
     clear hD2
     rw [t2] at HHH
     go_wp2_with fail
     with_reducible refine (HHH.out _).mono ?_
     rintro e w3 ⟨rfl, rfl⟩
     go_wp2_with fail
     go_roundw
     case rel => exact ⟨D, A, q, 1, rfl, rfl, by omega, HD2, HO, HC, HB⟩
     case measure => simp [intOf]
    ·rw [t2] at HHH
     have HD2 : Hid (D ++ [a] = usU f1 f2 f3 a b k 1) := lhid (by rw [HD.out]; simp [usU, HDT.out])
     clear hD2
     go_wp2_with fail
     with_reducible refine (HHH.out _).mono ?_
     rintro e w3 ⟨rfl, rfl⟩
     go_wp2_with (at_builtin; refine wpList_append_own _ rfl (.tmp 42) (.tmp 44) 22 rfl (w2.heap.size + 1) 3 i0 (.int .i64 0) 1 8 Try.underlying22 hi0 hz0 hz1 hz2 rfl (by decide) (.slice A D.length q) D.length (D.map vI) rfl (HO.out.alloc _) ⟨wr.heap.size, 0, none⟩ 1 1 [vI a] rfl rfl ?g1c1 ?g1c2 ?g1c3 ?g1c4 ?g1c5 ?_)
     try case g1c1 => exact new_cells _ _ _
     case g1c2 => first | rfl | (intro u hu; simp at hu; subst hu; rfl)
     case g1c3 => unfold maxLen; omega
     case g1c4 => omega
     case g1c5 => first | omega | (simp; omega)
     intro v' w' hown hgrow hnil
     have hsh := own_shape hown
     obtain ⟨A', q', rfl⟩ := hsh
     have HO2 : Hid (OwN w' (w2.heap.size + 1) (.slice A' (D ++ [a]).length q') (D ++ [a])) := lhid (by simpa [OwN] using hown)
     have HC2 : Hid (w'.heap[w2.heap.size]? = some (.cells #[.int .u64 f1, .int .u64 f2, .int .u64 f3] 85 (0, 0))) := lhid ((hgrow.block w2.heap.size (by simp; omega) (fun e => by have := own_lt HO.out w2.heap.size (by first | exact e.symm | exact e); omega)).trans ((Below.heap_alloc _ _ _ hRlt).trans HC.out))
     have HB3 := lhid (Below.grown (HB.out.alloc HB.out.size _) hgrow (by simp; have := HB.out.size; omega) (fun k e => by have := own_lt HO.out k e; omega))
     obtain ⟨E, hE⟩ : ∃ E, D ++ [a] = E := ⟨_, rfl⟩
     have hEl : D.length + 1 = E.length := by rw [← hE]; simp
     rw [hE] at HO2 HD2
     clear hown hgrow hnil hE
     go_wp2_with fail
     go_roundw
     case rel => exact ⟨E, A', q', 1, by rw [hEl], rfl, by omega, HD2, HO2, HC2, HB3⟩
     case measure => simp [intOf]
   ·have HH := has_any f2 0 hfs.2.1 (.inl rfl)
    have HHH := lhid HH
    clear HH hfs
    rcases tk_ways f2 b with ⟨HT, t0⟩ | ⟨HT, t0, t1⟩ | ⟨HT, t0, t1, t2⟩ | ⟨HT, t0, t1, t2⟩
    all_goals
     have hD2 := HD.out
     have HDT := lhid HT
     clear HT
    ·have HD2 : Hid (D = usU f1 f2 f3 a b k 2) := lhid (by rw [HD.out]; simp [usU, HDT.out])
     clear hD2
     obtain rfl := eq_of_beq t0
     clear t0
     go_wp2_with fail
     go_roundw
     case rel => exact ⟨D, A, q, 2, rfl, rfl, by omega, HD2, HO, HC, HB⟩
     case measure => simp [intOf]
    ·have HD2 : Hid (D ++ [b] = usU f1 f2 f3 a b k 2) := lhid (by rw [HD.out]; simp [usU, HDT.out])
     clear hD2
     go_wp2_with (at_builtin; refine wpList_append_own _ rfl (.tmp 42) (.tmp 44) 22 rfl (w2.heap.size + 1) 3 i0 (.int .i64 0) 1 8 Try.underlying22 hi0 hz0 hz1 hz2 rfl (by decide) (.slice A D.length q) D.length (D.map vI) rfl (HO.out.alloc _) ⟨wr.heap.size, 0, none⟩ 1 1 [vI b] rfl rfl ?g2c1 ?g2c2 ?g2c3 ?g2c4 ?g2c5 ?_)
     try case g2c1 => exact new_cells _ _ _
     case g2c2 => first | rfl | (intro u hu; simp at hu; subst hu; rfl)
     case g2c3 => unfold maxLen; omega
     case g2c4 => omega
     case g2c5 => first | omega | (simp; omega)
     intro v' w' hown hgrow hnil
     have hsh := own_shape hown
     obtain ⟨A', q', rfl⟩ := hsh
     have HO2 : Hid (OwN w' (w2.heap.size + 1) (.slice A' (D ++ [b]).length q') (D ++ [b])) := lhid (by simpa [OwN] using hown)
     have HC2 : Hid (w'.heap[w2.heap.size]? = some (.cells #[.int .u64 f1, .int .u64 f2, .int .u64 f3] 85 (0, 0))) := lhid ((hgrow.block w2.heap.size (by simp; omega) (fun e => by have := own_lt HO.out w2.heap.size (by first | exact e.symm | exact e); omega)).trans ((Below.heap_alloc _ _ _ hRlt).trans HC.out))
     have HB3 := lhid (Below.grown (HB.out.alloc HB.out.size _) hgrow (by simp; have := HB.out.size; omega) (fun k e => by have := own_lt HO.out k e; omega))
     obtain ⟨E, hE⟩ : ∃ E, D ++ [b] = E := ⟨_, rfl⟩
     have hEl : D.length + 1 = E.length := by rw [← hE]; simp
     rw [hE] at HO2 HD2
     clear hown hgrow hnil hE
     go_wp2_with fail
     go_roundw
     case rel => exact ⟨E, A', q', 2, by rw [hEl], rfl, by omega, HD2, HO2, HC2, HB3⟩
     case measure => simp [intOf]
    ·have HD2 : Hid (D = usU f1 f2 f3 a b k 2) := lhid (by rw [HD.out]; simp [usU, HDT.out])
     clear hD2
     rw [t2] at HHH
     go_wp2_with fail
     with_reducible refine (HHH.out _).mono ?_
     rintro e w3 ⟨rfl, rfl⟩
     go_wp2_with fail
     go_roundw
     case rel => exact ⟨D, A, q, 2, rfl, rfl, by omega, HD2, HO, HC, HB⟩
     case measure => simp [intOf]
    ·rw [t2] at HHH
     have HD2 : Hid (D ++ [b] = usU f1 f2 f3 a b k 2) := lhid (by rw [HD.out]; simp [usU, HDT.out])
     clear hD2
     go_wp2_with fail
     with_reducible refine (HHH.out _).mono ?_
     rintro e w3 ⟨rfl, rfl⟩
     go_wp2_with (at_builtin; refine wpList_append_own _ rfl (.tmp 42) (.tmp 44) 22 rfl (w2.heap.size + 1) 3 i0 (.int .i64 0) 1 8 Try.underlying22 hi0 hz0 hz1 hz2 rfl (by decide) (.slice A D.length q) D.length (D.map vI) rfl (HO.out.alloc _) ⟨wr.heap.size, 0, none⟩ 1 1 [vI b] rfl rfl ?g3c1 ?g3c2 ?g3c3 ?g3c4 ?g3c5 ?_)
     try case g3c1 => exact new_cells _ _ _
     case g3c2 => first | rfl | (intro u hu; simp at hu; subst hu; rfl)
     case g3c3 => unfold maxLen; omega
     case g3c4 => omega
     case g3c5 => first | omega | (simp; omega)
     intro v' w' hown hgrow hnil
     have hsh := own_shape hown
     obtain ⟨A', q', rfl⟩ := hsh
     have HO2 : Hid (OwN w' (w2.heap.size + 1) (.slice A' (D ++ [b]).length q') (D ++ [b])) := lhid (by simpa [OwN] using hown)
     have HC2 : Hid (w'.heap[w2.heap.size]? = some (.cells #[.int .u64 f1, .int .u64 f2, .int .u64 f3] 85 (0, 0))) := lhid ((hgrow.block w2.heap.size (by simp; omega) (fun e => by have := own_lt HO.out w2.heap.size (by first | exact e.symm | exact e); omega)).trans ((Below.heap_alloc _ _ _ hRlt).trans HC.out))
     have HB3 := lhid (Below.grown (HB.out.alloc HB.out.size _) hgrow (by simp; have := HB.out.size; omega) (fun k e => by have := own_lt HO.out k e; omega))
     obtain ⟨E, hE⟩ : ∃ E, D ++ [b] = E := ⟨_, rfl⟩
     have hEl : D.length + 1 = E.length := by rw [← hE]; simp
     rw [hE] at HO2 HD2
     clear hown hgrow hnil hE
     go_wp2_with fail
     go_roundw
     case rel => exact ⟨E, A', q', 2, by rw [hEl], rfl, by omega, HD2, HO2, HC2, HB3⟩
     case measure => simp [intOf]
   ·have HH := has_any f3 0 hfs.2.2.1 (.inl rfl)
    have HHH := lhid HH
    clear HH hfs
    rcases tk_ways f3 k with ⟨HT, t0⟩ | ⟨HT, t0, t1⟩ | ⟨HT, t0, t1, t2⟩ | ⟨HT, t0, t1, t2⟩
    all_goals
     have hD2 := HD.out
     have HDT := lhid HT
     clear HT
    ·have HD2 : Hid (D = usU f1 f2 f3 a b k 3) := lhid (by rw [HD.out]; simp [usU, HDT.out])
     clear hD2
     obtain rfl := eq_of_beq t0
     clear t0
     go_wp2_with fail
     go_roundw
     case rel => exact ⟨D, A, q, 3, rfl, rfl, by omega, HD2, HO, HC, HB⟩
     case measure => simp [intOf]
    ·have HD2 : Hid (D ++ [k] = usU f1 f2 f3 a b k 3) := lhid (by rw [HD.out]; simp [usU, HDT.out])
     clear hD2
     go_wp2_with (at_builtin; refine wpList_append_own _ rfl (.tmp 42) (.tmp 44) 22 rfl (w2.heap.size + 1) 3 i0 (.int .i64 0) 1 8 Try.underlying22 hi0 hz0 hz1 hz2 rfl (by decide) (.slice A D.length q) D.length (D.map vI) rfl (HO.out.alloc _) ⟨wr.heap.size, 0, none⟩ 1 1 [vI k] rfl rfl ?g4c1 ?g4c2 ?g4c3 ?g4c4 ?g4c5 ?_)
     try case g4c1 => exact new_cells _ _ _
     case g4c2 => first | rfl | (intro u hu; simp at hu; subst hu; rfl)
     case g4c3 => unfold maxLen; omega
     case g4c4 => omega
     case g4c5 => first | omega | (simp; omega)
     intro v' w' hown hgrow hnil
     have hsh := own_shape hown
     obtain ⟨A', q', rfl⟩ := hsh
     have HO2 : Hid (OwN w' (w2.heap.size + 1) (.slice A' (D ++ [k]).length q') (D ++ [k])) := lhid (by simpa [OwN] using hown)
     have HC2 : Hid (w'.heap[w2.heap.size]? = some (.cells #[.int .u64 f1, .int .u64 f2, .int .u64 f3] 85 (0, 0))) := lhid ((hgrow.block w2.heap.size (by simp; omega) (fun e => by have := own_lt HO.out w2.heap.size (by first | exact e.symm | exact e); omega)).trans ((Below.heap_alloc _ _ _ hRlt).trans HC.out))
     have HB3 := lhid (Below.grown (HB.out.alloc HB.out.size _) hgrow (by simp; have := HB.out.size; omega) (fun k e => by have := own_lt HO.out k e; omega))
     obtain ⟨E, hE⟩ : ∃ E, D ++ [k] = E := ⟨_, rfl⟩
     have hEl : D.length + 1 = E.length := by rw [← hE]; simp
     rw [hE] at HO2 HD2
     clear hown hgrow hnil hE
     go_wp2_with fail
     go_roundw
     case rel => exact ⟨E, A', q', 3, by rw [hEl], rfl, by omega, HD2, HO2, HC2, HB3⟩
     case measure => simp [intOf]
    ·have HD2 : Hid (D = usU f1 f2 f3 a b k 3) := lhid (by rw [HD.out]; simp [usU, HDT.out])
     clear hD2
     rw [t2] at HHH
     go_wp2_with fail
     with_reducible refine (HHH.out _).mono ?_
     rintro e w3 ⟨rfl, rfl⟩
     go_wp2_with fail
     go_roundw
     case rel => exact ⟨D, A, q, 3, rfl, rfl, by omega, HD2, HO, HC, HB⟩
     case measure => simp [intOf]
    ·rw [t2] at HHH
     have HD2 : Hid (D ++ [k] = usU f1 f2 f3 a b k 3) := lhid (by rw [HD.out]; simp [usU, HDT.out])
     clear hD2
     go_wp2_with fail
     with_reducible refine (HHH.out _).mono ?_
     rintro e w3 ⟨rfl, rfl⟩
     go_wp2_with (at_builtin; refine wpList_append_own _ rfl (.tmp 42) (.tmp 44) 22 rfl (w2.heap.size + 1) 3 i0 (.int .i64 0) 1 8 Try.underlying22 hi0 hz0 hz1 hz2 rfl (by decide) (.slice A D.length q) D.length (D.map vI) rfl (HO.out.alloc _) ⟨wr.heap.size, 0, none⟩ 1 1 [vI k] rfl rfl ?g5c1 ?g5c2 ?g5c3 ?g5c4 ?g5c5 ?_)
     try case g5c1 => exact new_cells _ _ _
     case g5c2 => first | rfl | (intro u hu; simp at hu; subst hu; rfl)
     case g5c3 => unfold maxLen; omega
     case g5c4 => omega
     case g5c5 => first | omega | (simp; omega)
     intro v' w' hown hgrow hnil
     have hsh := own_shape hown
     obtain ⟨A', q', rfl⟩ := hsh
     have HO2 : Hid (OwN w' (w2.heap.size + 1) (.slice A' (D ++ [k]).length q') (D ++ [k])) := lhid (by simpa [OwN] using hown)
     have HC2 : Hid (w'.heap[w2.heap.size]? = some (.cells #[.int .u64 f1, .int .u64 f2, .int .u64 f3] 85 (0, 0))) := lhid ((hgrow.block w2.heap.size (by simp; omega) (fun e => by have := own_lt HO.out w2.heap.size (by first | exact e.symm | exact e); omega)).trans ((Below.heap_alloc _ _ _ hRlt).trans HC.out))
     have HB3 := lhid (Below.grown (HB.out.alloc HB.out.size _) hgrow (by simp; have := HB.out.size; omega) (fun k e => by have := own_lt HO.out k e; omega))
     obtain ⟨E, hE⟩ : ∃ E, D ++ [k] = E := ⟨_, rfl⟩
     have hEl : D.length + 1 = E.length := by rw [← hE]; simp
     rw [hE] at HO2 HD2
     clear hown hgrow hnil hE
     go_wp2_with fail
     go_roundw
     case rel => exact ⟨E, A', q', 3, by rw [hEl], rfl, by omega, HD2, HO2, HC2, HB3⟩
     case measure => simp [intOf]
   ·go_wp2_with fail
    go_ret
    refine ⟨_, rfl, ?_, HB.out⟩
    rw [← HU0.out, ← HD.out]
    exact own_base HO.out (by omega)
 ·have HU := lhid (huc rfl)
  clear hus huc hfs
  have HX := h
  go_enter Try.func52, Try.ntmps52
  go_wp2_with fail
  with_reducible refine (HCa _).out.mono ?_
  rintro e w1 ⟨rfl, hb⟩
  have h0 := (hb.block w.heap.size (by simp)).trans (heap_alloc_new w _)
  have c8 : w1.cell? ⟨w.heap.size, 8, none⟩ = some v := heap_cell h0 rfl
  have hb1 := ((Below.refl w.heap.size w).alloc (Nat.le_refl _) _).trans (hb.mono (by simp))
  have HB1 := lhid hb1
  have HX1 := lhid (h.out.below (keptX_nu _) hb1)
  clear hb h0 hb1
  go_wp2_with fail
  with_reducible refine (clone_nu row_nu _ _ _ HX1 hby.out).mono ?_
  rintro e w2 ⟨v', xs, rfl, ho, hr, hb⟩
  have HB2 := lhid (HB1.out.trans (hb.mono HB1.out.size))
  have HO := lhid ho
  have HR := lhid (rowsE_nu hr)
  have HS := lhid HB1.out.size
  clear ho hr hb
  go_wp2_with fail
  go_ret
  refine ⟨_, rfl, ?_, HB2.out⟩
  rw [HU.out]
  have := HO.out
  rw [HR.out] at this
  exact own_base this HS.out
end Go.Proofs.Ytoommeiiadobfaa
/- Contracts of the document's words on the table: Ints, in, row, Calls, Throws, Pure, Leads, Ends, Def. -/
namespace Go.Proofs.Ytoommeiiadobfaa
open Go.RowKit Go
set_option linter.unusedVariables false
set_option linter.unusedSimpArgs false
def Tru (_ : Nat) : Prop := True
theorem rd_lit (w : World) (l : List Int) (c : Array Value) (n m : Nat) (T : TypeId) (hc : c = (l.map fun z => Value.int .i64 z).toArray) (hn : n = l.length) (hl : l.length ≤ 140737488355328) : RdX Tru 1 NuE (w.alloc (.cells c T)) (.slice (some ⟨w.heap.size, 0, none⟩) n m) l := by
 subst hc hn
 refine ⟨_, m, rfl, fun e => (by cases e), hl, fun i a hi => ⟨w.heap.size, 0, [.int .i64 a], rfl, trivial, rfl, fun j u hj => ?_⟩⟩
 cases j with
 | succ j => simp at hj
 | zero =>
  simp at hj
  subst hj
  refine heap_cell (heap_alloc_new w _) ?_
  simp [hi]
set_option maxHeartbeats 1000000 in
set_option maxRecDepth 100000 in
theorem rin_any {P : Nat → Prop} (c : Int) (v : Value) (l : List Int) (w : World) (h : Hid (RdX P 1 NuE w v l)) :
  Calls Try.prog 27 #[.int .i64 c, v] w fun e w' => e = .returned (.bool (decide (c ∈ l))) ∧ w = w' := by
 obtain ⟨A, cap, rfl⟩ := h.out.shape
 have hl := h.out.len
 go_enter Try.func27, Try.ntmps27
 go_wp2_with fail
 go_loopw [5] (fun i wr => ∃ k : Nat, i = .int .i64 k ∧ k ≤ l.length ∧ Hid (c ∉ l.take k) ∧ wr = w) (fun i _ => l.length - (intOf i).toNat)
 case atStart => exact ⟨0, rfl, Nat.zero_le _, lhid (by simp), rfl⟩
 case round =>
  obtain ⟨k, rfl, hk, HN, rfl⟩ := hrel
  by_cases hlt : k < l.length
  ·obtain ⟨x, hx⟩ : ∃ x, l[k]? = some x := ⟨_, List.getElem?_eq_getElem hlt⟩
   obtain ⟨g, o, cc, rfl, _, hE, hc⟩ := h.out.at' hx
   have c0 : wr.cell? ⟨g, o + k, none⟩ = some (.int .i64 x) := by
    have := hc 0 (.int .i64 x) (by rw [hE]; rfl)
    rwa [Nat.mul_one] at this
   have k3 : (k : Int) < l.length := by omega
   have HX := lhid hx
   clear hx hc hE
   by_cases hxc : x = c
   ·have HM := lhid (List.mem_of_getElem? HX.out)
    have d0 : (x == c) = true := by rw [hxc]; simp
    have HXC := lhid hxc
    clear hxc
    go_wp2_with fail
    go_ret
    exact ⟨ret_bool (by rw [← HXC.out, decide_eq_true HM.out]), rfl⟩
   ·have d0 : (x == c) = false := by rw [beq_eq_false_iff_ne]; exact hxc
    have HM2 : Hid (c ∉ l.take (k + 1)) := lhid (by rw [List.take_add_one, HX.out]; simp only [Option.toList_some, List.mem_append, List.mem_singleton, not_or]; exact ⟨HN.out, fun e => hxc e.symm⟩)
    clear hxc
    go_wp2_with fail
    go_roundw
    case rel => exact ⟨k + 1, by go_num, by omega, HM2, trivial⟩
    case measure => simp [intOf]; omega
  ·have k3 : ¬ (k : Int) < l.length := by omega
   have hn := HN.out
   rw [List.take_of_length_le (by omega)] at hn
   have HN2 := lhid hn
   clear hn HN
   go_wp2_with fail
   go_ret
   exact ⟨ret_bool (by rw [decide_eq_false HN2.out]), rfl⟩
theorem rin_r {P : Nat → Prop} (c : Int) (v : Value) (l : List Int) (r : Bool) (w : World) (h : RdX P 1 NuE w v l) (hr : Hid (decide (c ∈ l) = r)) :
  Calls Try.prog 27 #[.int .i64 c, v] w fun e w' => e = .returned (.bool r) ∧ w = w' := by
 have := rin_any c v l w (lhid h)
 rwa [hr.out] at this
set_option maxHeartbeats 1000000 in
set_option maxRecDepth 100000 in
theorem rleads_any (c : Int) (w : World) :
  Calls Try.prog 29 #[.int .i64 c] w fun e w' => e = .returned (.bool (leadsB c)) ∧ Below w.heap.size w w' := by
 go_enter Try.func29, Try.ntmps29
 go_wp2_with fail
 with_reducible refine (rin_r c _ [27, 28, 29] (leadsB c) _ (rd_lit _ _ _ _ _ _ (by with_unfolding_all rfl) (by with_unfolding_all rfl) (by decide)) (lhid rfl)).mono ?_
 rintro e w1 ⟨rfl, rfl⟩
 go_wp2_with fail
 go_ret
 exact ⟨rfl, (Below.refl w.heap.size w).alloc (Nat.le_refl _) _⟩
set_option maxHeartbeats 1000000 in
set_option maxRecDepth 100000 in
theorem rends_any (c : Int) (w : World) :
  Calls Try.prog 25 #[.int .i64 c] w fun e w' => e = .returned (.bool (endsB c)) ∧ Below w.heap.size w w' := by
 go_enter Try.func25, Try.ntmps25
 go_wp2_with fail
 with_reducible refine (rin_r c _ [27, 30, 31] (endsB c) _ (rd_lit _ _ _ _ _ _ (by with_unfolding_all rfl) (by with_unfolding_all rfl) (by decide)) (lhid rfl)).mono ?_
 rintro e w1 ⟨rfl, rfl⟩
 go_wp2_with fail
 go_ret
 exact ⟨rfl, (Below.refl w.heap.size w).alloc (Nat.le_refl _) _⟩
end Go.Proofs.Ytoommeiiadobfaa
/- Contract of the document's row. -/
namespace Go.Proofs.Ytoommeiiadobfaa
open Go.RowKit Go
set_option linter.unusedVariables false
set_option linter.unusedSimpArgs false
theorem tab_at (w : World) (T : TypeId) (n : Nat) (hn : n < 34) : (w.alloc (.cells #[.string ⟨#[]⟩, .string ⟨#[110, 45, 45, 45]⟩, .string ⟨#[51, 45, 45, 45]⟩, .string ⟨#[51, 45, 45, 45]⟩, .string ⟨#[42, 61, 45, 45]⟩, .string ⟨#[63, 63, 63, 63]⟩, .string ⟨#[63, 63, 63, 63]⟩, .string ⟨#[45, 110, 45, 45]⟩, .string ⟨#[45, 51, 45, 45]⟩, .string ⟨#[45, 51, 49, 45]⟩, .string ⟨#[45, 49, 45, 45]⟩, .string ⟨#[45, 51, 51, 45]⟩, .string ⟨#[45, 51, 45, 45]⟩, .string ⟨#[42, 51, 49, 45]⟩, .string ⟨#[45, 51, 49, 42]⟩, .string ⟨#[49, 51, 45, 45]⟩, .string ⟨#[42, 51, 45, 45]⟩, .string ⟨#[45, 51, 42, 45]⟩, .string ⟨#[42, 45, 45, 45]⟩, .string ⟨#[45, 42, 45, 45]⟩, .string ⟨#[51, 45, 45, 45]⟩, .string ⟨#[51, 49, 45, 45]⟩, .string ⟨#[49, 51, 45, 45]⟩, .string ⟨#[63, 63, 63, 63]⟩, .string ⟨#[63, 63, 63, 63]⟩, .string ⟨#[63, 63, 63, 63]⟩, .string ⟨#[63, 63, 63, 63]⟩, .string ⟨#[45, 45, 45, 45]⟩, .string ⟨#[45, 49, 49, 45]⟩, .string ⟨#[45, 51, 63, 45]⟩, .string ⟨#[45, 63, 45, 45]⟩, .string ⟨#[45, 51, 45, 45]⟩, .string ⟨#[51, 45, 45, 45]⟩, .string ⟨#[45, 45, 45, 45]⟩] T)).cell? ⟨w.heap.size, n, none⟩ = some (.string (tx (rowT n))) := by
 refine heap_cell (heap_alloc_new w _) ?_
 have e : (#[.string ⟨#[]⟩, .string ⟨#[110, 45, 45, 45]⟩, .string ⟨#[51, 45, 45, 45]⟩, .string ⟨#[51, 45, 45, 45]⟩, .string ⟨#[42, 61, 45, 45]⟩, .string ⟨#[63, 63, 63, 63]⟩, .string ⟨#[63, 63, 63, 63]⟩, .string ⟨#[45, 110, 45, 45]⟩, .string ⟨#[45, 51, 45, 45]⟩, .string ⟨#[45, 51, 49, 45]⟩, .string ⟨#[45, 49, 45, 45]⟩, .string ⟨#[45, 51, 51, 45]⟩, .string ⟨#[45, 51, 45, 45]⟩, .string ⟨#[42, 51, 49, 45]⟩, .string ⟨#[45, 51, 49, 42]⟩, .string ⟨#[49, 51, 45, 45]⟩, .string ⟨#[42, 51, 45, 45]⟩, .string ⟨#[45, 51, 42, 45]⟩, .string ⟨#[42, 45, 45, 45]⟩, .string ⟨#[45, 42, 45, 45]⟩, .string ⟨#[51, 45, 45, 45]⟩, .string ⟨#[51, 49, 45, 45]⟩, .string ⟨#[49, 51, 45, 45]⟩, .string ⟨#[63, 63, 63, 63]⟩, .string ⟨#[63, 63, 63, 63]⟩, .string ⟨#[63, 63, 63, 63]⟩, .string ⟨#[63, 63, 63, 63]⟩, .string ⟨#[45, 45, 45, 45]⟩, .string ⟨#[45, 49, 49, 45]⟩, .string ⟨#[45, 51, 63, 45]⟩, .string ⟨#[45, 63, 45, 45]⟩, .string ⟨#[45, 51, 45, 45]⟩, .string ⟨#[51, 45, 45, 45]⟩, .string ⟨#[45, 45, 45, 45]⟩] : Array Value) = ((List.range 34).map fun k : Nat => Value.string (tx (rowT k))).toArray := by kernel_rfl
 rw [e]
 simp [hn]
theorem tab_world (w : World) (T : TypeId) (w1 : World) (h : w1 = w.alloc (.cells #[.string ⟨#[]⟩, .string ⟨#[110, 45, 45, 45]⟩, .string ⟨#[51, 45, 45, 45]⟩, .string ⟨#[51, 45, 45, 45]⟩, .string ⟨#[42, 61, 45, 45]⟩, .string ⟨#[63, 63, 63, 63]⟩, .string ⟨#[63, 63, 63, 63]⟩, .string ⟨#[45, 110, 45, 45]⟩, .string ⟨#[45, 51, 45, 45]⟩, .string ⟨#[45, 51, 49, 45]⟩, .string ⟨#[45, 49, 45, 45]⟩, .string ⟨#[45, 51, 51, 45]⟩, .string ⟨#[45, 51, 45, 45]⟩, .string ⟨#[42, 51, 49, 45]⟩, .string ⟨#[45, 51, 49, 42]⟩, .string ⟨#[49, 51, 45, 45]⟩, .string ⟨#[42, 51, 45, 45]⟩, .string ⟨#[45, 51, 42, 45]⟩, .string ⟨#[42, 45, 45, 45]⟩, .string ⟨#[45, 42, 45, 45]⟩, .string ⟨#[51, 45, 45, 45]⟩, .string ⟨#[51, 49, 45, 45]⟩, .string ⟨#[49, 51, 45, 45]⟩, .string ⟨#[63, 63, 63, 63]⟩, .string ⟨#[63, 63, 63, 63]⟩, .string ⟨#[63, 63, 63, 63]⟩, .string ⟨#[63, 63, 63, 63]⟩, .string ⟨#[45, 45, 45, 45]⟩, .string ⟨#[45, 49, 49, 45]⟩, .string ⟨#[45, 51, 63, 45]⟩, .string ⟨#[45, 63, 45, 45]⟩, .string ⟨#[45, 51, 45, 45]⟩, .string ⟨#[51, 45, 45, 45]⟩, .string ⟨#[45, 45, 45, 45]⟩] T)) (n : Nat) (hn : n < 34) : w1.cell? ⟨w.heap.size, n, none⟩ = some (.string (tx (rowT n))) ∧ Below w.heap.size w w1 := by
 subst h
 exact ⟨tab_at w T n hn, (Below.refl w.heap.size w).alloc (Nat.le_refl _) _⟩
set_option maxHeartbeats 8000000 in
set_option maxRecDepth 100000 in
theorem rrow_any (c : Int) (w : World) :
  Calls Try.prog 42 #[.int .i64 c] w fun e w' => e = .returned (.string (tx (rowT c))) ∧ Below w.heap.size w w' := by
 by_cases ho : c < 1 ∨ 34 ≤ c
 ·have HR := lhid (out_of c ho).2.2.2.2.2.2.2.2
  by_cases h1 : c < 1
  ·clear ho
   go_enter Try.func42, Try.ntmps42
   go_wp2
   go_ret
   exact ⟨by rw [HR.out]; rfl, (Below.refl w.heap.size w).alloc (Nat.le_refl _) _⟩
  ·have h2 : 34 ≤ c := by omega
   clear ho
   go_enter Try.func42, Try.ntmps42
   go_wp2
   go_ret
   exact ⟨by rw [HR.out]; rfl, (Below.refl w.heap.size w).alloc (Nat.le_refl _) _⟩
 ·obtain ⟨n, rfl, hn1, hn⟩ : ∃ n : Nat, c = n ∧ 1 ≤ n ∧ n < 34 := ⟨c.toNat, by omega, by omega, by omega⟩
  have q1 : ¬ (n : Int) < 1 := by omega
  have q2 : ¬ (34 : Int) ≤ n := by omega
  have q3 : (n : Int) < 34 := by omega
  clear ho
  go_enter Try.func42, Try.ntmps42
  go_upto_region 4 with fail
  generalize hw : w.alloc _ = w1
  obtain ⟨hc, hb⟩ := tab_world w 9 w1 hw.symm n hn
  have HB := lhid hb
  have q4 : (0 : Int) ≤ n := by omega
  clear hw hb hn1 hn
  go_wp2
  go_ret
  exact ⟨rfl, HB.out⟩
end Go.Proofs.Ytoommeiiadobfaa
