/- Texts of this claim, joined: CInsBase, CInsMath, CInsTab, CFlwSp0. -/
import Derived.Test.YtbkeneadoccodaaM1
import Derived.Below
import Derived.Deep.Draws
import Derived.Deep.OwnRows
import Derived.Laws.AppendOwn
import Derived.Laws.OwnMore
import Derived.Laws.IdiomCopy
import Derived.Laws.IdiomStrings
import Derived.OwnWalk
import Derived.WalkKit
import Derived.ProofKit
/- Memory for package ins: texts, what changes, slices that can be read, instructions, functions. -/
namespace Go.Proofs.Ytbkeneadoccodaa
open Go.RowKit Go
set_option linter.unusedVariables false
theorem lhid {p : Prop} (h : p) : Hid p := h
def tx (l : Bs) : ByteArray := ⟨l.toArray⟩
theorem tx_list (l : Bs) : (tx l).data.toList = l := by simp [tx]
theorem tx_size (l : Bs) : (tx l).size = l.length := by
 show (tx l).data.size = _
 simp [tx]
theorem tx_nil : tx [] = ⟨#[]⟩ := rfl
theorem tx_toL (l : Bs) : (tx l).toList = l := by rw [Lib.toList_data, tx_list]
theorem heap_set {w : World} {R i : Nat} {c : Array Value} {t : TypeId} {f : Nat × Nat} (h : w.heap[R]? = some (.cells c t f)) (v : Value) : (w.setCell ⟨R, i, none⟩ v).heap[R]? = some (.cells (c.setIfInBounds i v) t f) := by
 simp [World.setCell, Array.getElem?_modify, h]
theorem heap_cell {w : World} {R i : Nat} {c : Array Value} {t : TypeId} {f : Nat × Nat} {v : Value} (h : w.heap[R]? = some (.cells c t f)) (hv : c[i]? = some v) : w.cell? ⟨R, i, none⟩ = some v := by
 simp [World.cell?, h, hv]
theorem heap_thaw {w : World} {R : Nat} {c : Array Value} {t : TypeId} (h : w.heap[R]? = some (.cells c t (0, 0))) (i : Nat) : w.frozen? ⟨R, i, none⟩ = false := by
 simp [World.frozen?, h]
theorem heap_lt {w : World} {R : Nat} {o : Obj} (h : w.heap[R]? = some o) : R < w.heap.size := (Array.getElem?_eq_some_iff.1 h).1
theorem cell_lt {w : World} {p : Addr} {u : Value} (h : w.cell? p = some u) : p.block < w.heap.size := by
 unfold World.cell? at h
 cases hb : w.heap[p.block]? with
 | none => rw [hb] at h; simp at h
 | some o => exact (Array.getElem?_eq_some_iff.1 hb).1
theorem cell_heap {w w' : World} {g : Nat} (h : w'.heap[g]? = w.heap[g]?) (j : Nat) : w'.cell? ⟨g, j, none⟩ = w.cell? ⟨g, j, none⟩ := by
 unfold World.cell?
 rw [h]
theorem addr_add (g o j : Nat) : (⟨g, o, none⟩ : Addr).add j = ⟨g, o + j, none⟩ := by unfold Addr.add; split <;> simp_all
theorem Below.drewN' {B : Nat} {a w : World} (h : Below B a w) (n : Nat) : Below B a (w.drewN n) := ⟨h.os, h.tape, h.output, h.size, h.block⟩
theorem Below.drew' {B : Nat} {a w : World} (h : Below B a w) : Below B a w.drew := ⟨h.os, h.tape, h.output, h.size, h.block⟩
theorem Below.grown {B : Nat} {a w w' : World} {row : Option Nat} (h : Below B a w) (hg : w.grownBy w' row) (hs : B ≤ w.heap.size) (hr : ∀ k, row = some k → B ≤ k) : Below B a w' :=
 h.trans ⟨hg.os, hg.tape, hg.output, hg.size, fun k hk => hg.block k (Nat.lt_of_lt_of_le hk hs) (fun e => by have := hr k e.symm; omega)⟩
theorem Below.less {B C : Nat} {a w : World} (h : Below B a w) (hC : C ≤ B) : Below C a w := ⟨h.os, h.tape, h.output, h.size, fun k hk => h.block k (by omega)⟩
structure Ch (X : Nat → Prop) (w w' : World) : Prop where
 os : w'.os = w.os
 tape : w'.tape = w.tape
 output : w'.output = w.output
 size : w.heap.size ≤ w'.heap.size
 block : ∀ k, k < w.heap.size → ¬ X k → w'.heap[k]? = w.heap[k]?
theorem Ch.refl (X : Nat → Prop) (w : World) : Ch X w w := ⟨rfl, rfl, rfl, Nat.le_refl _, fun _ _ _ => rfl⟩
theorem Ch.trans {X Y : Nat → Prop} {a b c : World} (h : Ch X a b) (k : Ch Y b c) (hY : ∀ i, i < a.heap.size → Y i → X i) : Ch X a c :=
 ⟨k.os.trans h.os, k.tape.trans h.tape, k.output.trans h.output, Nat.le_trans h.size k.size, fun i hi hx => (k.block i (Nat.lt_of_lt_of_le hi h.size) (fun hy => hx (hY i hi hy))).trans (h.block i hi hx)⟩
theorem Ch.mono {X Y : Nat → Prop} {a b : World} (h : Ch X a b) (hY : ∀ i, i < a.heap.size → X i → Y i) : Ch Y a b := ⟨h.os, h.tape, h.output, h.size, fun i hi hy => h.block i hi (fun hx => hy (hY i hi hx))⟩
theorem Ch.drew {X : Nat → Prop} {a w : World} (h : Ch X a w) : Ch X a w.drew := ⟨h.os, h.tape, h.output, h.size, h.block⟩
theorem Ch.drewN {X : Nat → Prop} {a w : World} (h : Ch X a w) (n : Nat) : Ch X a (w.drewN n) := ⟨h.os, h.tape, h.output, h.size, h.block⟩
theorem Ch.below {X : Nat → Prop} {a w w' : World} (h : Ch X a w) (hb : Below w.heap.size w w') : Ch X a w' :=
 h.trans (Y := fun _ => False) ⟨hb.os, hb.tape, hb.output, hb.size, fun k hk _ => hb.block k hk⟩ (fun _ _ h => h.elim)
theorem Ch.of {X : Nat → Prop} {w w' : World} (hb : Below w.heap.size w w') : Ch X w w' := (Ch.refl X w).below hb
theorem Ch.alloc {X : Nat → Prop} {a w : World} (h : Ch X a w) (o : Obj) : Ch X a (w.alloc o) := h.below ((Below.refl _ _).alloc (Nat.le_refl _) o)
theorem Ch.grown {X : Nat → Prop} {a w w' : World} {row : Option Nat} (h : Ch X a w) (hg : w.grownBy w' row) (hr : ∀ k, row = some k → k < a.heap.size → X k) : Ch X a w' :=
 h.trans (Y := fun k => row = some k) ⟨hg.os, hg.tape, hg.output, hg.size, fun k hk hne => hg.block k hk (fun e => hne e.symm)⟩ (fun i hi e => hr i e hi)
theorem Ch.set {X : Nat → Prop} {a w : World} (h : Ch X a w) {p : Addr} (hp : p.block < a.heap.size → X p.block) (u : Value) : Ch X a (w.setCell p u) :=
 ⟨h.os, h.tape, h.output, by have := h.size; simpa [World.setCell] using this, fun k hk hx => by
  have hne : k ≠ p.block := fun e => hx (by rw [e]; exact hp (by rw [← e]; exact hk))
  rw [Below.heap_setCell _ _ _ _ hne]
  exact h.block k hk hx⟩
theorem Ch.to {X : Nat → Prop} {B : Nat} {a w : World} (h : Ch X a w) (hB : B ≤ a.heap.size) (hX : ∀ k, X k → B ≤ k) : Below B a w := ⟨h.os, h.tape, h.output, h.size, fun k hk => h.block k (by omega) (fun hx => by have := hX k hx; omega)⟩
theorem Ch.keep {X : Nat → Prop} {a w : World} (h : Ch X a w) {k : Nat} {o : Obj} (hk : a.heap[k]? = some o) (hx : ¬ X k) : w.heap[k]? = some o := by
 rw [h.block k (heap_lt hk) hx]
 exact hk
theorem setCells_other {b k : Nat} (hk : k ≠ b) : ∀ (vs : List Value) (o : Nat) (w : World), (w.setCells b o vs).heap[k]? = w.heap[k]?
 | [], _, _ => rfl
 | v :: r, o, w => by
  rw [World.setCells, setCells_other hk r (o + 1) _]
  exact Below.heap_setCell _ _ _ _ hk
theorem setCells_size (b : Nat) : ∀ (vs : List Value) (o : Nat) (w : World), (w.setCells b o vs).heap.size = w.heap.size
 | [], _, _ => rfl
 | v :: r, o, w => by
  rw [World.setCells, setCells_size b r (o + 1) _]
  simp [World.setCell]
theorem setCells_rest (b : Nat) : ∀ (vs : List Value) (o : Nat) (w : World), (w.setCells b o vs).os = w.os ∧ (w.setCells b o vs).tape = w.tape ∧ (w.setCells b o vs).output = w.output
 | [], _, _ => ⟨rfl, rfl, rfl⟩
 | v :: r, o, w => by
  rw [World.setCells]
  exact setCells_rest b r (o + 1) _
theorem Ch.cells {X : Nat → Prop} {a w : World} (h : Ch X a w) {b : Nat} (hp : b < a.heap.size → X b) (o : Nat) (vs : List Value) : Ch X a (w.setCells b o vs) := by
 have hr := setCells_rest b vs o w
 refine ⟨hr.1.trans h.os, hr.2.1.trans h.tape, hr.2.2.trans h.output, by rw [setCells_size]; exact h.size, fun k hk hx => ?_⟩
 have hne : k ≠ b := fun e => hx (by rw [e]; exact hp (by rw [← e]; exact hk))
 rw [setCells_other hne]
 exact h.block k hk hx
theorem new_cells (w : World) (l : List Value) (T : TypeId) : ∀ (j : Nat) (u : Value), l[j]? = some u → (w.alloc (.cells l.toArray T)).cell? ((⟨w.heap.size, 0, none⟩ : Addr).add j) = some u := by
 intro j u hu
 rw [addr_add, Nat.zero_add]
 exact heap_cell (heap_alloc_new w _) (by simpa using hu)
theorem own_lt {w : World} {B e size n : Nat} {v : Value} {xs : List Value} (h : w.ownsRow B e size v n xs) : ∀ k, v.ownBlock = some k → B ≤ k := fun k hk => (h.lt k hk).1
theorem own_shape {w : World} {B e size n : Nat} {v : Value} {xs : List Value} (h : w.ownsRow B e size v n xs) : ∃ A c, v = .slice A n c := by
 rcases h.2 with ⟨rfl, rfl⟩ | ⟨g, cap, cur, rfl, _⟩
 ·exact ⟨_, _, rfl⟩
 ·exact ⟨_, _, rfl⟩
theorem own_of {w w' : World} {B e size n : Nat} {v : Value} {xs : List Value} (h : w.ownsRow B e size v n xs) (hb : ∀ g, v.ownBlock = some g → w'.heap[g]? = w.heap[g]?) : w'.ownsRow B e size v n xs := by
 refine ⟨h.1, ?_⟩
 rcases h.2 with h2 | ⟨g, cap, cur, rfl, h2, h3, h4⟩
 ·exact .inl h2
 ·exact .inr ⟨g, cap, cur, rfl, h2, (hb g rfl).trans h3, h4⟩
theorem own_below {w w' : World} {B e size n : Nat} {v : Value} {xs : List Value} (h : w.ownsRow B e size v n xs) (hb : Below w.heap.size w w') : w'.ownsRow B e size v n xs :=
 own_of h fun g hg => hb.block g (h.lt g hg).2
theorem own_ch {X : Nat → Prop} {w w' : World} {B e size n : Nat} {v : Value} {xs : List Value} (h : w.ownsRow B e size v n xs) (hc : Ch X w w') (hX : ∀ g, v.ownBlock = some g → ¬ X g) : w'.ownsRow B e size v n xs :=
 own_of h fun g hg => hc.block g (h.lt g hg).2 (hX g hg)
theorem own_base {w : World} {B B' e size n : Nat} {v : Value} {xs : List Value} (h : w.ownsRow B e size v n xs) (hB : B' ≤ B) : w.ownsRow B' e size v n xs := by
 refine ⟨h.1, ?_⟩
 rcases h.2 with h2 | ⟨g, cap, cur, h1, h2, h3⟩
 ·exact .inl h2
 ·exact .inr ⟨g, cap, cur, h1, Nat.le_trans hB h2, h3⟩
structure RwI where
 fr : Int
 too : Int
 at_ : Int
 cls : Bs
def RdX {α : Type} (P : Nat → Prop) (k : Nat) (E : World → α → List Value → Prop) (w : World) (v : Value) (l : List α) : Prop :=
 ∃ A cap, v = .slice A l.length cap ∧ (A = none → cap = 0) ∧ l.length ≤ 140737488355328 ∧ ∀ (i : Nat) (a : α), l[i]? = some a → ∃ g o c, A = some ⟨g, o, none⟩ ∧ P g ∧ E w a c ∧ ∀ (j : Nat) u, c[j]? = some u → w.cell? ⟨g, o + i * k + j, none⟩ = some u
def RwE (_ : World) (r : RwI) (c : List Value) : Prop := c = [.int .i64 r.fr, .int .i64 r.too, .int .i64 r.at_, .string (tx r.cls)]
def KeptX {α : Type} (P : Nat → Prop) (E : World → α → List Value → Prop) : Prop := ∀ w w' a c, (∀ g, P g → g < w.heap.size → w'.heap[g]? = w.heap[g]?) → E w a c → E w' a c
theorem RdX.kept {α : Type} {P : Nat → Prop} {k : Nat} {E : World → α → List Value → Prop} (hE : KeptX P E) {w w' : World} {v : Value} {l : List α} (h : RdX P k E w v l) (hb : ∀ g, P g → g < w.heap.size → w'.heap[g]? = w.heap[g]?) : RdX P k E w' v l := by
 obtain ⟨A, cap, h1, h0, h2, h3⟩ := h
 refine ⟨A, cap, h1, h0, h2, fun i a hi => ?_⟩
 obtain ⟨g, o, c, h4, hg, h5, h6⟩ := h3 i a hi
 exact ⟨g, o, c, h4, hg, hE _ _ _ _ hb h5, fun j u hj => (cell_heap (hb g hg (cell_lt (h6 j u hj))) _).trans (h6 j u hj)⟩
theorem keptX_pure {α : Type} (P : Nat → Prop) (E : World → α → List Value → Prop) (h : ∀ w w', E w = E w') : KeptX P E := fun w w' a c _ hc => by rw [h w' w]; exact hc
theorem keptX_rw (P : Nat → Prop) : KeptX P RwE := keptX_pure _ _ fun _ _ => rfl
theorem RdX.mono {α : Type} {P Q : Nat → Prop} {k : Nat} {E E' : World → α → List Value → Prop} {w : World} (hE : ∀ a c, E w a c → E' w a c) (hP : ∀ g, P g → g < w.heap.size → Q g) (hk : ∀ a c, E w a c → c ≠ []) {v : Value} {l : List α} (h : RdX P k E w v l) : RdX Q k E' w v l := by
 obtain ⟨A, cap, h1, h0, h2, h3⟩ := h
 refine ⟨A, cap, h1, h0, h2, fun i a hi => ?_⟩
 obtain ⟨g, o, c, h4, hg, h5, h6⟩ := h3 i a hi
 refine ⟨g, o, c, h4, hP g hg ?_, hE _ _ h5, h6⟩
 cases c with
 | nil => exact absurd rfl (hk _ _ h5)
 | cons u r => exact cell_lt (h6 0 u rfl)
theorem rw_ne {w : World} (a : RwI) (c : List Value) (h : RwE w a c) : c ≠ [] := by rw [h]; simp
theorem RdX.ch {α : Type} {P X : Nat → Prop} {k : Nat} {E : World → α → List Value → Prop} (hE : KeptX P E) {w w' : World} {v : Value} {l : List α} (h : RdX P k E w v l) (hc : Ch X w w') (hP : ∀ g, P g → ¬ X g) : RdX P k E w' v l :=
 h.kept hE fun g hg hl => hc.block g hl (hP g hg)
theorem RdX.below {α : Type} {P : Nat → Prop} {k : Nat} {E : World → α → List Value → Prop} (hE : KeptX P E) {w w' : World} {v : Value} {l : List α} (h : RdX P k E w v l) (hb : Below w.heap.size w w') : RdX P k E w' v l :=
 h.kept hE fun g _ hl => hb.block g hl
theorem rdX_nil {α : Type} (P : Nat → Prop) (k : Nat) (E : World → α → List Value → Prop) (w : World) (A : Option Addr) (cap : Nat) (h : A = none → cap = 0) : RdX P k E w (.slice A 0 cap) [] := ⟨A, cap, rfl, h, Nat.zero_le _, fun i a h => by simp at h⟩
theorem RdX.shape {α : Type} {P : Nat → Prop} {k : Nat} {E : World → α → List Value → Prop} {w : World} {v : Value} {l : List α} (h : RdX P k E w v l) : ∃ A cap, v = .slice A l.length cap := by
 obtain ⟨A, cap, h1, _⟩ := h
 exact ⟨A, cap, h1⟩
theorem RdX.len {α : Type} {P : Nat → Prop} {k : Nat} {E : World → α → List Value → Prop} {w : World} {v : Value} {l : List α} (h : RdX P k E w v l) : l.length ≤ 140737488355328 := by
 obtain ⟨A, cap, h1, _, h2, _⟩ := h
 exact h2
theorem RdX.at' {α : Type} {P : Nat → Prop} {k : Nat} {E : World → α → List Value → Prop} {w : World} {A : Option Addr} {n cap : Nat} {l : List α} (h : RdX P k E w (.slice A n cap) l) {i : Nat} {a : α} (hi : l[i]? = some a) :
  ∃ g o c, A = some ⟨g, o, none⟩ ∧ P g ∧ E w a c ∧ ∀ (j : Nat) u, c[j]? = some u → w.cell? ⟨g, o + i * k + j, none⟩ = some u := by
 obtain ⟨A', cap', h1, _, _, h3⟩ := h
 injection h1 with e1 _ _
 subst e1
 exact h3 i a hi
def RowsE {α : Type} (k : Nat) (E : α → List Value → Prop) (l : List α) (xs : List Value) : Prop := xs.length = l.length * k ∧ ∀ (i : Nat) (a : α), l[i]? = some a → ∃ c, E a c ∧ ∀ (j : Nat) u, c[j]? = some u → xs[i * k + j]? = some u
theorem rowsE_nil {α : Type} (k : Nat) (E : α → List Value → Prop) : RowsE k E [] [] := ⟨by simp, fun i a h => by simp at h⟩
theorem RowsE.app {α : Type} {k : Nat} {E : α → List Value → Prop} {l m : List α} {xs ys : List Value} (h : RowsE k E l xs) (h' : RowsE k E m ys) : RowsE k E (l ++ m) (xs ++ ys) := by
 refine ⟨by rw [List.length_append, List.length_append, h.1, h'.1, Nat.add_mul], fun i a hi => ?_⟩
 rcases Nat.lt_or_ge i l.length with hlt | hge
 ·rw [List.getElem?_append_left hlt] at hi
  obtain ⟨c, h1, h2⟩ := h.2 i a hi
  refine ⟨c, h1, fun j u hj => ?_⟩
  have := h2 j u hj
  rw [List.getElem?_append_left (List.getElem?_eq_some_iff.1 this).1]
  exact this
 ·rw [List.getElem?_append_right hge] at hi
  obtain ⟨c, h1, h2⟩ := h'.2 _ a hi
  refine ⟨c, h1, fun j u hj => ?_⟩
  have h3 := h2 j u hj
  have h4 : l.length * k ≤ i * k := Nat.mul_le_mul_right _ hge
  rw [List.getElem?_append_right (by rw [h.1]; omega), h.1, show i * k + j - l.length * k = (i - l.length) * k + j by rw [Nat.sub_mul]; omega]
  exact h3
theorem rowsE_one {α : Type} {k : Nat} {E : α → List Value → Prop} {a : α} {c : List Value} (h : E a c) (hk : c.length = k) : RowsE k E [a] c :=
 ⟨by simp [hk], fun i x hi => by
  cases i with
  | succ i => simp at hi
  | zero =>
   simp at hi
   subst hi
   exact ⟨c, h, fun j u hj => by rw [Nat.zero_mul, Nat.zero_add]; exact hj⟩⟩
theorem RowsE.imp {α : Type} {k : Nat} {E E' : α → List Value → Prop} {l : List α} {xs : List Value} (h : RowsE k E l xs) (hE : ∀ a c, E a c → E' a c) : RowsE k E' l xs :=
 ⟨h.1, fun i a hi => by obtain ⟨c, h1, h2⟩ := h.2 i a hi; exact ⟨c, hE _ _ h1, h2⟩⟩
theorem rows_list {α : Type} {k : Nat} {E : α → List Value → Prop} (hk : ∀ a c, E a c → c.length = k) (C : Nat → Option Value) : ∀ (l : List α) (o : Nat), (∀ (i : Nat) (a : α), l[i]? = some a → ∃ c, E a c ∧ ∀ (j : Nat) u, c[j]? = some u → C (o + i * k + j) = some u) →
  ∃ xs, RowsE k E l xs ∧ ∀ (j : Nat) u, xs[j]? = some u → C (o + j) = some u
 | [], o, _ => ⟨[], rowsE_nil _ _, fun j u h => by simp at h⟩
 | a :: l, o, h => by
  obtain ⟨c, h1, h2⟩ := h 0 a rfl
  obtain ⟨xs, h3, h4⟩ := rows_list hk C l (o + k) (fun i b hi => by
   obtain ⟨c', h5, h6⟩ := h (i + 1) b (by simpa using hi)
   refine ⟨c', h5, fun j u hj => ?_⟩
   have := h6 j u hj
   rw [show o + k + i * k + j = o + (i + 1) * k + j by rw [Nat.succ_mul]; omega]
   exact this)
  have hc := hk _ _ h1
  refine ⟨c ++ xs, (rowsE_one h1 hc).app h3, fun j u hj => ?_⟩
  rcases Nat.lt_or_ge j k with hlt | hge
  ·rw [List.getElem?_append_left (by omega)] at hj
   have := h2 j u hj
   rwa [Nat.zero_mul, Nat.add_zero] at this
  ·rw [List.getElem?_append_right (by omega), hc] at hj
   have := h4 _ u hj
   rwa [show o + k + (j - k) = o + j by omega] at this
theorem rdX_own {α : Type} {k : Nat} {E : World → α → List Value → Prop} {w : World} {B e : Nat} {v : Value} {l : List α} {xs : List Value} (h : w.ownsRow B e k v l.length xs) (hl : l.length ≤ 140737488355328) (hr : RowsE k (E w) l xs) : RdX (fun g => B ≤ g ∧ v.ownBlock = some g) k E w v l := by
 rcases h.2 with ⟨rfl, h2⟩ | ⟨g, cap, cur, rfl, h2, h3, h4, h5, h6, h7⟩
 ·have : l = [] := List.length_eq_zero_iff.1 h2
  subst this
  exact rdX_nil _ _ _ _ _ _ (fun _ => rfl)
 ·refine ⟨_, cap, rfl, fun e => (by cases e), hl, fun i a hi => ?_⟩
  obtain ⟨c, h8, h9⟩ := hr.2 i a hi
  refine ⟨g, 0, c, rfl, ⟨h2, rfl⟩, h8, fun j u hj => ?_⟩
  have := h9 j u hj
  rw [Nat.zero_add]
  refine heap_cell h3 ?_
  rw [← h7] at this
  have h10 := (List.getElem?_eq_some_iff.1 this).1
  rw [List.length_take] at h10
  rw [List.getElem?_take_of_lt (by omega)] at this
  simpa using this
theorem RdX.any {α : Type} {P Q : Nat → Prop} {k : Nat} {E : World → α → List Value → Prop} {w : World} {v : Value} {l : List α} (h : RdX P k E w v l) (hP : ∀ g, P g → Q g) : RdX Q k E w v l := by
 obtain ⟨A, cap, h1, h0, h2, h3⟩ := h
 refine ⟨A, cap, h1, h0, h2, fun i a hi => ?_⟩
 obtain ⟨g, o, c, h4, hg, h5⟩ := h3 i a hi
 exact ⟨g, o, c, h4, hP g hg, h5⟩
theorem RdX.none0 {α : Type} {P : Nat → Prop} {k : Nat} {E : World → α → List Value → Prop} {w : World} {n cap : Nat} {l : List α} (h : RdX P k E w (.slice none n cap) l) : l = [] ∧ n = 0 ∧ cap = 0 := by
 obtain ⟨A, c, h1, h0, h2, h3⟩ := h
 injection h1 with e1 e2 e3
 subst e1
 have : l = [] := by
  cases l with
  | nil => rfl
  | cons a r =>
   obtain ⟨g, o, cc, hA, _⟩ := h3 0 a rfl
   cases hA
 subst this
 exact ⟨rfl, e2, e3.trans (h0 rfl)⟩
structure InI where
 op : Int
 dst : Int
 a : Int
 b : Int
 c : Int
 num : Int
 too : Int
 ref : Bs
 args : List Int
structure FuI where
 regs : List Int
 params : List Int
 ret : Int
 code : List InI
 rows : List RwI
def NuE (_ : World) (z : Int) (c : List Value) : Prop := c = [.int .i64 z]
def InE (P : Nat → Prop) (w : World) (x : InI) (c : List Value) : Prop := ∃ v, c = [.int .i64 x.op, .int .i64 x.dst, .int .i64 x.a, .int .i64 x.b, .int .i64 x.c, .int .i64 x.num, .int .i64 x.too, .string (tx x.ref), v] ∧ RdX P 1 NuE w v x.args
theorem keptX_nu (P : Nat → Prop) : KeptX P NuE := keptX_pure _ _ fun _ _ => rfl
theorem keptX_in (P : Nat → Prop) : KeptX P (InE P) := by
 rintro w w' x c hb ⟨v, rfl, h⟩
 exact ⟨v, rfl, h.kept (keptX_nu P) hb⟩
theorem nu_ne {w : World} (a : Int) (c : List Value) (h : NuE w a c) : c ≠ [] := by rw [h]; simp
theorem in_ne {P : Nat → Prop} {w : World} (a : InI) (c : List Value) (h : InE P w a c) : c ≠ [] := by obtain ⟨_, rfl, _⟩ := h; simp
theorem inE_mono {P Q : Nat → Prop} {w : World} (hP : ∀ g, P g → g < w.heap.size → Q g) (a : InI) (c : List Value) (h : InE P w a c) : InE Q w a c := by
 obtain ⟨x, rfl, h1⟩ := h
 exact ⟨x, rfl, h1.mono (fun _ _ h => h) hP nu_ne⟩
end Go.Proofs.Ytbkeneadoccodaa
/- The instructions' table in plain words. No program in this text. -/
namespace Go.Proofs.Ytbkeneadoccodaa
open Go.RowKit Go
set_option linter.unusedVariables false
def cA : List Int := [4, 6, 7, 8, 10, 12, 15, 16, 19, 21, 22, 31]
def cAB : List Int := [5, 9, 11, 13, 17, 28]
def rk (c : Int) : Nat := if c ∈ cA then 1 else if c ∈ cAB then 2 else if c = 14 then 3 else if c = 29 then 4 else if c = 30 then 5 else if c ∈ ([23, 24, 25, 26] : List Int) then 6 else 0
def usesI (x : InI) : List Int := match rk x.op with
 | 1 => [x.a]
 | 2 => [x.a, x.b]
 | 3 => [x.a, x.b, x.c]
 | 4 => if 0 ≤ x.b then [x.a, x.b] else [x.a]
 | 5 => if 0 ≤ x.a then [x.a] else []
 | 6 => x.args
 | _ => []
def cW : List Int := [1, 2, 3, 4, 5, 6, 13, 15, 16, 18, 20, 21, 22, 23, 24, 25, 26, 32]
def wrB (c : Int) : Bool := decide (c ∈ cW)
def defI (x : InI) : Int := if wrB x.op then x.dst else -1
def callsB (c : Int) : Bool := decide (c ∈ ([23, 24, 25, 26] : List Int))
def throwsB (c : Int) : Bool := decide (c ∈ ([7, 8, 9, 10, 11, 12, 20, 21, 31, 23, 24, 25, 26] : List Int))
def pureB (c : Int) : Bool := decide (c ∈ ([1, 2, 3, 4, 5, 6, 13, 15, 16, 18, 22] : List Int))
def leadsB (c : Int) : Bool := decide (c ∈ ([27, 28, 29] : List Int))
def endsB (c : Int) : Bool := decide (c ∈ ([27, 30, 31] : List Int))
def fdT (c : Int) : Int × Int × Int × Int :=
 if c = 1 then (6, 0, 0, 0) else if c ∈ ([2, 3, 20, 32] : List Int) then (8, 0, 0, 0) else if c = 18 then (14, 0, 0, 0)
 else if c ∈ ([23, 24, 25, 26] : List Int) then (15, 0, 0, 0) else if c = 4 then (14, 14, 0, 0) else if c = 5 then (6, 6, 6, 0)
 else if c = 6 then (6, 6, 0, 0) else if c = 13 then (14, 8, 2, 0) else if c = 15 ∨ c = 22 then (2, 8, 0, 0) else if c = 16 then (14, 8, 0, 0)
 else if c = 21 then (8, 2, 0, 0) else if c = 7 then (0, 6, 0, 0) else if c = 8 ∨ c = 12 ∨ c = 31 then (0, 8, 0, 0) else if c = 9 then (0, 8, 2, 0)
 else if c = 10 then (0, 2, 0, 0) else if c = 11 then (0, 8, 8, 0) else if c = 14 then (0, 8, 2, 14) else if c = 17 then (0, 8, 14, 0)
 else if c = 19 then (0, 14, 0, 0) else if c = 28 then (0, 2, 2, 0) else if c = 29 then (0, 8, 9, 0) else if c = 30 then (0, 15, 0, 0) else (0, 0, 0, 0)
def rowT (c : Int) : Bs :=
 if c = 1 then [110, 45, 45, 45] else if c ∈ ([2, 3, 20, 32] : List Int) then [51, 45, 45, 45] else if c = 4 then [42, 61, 45, 45]
 else if c ∈ ([5, 6, 23, 24, 25, 26] : List Int) then [63, 63, 63, 63] else if c = 7 then [45, 110, 45, 45] else if c ∈ ([8, 12, 31] : List Int) then [45, 51, 45, 45]
 else if c = 9 then [45, 51, 49, 45] else if c = 10 then [45, 49, 45, 45] else if c = 11 then [45, 51, 51, 45] else if c = 13 then [42, 51, 49, 45]
 else if c = 14 then [45, 51, 49, 42] else if c = 15 ∨ c = 22 then [49, 51, 45, 45] else if c = 16 then [42, 51, 45, 45] else if c = 17 then [45, 51, 42, 45]
 else if c = 18 then [42, 45, 45, 45] else if c = 19 then [45, 42, 45, 45] else if c = 21 then [51, 49, 45, 45] else if c = 27 ∨ c = 33 then [45, 45, 45, 45]
 else if c = 28 then [45, 49, 49, 45] else if c = 29 then [45, 51, 63, 45] else if c = 30 then [45, 63, 45, 45] else []
theorem op_ways (c : Int) : c = 1 ∨ c = 2 ∨ c = 3 ∨ c = 4 ∨ c = 5 ∨ c = 6 ∨ c = 7 ∨ c = 8 ∨ c = 9 ∨ c = 10 ∨ c = 11 ∨ c = 12 ∨ c = 13 ∨ c = 14 ∨ c = 15 ∨ c = 16 ∨ c = 17 ∨ c = 18 ∨ c = 19 ∨ c = 20 ∨ c = 21 ∨ c = 22 ∨ c = 23 ∨ c = 24 ∨ c = 25 ∨ c = 26 ∨ c = 27 ∨ c = 28 ∨ c = 29 ∨ c = 30 ∨ c = 31 ∨ c = 32 ∨ c = 33 ∨ c < 1 ∨ 34 ≤ c := by omega
theorem out_of (c : Int) (h : c < 1 ∨ 34 ≤ c) : rk c = 0 ∧ wrB c = false ∧ callsB c = false ∧ throwsB c = false ∧ pureB c = false ∧ leadsB c = false ∧ endsB c = false ∧ fdT c = (0, 0, 0, 0) ∧ rowT c = [] := by
 have g : c ≠ 1 ∧ c ≠ 2 ∧ c ≠ 3 ∧ c ≠ 4 ∧ c ≠ 5 ∧ c ≠ 6 ∧ c ≠ 7 ∧ c ≠ 8 ∧ c ≠ 9 ∧ c ≠ 10 ∧ c ≠ 11 ∧ c ≠ 12 ∧ c ≠ 13 ∧ c ≠ 14 ∧ c ≠ 15 ∧ c ≠ 16 ∧ c ≠ 17 ∧ c ≠ 18 ∧ c ≠ 19 ∧ c ≠ 20 ∧ c ≠ 21 ∧ c ≠ 22 ∧ c ≠ 23 ∧ c ≠ 24 ∧ c ≠ 25 ∧ c ≠ 26 ∧ c ≠ 27 ∧ c ≠ 28 ∧ c ≠ 29 ∧ c ≠ 30 ∧ c ≠ 31 ∧ c ≠ 32 ∧ c ≠ 33 := by omega
 obtain ⟨_, _, _, _, _, _, _, _, _, _, _, _, _, _, _, _, _, _, _, _, _, _, _, _, _, _, _, _, _, _, _, _, _⟩ := g
 refine ⟨?_, ?_, ?_, ?_, ?_, ?_, ?_, ?_, ?_⟩
 ·simp [rk, cA, cAB, *]
 ·simp [wrB, cW, *]
 ·simp [callsB, *]
 ·simp [throwsB, *]
 ·simp [pureB, *]
 ·simp [leadsB, *]
 ·simp [endsB, *]
 ·simp [fdT, *]
 ·simp [rowT, *]
theorem all_ops {Q : Int → Prop} (h : ∀ i : Fin 33, Q (i.val + 1)) (ho : ∀ c, c < 1 ∨ 34 ≤ c → Q c) (c : Int) : Q c := by
 by_cases hc : c < 1 ∨ 34 ≤ c
 ·exact ho c hc
 ·have := h ⟨(c - 1).toNat, by omega⟩
  rwa [show (((c - 1).toNat : Nat) : Int) + 1 = c by omega] at this
def sg (c : Int) (i : Nat) : UInt8 := (rowT c).getD i 0
end Go.Proofs.Ytbkeneadoccodaa
/- Contracts of the table's words, the program's: fieldsOf, readsOnly, Calls, Throws, Pure, Leads, Ends, Def. -/
namespace Go.Proofs.Ytbkeneadoccodaa
open Go.RowKit Go
set_option linter.unusedVariables false
set_option linter.unusedSimpArgs false
abbrev fdV (c : Int) : Value := .agg #[.int .u64 (fdT c).1, .int .u64 (fdT c).2.1, .int .u64 (fdT c).2.2.1, .int .u64 (fdT c).2.2.2]
theorem sizeK3 : (Try.prog.info? 142).map (·.size) = some 3 := by kernel_rfl
theorem sizeFd : (Try.prog.info? 144).map (·.size) = some 4 := by kernel_rfl
theorem four_set {w : World} {R : Nat} {T : TypeId} {z0 z1 z2 z3 : Value} (h : w.heap[R]? = some (.cells #[z0, z1, z2, z3] T (0, 0))) (a b c d : Value) :
  ((((w.setCell ⟨R, 0, none⟩ a).setCell ⟨R, 1, none⟩ b).setCell ⟨R, 2, none⟩ c).setCell ⟨R, 3, none⟩ d).heap[R]? = some (.cells #[a, b, c, d] T (0, 0)) := by
 have := heap_set (i := 3) (heap_set (i := 2) (heap_set (i := 1) (heap_set (i := 0) h a) b) c) d
 simpa using this
theorem four_below {B R : Nat} {a0 w : World} (h : Below B a0 w) (hR : B ≤ R) (a b c d : Value) : Below B a0 ((((w.setCell ⟨R, 0, none⟩ a).setCell ⟨R, 1, none⟩ b).setCell ⟨R, 2, none⟩ c).setCell ⟨R, 3, none⟩ d) :=
 (((h.setCell hR a).setCell hR b).setCell hR c).setCell hR d
theorem ret_val {a b : Value} (h : a = b) : Ending.returned a = .returned b := by rw [h]
set_option maxHeartbeats 8000000 in
set_option maxRecDepth 100000 in
theorem readsOnly_any (c : Int) (w : World) (h : (fdT c).1 = 0) :
    Calls Try.prog 120 #[.int .i64 c] w fun e w' => e = .returned (.agg #[.int .u64 (fdT c).2.1, .int .u64 (fdT c).2.2.1, .int .u64 (fdT c).2.2.2]) ∧ Below w.heap.size w w' := by
  have H := lhid h
  clear h
  go_enter Try.func120, Try.ntmps120
  go_wp2
  all_goals refine bodyPost_ret (results_cell_row rfl _ _ w.heap.size 142 _ _ _ rfl (heap_alloc_new w _) Try.underlying142 rfl sizeK3) rfl ?_
  all_goals
    refine ⟨?_, by first | exact (Below.refl w.heap.size w).alloc (Nat.le_refl _) _ | exact ((Below.refl w.heap.size w).alloc (Nat.le_refl _) _)⟩
    rename_i hx
    first
      | (obtain rfl := eq_of_beq hx; rfl)
      | (have hz := H.out
         simp only [beq_eq_false_iff_ne, ne_eq] at *
         refine ret_val ?_
         have : fdT c = (0, 0, 0, 0) := by
           refine all_ops (Q := fun c => (fdT c).1 = 0 → ¬ c = 7 → ¬ c = 8 → ¬ c = 12 → ¬ c = 31 → ¬ c = 9 → ¬ c = 10 → ¬ c = 11 → ¬ c = 14 → ¬ c = 17 → ¬ c = 19 → ¬ c = 28 → ¬ c = 29 → ¬ c = 30 → fdT c = (0, 0, 0, 0)) (by decide +kernel) (fun c hc _ _ _ _ _ _ _ _ _ _ _ _ _ _ => (out_of c hc).2.2.2.2.2.2.2.1) c hz ?_ ?_ ?_ ?_ ?_ ?_ ?_ ?_ ?_ ?_ ?_ ?_ ?_ <;> assumption
         rw [this])
theorem reads_fst0 (c : Int) : c ∉ ([1, 2, 3, 20, 32, 18, 23, 24, 25, 26, 4, 5, 6, 13, 15, 22, 16, 21] : List Int) → (fdT c).1 = 0 := by
 refine all_ops (Q := fun c => c ∉ ([1, 2, 3, 20, 32, 18, 23, 24, 25, 26, 4, 5, 6, 13, 15, 22, 16, 21] : List Int) → (fdT c).1 = 0) (by decide +kernel) (fun c hc _ => by rw [(out_of c hc).2.2.2.2.2.2.2.1]) c
theorem reads_fst (c : Int) : ¬ c = 1 → ¬ c = 2 → ¬ c = 3 → ¬ c = 20 → ¬ c = 32 → ¬ c = 18 → ¬ c = 23 → ¬ c = 24 → ¬ c = 25 → ¬ c = 26 → ¬ c = 4 → ¬ c = 5 → ¬ c = 6 → ¬ c = 13 → ¬ c = 15 → ¬ c = 22 → ¬ c = 16 → ¬ c = 21 → (fdT c).1 = 0 := by
 intros
 refine reads_fst0 c ?_
 simp [*]
theorem wrB_fd (c : Int) : wrB c = !((fdT c).1 == 0) := by
 refine all_ops (Q := fun c => wrB c = !((fdT c).1 == 0)) (by decide +kernel) (fun c hc => by rw [(out_of c hc).2.2.2.2.2.2.2.1, (out_of c hc).2.1]; rfl) c
set_option maxHeartbeats 8000000 in
set_option maxRecDepth 100000 in
theorem fieldsOf_any (c : Int) (w : World) :
    Calls Try.prog 98 #[.int .i64 c] w fun e w' => e = .returned (fdV c) ∧ Below w.heap.size w w' := by
  by_cases hs : (fdT c).1 = 0
  · have H := lhid hs
    have g : c ≠ 1 ∧ c ≠ 2 ∧ c ≠ 3 ∧ c ≠ 20 ∧ c ≠ 32 ∧ c ≠ 18 ∧ c ≠ 23 ∧ c ≠ 24 ∧ c ≠ 25 ∧ c ≠ 26 ∧ c ≠ 4 ∧ c ≠ 5 ∧ c ≠ 6 ∧ c ≠ 13 ∧ c ≠ 15 ∧ c ≠ 22 ∧ c ≠ 16 ∧ c ≠ 21 := by
      refine ⟨?_, ?_, ?_, ?_, ?_, ?_, ?_, ?_, ?_, ?_, ?_, ?_, ?_, ?_, ?_, ?_, ?_, ?_⟩ <;> (rintro rfl; exact absurd hs (by decide))
    have HR := lhid (readsOnly_any c)
    obtain ⟨r1, hr1⟩ : ∃ x, (fdT c).2.1 = x := ⟨_, rfl⟩
    obtain ⟨r2, hr2⟩ : ∃ x, (fdT c).2.2.1 = x := ⟨_, rfl⟩
    obtain ⟨r3, hr3⟩ : ∃ x, (fdT c).2.2.2 = x := ⟨_, rfl⟩
    have HV : Hid (fdV c = .agg #[.int .u64 0, .int .u64 r1, .int .u64 r2, .int .u64 r3]) := lhid (by unfold fdV; rw [hs, hr1, hr2, hr3])
    rw [hr1, hr2, hr3] at HR
    clear hr1 hr2 hr3 hs
    obtain ⟨_, _, _, _, _, _, _, _, _, _, _, _, _, _, _, _, _, _⟩ := g
    go_enter Try.func98, Try.ntmps98
    go_wp2_with fail
    with_reducible refine (HR.out _ H.out).mono ?_
    rintro e w1 ⟨rfl, hb⟩
    have h0 := (hb.block w.heap.size (by simp)).trans (heap_alloc_new w _)
    have c0 : w1.cell? ⟨w.heap.size, 0, none⟩ = some (.int .u64 0) := heap_cell h0 rfl
    have f0 : w1.frozen? ⟨w.heap.size, 0, none⟩ = false := heap_thaw h0 0
    have c1 : w1.cell? ⟨w.heap.size, 1, none⟩ = some (.int .u64 0) := heap_cell h0 rfl
    have f1 : w1.frozen? ⟨w.heap.size, 1, none⟩ = false := heap_thaw h0 1
    have c2 : w1.cell? ⟨w.heap.size, 2, none⟩ = some (.int .u64 0) := heap_cell h0 rfl
    have f2 : w1.frozen? ⟨w.heap.size, 2, none⟩ = false := heap_thaw h0 2
    have c3 : w1.cell? ⟨w.heap.size, 3, none⟩ = some (.int .u64 0) := heap_cell h0 rfl
    have f3 : w1.frozen? ⟨w.heap.size, 3, none⟩ = false := heap_thaw h0 3
    have HB := lhid (((Below.refl w.heap.size w).alloc (Nat.le_refl _) _).trans (hb.mono (by simp)))
    have H0 := lhid h0
    clear hb h0
    go_wp2_with fail
    refine bodyPost_ret (results_cell_row rfl _ _ w.heap.size 144 _ _ _ rfl (four_set H0.out _ _ _ _) Try.underlying144 rfl sizeFd) rfl ?_
    exact ⟨by rw [HV.out], four_below HB.out (Nat.le_refl _) _ _ _ _⟩
  · have H := lhid hs
    clear hs
    go_enter Try.func98, Try.ntmps98
    go_wp2_with (first
      | (go_at_call 120
         exfalso
         refine H.out (reads_fst c ?_ ?_ ?_ ?_ ?_ ?_ ?_ ?_ ?_ ?_ ?_ ?_ ?_ ?_ ?_ ?_ ?_ ?_) <;> (simp only [beq_eq_false_iff_ne, ne_eq] at *; assumption)))
    all_goals refine bodyPost_ret (results_cell_row rfl _ _ w.heap.size 144 _ _ _ rfl (heap_alloc_new w _) Try.underlying144 rfl sizeFd) rfl ?_
    all_goals
      refine ⟨?_, (Below.refl w.heap.size w).alloc (Nat.le_refl _) _⟩
      rename_i hx
      obtain rfl := eq_of_beq hx
      rfl
abbrev inA (x : InI) (v : Value) : Value := .agg #[.int .i64 x.op, .int .i64 x.dst, .int .i64 x.a, .int .i64 x.b, .int .i64 x.c, .int .i64 x.num, .int .i64 x.too, .string (tx x.ref), v]
set_option maxHeartbeats 8000000 in
set_option maxRecDepth 100000 in
theorem calls_any (x : InI) (v : Value) (w : World) :
    Calls Try.prog 102 #[inA x v] w fun e w' => e = .returned (.bool (callsB x.op)) ∧ Below w.heap.size w w' := by
  obtain ⟨c, HC⟩ : ∃ c, Hid (x.op = c) := ⟨_, lhid rfl⟩
  rw [HC.out]
  unfold inA
  rw [HC.out]
  go_enter Try.func102, Try.ntmps102
  go_wp2
  all_goals go_ret
  all_goals
    refine ⟨?_, (Below.refl w.heap.size w).alloc (Nat.le_refl _) _⟩
    rename_i h
    first
      | (obtain rfl := eq_of_beq h; rfl)
      | (simp only [beq_eq_false_iff_ne, ne_eq] at *
         rw [show callsB c = false by unfold callsB; simp [*]]
         rfl)
set_option maxHeartbeats 8000000 in
set_option maxRecDepth 100000 in
theorem leads_any (x : InI) (v : Value) (w : World) :
    Calls Try.prog 57 #[inA x v] w fun e w' => e = .returned (.bool (leadsB x.op)) ∧ Below w.heap.size w w' := by
  obtain ⟨c, HC⟩ : ∃ c, Hid (x.op = c) := ⟨_, lhid rfl⟩
  rw [HC.out]
  unfold inA
  rw [HC.out]
  go_enter Try.func57, Try.ntmps57
  go_wp2
  all_goals go_ret
  all_goals
    refine ⟨?_, (Below.refl w.heap.size w).alloc (Nat.le_refl _) _⟩
    rename_i h
    first
      | (obtain rfl := eq_of_beq h; rfl)
      | (simp only [beq_eq_false_iff_ne, ne_eq] at *
         rw [show leadsB c = false by unfold leadsB; simp [*]]
         rfl)
set_option maxHeartbeats 8000000 in
set_option maxRecDepth 100000 in
theorem ends_any (x : InI) (v : Value) (w : World) :
    Calls Try.prog 58 #[inA x v] w fun e w' => e = .returned (.bool (endsB x.op)) ∧ Below w.heap.size w w' := by
  obtain ⟨c, HC⟩ : ∃ c, Hid (x.op = c) := ⟨_, lhid rfl⟩
  rw [HC.out]
  unfold inA
  rw [HC.out]
  go_enter Try.func58, Try.ntmps58
  go_wp2
  all_goals go_ret
  all_goals
    refine ⟨?_, (Below.refl w.heap.size w).alloc (Nat.le_refl _) _⟩
    rename_i h
    first
      | (obtain rfl := eq_of_beq h; rfl)
      | (simp only [beq_eq_false_iff_ne, ne_eq] at *
         rw [show endsB c = false by unfold endsB; simp [*]]
         rfl)
end Go.Proofs.Ytbkeneadoccodaa
/- Marks that spread from the beginning along what follows and what catches: plain words, no program. -/
namespace Go.Proofs.Ytbkeneadoccodaa
open Go.RowKit Go
set_option linter.unusedVariables false
set_option linter.unusedSimpArgs false
abbrev Mk := BitVec 64
structure WbN where
 n : Nat
 nx : Nat → List Int
 ct : Nat → List Int
 th : Nat → Bool
 st : Nat → Nat
 same : ∀ i j, i < n → j < n → st i = st j → ct i = ct j
inductive Comes (W : WbN) (beg : Mk) (sp : Nat → Mk) (b : Nat) : Nat → Prop
 | first : 0 < W.n → beg.getLsbD b = true → Comes W beg sp b 0
 | next {i j : Nat} : Comes W beg sp b i → i < W.n → (j : Int) ∈ W.nx i → j < W.n → (sp i).getLsbD b = false → Comes W beg sp b j
 | caught {i j : Nat} : Comes W beg sp b i → i < W.n → W.th i = true → (j : Int) ∈ W.ct i → j < W.n → Comes W beg sp b j
def zer (x : Mk) : Nat := (List.range 64).countP fun b => !x.getLsbD b
def zerS (n : Nat) (m : Nat → Mk) : Nat := ((List.range n).map fun i => zer (m i)).sum
def brM (m : Nat → Mk) (p : Nat) (more : Mk) : Nat → Mk := fun j => if j = p then m j ||| more else m j
theorem zer_le {x y : Mk} (h : ∀ b, x.getLsbD b = true → y.getLsbD b = true) : zer y ≤ zer x := by
 unfold zer
 refine List.countP_mono_left fun b _ hb => ?_
 cases hx : x.getLsbD b with
 | false => rfl
 | true => rw [h b hx] at hb; exact hb
theorem countP_lt {p q : Nat → Bool} {l : List Nat} (h : ∀ b ∈ l, p b = true → q b = true) (x : Nat) (hx : x ∈ l) (h1 : p x = false) (h2 : q x = true) : l.countP p + 1 ≤ l.countP q := by
 induction l with
 | nil => cases hx
 | cons a l ih =>
  rw [List.countP_cons, List.countP_cons]
  have h3 := List.countP_mono_left (p := p) (q := q) (l := l) fun b hb => h b (List.mem_cons_of_mem _ hb)
  rcases List.mem_cons.1 hx with rfl | hx
  ·rw [h1, h2]
   simp
   omega
  ·have h4 := ih (fun b hb => h b (List.mem_cons_of_mem _ hb)) hx
   have h5 := h a List.mem_cons_self
   cases hp : p a with
   | false => simp; omega
   | true => rw [h5 hp]; simp; omega
theorem bits_ne {x : Mk} (h : x ≠ 0) : ∃ b, b < 64 ∧ x.getLsbD b = true := by
 apply Classical.byContradiction
 intro hn
 apply h
 apply BitVec.eq_of_getLsbD_eq
 intro i hi
 cases hx : x.getLsbD i with
 | false => simp
 | true => exact absurd ⟨i, hi, hx⟩ hn
theorem zer_lt {x more : Mk} (h : more &&& ~~~x ≠ 0) : zer (x ||| more) + 1 ≤ zer x := by
 obtain ⟨b, hb, h1⟩ := bits_ne h
 simp only [BitVec.getLsbD_and, BitVec.getLsbD_not, Bool.and_eq_true, Bool.not_eq_true', decide_eq_true_eq] at h1
 refine countP_lt (fun c _ hc => ?_) b (List.mem_range.2 hb) (by simp [h1.1]) (by simp [h1.2.2])
 simp at hc ⊢
 exact hc.1
theorem sum_le {l : List Nat} {f g : Nat → Nat} (h : ∀ x ∈ l, f x ≤ g x) : (l.map f).sum ≤ (l.map g).sum := by
 induction l with
 | nil => simp
 | cons a l ih =>
  have h1 := h a List.mem_cons_self
  have h2 := ih fun x hx => h x (List.mem_cons_of_mem _ hx)
  simp only [List.map_cons, List.sum_cons]
  omega
theorem sum_lt {l : List Nat} {f g : Nat → Nat} (h : ∀ x ∈ l, f x ≤ g x) (x : Nat) (hx : x ∈ l) (h1 : f x + 1 ≤ g x) : (l.map f).sum + 1 ≤ (l.map g).sum := by
 induction l with
 | nil => cases hx
 | cons a l ih =>
  have h2 := h a List.mem_cons_self
  have h3 := sum_le (l := l) fun x hx => h x (List.mem_cons_of_mem _ hx)
  simp only [List.map_cons, List.sum_cons]
  rcases List.mem_cons.1 hx with rfl | hx
  ·omega
  ·have h4 := ih (fun x hx => h x (List.mem_cons_of_mem _ hx)) hx
   omega
theorem zerS_br {n p : Nat} {m : Nat → Mk} {more : Mk} (hp : p < n) (h : more &&& ~~~(m p) ≠ 0) : zerS n (brM m p more) + 1 ≤ zerS n m := by
 unfold zerS
 refine sum_lt (fun x _ => ?_) p (List.mem_range.2 hp) ?_
 ·unfold brM
  split
  ·exact zer_le fun b hb => by simp [hb]
  ·exact Nat.le_refl _
 ·unfold brM
  rw [if_pos rfl]
  exact zer_lt h
structure Brg (n : Nat) (p : Int) (more : Mk) (m : Nat → Mk) (T : List Nat) (m' : Nat → Mk) (T' : List Nat) : Prop where
 grow : ∀ j b, (m j).getLsbD b = true → (m' j).getLsbD b = true
 got : ∀ q : Nat, p = q → q < n → ∀ b, more.getLsbD b = true → (m' q).getLsbD b = true
 only : ∀ j b, (m' j).getLsbD b = true → (m j).getLsbD b = true ∨ (p = (j : Int) ∧ j < n ∧ more.getLsbD b = true)
 turned : ∀ j, m' j ≠ m j → j ∈ T'
 todo : ∀ j, j ∈ T → j ∈ T'
 lt : (∀ j ∈ T, j < n) → ∀ j ∈ T', j < n
 less : 2 * zerS n m' + T'.length ≤ 2 * zerS n m + T.length
theorem Brg.yes {n p : Nat} {more : Mk} {m : Nat → Mk} {T : List Nat} (hp : p < n) (h : more &&& ~~~(m p) ≠ 0) : Brg n p more m T (brM m p more) (T ++ [p]) where
 grow j b hb := by unfold brM; split <;> simp [hb]
 got q hq hqn b hb := by
  obtain rfl : p = q := by omega
  unfold brM
  rw [if_pos rfl]
  simp [hb]
 only j b hb := by
  unfold brM at hb
  split at hb
  ·rename_i e
   subst e
   simp at hb
   rcases hb with hb | hb
   ·exact .inl hb
   ·exact .inr ⟨rfl, hp, hb⟩
  ·exact .inl hb
 turned j hj := by
  unfold brM at hj
  split at hj
  ·rename_i e; subst e; simp
  ·exact absurd rfl hj
 todo j hj := List.mem_append_left _ hj
 lt h j hj := by
  rcases List.mem_append.1 hj with hj | hj
  ·exact h j hj
  ·simp at hj; omega
 less := by
  have := zerS_br hp h
  simp
  omega
theorem Brg.no {n : Nat} {p : Int} {more : Mk} {m : Nat → Mk} {T : List Nat} (h : ∀ q : Nat, p = q → q < n → more &&& ~~~(m q) = 0) : Brg n p more m T m T where
 grow _ _ hb := hb
 got q hq hqn b hb := by
  have h1 := h q hq hqn
  have h2 : (more &&& ~~~(m q)).getLsbD b = false := by rw [h1]; simp
  have hb64 : b < 64 := BitVec.lt_of_getLsbD hb
  simp only [BitVec.getLsbD_and, BitVec.getLsbD_not, hb, hb64, decide_true, Bool.true_and, Bool.not_eq_false'] at h2
  exact h2
 only _ _ hb := .inl hb
 turned _ h := absurd rfl h
 todo _ h := h
 lt h := h
 less := Nat.le_refl _
def ClP (W : WbN) (sp : Nat → Mk) (m t : Nat → Mk) (i : Nat) : Prop := ∀ b, (m i).getLsbD b = true → (∀ j : Nat, (j : Int) ∈ W.nx i → j < W.n → (sp i).getLsbD b = false → (m j).getLsbD b = true) ∧ (W.th i = true → (t (W.st i)).getLsbD b = true)
structure SpI (W : WbN) (beg : Mk) (sp : Nat → Mk) (m t : Nat → Mk) (T : List Nat) : Prop where
 sound : ∀ b i, i < W.n → (m i).getLsbD b = true → Comes W beg sp b i
 lt : ∀ j ∈ T, j < W.n
 first : 0 < W.n → ∀ b, beg.getLsbD b = true → (m 0).getLsbD b = true
 thr : ∀ b q, (t q).getLsbD b = true → ∀ i, i < W.n → W.st i = q → ∀ j : Nat, (j : Int) ∈ W.ct i → j < W.n → (m j).getLsbD b = true
 closed : ∀ i, i < W.n → i ∉ T → ClP W sp m t i
structure Sp1 (W : WbN) (beg : Mk) (sp : Nat → Mk) (i : Nat) (pre : List Int) (m t : Nat → Mk) (T : List Nat) : Prop where
 sound : ∀ b i, i < W.n → (m i).getLsbD b = true → Comes W beg sp b i
 lt : ∀ j ∈ T, j < W.n
 first : 0 < W.n → ∀ b, beg.getLsbD b = true → (m 0).getLsbD b = true
 thr : ∀ b q, (t q).getLsbD b = true → ∀ i, i < W.n → W.st i = q → ∀ j : Nat, (j : Int) ∈ W.ct i → j < W.n → (m j).getLsbD b = true
 closed : ∀ j, j < W.n → j ≠ i → j ∉ T → ClP W sp m t j
 at' : i < W.n
 nxt : i ∈ T ∨ ∀ b, (m i).getLsbD b = true → ∀ j : Nat, (j : Int) ∈ pre → j < W.n → (sp i).getLsbD b = false → (m j).getLsbD b = true
theorem Sp1.start {W : WbN} {beg : Mk} {sp m t : Nat → Mk} {T : List Nat} {i : Nat} (h : SpI W beg sp m t (T ++ [i])) : Sp1 W beg sp i [] m t T where
 sound := h.sound
 lt j hj := h.lt j (List.mem_append_left _ hj)
 first := h.first
 thr := h.thr
 closed j hj hn ht := h.closed j hj (by simp [hn, ht])
 at' := h.lt i (by simp)
 nxt := .inr fun _ _ _ hj => by cases hj
theorem Sp1.step {W : WbN} {beg : Mk} {sp m t m' : Nat → Mk} {T T' : List Nat} {i : Nat} {pre : List Int} {p : Int} (h : Sp1 W beg sp i pre m t T) (hp : p ∈ W.nx i) (hb : Brg W.n p (m i &&& ~~~(sp i)) m T m' T') : Sp1 W beg sp i (pre ++ [p]) m' t T' where
 sound b j hj hm := by
  rcases hb.only j b hm with h1 | ⟨h1, h2, h3⟩
  ·exact h.sound b j hj h1
  ·have hb64 : b < 64 := BitVec.lt_of_getLsbD h3
   simp only [BitVec.getLsbD_and, BitVec.getLsbD_not, hb64, decide_true, Bool.true_and, Bool.and_eq_true, Bool.not_eq_true'] at h3
   exact .next (h.sound b i h.at' h3.1) h.at' (h1 ▸ hp) h2 h3.2
 lt := hb.lt h.lt
 first h0 b hbb := hb.grow _ _ (h.first h0 b hbb)
 thr b q hq j hj hs k hk hkn := hb.grow _ _ (h.thr b q hq j hj hs k hk hkn)
 closed j hj hn ht b hm := by
  have e : m' j = m j := Classical.byContradiction fun hne => ht (hb.turned j hne)
  rw [e] at hm
  have h1 := h.closed j hj hn (fun hx => ht (hb.todo j hx)) b hm
  exact ⟨fun k hk hkn hs => hb.grow _ _ (h1.1 k hk hkn hs), h1.2⟩
 at' := h.at'
 nxt := by
  by_cases e : m' i = m i
  ·rcases h.nxt with h1 | h1
   ·exact .inl (hb.todo i h1)
   ·refine .inr fun b hm j hj hjn hs => ?_
    rw [e] at hm
    rcases List.mem_append.1 hj with hj | hj
    ·exact hb.grow _ _ (h1 b hm j hj hjn hs)
    ·rw [List.mem_singleton] at hj
     have hb64 : b < 64 := BitVec.lt_of_getLsbD hm
     exact hb.got j hj.symm hjn b (by simp only [BitVec.getLsbD_and, BitVec.getLsbD_not, hm, hs, hb64, decide_true, Bool.not_false, Bool.and_self])
  ·exact .inl (hb.turned i e)
theorem and_not_zero {x y : Mk} (h : x &&& ~~~y = 0) {b : Nat} (hb : x.getLsbD b = true) : y.getLsbD b = true := by
 have h2 : (x &&& ~~~y).getLsbD b = false := by rw [h]; simp
 have hb64 : b < 64 := BitVec.lt_of_getLsbD hb
 simp only [BitVec.getLsbD_and, BitVec.getLsbD_not, hb, hb64, decide_true, Bool.true_and, Bool.not_eq_false'] at h2
 exact h2
theorem Sp1.skip {W : WbN} {beg : Mk} {sp m t : Nat → Mk} {T : List Nat} {i : Nat} (h : Sp1 W beg sp i (W.nx i) m t T) (ht : W.th i = true → m i &&& ~~~(t (W.st i)) = 0) : SpI W beg sp m t T where
 sound := h.sound
 lt := h.lt
 first := h.first
 thr := h.thr
 closed j hj hn := by
  by_cases e : j = i
  ·subst e
   intro b hm
   rcases h.nxt with h1 | h1
   ·exact absurd h1 hn
   ·exact ⟨h1 b hm, fun h2 => and_not_zero (ht h2) hm⟩
  ·exact h.closed j hj e hn
structure Sp2 (W : WbN) (beg : Mk) (sp : Nat → Mk) (i : Nat) (pre : List Int) (m t : Nat → Mk) (T : List Nat) : Prop where
 sound : ∀ b i, i < W.n → (m i).getLsbD b = true → Comes W beg sp b i
 lt : ∀ j ∈ T, j < W.n
 first : 0 < W.n → ∀ b, beg.getLsbD b = true → (m 0).getLsbD b = true
 thr : ∀ b q, q ≠ W.st i → (t q).getLsbD b = true → ∀ i, i < W.n → W.st i = q → ∀ j : Nat, (j : Int) ∈ W.ct i → j < W.n → (m j).getLsbD b = true
 thn : ∀ b, (t (W.st i)).getLsbD b = true → (∀ j : Nat, (j : Int) ∈ W.ct i → j < W.n → (m j).getLsbD b = true) ∨ ((m i).getLsbD b = true ∧ ∀ j : Nat, (j : Int) ∈ pre → j < W.n → (m j).getLsbD b = true)
 closed : ∀ j, j < W.n → j ≠ i → j ∉ T → ClP W sp m t j
 at' : i < W.n
 throws : W.th i = true
 nxt : i ∈ T ∨ ClP W sp m t i
theorem Sp2.start {W : WbN} {beg : Mk} {sp m t t' : Nat → Mk} {T : List Nat} {i : Nat} (h : Sp1 W beg sp i (W.nx i) m t T) (hth : W.th i = true) (e1 : t' (W.st i) = t (W.st i) ||| m i) (e2 : ∀ q, q ≠ W.st i → t' q = t q) : Sp2 W beg sp i [] m t' T where
 sound := h.sound
 lt := h.lt
 first := h.first
 thr b q hq ht := by rw [e2 q hq] at ht; exact h.thr b q ht
 thn b hb := by
  rw [e1] at hb
  simp only [BitVec.getLsbD_or, Bool.or_eq_true] at hb
  rcases hb with hb | hb
  ·exact .inl fun j hj hjn => h.thr b _ hb i h.at' rfl j hj hjn
  ·exact .inr ⟨hb, fun _ hj => by cases hj⟩
 closed j hj hn ht b hm := by
  have h1 := h.closed j hj hn ht b hm
  refine ⟨h1.1, fun h2 => ?_⟩
  by_cases e : W.st j = W.st i
  ·rw [e, e1]
   have := h1.2 h2
   rw [e] at this
   simp [this]
  ·rw [e2 _ e]
   exact h1.2 h2
 at' := h.at'
 throws := hth
 nxt := by
  rcases h.nxt with h1 | h1
  ·exact .inl h1
  ·refine .inr fun b hm => ⟨h1 b hm, fun _ => ?_⟩
   rw [e1]
   simp [hm]
theorem Sp2.step {W : WbN} {beg : Mk} {sp m t m' : Nat → Mk} {T T' : List Nat} {i : Nat} {pre : List Int} {p : Int} (h : Sp2 W beg sp i pre m t T) (hp : p ∈ W.ct i) (hb : Brg W.n p (m i) m T m' T') : Sp2 W beg sp i (pre ++ [p]) m' t T' where
 sound b j hj hm := by
  rcases hb.only j b hm with h1 | ⟨h1, h2, h3⟩
  ·exact h.sound b j hj h1
  ·exact .caught (h.sound b i h.at' h3) h.at' h.throws (h1 ▸ hp) h2
 lt := hb.lt h.lt
 first h0 b hbb := hb.grow _ _ (h.first h0 b hbb)
 thr b q hq ht j hj hs k hk hkn := hb.grow _ _ (h.thr b q hq ht j hj hs k hk hkn)
 thn b ht := by
  rcases h.thn b ht with h1 | ⟨h1, h2⟩
  ·exact .inl fun j hj hjn => hb.grow _ _ (h1 j hj hjn)
  ·refine .inr ⟨hb.grow _ _ h1, fun j hj hjn => ?_⟩
   rcases List.mem_append.1 hj with hj | hj
   ·exact hb.grow _ _ (h2 j hj hjn)
   ·rw [List.mem_singleton] at hj
    exact hb.got j hj.symm hjn b h1
 closed j hj hn ht b hm := by
  have e : m' j = m j := Classical.byContradiction fun hne => ht (hb.turned j hne)
  rw [e] at hm
  have h1 := h.closed j hj hn (fun hx => ht (hb.todo j hx)) b hm
  exact ⟨fun k hk hkn hs => hb.grow _ _ (h1.1 k hk hkn hs), h1.2⟩
 at' := h.at'
 throws := h.throws
 nxt := by
  by_cases e : m' i = m i
  ·rcases h.nxt with h1 | h1
   ·exact .inl (hb.todo i h1)
   ·refine .inr fun b hm => ?_
    rw [e] at hm
    have h2 := h1 b hm
    exact ⟨fun k hk hkn hs => hb.grow _ _ (h2.1 k hk hkn hs), h2.2⟩
  ·exact .inl (hb.turned i e)
theorem Sp2.done {W : WbN} {beg : Mk} {sp m t : Nat → Mk} {T : List Nat} {i : Nat} (h : Sp2 W beg sp i (W.ct i) m t T) : SpI W beg sp m t T where
 sound := h.sound
 lt := h.lt
 first := h.first
 thr b q ht j hj hs k hk hkn := by
  by_cases e : q = W.st i
  ·have e2 : W.ct j = W.ct i := W.same j i hj h.at' (hs.trans e)
   rw [e2] at hk
   rw [e] at ht
   rcases h.thn b ht with h1 | h1
   ·exact h1 k hk hkn
   ·exact h1.2 k hk hkn
  ·exact h.thr b q e ht j hj hs k hk hkn
 closed j hj hn := by
  by_cases e : j = i
  ·subst e
   rcases h.nxt with h1 | h1
   ·exact absurd h1 hn
   ·exact h1
  ·exact h.closed j hj e hn
theorem SpI.all {W : WbN} {beg : Mk} {sp m t : Nat → Mk} (h : SpI W beg sp m t []) (b i : Nat) (hi : i < W.n) : (m i).getLsbD b = true ↔ Comes W beg sp b i := by
 refine ⟨h.sound b i hi, fun hc => ?_⟩
 clear hi
 induction hc with
 | first h0 h1 => exact h.first h0 b h1
 | next _ hi hj hjn hs ih => exact (h.closed _ hi (by simp) b ih).1 _ hj hjn hs
 | caught _ hi ht hj hjn ih => exact h.thr b _ ((h.closed _ hi (by simp) b ih).2 ht) _ hi rfl _ hj hjn
theorem SpI.start {W : WbN} {beg : Mk} {sp m t m' : Nat → Mk} {T' : List Nat} (hm : ∀ i, m i = 0) (ht : ∀ i, t i = 0) (hb : Brg W.n 0 beg m [] m' T') : SpI W beg sp m' t T' where
 sound b i hi h := by
  rcases hb.only i b h with h1 | ⟨h1, h2, h3⟩
  ·rw [hm] at h1; simp at h1
  ·obtain rfl : i = 0 := by omega
   exact .first h2 h3
 lt := hb.lt fun _ h => by cases h
 first h0 b h := hb.got 0 rfl h0 b h
 thr b q h := by rw [ht] at h; simp at h
 closed i hi hn b h := by
  have e : m' i = m i := Classical.byContradiction fun hne => hn (hb.turned i hne)
  rw [e, hm] at h
  simp at h
end Go.Proofs.Ytbkeneadoccodaa
