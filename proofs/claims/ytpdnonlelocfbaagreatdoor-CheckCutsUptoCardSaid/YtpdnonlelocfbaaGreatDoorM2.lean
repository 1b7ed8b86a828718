/- Texts of this claim, joined: KinBase, ChkMath, ChkDo, ChkWalk, ChkMet, ChkBgn0, ChkBits. -/
import Derived.Test.YtpdnonlelocfbaaGreatDoorM1
import Derived.Below
import Derived.Deep.Draws
import Derived.Deep.OwnRows
import Derived.Laws.AppendOwn
import Derived.Laws.OwnMore
import Derived.Laws.IdiomCopy
import Derived.Laws.IdiomStrings
import Derived.OwnWalk
/- Memory for package kin: texts, what changes, slices that can be read, classes. -/
namespace Go.Proofs.YtpdnonlelocfbaaGreatDoor
open Go.RowKit Go
set_option linter.unusedVariables false

theorem lhid {p : Prop} (h : p) : Hid p := h
def tx (l : Bs) : ByteArray := ⟨l.toArray⟩
theorem tx_list (l : Bs) : (tx l).data.toList = l := by simp [tx]
theorem tx_size (l : Bs) : (tx l).size = l.length := by
  show (tx l).data.size = _
  simp [tx]
theorem tx_self (s : ByteArray) : tx s.data.toList = s := by unfold tx; simp
theorem tx_nil : tx [] = ⟨#[]⟩ := rfl
theorem tx_eq (s : ByteArray) (l : Bs) (h : s.data.toList = l) : s = tx l := by rw [← h, tx_self]
theorem tx_toL (l : Bs) : (tx l).toList = l := by rw [Lib.toList_data, tx_list]
theorem tx_inj {a b : Bs} (h : tx a = tx b) : a = b := by rw [← tx_list a, h, tx_list]
theorem tx_nes {a b : Bs} (h : ¬ a = b) : ((tx a).toList == (tx b).toList) = false := by rw [tx_toL, tx_toL, beq_eq_false_iff_ne]; exact h
theorem tx_yes {a b : Bs} (h : a = b) : ((tx a).toList == (tx b).toList) = true := by rw [h]; simp
theorem heap_set {w : World} {R i : Nat} {c : Array Value} {t : TypeId} {f : Nat × Nat} (h : w.heap[R]? = some (.cells c t f)) (v : Value) : (w.setCell ⟨R, i, none⟩ v).heap[R]? = some (.cells (c.setIfInBounds i v) t f) := by
  simp [World.setCell, Array.getElem?_modify, h]
theorem heap_cell {w : World} {R i : Nat} {c : Array Value} {t : TypeId} {f : Nat × Nat} {v : Value} (h : w.heap[R]? = some (.cells c t f)) (hv : c[i]? = some v) : w.cell? ⟨R, i, none⟩ = some v := by
  simp [World.cell?, h, hv]
theorem heap_thaw {w : World} {R : Nat} {c : Array Value} {t : TypeId} (h : w.heap[R]? = some (.cells c t (0, 0))) (i : Nat) : w.frozen? ⟨R, i, none⟩ = false := by
  simp [World.frozen?, h]
theorem heap_lt {w : World} {R : Nat} {o : Obj} (h : w.heap[R]? = some o) : R < w.heap.size := (Array.getElem?_eq_some_iff.1 h).1
theorem cell_lt {w : World} {p : Addr} {u : Value} (h : w.cell? p = some u) : p.block < w.heap.size := by
  unfold World.cell? at h
  cases hb : w.heap[p.block]? with
  | none => rw [hb] at h; simp at h
  | some o => exact (Array.getElem?_eq_some_iff.1 hb).1
theorem cell_heap {w w' : World} {g : Nat} (h : w'.heap[g]? = w.heap[g]?) (j : Nat) : w'.cell? ⟨g, j, none⟩ = w.cell? ⟨g, j, none⟩ := by
  unfold World.cell?
  rw [h]
theorem addr_add (g o j : Nat) : (⟨g, o, none⟩ : Addr).add j = ⟨g, o + j, none⟩ := by unfold Addr.add; split <;> simp_all
theorem Below.drewN' {B : Nat} {a w : World} (h : Below B a w) (n : Nat) : Below B a (w.drewN n) := ⟨h.os, h.tape, h.output, h.size, h.block⟩
theorem Below.drew' {B : Nat} {a w : World} (h : Below B a w) : Below B a w.drew := ⟨h.os, h.tape, h.output, h.size, h.block⟩
theorem Below.grown {B : Nat} {a w w' : World} {row : Option Nat} (h : Below B a w) (hg : w.grownBy w' row) (hs : B ≤ w.heap.size) (hr : ∀ k, row = some k → B ≤ k) : Below B a w' :=
  h.trans ⟨hg.os, hg.tape, hg.output, hg.size, fun k hk => hg.block k (Nat.lt_of_lt_of_le hk hs) (fun e => by have := hr k e.symm; omega)⟩
theorem Below.less {B C : Nat} {a w : World} (h : Below B a w) (hC : C ≤ B) : Below C a w := ⟨h.os, h.tape, h.output, h.size, fun k hk => h.block k (by omega)⟩
/-- Of what was there, only blocks of X have turned. -/
structure Ch (X : Nat → Prop) (w w' : World) : Prop where
  os : w'.os = w.os
  tape : w'.tape = w.tape
  output : w'.output = w.output
  size : w.heap.size ≤ w'.heap.size
  block : ∀ k, k < w.heap.size → ¬ X k → w'.heap[k]? = w.heap[k]?
theorem Ch.refl (X : Nat → Prop) (w : World) : Ch X w w := ⟨rfl, rfl, rfl, Nat.le_refl _, fun _ _ _ => rfl⟩
theorem Ch.trans {X Y : Nat → Prop} {a b c : World} (h : Ch X a b) (k : Ch Y b c) (hY : ∀ i, i < a.heap.size → Y i → X i) : Ch X a c :=
  ⟨k.os.trans h.os, k.tape.trans h.tape, k.output.trans h.output, Nat.le_trans h.size k.size, fun i hi hx => (k.block i (Nat.lt_of_lt_of_le hi h.size) (fun hy => hx (hY i hi hy))).trans (h.block i hi hx)⟩
theorem Ch.mono {X Y : Nat → Prop} {a b : World} (h : Ch X a b) (hY : ∀ i, i < a.heap.size → X i → Y i) : Ch Y a b := ⟨h.os, h.tape, h.output, h.size, fun i hi hy => h.block i hi (fun hx => hy (hY i hi hx))⟩
theorem Ch.drew {X : Nat → Prop} {a w : World} (h : Ch X a w) : Ch X a w.drew := ⟨h.os, h.tape, h.output, h.size, h.block⟩
theorem Ch.drewN {X : Nat → Prop} {a w : World} (h : Ch X a w) (n : Nat) : Ch X a (w.drewN n) := ⟨h.os, h.tape, h.output, h.size, h.block⟩
theorem Ch.below {X : Nat → Prop} {a w w' : World} (h : Ch X a w) (hb : Below w.heap.size w w') : Ch X a w' :=
  h.trans (Y := fun _ => False) ⟨hb.os, hb.tape, hb.output, hb.size, fun k hk _ => hb.block k hk⟩ (fun _ _ h => h.elim)
theorem Ch.of {X : Nat → Prop} {w w' : World} (hb : Below w.heap.size w w') : Ch X w w' := (Ch.refl X w).below hb
theorem Ch.alloc {X : Nat → Prop} {a w : World} (h : Ch X a w) (o : Obj) : Ch X a (w.alloc o) := h.below ((Below.refl _ _).alloc (Nat.le_refl _) o)
theorem Ch.grown {X : Nat → Prop} {a w w' : World} {row : Option Nat} (h : Ch X a w) (hg : w.grownBy w' row) (hr : ∀ k, row = some k → k < a.heap.size → X k) : Ch X a w' :=
  h.trans (Y := fun k => row = some k) ⟨hg.os, hg.tape, hg.output, hg.size, fun k hk hne => hg.block k hk (fun e => hne e.symm)⟩ (fun i hi e => hr i e hi)
theorem Ch.set {X : Nat → Prop} {a w : World} (h : Ch X a w) {p : Addr} (hp : p.block < a.heap.size → X p.block) (u : Value) : Ch X a (w.setCell p u) :=
  ⟨h.os, h.tape, h.output, by have := h.size; simpa [World.setCell] using this, fun k hk hx => by
    have hne : k ≠ p.block := fun e => hx (by rw [e]; exact hp (by rw [← e]; exact hk))
    rw [Below.heap_setCell _ _ _ _ hne]
    exact h.block k hk hx⟩
theorem Ch.to {X : Nat → Prop} {B : Nat} {a w : World} (h : Ch X a w) (hB : B ≤ a.heap.size) (hX : ∀ k, X k → B ≤ k) : Below B a w := ⟨h.os, h.tape, h.output, h.size, fun k hk => h.block k (by omega) (fun hx => by have := hX k hx; omega)⟩
theorem Ch.keep {X : Nat → Prop} {a w : World} (h : Ch X a w) {k : Nat} {o : Obj} (hk : a.heap[k]? = some o) (hx : ¬ X k) : w.heap[k]? = some o := by
  rw [h.block k (heap_lt hk) hx]
  exact hk
theorem setCells_other {b k : Nat} (hk : k ≠ b) : ∀ (vs : List Value) (o : Nat) (w : World), (w.setCells b o vs).heap[k]? = w.heap[k]?
  | [], _, _ => rfl
  | v :: r, o, w => by
    rw [World.setCells, setCells_other hk r (o + 1) _]
    exact Below.heap_setCell _ _ _ _ hk
theorem setCells_size (b : Nat) : ∀ (vs : List Value) (o : Nat) (w : World), (w.setCells b o vs).heap.size = w.heap.size
  | [], _, _ => rfl
  | v :: r, o, w => by
    rw [World.setCells, setCells_size b r (o + 1) _]
    simp [World.setCell]
theorem setCells_rest (b : Nat) : ∀ (vs : List Value) (o : Nat) (w : World), (w.setCells b o vs).os = w.os ∧ (w.setCells b o vs).tape = w.tape ∧ (w.setCells b o vs).output = w.output
  | [], _, _ => ⟨rfl, rfl, rfl⟩
  | v :: r, o, w => by
    rw [World.setCells]
    exact setCells_rest b r (o + 1) _
theorem Ch.cells {X : Nat → Prop} {a w : World} (h : Ch X a w) {b : Nat} (hp : b < a.heap.size → X b) (o : Nat) (vs : List Value) : Ch X a (w.setCells b o vs) := by
  have hr := setCells_rest b vs o w
  refine ⟨hr.1.trans h.os, hr.2.1.trans h.tape, hr.2.2.trans h.output, by rw [setCells_size]; exact h.size, fun k hk hx => ?_⟩
  have hne : k ≠ b := fun e => hx (by rw [e]; exact hp (by rw [← e]; exact hk))
  rw [setCells_other hne]
  exact h.block k hk hx

theorem new_cells (w : World) (l : List Value) (T : TypeId) : ∀ (j : Nat) (u : Value), l[j]? = some u → (w.alloc (.cells l.toArray T)).cell? ((⟨w.heap.size, 0, none⟩ : Addr).add j) = some u := by
  intro j u hu
  rw [addr_add, Nat.zero_add]
  exact heap_cell (heap_alloc_new w _) (by simpa using hu)
theorem own_lt {w : World} {B e size n : Nat} {v : Value} {xs : List Value} (h : w.ownsRow B e size v n xs) : ∀ k, v.ownBlock = some k → B ≤ k := fun k hk => (h.lt k hk).1
theorem own_shape {w : World} {B e size n : Nat} {v : Value} {xs : List Value} (h : w.ownsRow B e size v n xs) : ∃ A c, v = .slice A n c := by
  rcases h.2 with ⟨rfl, rfl⟩ | ⟨g, cap, cur, rfl, _⟩
  · exact ⟨_, _, rfl⟩
  · exact ⟨_, _, rfl⟩
theorem own_of {w w' : World} {B e size n : Nat} {v : Value} {xs : List Value} (h : w.ownsRow B e size v n xs) (hb : ∀ g, v.ownBlock = some g → w'.heap[g]? = w.heap[g]?) : w'.ownsRow B e size v n xs := by
  refine ⟨h.1, ?_⟩
  rcases h.2 with h2 | ⟨g, cap, cur, rfl, h2, h3, h4⟩
  · exact .inl h2
  · exact .inr ⟨g, cap, cur, rfl, h2, (hb g rfl).trans h3, h4⟩
theorem own_below {w w' : World} {B e size n : Nat} {v : Value} {xs : List Value} (h : w.ownsRow B e size v n xs) (hb : Below w.heap.size w w') : w'.ownsRow B e size v n xs :=
  own_of h fun g hg => hb.block g (h.lt g hg).2
theorem own_ch {X : Nat → Prop} {w w' : World} {B e size n : Nat} {v : Value} {xs : List Value} (h : w.ownsRow B e size v n xs) (hc : Ch X w w') (hX : ∀ g, v.ownBlock = some g → ¬ X g) : w'.ownsRow B e size v n xs :=
  own_of h fun g hg => hc.block g (h.lt g hg).2 (hX g hg)
theorem own_base {w : World} {B B' e size n : Nat} {v : Value} {xs : List Value} (h : w.ownsRow B e size v n xs) (hB : B' ≤ B) : w.ownsRow B' e size v n xs := by
  refine ⟨h.1, ?_⟩
  rcases h.2 with h2 | ⟨g, cap, cur, h1, h2, h3⟩
  · exact .inl h2
  · exact .inr ⟨g, cap, cur, h1, Nat.le_trans hB h2, h3⟩

structure CoI where
  kind : Int
  num : Int
  text : Bs
  name : Bs
  desc : Bs
structure FlI where
  flags : Int
  name : Bs
  desc : Bs
structure RwI where
  fr : Int
  too : Int
  at_ : Int
  cls : Bs
structure FrI where
  pc : Int
  locals : List Bs
  stack : List Bs
structure MeI where
  flags : Int
  name : Bs
  desc : Bs
  stack : Int
  locals : Int
  code : Bs
  rows : List RwI
  frames : List FrI
structure ClI where
  flags : Int
  name : Bs
  super : Bs
  ifaces : List Bs
  pool : List CoI
  fields : List FlI
  methods : List MeI
/-- A slice that can be read: the things of l, in rows of k cells; its block is one of P. -/
def RdX {α : Type} (P : Nat → Prop) (k : Nat) (E : World → α → List Value → Prop) (w : World) (v : Value) (l : List α) : Prop :=
  ∃ A cap, v = .slice A l.length cap ∧ (A = none → cap = 0) ∧ l.length ≤ 4294967296 ∧ ∀ (i : Nat) (a : α), l[i]? = some a → ∃ g o c, A = some ⟨g, o, none⟩ ∧ P g ∧ E w a c ∧ ∀ (j : Nat) u, c[j]? = some u → w.cell? ⟨g, o + i * k + j, none⟩ = some u
def StE (_ : World) (t : Bs) (c : List Value) : Prop := c = [.string (tx t)]
def ByE (_ : World) (b : UInt8) (c : List Value) : Prop := c = [.int .u8 (b.toNat : Int)]
def CoE (_ : World) (x : CoI) (c : List Value) : Prop := c = [.int .i64 x.kind, .int .i64 x.num, .string (tx x.text), .string (tx x.name), .string (tx x.desc)]
def FlE (_ : World) (f : FlI) (c : List Value) : Prop := c = [.int .i64 f.flags, .string (tx f.name), .string (tx f.desc)]
def RwE (_ : World) (r : RwI) (c : List Value) : Prop := c = [.int .i64 r.fr, .int .i64 r.too, .int .i64 r.at_, .string (tx r.cls)]
def FrE (P : Nat → Prop) (w : World) (f : FrI) (c : List Value) : Prop := ∃ a b, c = [.int .i64 f.pc, a, b] ∧ RdX P 1 StE w a f.locals ∧ RdX P 1 StE w b f.stack
def MeE (P : Nat → Prop) (w : World) (m : MeI) (c : List Value) : Prop := ∃ a b d, c = [.int .i64 m.flags, .string (tx m.name), .string (tx m.desc), .int .i64 m.stack, .int .i64 m.locals, a, b, d] ∧ RdX P 1 ByE w a m.code ∧ RdX P 4 RwE w b m.rows ∧ RdX P 3 (FrE P) w d m.frames
/-- The cells of a class. -/
def ClE (P : Nat → Prop) (w : World) (c : ClI) (cs : List Value) : Prop := ∃ a p b d, cs = [.int .i64 c.flags, .string (tx c.name), .string (tx c.super), a, p, b, d] ∧ RdX P 1 StE w a c.ifaces ∧ RdX P 5 CoE w p c.pool ∧ RdX P 3 FlE w b c.fields ∧ RdX P 8 (MeE P) w d c.methods
def ClV (P : Nat → Prop) (w : World) (c : ClI) (v : Value) : Prop := ∃ cs : List Value, v = .agg cs.toArray ∧ ClE P w c cs
/-- What stays where blocks of P stay. -/
def KeptX {α : Type} (P : Nat → Prop) (E : World → α → List Value → Prop) : Prop := ∀ w w' a c, (∀ g, P g → g < w.heap.size → w'.heap[g]? = w.heap[g]?) → E w a c → E w' a c
theorem RdX.kept {α : Type} {P : Nat → Prop} {k : Nat} {E : World → α → List Value → Prop} (hE : KeptX P E) {w w' : World} {v : Value} {l : List α} (h : RdX P k E w v l) (hb : ∀ g, P g → g < w.heap.size → w'.heap[g]? = w.heap[g]?) : RdX P k E w' v l := by
  obtain ⟨A, cap, h1, h0, h2, h3⟩ := h
  refine ⟨A, cap, h1, h0, h2, fun i a hi => ?_⟩
  obtain ⟨g, o, c, h4, hg, h5, h6⟩ := h3 i a hi
  exact ⟨g, o, c, h4, hg, hE _ _ _ _ hb h5, fun j u hj => (cell_heap (hb g hg (cell_lt (h6 j u hj))) _).trans (h6 j u hj)⟩
theorem keptX_pure {α : Type} (P : Nat → Prop) (E : World → α → List Value → Prop) (h : ∀ w w', E w = E w') : KeptX P E := fun w w' a c _ hc => by rw [h w' w]; exact hc
theorem keptX_st (P : Nat → Prop) : KeptX P StE := keptX_pure _ _ fun _ _ => rfl
theorem keptX_by (P : Nat → Prop) : KeptX P ByE := keptX_pure _ _ fun _ _ => rfl
theorem keptX_co (P : Nat → Prop) : KeptX P CoE := keptX_pure _ _ fun _ _ => rfl
theorem keptX_fl (P : Nat → Prop) : KeptX P FlE := keptX_pure _ _ fun _ _ => rfl
theorem keptX_rw (P : Nat → Prop) : KeptX P RwE := keptX_pure _ _ fun _ _ => rfl
theorem keptX_fr (P : Nat → Prop) : KeptX P (FrE P) := by
  rintro w w' f c hb ⟨a, b, rfl, h1, h2⟩
  exact ⟨a, b, rfl, h1.kept (keptX_st P) hb, h2.kept (keptX_st P) hb⟩
theorem keptX_me (P : Nat → Prop) : KeptX P (MeE P) := by
  rintro w w' f c hb ⟨a, b, d, rfl, h1, h2, h3⟩
  exact ⟨a, b, d, rfl, h1.kept (keptX_by P) hb, h2.kept (keptX_rw P) hb, h3.kept (keptX_fr P) hb⟩
theorem keptX_cl (P : Nat → Prop) : KeptX P (ClE P) := by
  rintro w w' c cs hb ⟨a, p, b, d, rfl, h1, h2, h3, h4⟩
  exact ⟨a, p, b, d, rfl, h1.kept (keptX_st P) hb, h2.kept (keptX_co P) hb, h3.kept (keptX_fl P) hb, h4.kept (keptX_me P) hb⟩
theorem ClV.kept {P : Nat → Prop} {w w' : World} {c : ClI} {v : Value} (h : ClV P w c v) (hb : ∀ g, P g → g < w.heap.size → w'.heap[g]? = w.heap[g]?) : ClV P w' c v := by
  obtain ⟨cs, rfl, h⟩ := h
  exact ⟨cs, rfl, keptX_cl P _ _ _ _ hb h⟩
theorem RdX.mono {α : Type} {P Q : Nat → Prop} {k : Nat} {E E' : World → α → List Value → Prop} {w : World} (hE : ∀ a c, E w a c → E' w a c) (hP : ∀ g, P g → g < w.heap.size → Q g) (hk : ∀ a c, E w a c → c ≠ []) {v : Value} {l : List α} (h : RdX P k E w v l) : RdX Q k E' w v l := by
  obtain ⟨A, cap, h1, h0, h2, h3⟩ := h
  refine ⟨A, cap, h1, h0, h2, fun i a hi => ?_⟩
  obtain ⟨g, o, c, h4, hg, h5, h6⟩ := h3 i a hi
  refine ⟨g, o, c, h4, hP g hg ?_, hE _ _ h5, h6⟩
  cases c with
  | nil => exact absurd rfl (hk _ _ h5)
  | cons u r => exact cell_lt (h6 0 u rfl)
theorem st_ne {w : World} (a : Bs) (c : List Value) (h : StE w a c) : c ≠ [] := by rw [h]; simp
theorem by_ne {w : World} (a : UInt8) (c : List Value) (h : ByE w a c) : c ≠ [] := by rw [h]; simp
theorem co_ne {w : World} (a : CoI) (c : List Value) (h : CoE w a c) : c ≠ [] := by rw [h]; simp
theorem fl_ne {w : World} (a : FlI) (c : List Value) (h : FlE w a c) : c ≠ [] := by rw [h]; simp
theorem rw_ne {w : World} (a : RwI) (c : List Value) (h : RwE w a c) : c ≠ [] := by rw [h]; simp
theorem fr_ne {P : Nat → Prop} {w : World} (a : FrI) (c : List Value) (h : FrE P w a c) : c ≠ [] := by obtain ⟨_, _, rfl, _⟩ := h; simp
theorem me_ne {P : Nat → Prop} {w : World} (a : MeI) (c : List Value) (h : MeE P w a c) : c ≠ [] := by obtain ⟨_, _, _, rfl, _⟩ := h; simp
theorem cl_ne {P : Nat → Prop} {w : World} (a : ClI) (c : List Value) (h : ClE P w a c) : c ≠ [] := by obtain ⟨_, _, _, _, rfl, _⟩ := h; simp
theorem frE_mono {P Q : Nat → Prop} {w : World} (hP : ∀ g, P g → g < w.heap.size → Q g) (a : FrI) (c : List Value) (h : FrE P w a c) : FrE Q w a c := by
  obtain ⟨x, y, rfl, h1, h2⟩ := h
  exact ⟨x, y, rfl, h1.mono (fun _ _ h => h) hP st_ne, h2.mono (fun _ _ h => h) hP st_ne⟩
theorem meE_mono {P Q : Nat → Prop} {w : World} (hP : ∀ g, P g → g < w.heap.size → Q g) (a : MeI) (c : List Value) (h : MeE P w a c) : MeE Q w a c := by
  obtain ⟨x, y, z, rfl, h1, h2, h3⟩ := h
  exact ⟨x, y, z, rfl, h1.mono (fun _ _ h => h) hP by_ne, h2.mono (fun _ _ h => h) hP rw_ne, h3.mono (frE_mono hP) hP fr_ne⟩
theorem clE_mono {P Q : Nat → Prop} {w : World} (hP : ∀ g, P g → g < w.heap.size → Q g) (a : ClI) (c : List Value) (h : ClE P w a c) : ClE Q w a c := by
  obtain ⟨x, y, z, u, rfl, h1, h2, h3, h4⟩ := h
  exact ⟨x, y, z, u, rfl, h1.mono (fun _ _ h => h) hP st_ne, h2.mono (fun _ _ h => h) hP co_ne, h3.mono (fun _ _ h => h) hP fl_ne, h4.mono (meE_mono hP) hP me_ne⟩
theorem ClV.mono {P Q : Nat → Prop} {w : World} {c : ClI} {v : Value} (h : ClV P w c v) (hP : ∀ g, P g → g < w.heap.size → Q g) : ClV Q w c v := by
  obtain ⟨cs, rfl, h⟩ := h
  exact ⟨cs, rfl, clE_mono hP _ _ h⟩
theorem RdX.ch {α : Type} {P X : Nat → Prop} {k : Nat} {E : World → α → List Value → Prop} (hE : KeptX P E) {w w' : World} {v : Value} {l : List α} (h : RdX P k E w v l) (hc : Ch X w w') (hP : ∀ g, P g → ¬ X g) : RdX P k E w' v l :=
  h.kept hE fun g hg hl => hc.block g hl (hP g hg)
theorem RdX.below {α : Type} {P : Nat → Prop} {k : Nat} {E : World → α → List Value → Prop} (hE : KeptX P E) {w w' : World} {v : Value} {l : List α} (h : RdX P k E w v l) (hb : Below w.heap.size w w') : RdX P k E w' v l :=
  h.kept hE fun g _ hl => hb.block g hl
theorem ClV.ch {P X : Nat → Prop} {w w' : World} {c : ClI} {v : Value} (h : ClV P w c v) (hc : Ch X w w') (hP : ∀ g, P g → ¬ X g) : ClV P w' c v := h.kept fun g hg hl => hc.block g hl (hP g hg)
theorem ClV.below {P : Nat → Prop} {w w' : World} {c : ClI} {v : Value} (h : ClV P w c v) (hb : Below w.heap.size w w') : ClV P w' c v := h.kept fun g _ hl => hb.block g hl
theorem rdX_nil {α : Type} (P : Nat → Prop) (k : Nat) (E : World → α → List Value → Prop) (w : World) (A : Option Addr) (cap : Nat) (h : A = none → cap = 0) : RdX P k E w (.slice A 0 cap) [] := ⟨A, cap, rfl, h, Nat.zero_le _, fun i a h => by simp at h⟩
theorem RdX.shape {α : Type} {P : Nat → Prop} {k : Nat} {E : World → α → List Value → Prop} {w : World} {v : Value} {l : List α} (h : RdX P k E w v l) : ∃ A cap, v = .slice A l.length cap := by
  obtain ⟨A, cap, h1, _⟩ := h
  exact ⟨A, cap, h1⟩
theorem RdX.len {α : Type} {P : Nat → Prop} {k : Nat} {E : World → α → List Value → Prop} {w : World} {v : Value} {l : List α} (h : RdX P k E w v l) : l.length ≤ 4294967296 := by
  obtain ⟨A, cap, h1, _, h2, _⟩ := h
  exact h2
theorem RdX.at' {α : Type} {P : Nat → Prop} {k : Nat} {E : World → α → List Value → Prop} {w : World} {A : Option Addr} {n cap : Nat} {l : List α} (h : RdX P k E w (.slice A n cap) l) {i : Nat} {a : α} (hi : l[i]? = some a) :
    ∃ g o c, A = some ⟨g, o, none⟩ ∧ P g ∧ E w a c ∧ ∀ (j : Nat) u, c[j]? = some u → w.cell? ⟨g, o + i * k + j, none⟩ = some u := by
  obtain ⟨A', cap', h1, _, _, h3⟩ := h
  injection h1 with e1 _ _
  subst e1
  exact h3 i a hi
/-- The cells xs are the things of l, in rows of k. -/
def RowsE {α : Type} (k : Nat) (E : α → List Value → Prop) (l : List α) (xs : List Value) : Prop := xs.length = l.length * k ∧ ∀ (i : Nat) (a : α), l[i]? = some a → ∃ c, E a c ∧ ∀ (j : Nat) u, c[j]? = some u → xs[i * k + j]? = some u
theorem rowsE_nil {α : Type} (k : Nat) (E : α → List Value → Prop) : RowsE k E [] [] := ⟨by simp, fun i a h => by simp at h⟩
theorem RowsE.app {α : Type} {k : Nat} {E : α → List Value → Prop} {l m : List α} {xs ys : List Value} (h : RowsE k E l xs) (h' : RowsE k E m ys) : RowsE k E (l ++ m) (xs ++ ys) := by
  refine ⟨by rw [List.length_append, List.length_append, h.1, h'.1, Nat.add_mul], fun i a hi => ?_⟩
  rcases Nat.lt_or_ge i l.length with hlt | hge
  · rw [List.getElem?_append_left hlt] at hi
    obtain ⟨c, h1, h2⟩ := h.2 i a hi
    refine ⟨c, h1, fun j u hj => ?_⟩
    have := h2 j u hj
    rw [List.getElem?_append_left (List.getElem?_eq_some_iff.1 this).1]
    exact this
  · rw [List.getElem?_append_right hge] at hi
    obtain ⟨c, h1, h2⟩ := h'.2 _ a hi
    refine ⟨c, h1, fun j u hj => ?_⟩
    have h3 := h2 j u hj
    have h4 : l.length * k ≤ i * k := Nat.mul_le_mul_right _ hge
    rw [List.getElem?_append_right (by rw [h.1]; omega), h.1, show i * k + j - l.length * k = (i - l.length) * k + j by rw [Nat.sub_mul]; omega]
    exact h3
theorem rowsE_one {α : Type} {k : Nat} {E : α → List Value → Prop} {a : α} {c : List Value} (h : E a c) (hk : c.length = k) : RowsE k E [a] c :=
  ⟨by simp [hk], fun i x hi => by
    cases i with
    | succ i => simp at hi
    | zero =>
      simp at hi
      subst hi
      exact ⟨c, h, fun j u hj => by rw [Nat.zero_mul, Nat.zero_add]; exact hj⟩⟩
theorem RowsE.imp {α : Type} {k : Nat} {E E' : α → List Value → Prop} {l : List α} {xs : List Value} (h : RowsE k E l xs) (hE : ∀ a c, E a c → E' a c) : RowsE k E' l xs :=
  ⟨h.1, fun i a hi => by obtain ⟨c, h1, h2⟩ := h.2 i a hi; exact ⟨c, hE _ _ h1, h2⟩⟩
/-- All cells of a slice that can be read, as one list. -/
theorem rows_list {α : Type} {k : Nat} {E : α → List Value → Prop} (hk : ∀ a c, E a c → c.length = k) (C : Nat → Option Value) : ∀ (l : List α) (o : Nat), (∀ (i : Nat) (a : α), l[i]? = some a → ∃ c, E a c ∧ ∀ (j : Nat) u, c[j]? = some u → C (o + i * k + j) = some u) →
    ∃ xs, RowsE k E l xs ∧ ∀ (j : Nat) u, xs[j]? = some u → C (o + j) = some u
  | [], o, _ => ⟨[], rowsE_nil _ _, fun j u h => by simp at h⟩
  | a :: l, o, h => by
    obtain ⟨c, h1, h2⟩ := h 0 a rfl
    obtain ⟨xs, h3, h4⟩ := rows_list hk C l (o + k) (fun i b hi => by
      obtain ⟨c', h5, h6⟩ := h (i + 1) b (by simpa using hi)
      refine ⟨c', h5, fun j u hj => ?_⟩
      have := h6 j u hj
      rw [show o + k + i * k + j = o + (i + 1) * k + j by rw [Nat.succ_mul]; omega]
      exact this)
    have hc := hk _ _ h1
    refine ⟨c ++ xs, (rowsE_one h1 hc).app h3, fun j u hj => ?_⟩
    rcases Nat.lt_or_ge j k with hlt | hge
    · rw [List.getElem?_append_left (by omega)] at hj
      have := h2 j u hj
      rwa [Nat.zero_mul, Nat.add_zero] at this
    · rw [List.getElem?_append_right (by omega), hc] at hj
      have := h4 _ u hj
      rwa [show o + k + (j - k) = o + j by omega] at this
/-- A list that a call made can be read. -/
theorem rdX_own {α : Type} {k : Nat} {E : World → α → List Value → Prop} {w : World} {B e : Nat} {v : Value} {l : List α} {xs : List Value} (h : w.ownsRow B e k v l.length xs) (hl : l.length ≤ 4294967296) (hr : RowsE k (E w) l xs) : RdX (fun g => B ≤ g ∧ v.ownBlock = some g) k E w v l := by
  rcases h.2 with ⟨rfl, h2⟩ | ⟨g, cap, cur, rfl, h2, h3, h4, h5, h6, h7⟩
  · have : l = [] := List.length_eq_zero_iff.1 h2
    subst this
    exact rdX_nil _ _ _ _ _ _ (fun _ => rfl)
  · refine ⟨_, cap, rfl, fun e => (by cases e), hl, fun i a hi => ?_⟩
    obtain ⟨c, h8, h9⟩ := hr.2 i a hi
    refine ⟨g, 0, c, rfl, ⟨h2, rfl⟩, h8, fun j u hj => ?_⟩
    have := h9 j u hj
    rw [Nat.zero_add]
    refine heap_cell h3 ?_
    rw [← h7] at this
    have h10 := (List.getElem?_eq_some_iff.1 this).1
    rw [List.length_take] at h10
    rw [List.getElem?_take_of_lt (by omega)] at this
    simpa using this
theorem RdX.any {α : Type} {P Q : Nat → Prop} {k : Nat} {E : World → α → List Value → Prop} {w : World} {v : Value} {l : List α} (h : RdX P k E w v l) (hP : ∀ g, P g → Q g) : RdX Q k E w v l := by
  obtain ⟨A, cap, h1, h0, h2, h3⟩ := h
  refine ⟨A, cap, h1, h0, h2, fun i a hi => ?_⟩
  obtain ⟨g, o, c, h4, hg, h5⟩ := h3 i a hi
  exact ⟨g, o, c, h4, hP g hg, h5⟩
theorem RdX.none0 {α : Type} {P : Nat → Prop} {k : Nat} {E : World → α → List Value → Prop} {w : World} {n cap : Nat} {l : List α} (h : RdX P k E w (.slice none n cap) l) : l = [] ∧ n = 0 ∧ cap = 0 := by
  obtain ⟨A, c, h1, h0, h2, h3⟩ := h
  injection h1 with e1 e2 e3
  subst e1
  have : l = [] := by
    cases l with
    | nil => rfl
    | cons a r =>
      obtain ⟨g, o, cc, hA, _⟩ := h3 0 a rfl
      cases hA
  subst this
  exact ⟨rfl, e2, e3.trans (h0 rfl)⟩
end Go.Proofs.YtpdnonlelocfbaaGreatDoor
/- Package check in plain words: what each instruction does to the types, and what holds of them all the while. No program. -/
namespace Go.Proofs.YtpdnonlelocfbaaGreatDoor
set_option linter.unusedVariables false

/-- What a method is checked against: the tree's answers, the words of types, the class's constants. -/
structure Chk where
  known : Bs → Bool
  fits : Bs → Bs → Bool
  field : Bs → Bs → Bs → Option (Int × Bs)
  meth : Bs → Bs → Bs → Option Int
  cls : Bs → Option Int
  kind : Bs → Int
  elem : Bs → Bs
  of : Bs → Bs
  metD : Bs → List Bs × Bs
  kinds : Int → Int × Int × Int
  pool : List CoI
  own : Bs
  gives : Bs
  room : Nat
/-- A state under way, and the first fault. -/
structure Cs where
  loc : List Bs
  stk : List Bs
  flt : Int
/-- A type on the stack: nothing's, or one that is known. -/
def Chk.Ty (E : Chk) (t : Bs) : Prop := t = [78] ∨ E.known t = true
structure Chk.Good (E : Chk) : Prop where
  int : E.known [73] = true
  long : E.known [74] = true
  ints : E.known [91, 73] = true
  longs : E.known [91, 74] = true
  text : E.known [76, 83, 116, 114, 105, 110, 103, 59] = true
  none : E.kind [] = 0
  elem : ∀ t, E.known t = true → E.kind (E.elem t) = 3 → E.known (E.elem t) = true
  made : ∀ n f, E.cls n = some f → E.known (E.of n) = true
structure Cs.OK (E : Chk) (n : Nat) (s : Cs) : Prop where
  len : s.loc.length = n
  loc : ∀ t ∈ s.loc, t = [] ∨ E.Ty t
  room : s.stk.length ≤ E.room
  stk : ∀ t ∈ s.stk, E.Ty t

def Cs.refuse (s : Cs) (b : Bool) (e : Int) : Cs := if b = true ∧ s.flt = 0 then { s with flt := e } else s
def Cs.take (s : Cs) : Bs × Cs :=
  let s := s.refuse s.stk.isEmpty 61
  if s.flt = 0 then (s.stk.getLastD [], { s with stk := s.stk.dropLast }) else ([], s)
def Cs.pop (s : Cs) (E : Chk) (want : Bs) : Cs := s.take.2.refuse (!E.fits s.take.1 want) 62
def Cs.popRef (s : Cs) (E : Chk) : Bs × Cs := (s.take.1, s.take.2.refuse (E.kind s.take.1 != 3) 62)
def Cs.popRefs (s : Cs) (E : Chk) : Bs × Cs :=
  if (s.popRef E).1 = [78] then ([78], (s.popRef E).2) else (E.elem (s.popRef E).1, (s.popRef E).2.refuse (E.kind (E.elem (s.popRef E).1) != 3) 62)
def Cs.push (s : Cs) (E : Chk) (t : Bs) : Cs :=
  let s := s.refuse (decide (E.room ≤ s.stk.length)) 61
  if s.flt = 0 then { s with stk := s.stk ++ [t] } else s
def Cs.local (s : Cs) (n : Nat) : Bs × Cs :=
  let s := s.refuse (decide (s.loc.length ≤ n)) 61
  if s.flt = 0 then (s.loc.getD n [], s) else ([], s)
def noCo : CoI := ⟨0, 0, [], [], []⟩
def Cs.pooled (s : Cs) (E : Chk) (n : Nat) (ks : List Int) : CoI × Cs :=
  let s := s.refuse (n == 0 || decide (E.pool.length ≤ n)) 12
  if s.flt = 0 then (E.pool.getD n noCo, s.refuse (!ks.contains (E.pool.getD n noCo).kind) 12) else (noCo, s)
def Cs.know (s : Cs) (E : Chk) (t : Bs) : Cs := s.refuse (!E.known t) 50
section
variable {E : Chk} {n : Nat} {s : Cs}
theorem refuse_cases (s : Cs) (b : Bool) (e : Int) : (s.refuse b e).loc = s.loc ∧ (s.refuse b e).stk = s.stk := by
  unfold Cs.refuse
  split <;> exact ⟨rfl, rfl⟩
theorem Cs.OK.refuse (h : s.OK E n) (b : Bool) (e : Int) : (s.refuse b e).OK E n := by
  obtain ⟨h1, h2⟩ := refuse_cases s b e
  exact ⟨h1 ▸ h.len, h1 ▸ h.loc, h2 ▸ h.room, h2 ▸ h.stk⟩
/-- A fault other than 0 was noted, if there was one: none afterwards says that none was found. -/
theorem refuse_none {b : Bool} {e : Int} (he : e ≠ 0) (h : (s.refuse b e).flt = 0) : s.flt = 0 ∧ b = false := by
  unfold Cs.refuse at h
  split at h
  · exact absurd h he
  · rename_i hn
    refine ⟨h, ?_⟩
    cases b with
    | false => rfl
    | true => exact absurd (And.intro rfl h) hn
theorem Cs.OK.take (h : s.OK E n) : s.take.2.OK E n ∧ (s.take.2.flt = 0 → s.flt = 0 ∧ E.Ty s.take.1) := by
  have h1 := h.refuse s.stk.isEmpty 61
  unfold Cs.take
  dsimp only
  split
  · rename_i h0
    obtain ⟨h2, h3⟩ := refuse_none (by decide) h0
    have hs : (s.refuse s.stk.isEmpty 61).stk = s.stk := (refuse_cases _ _ _).2
    refine ⟨⟨h1.len, h1.loc, ?_, fun t ht => h1.stk t (List.dropLast_subset _ ht)⟩, fun _ => ⟨h2, ?_⟩⟩
    · have := h1.room
      simp only [List.length_dropLast]
      omega
    · rw [hs]
      cases hk : s.stk with
      | nil => rw [hk] at h3; cases h3
      | cons x l =>
        have e : (x :: l).getLastD [] = (x :: l).getLast (by simp) := by rw [List.getLastD_eq_getLast?, List.getLast?_eq_some_getLast (by simp)]; rfl
        show E.Ty ((x :: l).getLastD [])
        rw [e]
        exact h.stk _ (by rw [hk]; exact List.getLast_mem _)
  · rename_i h0
    exact ⟨h1, fun h => absurd h h0⟩
theorem Cs.OK.pop (h : s.OK E n) (t : Bs) : (s.pop E t).OK E n ∧ ((s.pop E t).flt = 0 → s.flt = 0) :=
  ⟨h.take.1.refuse _ _, fun h0 => (h.take.2 (refuse_none (by decide) h0).1).1⟩
theorem Cs.OK.popRef (h : s.OK E n) : (s.popRef E).2.OK E n ∧ ((s.popRef E).2.flt = 0 → s.flt = 0 ∧ E.Ty (s.popRef E).1 ∧ E.kind (s.popRef E).1 = 3) := by
  refine ⟨h.take.1.refuse _ _, fun h0 => ?_⟩
  obtain ⟨h1, h2⟩ := refuse_none (by decide) h0
  exact ⟨(h.take.2 h1).1, (h.take.2 h1).2, show E.kind s.take.1 = 3 by simpa using h2⟩
theorem Cs.OK.popRefs (hE : E.Good) (h : s.OK E n) : (s.popRefs E).2.OK E n ∧ ((s.popRefs E).2.flt = 0 → s.flt = 0 ∧ E.Ty (s.popRefs E).1) := by
  unfold Cs.popRefs
  split
  · exact ⟨h.popRef.1, fun h0 => ⟨(h.popRef.2 h0).1, .inl rfl⟩⟩
  · rename_i hN
    refine ⟨h.popRef.1.refuse _ _, fun h0 => ?_⟩
    obtain ⟨h1, h2⟩ := refuse_none (by decide) h0
    obtain ⟨h3, h4, h5⟩ := h.popRef.2 h1
    exact ⟨h3, .inr (hE.elem _ (h4.resolve_left hN) (by simpa using h2))⟩
theorem Cs.OK.push (h : s.OK E n) (t : Bs) (ht : s.flt = 0 → E.Ty t) : (s.push E t).OK E n ∧ ((s.push E t).flt = 0 → s.flt = 0) := by
  have h1 := h.refuse (decide (E.room ≤ s.stk.length)) 61
  have hs : (s.refuse (decide (E.room ≤ s.stk.length)) 61).stk = s.stk := (refuse_cases _ _ _).2
  unfold Cs.push
  dsimp only
  split
  · rename_i h0
    obtain ⟨h2, h3⟩ := refuse_none (by decide) h0
    have h4 : ¬ E.room ≤ s.stk.length := of_decide_eq_false h3
    refine ⟨⟨h1.len, h1.loc, ?_, fun u hu => ?_⟩, fun _ => h2⟩
    · simp only [List.length_append, List.length_cons, List.length_nil, hs]
      omega
    · rcases List.mem_append.1 hu with hu | hu
      · exact h1.stk u hu
      · obtain rfl : u = t := by simpa using hu
        exact ht h2
  · rename_i h0
    exact ⟨h1, fun h => absurd h h0⟩
theorem Cs.OK.local (h : s.OK E n) (i : Nat) : (s.local i).2.OK E n ∧ ((s.local i).2.flt = 0 → s.flt = 0 ∧ i < n ∧ ((s.local i).1 = [] ∨ E.Ty (s.local i).1)) := by
  have h1 := h.refuse (decide (s.loc.length ≤ i)) 61
  have hs : (s.refuse (decide (s.loc.length ≤ i)) 61).loc = s.loc := (refuse_cases _ _ _).1
  unfold Cs.local
  dsimp only
  split
  · rename_i h0
    obtain ⟨h2, h3⟩ := refuse_none (by decide) h0
    have h4 : ¬ s.loc.length ≤ i := of_decide_eq_false h3
    have hl := h.len
    refine ⟨h1, fun _ => ⟨h2, by omega, ?_⟩⟩
    have hi : i < s.loc.length := by omega
    have e : s.loc.getD i [] = s.loc[i] := by simp [List.getD, List.getElem?_eq_getElem hi]
    show (s.refuse (decide (s.loc.length ≤ i)) 61).loc.getD i [] = [] ∨ E.Ty ((s.refuse (decide (s.loc.length ≤ i)) 61).loc.getD i [])
    rw [hs, e]
    exact h.loc _ (List.getElem_mem _)
  · rename_i h0
    exact ⟨h1, fun h => absurd h h0⟩
theorem Cs.OK.pooled (h : s.OK E n) (i : Nat) (ks : List Int) : (s.pooled E i ks).2.OK E n ∧ ((s.pooled E i ks).2.flt = 0 → s.flt = 0) := by
  have h1 := h.refuse (i == 0 || decide (E.pool.length ≤ i)) 12
  unfold Cs.pooled
  dsimp only
  split
  · rename_i h0
    exact ⟨h1.refuse _ _, fun _ => (refuse_none (by decide) h0).1⟩
  · rename_i h0
    exact ⟨h1, fun h => absurd h h0⟩
theorem Cs.OK.know (h : s.OK E n) (t : Bs) : (s.know E t).OK E n ∧ ((s.know E t).flt = 0 → s.flt = 0 ∧ E.known t = true) := by
  refine ⟨h.refuse _ _, fun h0 => ?_⟩
  obtain ⟨h1, h2⟩ := refuse_none (by decide) h0
  exact ⟨h1, by simpa using h2⟩
end
end Go.Proofs.YtpdnonlelocfbaaGreatDoor
/- Package check in plain words: the table of instructions, and that each keeps what holds of a state. No program. -/
namespace Go.Proofs.YtpdnonlelocfbaaGreatDoor
set_option linter.unusedVariables false

/-- What holds of a state goes on holding; a fault stays one. -/
structure Keeps (E : Chk) (n : Nat) (s s' : Cs) : Prop where
  ok : s.OK E n → s'.OK E n
  flt : s.OK E n → s'.flt = 0 → s.flt = 0
def bStat (f : Int) : Bool := f / 8 % 2 == 1
def bIface (f : Int) : Bool := f / 512 % 2 == 1
def bAbs (f : Int) : Bool := f / 1024 % 2 == 1
def tInt : Bs := [73]
def tLong : Bs := [74]
def tNull : Bs := [78]
def tVoid : Bs := [86]
def tText : Bs := [76, 83, 116, 114, 105, 110, 103, 59]
def tThrow : Bs := [76, 84, 104, 114, 111, 119, 97, 98, 108, 101, 59]
def tOf (k : Int) : Bs := if k = 2 then tLong else tInt
def Cs.tellC (s : Cs) (E : Chk) (a : Nat) : Cs :=
  let p := s.pooled E a [3, 5, 8]
  if p.1.kind = 3 then (p.2.refuse (decide (¬ (-2147483648 ≤ p.1.num ∧ p.1.num ≤ 2147483647))) 12).push E tInt
  else if p.1.kind = 5 then p.2.push E tLong
  else if p.1.kind = 8 then p.2.push E tText
  else p.2
def Cs.tell (s : Cs) (E : Chk) (c : Int) (a : Nat) : Cs :=
  if c = 0 then s else if c = 1 then s.push E tNull else if c = 9 ∨ c = 10 then s.push E tLong else if c = 19 then s.tellC E a else s.push E tInt
def Cs.load (s : Cs) (E : Chk) (c : Int) (a : Nat) : Cs :=
  let k := if c = 21 then 1 else if c = 22 then 2 else 3
  ((s.local a).2.refuse (E.kind (s.local a).1 != k) 62).push E (s.local a).1
def Cs.setLoc (s : Cs) (a : Nat) (t : Bs) : Cs := if (s.local a).2.flt = 0 then { (s.local a).2 with loc := (s.local a).2.loc.set a t } else (s.local a).2
def Cs.store (s : Cs) (E : Chk) (c : Int) (a : Nat) : Cs :=
  if c = 54 then (s.pop E tInt).setLoc a tInt else if c = 55 then (s.pop E tLong).setLoc a tLong else if c = 58 then (s.popRef E).2.setLoc a (s.popRef E).1 else s.setLoc a tInt
def Cs.getE (s : Cs) (E : Chk) (c : Int) : Cs :=
  let s := s.pop E tInt
  if c = 46 then (s.pop E [91, 73]).push E tInt else if c = 47 then (s.pop E [91, 74]).push E tLong else if c = 50 then (s.popRefs E).2.push E (s.popRefs E).1 else s
def Cs.putE (s : Cs) (E : Chk) (c : Int) : Cs :=
  if c = 79 then ((s.pop E tInt).pop E tInt).pop E [91, 73] else if c = 80 then ((s.pop E tLong).pop E tInt).pop E [91, 74]
  else if c = 83 then (((s.popRef E).2.pop E tInt).popRefs E).2 else s
def Cs.turn (s : Cs) (E : Chk) (c : Int) : Cs :=
  let a := s.take
  if c = 89 then (a.2.push E a.1).push E a.1
  else if c = 90 then ((a.2.take.2.push E a.1).push E a.2.take.1).push E a.1
  else if c = 95 then (a.2.take.2.push E a.1).push E a.2.take.1
  else a.2
def Cs.count (s : Cs) (a : Nat) : Cs := (s.local a).2.refuse (decide ((s.local a).1 ≠ tInt)) 62
def Cs.compute (s : Cs) (E : Chk) (c : Int) : Cs :=
  let k := E.kinds c
  let s := if k.2.1 = 0 then s else s.pop E (tOf k.2.1)
  (s.pop E (tOf k.1)).push E (tOf k.2.2)
def Cs.compare (s : Cs) (E : Chk) (c : Int) : Cs :=
  if c ≤ 158 then s.pop E tInt else if c ≤ 164 then (s.pop E tInt).pop E tInt else if c ≤ 166 then ((s.popRef E).2.popRef E).2 else if 198 ≤ c then (s.popRef E).2 else s
def Cs.giveBack (s : Cs) (E : Chk) (c : Int) : Cs :=
  let k := E.kind E.gives
  let s := s.refuse (decide (c ≠ if k = 1 then 172 else if k = 2 then 173 else if k = 3 then 176 else 177)) 62
  if E.gives = tVoid then s else s.pop E E.gives
def Cs.field (s : Cs) (E : Chk) (c : Int) (a : Nat) : Cs :=
  let p := s.pooled E a [9]
  let f := E.field p.1.text p.1.name p.1.desc
  let fl := (f.getD (0, [])).1
  let d := (f.getD (0, [])).2
  let st := decide (c = 178 ∨ c = 179)
  let wr := decide (c = 179 ∨ c = 181)
  let s := (p.2.refuse (f.isNone || bStat fl != st) 70).know E d
  let s1 := if wr then s.pop E d else s
  let s2 := if st then s1 else s1.pop E (E.of p.1.text)
  if wr then s2 else s2.push E d
def Cs.params (E : Chk) : List Bs → Cs → Cs
  | [], s => s
  | t :: l, s => Cs.params E l ((s.know E t).pop E t)
def Cs.callee (s : Cs) (E : Chk) (c : Int) (a : Nat) : CoI × Cs :=
  let p := s.pooled E a [if c = 185 then 11 else 10]
  let k := E.cls p.1.text
  let s := p.2.refuse (k.isNone || bIface (k.getD 0) != decide (c = 185)) 70
  let m := E.meth p.1.text p.1.name p.1.desc
  let s := s.refuse (m.isNone || bStat (m.getD 0) != decide (c = 184)) 70
  (p.1, if c = 183 then s.refuse (bAbs (m.getD 0) || !E.fits E.own (E.of p.1.text)) 70 else s)
def Cs.call (s : Cs) (E : Chk) (c : Int) (a : Nat) : Cs :=
  let p := s.callee E c a
  let d := E.metD p.1.desc
  let s := Cs.params E d.1.reverse p.2
  let s := if c = 182 ∨ c = 185 then s.pop E (E.of p.1.text) else if c = 183 then s.pop E E.own else s
  if d.2 = tVoid then s else (s.know E d.2).push E d.2
def Cs.made (s : Cs) (E : Chk) (a : Nat) : Cs :=
  let p := s.pooled E a [7]
  let k := E.cls p.1.text
  (p.2.refuse (k.isNone || bIface (k.getD 0) || bAbs (k.getD 0) || decide (p.1.text = [83, 116, 114, 105, 110, 103] ∨ p.1.text = [83, 121, 115])) 50).push E (E.of p.1.text)
def Cs.thing (s : Cs) (E : Chk) (c : Int) (a : Nat) : Cs :=
  if c = 187 then s.made E a
  else if c = 188 then ((s.refuse (decide (a ≠ 10 ∧ a ≠ 11)) 62).pop E tInt).push E (if a = 11 then [91, 74] else [91, 73])
  else if c = 189 then
    let p := s.pooled E a [7]
    let t := 91 :: E.of p.1.text
    ((p.2.know E t).pop E tInt).push E t
  else if c = 190 then ((s.popRef E).2.refuse (decide ((s.popRef E).1 ≠ tNull ∧ E.elem (s.popRef E).1 = [])) 62).push E tInt
  else if c = 191 then s.pop E tThrow
  else if c = 192 ∨ c = 193 then
    let p := s.pooled E a [7]
    let t := E.of p.1.text
    ((p.2.know E t).popRef E).2.push E (if c = 192 then t else tInt)
  else s
/-- What an instruction does to the state. -/
def Cs.doOp (s : Cs) (E : Chk) (c : Int) (a : Nat) : Cs :=
  if c ≤ 19 then s.tell E c a else if c ≤ 25 then s.load E c a else if c ≤ 50 then s.getE E c else if c ≤ 58 then s.store E c a
  else if c ≤ 83 then s.putE E c else if c ≤ 95 then s.turn E c else if c = 132 then s.count a else if c ≤ 148 then s.compute E c
  else if c ≤ 167 ∨ 198 ≤ c then s.compare E c else if c ≤ 177 then s.giveBack E c else if c ≤ 181 then s.field E c a
  else if c ≤ 185 then s.call E c a else s.thing E c a
section
variable {E : Chk} {n : Nat} {s s' s2 : Cs}
theorem Keeps.refl (s : Cs) : Keeps E n s s := ⟨id, fun _ h => h⟩
theorem Keeps.trans (h : Keeps E n s s') (k : Keeps E n s' s2) : Keeps E n s s2 := ⟨fun x => k.ok (h.ok x), fun x y => h.flt x (k.flt (h.ok x) y)⟩
theorem k_ref (b : Bool) {e : Int} (he : e ≠ 0) : Keeps E n s (s.refuse b e) := ⟨fun h => h.refuse _ _, fun _ h => (refuse_none he h).1⟩
theorem k_take : Keeps E n s s.take.2 := ⟨fun h => h.take.1, fun h h0 => (h.take.2 h0).1⟩
theorem k_pop (t : Bs) : Keeps E n s (s.pop E t) := ⟨fun h => (h.pop t).1, fun h => (h.pop t).2⟩
theorem k_popRef : Keeps E n s (s.popRef E).2 := ⟨fun h => h.popRef.1, fun h h0 => (h.popRef.2 h0).1⟩
theorem k_popRefs (hE : E.Good) : Keeps E n s (s.popRefs E).2 := ⟨fun h => (h.popRefs hE).1, fun h h0 => ((h.popRefs hE).2 h0).1⟩
theorem k_local (i : Nat) : Keeps E n s (s.local i).2 := ⟨fun h => (h.local i).1, fun h h0 => ((h.local i).2 h0).1⟩
theorem k_pooled (i : Nat) (ks : List Int) : Keeps E n s (s.pooled E i ks).2 := ⟨fun h => (h.pooled i ks).1, fun h h0 => (h.pooled i ks).2 h0⟩
theorem k_know (t : Bs) : Keeps E n s (s.know E t) := ⟨fun h => (h.know t).1, fun h h0 => ((h.know t).2 h0).1⟩
/-- A push of what is a type, if no fault was found till there. -/
theorem k_push {t : Bs} (h : Keeps E n s s') (ht : s.OK E n → s'.flt = 0 → E.Ty t) : Keeps E n s (s'.push E t) :=
  ⟨fun x => ((h.ok x).push t (ht x)).1, fun x y => h.flt x (((h.ok x).push t (ht x)).2 y)⟩
theorem ty_int (hE : E.Good) : E.Ty tInt := .inr hE.int
theorem ty_long (hE : E.Good) : E.Ty tLong := .inr hE.long
theorem ty_of (hE : E.Good) (k : Int) : E.Ty (tOf k) := by
  unfold tOf
  split
  · exact ty_long hE
  · exact ty_int hE
theorem k_tell (hE : E.Good) (c : Int) (a : Nat) : Keeps E n s (s.tell E c a) := by
  unfold Cs.tell
  split
  · exact Keeps.refl _
  split
  · exact k_push (Keeps.refl _) fun _ _ => .inl rfl
  split
  · exact k_push (Keeps.refl _) fun _ _ => ty_long hE
  split
  · unfold Cs.tellC
    dsimp only
    split
    · exact k_push ((k_pooled a _).trans (k_ref _ (by decide))) fun _ _ => ty_int hE
    split
    · exact k_push (k_pooled a _) fun _ _ => ty_long hE
    split
    · exact k_push (k_pooled a _) fun _ _ => .inr hE.text
    · exact k_pooled a _
  · exact k_push (Keeps.refl _) fun _ _ => ty_int hE
theorem k_load (hE : E.Good) (c : Int) (a : Nat) : Keeps E n s (s.load E c a) := by
  unfold Cs.load
  refine k_push ((k_local a).trans (k_ref _ (by decide))) fun h h0 => ?_
  obtain ⟨h1, h2⟩ := refuse_none (by decide) h0
  rcases ((h.local a).2 h1).2.2 with h3 | h3
  · rw [h3, hE.none] at h2
    split at h2
    · simp at h2
    · split at h2 <;> simp at h2
  · exact h3
theorem k_setLoc {t : Bs} (a : Nat) (h : Keeps E n s s') (ht : s.OK E n → s'.flt = 0 → E.Ty t) : Keeps E n s (s'.setLoc a t) := by
  unfold Cs.setLoc
  have hk := h.trans (k_local (E := E) (n := n) a)
  split
  · rename_i h0
    refine ⟨fun x => ?_, fun x _ => hk.flt x h0⟩
    have h1 := hk.ok x
    refine ⟨by rw [List.length_set]; exact h1.len, fun u hu => ?_, h1.room, h1.stk⟩
    rcases List.mem_or_eq_of_mem_set hu with hu | rfl
    · exact h1.loc u hu
    · exact .inr (ht x ((k_local (E := E) (n := n) a).flt (h.ok x) h0))
  · exact hk
theorem k_store (hE : E.Good) (c : Int) (a : Nat) : Keeps E n s (s.store E c a) := by
  unfold Cs.store
  split
  · exact k_setLoc a (k_pop _) fun _ _ => ty_int hE
  split
  · exact k_setLoc a (k_pop _) fun _ _ => ty_long hE
  split
  · exact k_setLoc a k_popRef fun h h0 => (h.popRef.2 h0).2.1
  · exact k_setLoc a (Keeps.refl _) fun _ _ => ty_int hE
theorem k_getE (hE : E.Good) (c : Int) : Keeps E n s (s.getE E c) := by
  unfold Cs.getE
  dsimp only
  split
  · exact k_push ((k_pop _).trans (k_pop _)) fun _ _ => ty_int hE
  split
  · exact k_push ((k_pop _).trans (k_pop _)) fun _ _ => ty_long hE
  split
  · exact k_push ((k_pop _).trans (k_popRefs hE)) fun h h0 => (((h.pop _).1.popRefs hE).2 h0).2
  · exact k_pop _
theorem k_putE (hE : E.Good) (c : Int) : Keeps E n s (s.putE E c) := by
  unfold Cs.putE
  split
  · exact ((k_pop _).trans (k_pop _)).trans (k_pop _)
  split
  · exact ((k_pop _).trans (k_pop _)).trans (k_pop _)
  split
  · exact (k_popRef.trans (k_pop _)).trans (k_popRefs hE)
  · exact Keeps.refl _
theorem k_turn (c : Int) : Keeps E n s (s.turn E c) := by
  unfold Cs.turn
  dsimp only
  have ha : ∀ {x : Cs}, Keeps E n s.take.2 x → s.OK E n → x.flt = 0 → E.Ty s.take.1 := fun k h h0 => (h.take.2 (k.flt h.take.1 h0)).2
  have hb : ∀ {x : Cs}, Keeps E n s.take.2.take.2 x → s.OK E n → x.flt = 0 → E.Ty s.take.2.take.1 := fun k h h0 => (h.take.1.take.2 (k.flt h.take.1.take.1 h0)).2
  split
  · refine k_push (k_push k_take (ha (Keeps.refl _))) fun h h0 => ha (k_push (Keeps.refl _) fun x y => (h.take.2 y).2) h h0
  split
  · have k1 : Keeps E n s (s.take.2.take.2.push E s.take.1) := k_push (k_take.trans k_take) (ha k_take)
    have k2 : Keeps E n s ((s.take.2.take.2.push E s.take.1).push E s.take.2.take.1) := k_push k1 fun h h0 => (h.take.1.take.2 (((h.take.1.take.1).push _ fun y => (h.take.2 ((h.take.1.take.2 y).1)).2).2 h0)).2
    exact k_push k2 fun h h0 => (h.take.2 ((h.take.1.take.2 (((h.take.1.take.1).push _ fun y => (h.take.2 ((h.take.1.take.2 y).1)).2).2 ((((h.take.1.take.1).push _ fun y => (h.take.2 ((h.take.1.take.2 y).1)).2).1.push _ fun y => (h.take.1.take.2 (((h.take.1.take.1).push _ fun y => (h.take.2 ((h.take.1.take.2 y).1)).2).2 y)).2).2 h0))).1)).2
  split
  · have k1 : Keeps E n s (s.take.2.take.2.push E s.take.1) := k_push (k_take.trans k_take) (ha k_take)
    exact k_push k1 fun h h0 => (h.take.1.take.2 (((h.take.1.take.1).push _ fun y => (h.take.2 ((h.take.1.take.2 y).1)).2).2 h0)).2
  · exact k_take
theorem k_compute (hE : E.Good) (c : Int) : Keeps E n s (s.compute E c) := by
  unfold Cs.compute
  dsimp only
  refine k_push (Keeps.trans (s' := if (E.kinds c).2.1 = 0 then s else s.pop E (tOf (E.kinds c).2.1)) ?_ (k_pop _)) fun _ _ => ty_of hE _
  split
  · exact Keeps.refl _
  · exact k_pop _
theorem k_compare (c : Int) : Keeps E n s (s.compare E c) := by
  unfold Cs.compare
  split
  · exact k_pop _
  split
  · exact (k_pop _).trans (k_pop _)
  split
  · exact k_popRef.trans k_popRef
  split
  · exact k_popRef
  · exact Keeps.refl _
theorem k_giveBack (c : Int) : Keeps E n s (s.giveBack E c) := by
  unfold Cs.giveBack
  dsimp only
  split
  · exact k_ref _ (by decide)
  · exact (k_ref _ (by decide)).trans (k_pop _)
theorem k_field (c : Int) (a : Nat) : Keeps E n s (s.field E c a) := by
  unfold Cs.field
  dsimp only
  generalize E.field (s.pooled E a [9]).1.text (s.pooled E a [9]).1.name (s.pooled E a [9]).1.desc = f
  generalize decide (c = 178 ∨ c = 179) = st
  generalize decide (c = 179 ∨ c = 181) = wr
  have k0 : Keeps E n s ((s.pooled E a [9]).2.refuse (f.isNone || bStat (f.getD (0, [])).1 != st) 70) := (k_pooled a _).trans (k_ref _ (by decide))
  generalize (s.pooled E a [9]).2.refuse (f.isNone || bStat (f.getD (0, [])).1 != st) 70 = s0 at k0 ⊢
  have hk : s.OK E n → (s0.know E (f.getD (0, [])).2).flt = 0 → E.Ty (f.getD (0, [])).2 := fun h h0 => .inr (((k0.ok h).know _).2 h0).2
  have k1 := k0.trans (k_know (f.getD (0, [])).2)
  generalize s0.know E (f.getD (0, [])).2 = s1 at hk k1 ⊢
  cases wr <;> cases st
  · exact k_push (k1.trans (k_pop _)) fun h h0 => hk h ((k_pop _).flt (k1.ok h) h0)
  · exact k_push k1 hk
  · exact (k1.trans (k_pop _)).trans (k_pop _)
  · exact k1.trans (k_pop _)
theorem k_params (l : List Bs) : ∀ s : Cs, Keeps E n s (Cs.params E l s) := by
  induction l with
  | nil => exact fun s => Keeps.refl s
  | cons t l ih => exact fun s => ((k_know t).trans (k_pop t)).trans (ih _)
theorem k_callee (c : Int) (a : Nat) : Keeps E n s (s.callee E c a).2 := by
  unfold Cs.callee
  dsimp only
  split
  · exact (((k_pooled a _).trans (k_ref _ (by decide))).trans (k_ref _ (by decide))).trans (k_ref _ (by decide))
  · exact ((k_pooled a _).trans (k_ref _ (by decide))).trans (k_ref _ (by decide))
theorem k_call (c : Int) (a : Nat) : Keeps E n s (s.call E c a) := by
  unfold Cs.call
  dsimp only
  have k1 := (k_callee (E := E) (n := n) (s := s) c a).trans (k_params (E.metD (s.callee E c a).1.desc).1.reverse (s.callee E c a).2)
  generalize Cs.params E (E.metD (s.callee E c a).1.desc).1.reverse (s.callee E c a).2 = s1 at k1 ⊢
  generalize (E.metD (s.callee E c a).1.desc).2 = g
  have k2 : Keeps E n s (if c = 182 ∨ c = 185 then s1.pop E (E.of (s.callee E c a).1.text) else if c = 183 then s1.pop E E.own else s1) := by
    split
    · exact k1.trans (k_pop _)
    split
    · exact k1.trans (k_pop _)
    · exact k1
  generalize (if c = 182 ∨ c = 185 then s1.pop E (E.of (s.callee E c a).1.text) else if c = 183 then s1.pop E E.own else s1) = s3 at k2 ⊢
  split
  · exact k2
  · exact k_push (k2.trans (k_know g)) fun h h0 => .inr (((k2.ok h).know _).2 h0).2
theorem k_knowPop {t : Bs} (u : Bs) (k0 : Keeps E n s s') : Keeps E n s (((s'.know E t).pop E u).push E t) :=
  k_push ((k0.trans (k_know t)).trans (k_pop u)) fun h h0 => .inr (((k0.ok h).know t).2 ((((k0.ok h).know t).1.pop u).2 h0)).2
theorem k_knowRef {t u : Bs} (k0 : Keeps E n s s') (hu : u = t ∨ E.Ty u) : Keeps E n s (((s'.know E t).popRef E).2.push E u) :=
  k_push ((k0.trans (k_know t)).trans k_popRef) fun h h0 => by
    rcases hu with rfl | hu
    · exact .inr (((k0.ok h).know u).2 (((k0.ok h).know u).1.popRef.2 h0).1).2
    · exact hu
theorem k_thing (hE : E.Good) (c : Int) (a : Nat) : Keeps E n s (s.thing E c a) := by
  unfold Cs.thing
  split
  · unfold Cs.made
    dsimp only
    refine k_push ((k_pooled a _).trans (k_ref _ (by decide))) fun h h0 => ?_
    obtain ⟨h1, h2⟩ := refuse_none (by decide) h0
    cases hc : E.cls (s.pooled E a [7]).1.text with
    | none => rw [hc] at h2; simp at h2
    | some f => exact .inr (hE.made _ _ hc)
  split
  · have ht : E.Ty (if a = 11 then [91, 74] else [91, 73]) := by
      by_cases h : a = 11
      · rw [if_pos h]; exact .inr hE.longs
      · rw [if_neg h]; exact .inr hE.ints
    exact k_push ((k_ref _ (by decide)).trans (k_pop _)) fun _ _ => ht
  split
  · dsimp only
    exact k_knowPop _ (k_pooled a _)
  split
  · exact k_push (k_popRef.trans (k_ref _ (by decide))) fun _ _ => ty_int hE
  split
  · exact k_pop _
  split
  · dsimp only
    refine k_knowRef (k_pooled a _) ?_
    split
    · exact .inl rfl
    · exact .inr (ty_int hE)
  · exact Keeps.refl _
theorem k_ite {p : Prop} [Decidable p] {a b : Cs} (h1 : Keeps E n s a) (h2 : Keeps E n s b) : Keeps E n s (if p then a else b) := by
  split
  · exact h1
  · exact h2
theorem k_doOp (hE : E.Good) (c : Int) (a : Nat) : Keeps E n s (s.doOp E c a) := by
  unfold Cs.doOp
  exact k_ite (k_tell hE c a) (k_ite (k_load hE c a) (k_ite (k_getE hE c) (k_ite (k_store hE c a) (k_ite (k_putE hE c) (k_ite (k_turn c) (k_ite ((k_local a).trans (k_ref _ (by decide)))
    (k_ite (k_compute hE c) (k_ite (k_compare c) (k_ite (k_giveBack c) (k_ite (k_field c a) (k_ite (k_call c a) (k_thing hE c a))))))))))))
end
end Go.Proofs.YtpdnonlelocfbaaGreatDoor
/- Package check in plain words: the walk over the instructions, and what holds of the states that it tells. No program. -/
namespace Go.Proofs.YtpdnonlelocfbaaGreatDoor
set_option linter.unusedVariables false

/-- An instruction: its place, its code, its argument; does it lead, does it end? -/
structure Ins where
  pc : Int
  code : Int
  a : Int
  leads : Bool
  ends : Bool
/-- A frame as it is kept: its place, its locals filled up, its stack. -/
structure Fm where
  pc : Int
  loc : List Bs
  stk : List Bs
abbrev Sta := List Bs × List Bs
inductive Wk where
  | er (e : Int)
  | ok (known : Bool) (l : List Sta)
def frm (fs : List Fm) (pc : Int) : Option Fm := fs.find? fun f => f.pc == pc
def allFit (E : Chk) : List Bs → List Bs → Bool
  | t :: l, u :: m => E.fits t u && allFit E l m
  | _, _ => true
def fitsF (E : Chk) (s : Cs) (f : Fm) : Bool := s.stk.length == f.stk.length && allFit E s.loc f.loc && allFit E s.stk f.stk
def rowsFit (E : Chk) (fs : List Fm) (rows : List RwI) (pc : Int) (loc : List Bs) : Bool :=
  rows.all fun r => !(decide (r.fr ≤ pc) && decide (pc < r.too)) || allFit E loc ((frm fs r.at_).elim [] fun f => f.loc)
/-- Ahead of the instruction at a place: the state there, or what is wrong. -/
def arrive (E : Chk) (fs : List Fm) (rows : List RwI) (pc : Int) (known : Bool) (s : Cs) : Int × Cs :=
  match frm fs pc with
  | none => if known then (if rowsFit E fs rows pc s.loc then (0, s) else (62, s)) else (60, s)
  | some f => if known && !fitsF E s f then (62, s) else if rowsFit E fs rows pc f.loc then (0, { s with loc := f.loc, stk := f.stk }) else (62, s)
def leave (E : Chk) (fs : List Fm) (o : Ins) (s : Cs) : Int :=
  if o.leads then match frm fs o.a with
    | none => 60
    | some f => if fitsF E s f then 0 else 62
  else 0
def walkC (E : Chk) (fs : List Fm) (rows : List RwI) : List Ins → Bool → Cs → List Sta → Wk
  | [], known, _, l => .ok known l
  | o :: r, known, s, l =>
    let x := arrive E fs rows o.pc known s
    if x.1 ≠ 0 then .er x.1 else
    let y := x.2.doOp E o.code o.a.toNat
    if y.flt ≠ 0 then .er y.flt else
    let e := leave E fs o y
    if e ≠ 0 then .er e else walkC E fs rows r (!o.ends) y (l ++ [(x.2.loc, x.2.stk)])
/-- What holds of a frame that is taken. -/
structure Fm.OK (E : Chk) (n : Nat) (f : Fm) : Prop where
  len : f.loc.length = n
  loc : ∀ t ∈ f.loc, t = [] ∨ E.Ty t
  room : f.stk.length ≤ E.room
  stk : ∀ t ∈ f.stk, E.Ty t
/-- What holds of each state that is told. -/
def StaOK (E : Chk) (n : Nat) (x : Sta) : Prop := x.1.length = n ∧ x.2.length ≤ E.room ∧ ∀ t ∈ x.2, E.Ty t
section
variable {E : Chk} {n : Nat} {fs : List Fm} {rows : List RwI}
theorem arrive_ok (hF : ∀ f ∈ fs, f.OK E n) {pc : Int} {known : Bool} {s : Cs} (h : s.OK E n) (h0 : (arrive E fs rows pc known s).1 = 0) : (arrive E fs rows pc known s).2.OK E n ∧ (arrive E fs rows pc known s).2.flt = s.flt := by
  unfold arrive at h0 ⊢
  cases hf : frm fs pc with
  | none =>
    rw [hf] at h0
    simp only at h0 ⊢
    split <;> (try split) <;> exact ⟨h, rfl⟩
  | some f =>
    rw [hf] at h0
    simp only at h0 ⊢
    have hO := hF f (List.mem_of_find?_eq_some hf)
    split
    · exact ⟨h, rfl⟩
    split
    · exact ⟨⟨hO.len, hO.loc, hO.room, hO.stk⟩, rfl⟩
    · exact ⟨h, rfl⟩
theorem walkC_ok (hE : E.Good) (hF : ∀ f ∈ fs, f.OK E n) : ∀ (ops : List Ins) (known : Bool) (s : Cs) (l : List Sta) (k : Bool) (l' : List Sta), s.OK E n → (∀ x ∈ l, StaOK E n x) → walkC E fs rows ops known s l = .ok k l' → ∀ x ∈ l', StaOK E n x
  | [], known, s, l, k, l', _, hl, h => by
    unfold walkC at h
    injection h with h1 h2
    exact h2 ▸ hl
  | o :: r, known, s, l, k, l', hs, hl, h => by
    unfold walkC at h
    simp only at h
    split at h
    · cases h
    rename_i h1
    split at h
    · cases h
    rename_i h2
    split at h
    · cases h
    have h1' : (arrive E fs rows o.pc known s).1 = 0 := Classical.not_not.1 h1
    obtain ⟨hx, _⟩ := arrive_ok hF hs h1'
    refine walkC_ok hE hF r _ _ _ k l' ((k_doOp hE o.code o.a.toNat).ok hx) ?_ h
    intro x hm
    rcases List.mem_append.1 hm with hm | hm
    · exact hl x hm
    · obtain rfl := List.mem_singleton.1 hm
      exact ⟨hx.len, hx.room, hx.stk⟩
/-- The states are told one behind the other: what was there stays ahead. -/
theorem walkC_front : ∀ (ops : List Ins) (known : Bool) (s : Cs) (l : List Sta) (k : Bool) (l' : List Sta), walkC E fs rows ops known s l = .ok k l' → ∃ m, l' = l ++ m ∧ m.length = ops.length
  | [], known, s, l, k, l', h => by
    unfold walkC at h
    injection h with h1 h2
    exact ⟨[], by simp [h2], rfl⟩
  | o :: r, known, s, l, k, l', h => by
    unfold walkC at h
    simp only at h
    split at h
    · cases h
    split at h
    · cases h
    split at h
    · cases h
    obtain ⟨m, h1, h2⟩ := walkC_front r _ _ _ k l' h
    exact ⟨_ :: m, by rw [h1, List.append_assoc]; rfl, by simp [h2]⟩
/-- The first state's first local takes what the method's first local was. -/
theorem arrive_first (hF : ∀ f ∈ fs, f.OK E n) {pc : Int} {s : Cs} {o : Bs} {q : List Bs} (h : s.OK E n) (hs : s.loc = o :: q) (hr : E.fits o o = true) (h0 : (arrive E fs rows pc true s).1 = 0) :
    ∃ t q', (arrive E fs rows pc true s).2.loc = t :: q' ∧ E.fits o t = true := by
  unfold arrive at h0 ⊢
  cases hf : frm fs pc with
  | none =>
    rw [hf] at h0
    simp only at h0 ⊢
    split <;> (try split) <;> exact ⟨o, q, hs, hr⟩
  | some f =>
    rw [hf] at h0
    simp only at h0 ⊢
    have hO := hF f (List.mem_of_find?_eq_some hf)
    split
    · exact ⟨o, q, hs, hr⟩
    rename_i hn
    split
    · have hfit : fitsF E s f = true := by simpa using hn
      unfold fitsF at hfit
      simp only [Bool.and_eq_true] at hfit
      have hl := hfit.1.2
      have hlen := h.len
      have hlen2 := hO.len
      show ∃ t q', f.loc = t :: q' ∧ E.fits o t = true
      rw [hs] at hl hlen
      cases hfl : f.loc with
      | nil => rw [hfl] at hlen2; simp at hlen hlen2; omega
      | cons t q' =>
        rw [hfl] at hl
        simp only [allFit, Bool.and_eq_true] at hl
        exact ⟨t, q', rfl, hl.1⟩
    · exact ⟨o, q, hs, hr⟩
theorem walkC_first (hF : ∀ f ∈ fs, f.OK E n) {ops : List Ins} {s : Cs} {o : Bs} {q : List Bs} {k : Bool} {l' : List Sta} (h : s.OK E n) (hs : s.loc = o :: q) (hr : E.fits o o = true) (hw : walkC E fs rows ops true s [] = .ok k l') (hne : ops ≠ []) :
    ∃ t q' st m, l' = (t :: q', st) :: m ∧ E.fits o t = true := by
  cases ops with
  | nil => exact absurd rfl hne
  | cons i r =>
    unfold walkC at hw
    simp only at hw
    split at hw
    · cases hw
    rename_i h1
    split at hw
    · cases hw
    split at hw
    · cases hw
    obtain ⟨t, q', h2, h3⟩ := arrive_first hF h hs hr (Classical.not_not.1 h1)
    obtain ⟨m, h4, _⟩ := walkC_front r _ _ _ k l' hw
    exact ⟨t, q', _, m, by rw [h4, h2]; rfl, h3⟩
/-- No code: the state goes on behind it. -/
theorem walkC_none (s : Cs) : walkC E fs rows [] true s [] = .ok true [] := rfl
end
end Go.Proofs.YtpdnonlelocfbaaGreatDoor
/- Package check in plain words: a method's five steps, and what holds of the states that are answered. No program. -/
namespace Go.Proofs.YtpdnonlelocfbaaGreatDoor
set_option linter.unusedVariables false

/-- A list of n types: those of l, nothing's behind them. -/
def fill (l : List Bs) (n : Nat) : List Bs := (l ++ List.replicate n []).take n
theorem fill_len (l : List Bs) (n : Nat) : (fill l n).length = n := by
  simp [fill]
theorem fill_mem {l : List Bs} {n : Nat} {t : Bs} (h : t ∈ fill l n) : t ∈ l ∨ t = [] := by
  rcases List.mem_append.1 (List.mem_of_mem_take h) with h | h
  · exact .inl h
  · exact .inr (List.eq_of_mem_replicate h)
def begins (ops : List Ins) (pc : Int) : Bool := ops.any fun o => o.pc == pc
/-- The types of a frame: 0, or what is wrong. -/
def stkTypes (E : Chk) : List Bs → Int
  | [] => 0
  | t :: l => if t = [] then 60 else if t ≠ tNull ∧ E.known t = false then 50 else stkTypes E l
def frmTypes (E : Chk) (f : FrI) : Int := if f.locals.any (fun t => decide (t ≠ [] ∧ t ≠ tNull) && !E.known t) then 50 else stkTypes E f.stack
def takeF (E : Chk) (n : Nat) (ops : List Ins) : List FrI → Int → List Fm → Int × List Fm
  | [], _, l => (0, l)
  | f :: r, ahead, l =>
    if f.pc ≤ ahead ∨ begins ops f.pc = false ∨ n < f.locals.length ∨ E.room < f.stack.length then (60, l)
    else if frmTypes E f ≠ 0 then (frmTypes E f, l)
    else takeF E n ops r f.pc (l ++ [⟨f.pc, fill f.locals n, f.stack⟩])
def rowE (E : Chk) (ops : List Ins) (fs : List Fm) (len : Int) (r : RwI) : Int :=
  let caught := if r.cls = [] then tThrow else E.of r.cls
  if r.too ≤ r.fr ∨ begins ops r.fr = false ∨ (r.too ≠ len ∧ begins ops r.too = false) ∨ begins ops r.at_ = false then 41
  else if E.fits caught tThrow = false then 50
  else match frm fs r.at_ with
    | none => 60
    | some f => if f.stk.length ≠ 1 then 60 else if E.fits caught (f.stk.headD []) = false then 62 else 0
def rowsE (E : Chk) (ops : List Ins) (fs : List Fm) (len : Int) : List RwI → Int
  | [] => 0
  | r :: l => if rowE E ops fs len r ≠ 0 then rowE E ops fs len r else rowsE E ops fs len l
/-- The first locals: the parameters, ahead of them the own class's type. -/
def firstLoc (E : Chk) (stat : Bool) (d : List Bs) : List Bs := if stat then d else E.own :: d
inductive Mt where
  | er (e : Int)
  | ok (l : List Sta)
/-- A method's five steps: what Decode gave, what the descriptor gave (what is wrong, parameters), the method's flags and its two numbers. E holds what it gives back and how much room there is. -/
def metC (E : Chk) (dec : Int × List Ins) (len : Int) (stack locals : Int) (d : Int × List Bs) (stat : Bool) (frames : List FrI) (rows : List RwI) : Mt :=
  if dec.1 ≠ 0 then .er dec.1
  else if ¬ (0 ≤ stack ∧ stack ≤ 20 ∧ 0 ≤ locals ∧ locals ≤ 40) then .er 1
  else if d.1 ≠ 0 then .er d.1
  else if d.2.any (fun t => !E.known t) = true ∨ (E.gives ≠ tVoid ∧ E.known E.gives = false) then .er 50
  else
    let loc := firstLoc E stat d.2
    if locals < loc.length then .er 61
    else
      let n := locals.toNat
      let t := takeF E n dec.2 frames (-1) []
      if t.1 ≠ 0 then .er t.1
      else
        let e := rowsE E dec.2 t.2 len rows
        if e ≠ 0 then .er e
        else match walkC E t.2 rows dec.2 true ⟨fill loc n, [], 0⟩ [] with
          | .er e => .er e
          | .ok known l => if known then .er 60 else .ok l
section
variable {E : Chk}
theorem stkTypes_ok : ∀ l : List Bs, stkTypes E l = 0 → ∀ t ∈ l, E.Ty t
  | [], _, t, ht => by cases ht
  | u :: l, h, t, ht => by
    unfold stkTypes at h
    split at h
    · cases h
    split at h
    · cases h
    rename_i h1
    rcases List.mem_cons.1 ht with rfl | ht
    · by_cases hN : t = tNull
      · exact .inl hN
      · refine .inr ?_
        cases hk : E.known t with
        | true => rfl
        | false => exact absurd (And.intro hN hk) h1
    · exact stkTypes_ok l h t ht
theorem takeF_ok {n : Nat} {ops : List Ins} : ∀ (l : List FrI) (a : Int) (fs : List Fm), (∀ f ∈ fs, f.OK E n) → (takeF E n ops l a fs).1 = 0 → ∀ f ∈ (takeF E n ops l a fs).2, f.OK E n
  | [], a, fs, hF, _ => hF
  | x :: r, a, fs, hF, h => by
    unfold takeF at h ⊢
    split at h
    · cases h
    rename_i h1
    rw [if_neg h1]
    split at h
    · rename_i h2; exact absurd h h2
    rename_i h2
    rw [if_neg h2]
    refine takeF_ok r _ _ (fun f hf => ?_) h
    rcases List.mem_append.1 hf with hf | hf
    · exact hF f hf
    · obtain rfl := List.mem_singleton.1 hf
      have h3 : frmTypes E x = 0 := Classical.not_not.1 h2
      unfold frmTypes at h3
      split at h3
      · cases h3
      rename_i h4
      refine ⟨fill_len _ _, fun t ht => ?_, ?_, stkTypes_ok _ h3⟩
      · rcases fill_mem ht with ht | rfl
        · by_cases hE : t = []
          · exact .inl hE
          by_cases hN : t = tNull
          · exact .inr (.inl hN)
          refine .inr (.inr ?_)
          cases hk : E.known t with
          | true => rfl
          | false => exact absurd (List.any_eq_true.2 ⟨t, ht, by simp [hE, hN, hk]⟩) h4
        · exact .inl rfl
      · show x.stack.length ≤ E.room
        have : ¬ E.room < x.stack.length := fun hh => h1 (.inr (.inr (.inr hh)))
        omega
/-- What is answered: as many locals as the method has, no more on the stack than there is room, types there that are known or nothing's; one state at least; the first local of a method that isn't static takes its class. -/
theorem metC_ok {dec : Int × List Ins} {len stack locals : Int} {d : Int × List Bs} {stat : Bool} {frames : List FrI} {rows : List RwI} {l : List Sta}
    (hE : E.Good) (ho : stat = false → E.known E.own = true) (hr : E.fits E.own E.own = true)
    (h : metC E dec len stack locals d stat frames rows = .ok l) : (∀ x ∈ l, StaOK E locals.toNat x) ∧ l ≠ [] ∧ (stat = false → ∃ t q st m, l = (t :: q, st) :: m ∧ E.fits E.own t = true) := by
  unfold metC at h
  split at h
  · cases h
  split at h
  · cases h
  split at h
  · cases h
  split at h
  · cases h
  rename_i hk
  dsimp only at h
  split at h
  · cases h
  rename_i hl
  split at h
  · cases h
  rename_i ht
  split at h
  · cases h
  split at h
  · cases h
  rename_i known l' hw
  split at h
  · cases h
  rename_i hkn
  injection h with h
  subst h
  have hF := takeF_ok (E := E) frames (-1) [] (by simp) (Classical.not_not.1 ht)
  have hty : ∀ t ∈ (firstLoc E stat d.2), E.known t = true := by
    have hd : ∀ t ∈ d.2, E.known t = true := fun t hm => by
      cases hq : E.known t with
      | true => rfl
      | false => exact absurd (Or.inl (List.any_eq_true.2 ⟨t, hm, by simp [hq]⟩)) hk
    intro t hm
    cases stat with
    | true => exact hd t hm
    | false =>
      rcases List.mem_cons.1 (show t ∈ E.own :: d.2 from hm) with rfl | hm
      · exact ho rfl
      · exact hd t hm
  have hS : Cs.OK E locals.toNat ⟨fill (firstLoc E stat d.2) locals.toNat, [], 0⟩ :=
    ⟨fill_len _ _, fun t hm => (by
      rcases fill_mem hm with hm | rfl
      · exact .inr (.inr (hty t hm))
      · exact .inl rfl), Nat.zero_le _, fun t hm => (by cases hm)⟩
  have hne : dec.2 ≠ [] := by
    intro e
    rw [e] at hw
    unfold walkC at hw
    injection hw with h1 h2
    exact hkn h1.symm
  refine ⟨walkC_ok hE hF _ _ _ _ _ _ hS (fun x hx => by cases hx) hw, ?_, fun hst => ?_⟩
  · obtain ⟨m, h1, h2⟩ := walkC_front _ _ _ _ _ _ hw
    intro e
    rw [e] at h1
    have h3 : m = [] := by simpa using h1.symm
    rw [h3] at h2
    exact hne (List.length_eq_zero_iff.1 h2.symm)
  · subst hst
    have hn : 1 ≤ locals.toNat := by
      have : ¬ locals < ((E.own :: d.2).length : Int) := hl
      simp only [List.length_cons] at this
      omega
    obtain ⟨k, hk2⟩ : ∃ k, locals.toNat = k + 1 := ⟨locals.toNat - 1, by omega⟩
    have hfl : fill (firstLoc E false d.2) locals.toNat = E.own :: (d.2 ++ List.replicate (k + 1) []).take k := by
      rw [hk2]
      simp [fill, firstLoc]
    exact walkC_first hF hS hfl hr hw hne
end
end Go.Proofs.YtpdnonlelocfbaaGreatDoor
/- Package check: a method's steps one by one, in plain words. -/
namespace Go.Proofs.YtpdnonlelocfbaaGreatDoor
set_option linter.unusedVariables false
/-- What step 1 finds. -/
def bgE (E : Chk) (e0 stack locals : Int) (d : Int × List Bs) (stat : Bool) : Int :=
  if e0 ≠ 0 then e0
  else if ¬ (0 ≤ stack ∧ stack ≤ 20 ∧ 0 ≤ locals ∧ locals ≤ 40) then 1
  else if d.1 ≠ 0 then d.1
  else if d.2.any (fun t => !E.known t) = true ∨ (E.gives ≠ tVoid ∧ E.known E.gives = false) then 50
  else if locals < (firstLoc E stat d.2).length then 61 else 0
section
variable {E : Chk} {dec : Int × List Ins} {len stack locals : Int} {d : Int × List Bs} {stat : Bool} {frames : List FrI} {rows : List RwI} {v : Int}
theorem metC_eq : metC E dec len stack locals d stat frames rows = if bgE E dec.1 stack locals d stat ≠ 0 then .er (bgE E dec.1 stack locals d stat) else
    if (takeF E locals.toNat dec.2 frames (-1) []).1 ≠ 0 then .er (takeF E locals.toNat dec.2 frames (-1) []).1
    else if rowsE E dec.2 (takeF E locals.toNat dec.2 frames (-1) []).2 len rows ≠ 0 then .er (rowsE E dec.2 (takeF E locals.toNat dec.2 frames (-1) []).2 len rows)
    else match walkC E (takeF E locals.toNat dec.2 frames (-1) []).2 rows dec.2 true ⟨fill (firstLoc E stat d.2) locals.toNat, [], 0⟩ [] with
      | .er e => .er e
      | .ok known l => if known then .er 60 else .ok l := by
  unfold metC
  by_cases h0 : dec.1 = 0
  · by_cases h1 : 0 ≤ stack ∧ stack ≤ 20 ∧ 0 ≤ locals ∧ locals ≤ 40
    · by_cases h2 : d.1 = 0
      · by_cases h3 : d.2.any (fun t => !E.known t) = true ∨ (E.gives ≠ tVoid ∧ E.known E.gives = false)
        · have hb : bgE E dec.1 stack locals d stat = 50 := by unfold bgE; rw [if_neg (show ¬ dec.1 ≠ 0 from fun h => h h0), if_neg (show ¬ ¬ (0 ≤ stack ∧ stack ≤ 20 ∧ 0 ≤ locals ∧ locals ≤ 40) from fun h => h h1), if_neg (show ¬ d.1 ≠ 0 from fun h => h h2), if_pos h3]
          rw [if_neg (show ¬ dec.1 ≠ 0 from fun h => h h0), if_neg (show ¬ ¬ (0 ≤ stack ∧ stack ≤ 20 ∧ 0 ≤ locals ∧ locals ≤ 40) from fun h => h h1), if_neg (show ¬ d.1 ≠ 0 from fun h => h h2), if_pos h3, hb, if_pos (by decide)]
        · by_cases h4 : locals < (firstLoc E stat d.2).length
          · have hb : bgE E dec.1 stack locals d stat = 61 := by unfold bgE; rw [if_neg (show ¬ dec.1 ≠ 0 from fun h => h h0), if_neg (show ¬ ¬ (0 ≤ stack ∧ stack ≤ 20 ∧ 0 ≤ locals ∧ locals ≤ 40) from fun h => h h1), if_neg (show ¬ d.1 ≠ 0 from fun h => h h2), if_neg h3, if_pos h4]
            rw [if_neg (show ¬ dec.1 ≠ 0 from fun h => h h0), if_neg (show ¬ ¬ (0 ≤ stack ∧ stack ≤ 20 ∧ 0 ≤ locals ∧ locals ≤ 40) from fun h => h h1), if_neg (show ¬ d.1 ≠ 0 from fun h => h h2), if_neg h3, hb, if_pos (show (61 : Int) ≠ 0 by decide)]
            dsimp only
            rw [if_pos h4]
          · have hb : bgE E dec.1 stack locals d stat = 0 := by unfold bgE; rw [if_neg (show ¬ dec.1 ≠ 0 from fun h => h h0), if_neg (show ¬ ¬ (0 ≤ stack ∧ stack ≤ 20 ∧ 0 ≤ locals ∧ locals ≤ 40) from fun h => h h1), if_neg (show ¬ d.1 ≠ 0 from fun h => h h2), if_neg h3, if_neg h4]
            rw [if_neg (show ¬ dec.1 ≠ 0 from fun h => h h0), if_neg (show ¬ ¬ (0 ≤ stack ∧ stack ≤ 20 ∧ 0 ≤ locals ∧ locals ≤ 40) from fun h => h h1), if_neg (show ¬ d.1 ≠ 0 from fun h => h h2), if_neg h3, hb, if_neg (show ¬ (0 : Int) ≠ 0 by decide)]
            dsimp only
            rw [if_neg h4]
            try rfl
      · have hb : bgE E dec.1 stack locals d stat = d.1 := by unfold bgE; rw [if_neg (show ¬ dec.1 ≠ 0 from fun h => h h0), if_neg (show ¬ ¬ (0 ≤ stack ∧ stack ≤ 20 ∧ 0 ≤ locals ∧ locals ≤ 40) from fun h => h h1), if_pos h2]
        rw [if_neg (show ¬ dec.1 ≠ 0 from fun h => h h0), if_neg (show ¬ ¬ (0 ≤ stack ∧ stack ≤ 20 ∧ 0 ≤ locals ∧ locals ≤ 40) from fun h => h h1), if_pos h2, hb, if_pos h2]
    · have hb : bgE E dec.1 stack locals d stat = 1 := by unfold bgE; rw [if_neg (show ¬ dec.1 ≠ 0 from fun h => h h0), if_pos h1]
      rw [if_neg (show ¬ dec.1 ≠ 0 from fun h => h h0), if_pos h1, hb, if_pos (show (1 : Int) ≠ 0 by decide)]
  · have hb : bgE E dec.1 stack locals d stat = dec.1 := by unfold bgE; rw [if_pos h0]
    rw [if_pos h0, hb, if_pos h0]
theorem metC_bg (h : bgE E dec.1 stack locals d stat = v) (hv : v ≠ 0) : metC E dec len stack locals d stat frames rows = .er v := by
  rw [metC_eq, h, if_pos hv]
theorem metC_tk (h : bgE E dec.1 stack locals d stat = 0) {x : Int × List Fm} (ht : takeF E locals.toNat dec.2 frames (-1) [] = x) (hv : x.1 ≠ 0) : metC E dec len stack locals d stat frames rows = .er x.1 := by
  rw [metC_eq, h, if_neg (by decide), ht, if_pos hv]
theorem metC_rw (h : bgE E dec.1 stack locals d stat = 0) {x : Int × List Fm} (ht : takeF E locals.toNat dec.2 frames (-1) [] = x) (hx : x.1 = 0) (hr : rowsE E dec.2 x.2 len rows = v) (hv : v ≠ 0) : metC E dec len stack locals d stat frames rows = .er v := by
  rw [metC_eq, h, if_neg (by decide), ht, if_neg (by rw [hx]; decide), hr, if_pos hv]
theorem metC_wk (h : bgE E dec.1 stack locals d stat = 0) {x : Int × List Fm} (ht : takeF E locals.toNat dec.2 frames (-1) [] = x) (hx : x.1 = 0) (hr : rowsE E dec.2 x.2 len rows = 0) : metC E dec len stack locals d stat frames rows = (match walkC E x.2 rows dec.2 true ⟨fill (firstLoc E stat d.2) locals.toNat, [], 0⟩ [] with
      | .er e => .er e
      | .ok known l => if known then .er 60 else .ok l) := by
  rw [metC_eq, h, if_neg (by decide), ht, if_neg (by rw [hx]; decide), hr, if_neg (by decide)]
/-- What must hold where step 1 finds nothing. -/
theorem bgE_zero {e0 : Int} (h : bgE E e0 stack locals d stat = 0) : e0 = 0 ∧ (0 ≤ stack ∧ stack ≤ 20 ∧ 0 ≤ locals ∧ locals ≤ 40) ∧ d.1 = 0 ∧ (∀ t ∈ d.2, E.known t = true) ∧ (firstLoc E stat d.2).length ≤ locals := by
  unfold bgE at h
  split at h
  · rename_i h0; exact absurd h h0
  rename_i h0
  split at h
  · cases h
  rename_i h1
  split at h
  · rename_i h2; exact absurd h h2
  rename_i h2
  split at h
  · cases h
  rename_i h3
  split at h
  · cases h
  rename_i h4
  refine ⟨Classical.not_not.1 h0, Classical.not_not.1 h1, Classical.not_not.1 h2, fun t ht => ?_, by omega⟩
  cases hk : E.known t with
  | true => rfl
  | false => exact absurd (.inl (List.any_eq_true.2 ⟨t, ht, by simp [hk]⟩)) h3
end
end Go.Proofs.YtpdnonlelocfbaaGreatDoor
/- Package check: the bits of flags. No program. -/
namespace Go.Proofs.YtpdnonlelocfbaaGreatDoor
open Go.RowKit Go
set_option linter.unusedVariables false
theorem and_nat (f : Int) (b : Nat) (hb : b < 4294967296) : bits .and .i64 f (b : Int) = (((f % 18446744073709551616).toNat &&& b : Nat) : Int) := by
  have h1 : (BitVec.ofInt 64 f).toNat = (f % 18446744073709551616).toNat := by rw [BitVec.toNat_ofInt]; rfl
  have h2 : (BitVec.ofInt 64 (b : Int)).toNat = b := by rw [BitVec.toNat_ofInt]; omega
  have h3 : (BitVec.ofInt IntKind.i64.bits f &&& BitVec.ofInt IntKind.i64.bits (b : Int)).toNat = (f % 18446744073709551616).toNat &&& b := by
    rw [BitVec.toNat_and]
    show (BitVec.ofInt 64 f).toNat &&& (BitVec.ofInt 64 (b : Int)).toNat = _
    rw [h1, h2]
  show IntKind.i64.wrap ((BitVec.ofInt IntKind.i64.bits f &&& BitVec.ofInt IntKind.i64.bits (b : Int)).toNat : Nat) = _
  rw [h3, IntKind.wrap_i64]
  have h4 : (f % 18446744073709551616).toNat &&& b ≤ b := Nat.and_le_right
  omega
theorem nat_flag (n k : Nat) : (n &&& 2 ^ k = 0) ↔ ¬ n / 2 ^ k % 2 = 1 := by
  have hb : n.testBit k = decide (n / 2 ^ k % 2 = 1) := Nat.testBit_eq_decide_div_mod_eq
  constructor
  · intro h hn
    have h1 : (n &&& 2 ^ k).testBit k = false := by rw [h]; simp
    rw [Nat.testBit_and, hb, decide_eq_true hn, Nat.testBit_two_pow_self] at h1
    cases h1
  · intro hn
    apply Nat.eq_of_testBit_eq
    intro i
    rw [Nat.testBit_and, Nat.testBit_two_pow]
    by_cases e : k = i
    · subst e
      rw [hb, decide_eq_false hn]
      simp
    · simp [e]
theorem flag_stat (f : Int) : (bits .and .i64 f 8 != 0) = bStat f := by
  have h := and_nat f 8 (by decide)
  have h2 := nat_flag (f % 18446744073709551616).toNat 3
  rw [show (8 : Int) = ((8 : Nat) : Int) from rfl, h, Bool.eq_iff_iff]
  unfold bStat
  simp only [bne_iff_ne, ne_eq, beq_iff_eq]
  rw [show (2 : Nat) ^ 3 = 8 from rfl] at h2
  omega
theorem flag_iface (f : Int) : (bits .and .i64 f 512 != 0) = bIface f := by
  have h := and_nat f 512 (by decide)
  have h2 := nat_flag (f % 18446744073709551616).toNat 9
  rw [show (512 : Int) = ((512 : Nat) : Int) from rfl, h, Bool.eq_iff_iff]
  unfold bIface
  simp only [bne_iff_ne, ne_eq, beq_iff_eq]
  rw [show (2 : Nat) ^ 9 = 512 from rfl] at h2
  omega
theorem flag_abs (f : Int) : (bits .and .i64 f 1024 != 0) = bAbs f := by
  have h := and_nat f 1024 (by decide)
  have h2 := nat_flag (f % 18446744073709551616).toNat 10
  rw [show (1024 : Int) = ((1024 : Nat) : Int) from rfl, h, Bool.eq_iff_iff]
  unfold bAbs
  simp only [bne_iff_ne, ne_eq, beq_iff_eq]
  rw [show (2 : Nat) ^ 10 = 1024 from rfl] at h2
  omega
theorem flag_both (f : Int) : (bits .and .i64 f 1536 != 0) = (bIface f || bAbs f) := by
  have h := and_nat f 1536 (by decide)
  have h2 := nat_flag (f % 18446744073709551616).toNat 9
  have h3 := nat_flag (f % 18446744073709551616).toNat 10
  have h4 : (f % 18446744073709551616).toNat &&& 1536 = ((f % 18446744073709551616).toNat &&& 512) ||| ((f % 18446744073709551616).toNat &&& 1024) := by
    rw [← Nat.and_or_distrib_left]
    rfl
  rw [show (2 : Nat) ^ 9 = 512 from rfl] at h2
  rw [show (2 : Nat) ^ 10 = 1024 from rfl] at h3
  have h5 : ((f % 18446744073709551616).toNat &&& 1536 = 0) ↔ ((f % 18446744073709551616).toNat &&& 512 = 0) ∧ ((f % 18446744073709551616).toNat &&& 1024 = 0) := by
    rw [h4]
    exact Nat.or_eq_zero_iff
  rw [show (1536 : Int) = ((1536 : Nat) : Int) from rfl, h, Bool.eq_iff_iff]
  unfold bIface bAbs
  simp only [bne_iff_ne, ne_eq, beq_iff_eq, Bool.or_eq_true]
  omega
end Go.Proofs.YtpdnonlelocfbaaGreatDoor
