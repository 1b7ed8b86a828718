/- Memory for package pool: what one call may write, a reader's two cells, the document's three. -/
import Derived.Test.YtdlmadckpcnkoaaGreatM1
import Derived.Below
import Derived.Deep.Draws
import Derived.Deep.OwnRows
namespace Go.Proofs.YtdlmadckpcnkoaaGreat
open Go.RowKit Go
set_option linter.unusedVariables false

theorem lhid {p : Prop} (h : p) : Hid p := h
def tx (l : Bs) : ByteArray := ⟨l.toArray⟩
theorem tx_list (l : Bs) : (tx l).data.toList = l := by simp [tx]
theorem tx_size (l : Bs) : (tx l).size = l.length := by
  show (tx l).data.size = _
  simp [tx]
theorem tx_self (s : ByteArray) : tx s.data.toList = s := by unfold tx; simp
theorem tx_nil : tx [] = ⟨#[]⟩ := rfl
theorem tx_eq (s : ByteArray) (l : Bs) (h : s.data.toList = l) : s = tx l := by rw [← h, tx_self]

/-- Nothing that was there has turned but block R. -/
structure Only (R : Nat) (w w' : World) : Prop where
  os : w'.os = w.os
  tape : w'.tape = w.tape
  output : w'.output = w.output
  size : w.heap.size ≤ w'.heap.size
  block : ∀ k, k < w.heap.size → k ≠ R → w'.heap[k]? = w.heap[k]?
theorem Only.refl (R : Nat) (w : World) : Only R w w := ⟨rfl, rfl, rfl, Nat.le_refl _, fun _ _ _ => rfl⟩
theorem Only.trans {R : Nat} {a b c : World} (h : Only R a b) (k : Only R b c) : Only R a c :=
  ⟨k.os.trans h.os, k.tape.trans h.tape, k.output.trans h.output, Nat.le_trans h.size k.size, fun i hi hr => (k.block i (Nat.lt_of_lt_of_le hi h.size) hr).trans (h.block i hi hr)⟩
theorem Only.drewN {R : Nat} {a w : World} (h : Only R a w) (n : Nat) : Only R a (w.drewN n) := ⟨h.os, h.tape, h.output, h.size, h.block⟩
theorem Only.drew {R : Nat} {a w : World} (h : Only R a w) : Only R a w.drew := ⟨h.os, h.tape, h.output, h.size, h.block⟩
theorem Only.alloc {R : Nat} {a w : World} (h : Only R a w) (o : Obj) : Only R a (w.alloc o) :=
  h.trans ⟨rfl, rfl, rfl, by simp, fun k hk _ => Below.heap_alloc _ _ _ hk⟩
theorem Only.setCell {R : Nat} {a w : World} (h : Only R a w) {p : Addr} (hp : p.block = R ∨ a.heap.size ≤ p.block) (u : Value) : Only R a (w.setCell p u) :=
  ⟨h.os, h.tape, h.output, by have := h.size; simpa [World.setCell] using this, fun k hk hr => by rw [Below.heap_setCell _ _ _ _ (by omega)]; exact h.block k hk hr⟩
theorem Only.own {R : Nat} {a w : World} (h : Only R a w) (i : Nat) (u : Value) : Only R a (w.setCell ⟨R, i, none⟩ u) := h.setCell (.inl rfl) u
theorem Only.below {R B : Nat} {a w : World} (h : Only R a w) (hB : B ≤ R) (hs : B ≤ a.heap.size) : Below B a w := ⟨h.os, h.tape, h.output, h.size, fun k hk => h.block k (by omega) (by omega)⟩
theorem Below.only {R : Nat} {a w : World} (h : Below a.heap.size a w) : Only R a w := ⟨h.os, h.tape, h.output, h.size, fun k hk _ => h.block k hk⟩
theorem Only.keep {R k : Nat} {a w : World} {o : Obj} (h : Only R a w) (hk : a.heap[k]? = some o) (hr : k ≠ R) : w.heap[k]? = some o := by
  rw [h.block k (Array.getElem?_eq_some_iff.1 hk).1 hr]
  exact hk
theorem heap_set {w : World} {R i : Nat} {c : Array Value} {t : TypeId} {f : Nat × Nat} (h : w.heap[R]? = some (.cells c t f)) (v : Value) : (w.setCell ⟨R, i, none⟩ v).heap[R]? = some (.cells (c.setIfInBounds i v) t f) := by
  simp [World.setCell, Array.getElem?_modify, h]
theorem heap_cell {w : World} {R i : Nat} {c : Array Value} {t : TypeId} {f : Nat × Nat} {v : Value} (h : w.heap[R]? = some (.cells c t f)) (hv : c[i]? = some v) : w.cell? ⟨R, i, none⟩ = some v := by
  simp [World.cell?, h, hv]
theorem heap_thaw {w : World} {R : Nat} {c : Array Value} {t : TypeId} (h : w.heap[R]? = some (.cells c t (0, 0))) (i : Nat) : w.frozen? ⟨R, i, none⟩ = false := by
  simp [World.frozen?, h]
theorem heap_lt {w : World} {R : Nat} {o : Obj} (h : w.heap[R]? = some o) : R < w.heap.size := (Array.getElem?_eq_some_iff.1 h).1

/-- Block R is a reader: what is left, and whether bytes were missing. -/
def Rdr (w : World) (R : Nat) (s : St) : Prop := w.heap[R]? = some (.cells #[.string (tx s.1), .bool s.2] 111 (0, 0))
theorem Rdr.c0 {w : World} {R : Nat} {s : St} (h : Rdr w R s) : w.cell? ⟨R, 0, none⟩ = some (.string (tx s.1)) := heap_cell h rfl
theorem Rdr.c1 {w : World} {R : Nat} {s : St} (h : Rdr w R s) : w.cell? ⟨R, 1, none⟩ = some (.bool s.2) := heap_cell h rfl
theorem Rdr.fz {w : World} {R : Nat} {s : St} (h : Rdr w R s) (i : Nat) : w.frozen? ⟨R, i, none⟩ = false := heap_thaw h i
theorem Rdr.lt {w : World} {R : Nat} {s : St} (h : Rdr w R s) : R < w.heap.size := heap_lt h
theorem Rdr.drewN {w : World} {R : Nat} {s : St} (h : Rdr w R s) (n : Nat) : Rdr (w.drewN n) R s := h
theorem Rdr.keep {w w' : World} {R R' : Nat} {s : St} (h : Rdr w R s) (ho : Only R' w w') (hr : R ≠ R') : Rdr w' R s := ho.keep h hr
theorem Rdr.alloc {w : World} {R : Nat} {s : St} (h : Rdr w R s) (o : Obj) : Rdr (w.alloc o) R s := by
  have := Below.heap_alloc w o R h.lt
  unfold Rdr
  rw [this]
  exact h
theorem Rdr.other {w : World} {R : Nat} {s : St} (h : Rdr w R s) {p : Addr} (hp : R ≠ p.block) (v : Value) : Rdr (w.setCell p v) R s := by
  unfold Rdr
  rw [Below.heap_setCell _ _ _ _ hp]
  exact h
theorem Rdr.set0 {w : World} {R : Nat} {s : St} (h : Rdr w R s) (l : Bs) : Rdr (w.setCell ⟨R, 0, none⟩ (.string (tx l))) R (l, s.2) := heap_set h _
theorem Rdr.set1 {w : World} {R : Nat} {s : St} (h : Rdr w R s) (b : Bool) : Rdr (w.setCell ⟨R, 1, none⟩ (.bool b)) R (s.1, b) := heap_set h _

/-- v is a slice whose bytes are l. -/
def RdB (w : World) (v : Value) (l : Bs) : Prop :=
  (v = .slice none 0 0 ∧ l = []) ∨ ∃ b o cap, v = .slice (some ⟨b, o, none⟩) l.length cap ∧ l.length ≤ cap ∧ cap ≤ maxLen ∧ ∀ (i : Nat) (c : UInt8), l[i]? = some c → w.cell? ⟨b, o + i, none⟩ = some (.int .u8 (c.toNat : Int))
theorem RdB.keep {w w' : World} {v : Value} {l : Bs} (h : RdB w v l) (hb : ∀ a u, w.cell? a = some u → (∀ x ∈ v.ownBlock, x = a.block) → w'.cell? a = some u) : RdB w' v l := by
  rcases h with h | ⟨b, o, cap, rfl, h1, h2, h3⟩
  · exact .inl h
  · refine .inr ⟨b, o, cap, rfl, h1, h2, fun i c hc => hb _ _ (h3 i c hc) ?_⟩
    rintro x hx
    simp [Value.ownBlock] at hx
    exact hx.symm
/-- What lies behind the document's reader in its block: the block's type, the cells. -/
structure Tl where
  T : TypeId
  r : Array Value
def Tl.bytes : Tl := ⟨69, #[]⟩
theorem app_at (a r : Array Value) (i : Nat) (v : Value) (h : a[i]? = some v) : (a ++ r)[i]? = some v := by
  rw [Array.getElem?_append_left (Array.getElem?_eq_some_iff.1 h).1]
  exact h
theorem app_set (a r : Array Value) (i : Nat) (v : Value) (h : i < a.size) : (a ++ r).setIfInBounds i v = a.setIfInBounds i v ++ r := by
  apply Array.ext_getElem?
  intro j
  by_cases hj : i = j
  · subst hj
    simp [Array.getElem?_append, h]
  · rw [Array.getElem?_setIfInBounds_ne hj]
    simp only [Array.getElem?_append, Array.size_setIfInBounds]
    split
    · rw [Array.getElem?_setIfInBounds_ne hj]
    · rfl
/-- Block M is the document's reader over the bytes l: At bytes are gone. -/
def Doc (X : Tl) (w : World) (M : Nat) (v : Value) (at_ : Nat) (bad : Bool) : Prop := w.heap[M]? = some (.cells (#[v, .int .i64 at_, .bool bad] ++ X.r) X.T (0, 0))
theorem Doc.c0 {X : Tl} {w : World} {M : Nat} {v : Value} {k : Nat} {b : Bool} (h : Doc X w M v k b) : w.cell? ⟨M, 0, none⟩ = some v := heap_cell h (app_at _ _ _ _ rfl)
theorem Doc.c1 {X : Tl} {w : World} {M : Nat} {v : Value} {k : Nat} {b : Bool} (h : Doc X w M v k b) : w.cell? ⟨M, 1, none⟩ = some (.int .i64 k) := heap_cell h (app_at _ _ _ _ rfl)
theorem Doc.c2 {X : Tl} {w : World} {M : Nat} {v : Value} {k : Nat} {b : Bool} (h : Doc X w M v k b) : w.cell? ⟨M, 2, none⟩ = some (.bool b) := heap_cell h (app_at _ _ _ _ rfl)
theorem Doc.fz {X : Tl} {w : World} {M : Nat} {v : Value} {k : Nat} {b : Bool} (h : Doc X w M v k b) (i : Nat) : w.frozen? ⟨M, i, none⟩ = false := heap_thaw h i
theorem Doc.lt {X : Tl} {w : World} {M : Nat} {v : Value} {k : Nat} {b : Bool} (h : Doc X w M v k b) : M < w.heap.size := heap_lt h
theorem Doc.drewN {X : Tl} {w : World} {M : Nat} {v : Value} {k : Nat} {b : Bool} (h : Doc X w M v k b) (n : Nat) : Doc X (w.drewN n) M v k b := h
theorem Doc.keep {X : Tl} {w w' : World} {M R : Nat} {v : Value} {k : Nat} {b : Bool} (h : Doc X w M v k b) (ho : Only R w w') (hr : M ≠ R) : Doc X w' M v k b := Only.keep ho h hr
theorem Doc.set1 {X : Tl} {w : World} {M : Nat} {v : Value} {k : Nat} {b : Bool} (h : Doc X w M v k b) (n : Nat) : Doc X (w.setCell ⟨M, 1, none⟩ (.int .i64 n)) M v n b := by
  unfold Doc
  rw [heap_set h _, app_set _ _ _ _ (by simp)]
  rfl
theorem Doc.set2 {X : Tl} {w : World} {M : Nat} {v : Value} {k : Nat} {b : Bool} (h : Doc X w M v k b) (c : Bool) : Doc X (w.setCell ⟨M, 2, none⟩ (.bool c)) M v k c := by
  unfold Doc
  rw [heap_set h _, app_set _ _ _ _ (by simp)]
  rfl
end Go.Proofs.YtdlmadckpcnkoaaGreat
