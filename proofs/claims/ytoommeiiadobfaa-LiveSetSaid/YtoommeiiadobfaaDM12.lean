/- Texts of this claim, joined: DFlwSpreadR, DFlwReach. -/
import Derived.Test.YtoommeiiadobfaaJDFlwSpL
import Derived.Test.YtoommeiiadobfaaDM5
import Derived.Shelf.RegionOpen
import Derived.Deep.RegionHeld3
import Derived.Deep.CutRange
import Derived.Test.YtoommeiiadobfaaDRegionInvIn
import Derived.Laws.EntriesVeiled
/- Marks that spread: the program's spread, where nothing is stopped. -/
namespace Go.Proofs.Ytoommeiiadobfaa
open Go.RowKit Go
attribute [local go_sem] Oper.semAt_some
set_option linter.unusedVariables false
set_option linter.unusedSimpArgs false
theorem own_last {w : World} {B : Nat} {v : Value} {l : List Int} {x : Int} (h : OwN w B v (l ++ [x])) : ∃ g cap, v = .slice (some ⟨g, 0, none⟩) (l.length + 1) cap ∧ B ≤ g ∧ g < w.heap.size := by
 have hl : (l ++ [x]).length = l.length + 1 := by simp
 unfold OwN at h
 rw [hl] at h
 rcases h.2 with ⟨_, h1⟩ | ⟨g, cap, cur, h1, hb, hg, _⟩
 ·omega
 ·exact ⟨g, cap, h1, hb, heap_lt hg⟩
theorem SpM.ch {F MB TB G B n : Nat} {fa fb fd fe nv sv : Value} {ret : Int} {Pr X : Nat → Prop} {m : Nat → Mk} {T : List Nat} {w w' : World} (h : SpM F MB TB G B n fa fb ret fd fe nv sv Pr m T w) (hc : Ch X w w') (hX : ∀ k, X k → k ≠ F ∧ k ≠ MB ∧ k ≠ TB ∧ k ≠ G) (hr : ∀ k, X k → k < B ∨ ∃ o : Obj, w.heap[k]? = some o ∧ o.isCells = false) : SpM F MB TB G B n fa fb ret fd fe nv sv Pr m T w' where
 web := hc.keep h.web (fun e => (hX _ e).1 rfl)
 mb := hc.keep h.mb (fun e => (hX _ e).2.1 rfl)
 marks := h.marks.of (hc.block G h.marks.lt (fun e => (hX _ e).2.2.2 rfl))
 todo := by
  obtain ⟨v, h1, h2, h3⟩ := h.todo
  refine ⟨v, hc.keep h1 (fun e => (hX _ e).2.2.1 rfl), own_ch h2 hc (fun g hg e => ?_), h3⟩
  rcases hr g e with h4 | ⟨o, h4, h5⟩
  ·have := own_lt h2 g hg; omega
  ·rcases h2.2 with ⟨e2, _⟩ | ⟨g', cap, cur, e2, _, h6, _⟩
   ·subst e2; cases hg
   ·subst e2
    injection hg with hg
    subst hg
    rw [h6] at h4
    injection h4 with h4
    subst h4
    cases h5
 prot k hk := ⟨Nat.lt_of_lt_of_le (h.prot k hk).1 hc.size, (h.prot k hk).2⟩
 big := Nat.le_trans h.big hc.size
theorem SpM.more {F MB TB G B n : Nat} {fa fb fd fe nv sv : Value} {ret : Int} {Pr Pr' : Nat → Prop} {m : Nat → Mk} {T : List Nat} {w w' : World} (h : SpM F MB TB G B n fa fb ret fd fe nv sv Pr m T w) (hb : Below w.heap.size w w') (hD : SpD F MB TB G B) (hp : ∀ k, Pr' k → Pr k ∨ w.heap.size ≤ k ∧ k < w'.heap.size) : SpM F MB TB G B n fa fb ret fd fe nv sv Pr' m T w' := by
 have h9 := h.below hb
 obtain ⟨v, h1, h2, h3⟩ := h.todo
 obtain ⟨d1, d2, d3, d4, _⟩ := hD
 refine ⟨h9.web, h9.mb, h9.marks, ⟨v, heap_keep h1 hb, own_below h2 hb, fun k hk e => ?_⟩, fun k hk => ?_, h9.big⟩
 ·rcases hp k hk with h4 | h4
  ·exact h3 k h4 e
  ·have := (h2.lt k e).2; omega
 ·have := h.big
  rcases hp k hk with h4 | h4
  ·exact h9.prot k h4
  ·exact ⟨h4.2, by omega, by omega⟩
theorem SpK.grown {G TB B b : Nat} {Pr : Nat → Prop} {w0 W W' : World} {row : Option Nat} (h : SpK G TB B Pr w0 W) (hg : W.grownBy W' row) (hr : ∀ r, row = some r → w0.heap.size ≤ r ∧ ∃ o : Obj, W.heap[r]? = some o ∧ o.isCells = false) (hB : B ≤ w0.heap.size) (hp : ∀ k, Pr k → k < w0.heap.size) : SpK G TB B Pr w0 W' := by
 have hk : ∀ k, k < w0.heap.size → W'.heap[k]? = W.heap[k]? := fun k hk => hg.block k (Nat.lt_of_lt_of_le hk h.size) (fun e => by have := (hr k e.symm).1; omega)
 exact ⟨hg.os.trans h.os, hg.tape.trans h.tape, hg.output.trans h.output, Nat.le_trans h.size hg.size, fun k h1 h2 h3 => (hk k (by omega)).trans (h.low k h1 h2 h3), fun k h1 => (hk k (hp k h1)).trans (h.prot k h1), fun k o h1 h2 => (hk k (heap_lt h1)).trans (h.obj k o h1 h2), fun k cs fz h1 => (hk k (heap_lt h1)).trans (h.rows k cs fz h1)⟩
theorem SpM.grown {F MB TB G B n b : Nat} {fa fb fd fe nv sv : Value} {ret : Int} {Pr : Nat → Prop} {m : Nat → Mk} {T : List Nat} {W W' : World} {row : Option Nat} (h : SpM F MB TB G B n fa fb ret fd fe nv sv Pr m T W) (hD : SpD F MB TB G B) (hb : B ≤ b) (hg : W.grownBy W' row) (hr : ∀ r, row = some r → b ≤ r ∧ ∃ o : Obj, W.heap[r]? = some o ∧ o.isCells = false) : SpM F MB TB G B n fa fb ret fd fe nv sv Pr m T W' := by
 obtain ⟨d1, d2, d3, d4, _⟩ := hD
 exact h.ch (X := fun k => row = some k) ⟨hg.os, hg.tape, hg.output, hg.size, fun k hk hx => hg.block k hk (fun e => hx e.symm)⟩ (fun k e => by have := (hr k e).1; exact ⟨by omega, by omega, by omega, by omega⟩) (fun k e => .inr (hr k e).2)
def Sp2I (W : WbN) (beg : Mk) (sp : Nat → Mk) (i : Nat) (pre : List Int) (m t : Nat → Mk) (T : List Nat) : Prop := (∀ z ∈ pre, z ∈ W.ct i) → Sp2 W beg sp i pre m t T
theorem Sp2I.step {W : WbN} {beg : Mk} {sp m t m' : Nat → Mk} {T T' : List Nat} {i : Nat} {pre : List Int} {p : Int} (h : Sp2I W beg sp i pre m t T) (hb : Brg W.n p (m i) m T m' T') : Sp2I W beg sp i (pre ++ [p]) m' t T' := fun hz =>
 (h fun z hz' => hz z (List.mem_append_left _ hz')).step (hz p (by simp)) hb
theorem SpM.free {F MB TB G B n : Nat} {fa fb fd fe nv sv : Value} {ret : Int} {Pr : Nat → Prop} {m : Nat → Mk} {T : List Nat} {w : World} (h : SpM F MB TB G B n fa fb ret fd fe nv sv Pr m T w) : SpM F MB TB G B n fa fb ret fd fe nv sv (fun _ => False) m T w :=
 ⟨h.web, h.mb, h.marks, by obtain ⟨v, h1, h2, _⟩ := h.todo; exact ⟨v, h1, h2, fun _ h => h.elim⟩, fun _ h => h.elim, h.big⟩
theorem nextL_two (f : FuI) (i : Int) : (nextL f i).length ≤ 2 := by
 unfold nextL
 split
 ·simp
 ·unfold nextX goOn
  split
  ·split <;> simp
  ·split <;> simp
theorem SpM.pop {F MB TB G B n g N M cap IB i : Nat} {fa fb fd fe nv sv : Value} {ret : Int} {Pr : Nat → Prop} {m : Nat → Mk} {T' : List Nat} {w : World} {o : Obj} (h : SpM F MB TB G B n fa fb ret fd fe nv sv Pr m (T' ++ [i]) w) (hD : SpD F MB TB G B)
  (hv : w.heap[TB]? = some (.cells #[.slice (some ⟨g, 0, none⟩) M cap] 22 (0, 0))) (ho : OwN w B (.slice (some ⟨g, 0, none⟩) N cap) (T'.map fun i : Nat => (i : Int))) (hIB : IB = w.heap.size) (hp : ∀ k, Pr k → False) (hg : g < w.heap.size) :
  SpM F MB TB G B n fa fb ret fd fe nv sv (fun k => k = IB) m T' ((w.setCell ⟨TB, 0, none⟩ (.slice (some ⟨g, 0, none⟩) N cap)).alloc o) := by
 obtain ⟨d1, d2, d3, d4, d5, d6, d7, d8, d9, d10⟩ := hD
 have hc := (Ch.refl (fun k => k = TB) w).set (p := ⟨TB, 0, none⟩) (fun _ => rfl) (.slice (some ⟨g, 0, none⟩) N cap)
 have hb : Below (w.setCell ⟨TB, 0, none⟩ (.slice (some ⟨g, 0, none⟩) N cap)).heap.size (w.setCell ⟨TB, 0, none⟩ (.slice (some ⟨g, 0, none⟩) N cap)) ((w.setCell ⟨TB, 0, none⟩ (.slice (some ⟨g, 0, none⟩) N cap)).alloc o) := (Below.refl _ _).alloc (Nat.le_refl _) _
 have hgB : B ≤ g := own_lt ho g rfl
 have hB := h.big
 refine ⟨heap_keep (hc.keep h.web d6) hb, heap_keep (hc.keep h.mb d8) hb, (h.marks.of (hc.block G h.marks.lt (fun e => d10 e.symm))).below hb, ⟨_, ?_, (own_below (own_ch ho hc (fun b hb e => by have := own_lt ho b hb; omega)) hb), ?_⟩, ?_, ?_⟩
 ·have h1 := heap_set (i := 0) hv (.slice (some ⟨g, 0, none⟩) N cap)
  exact heap_keep (by simpa using h1) hb
 ·intro k hk e
  have e2 : g = k := by simpa [Value.ownBlock] using e
  omega
 ·intro k hk
  simp
  omega
 ·simp
  omega
theorem heap_alloc_new' (w : World) (o : Obj) (k : Nat) (h : k = w.heap.size) : (w.alloc o).heap[k]? = some o := by subst h; exact heap_alloc_new w o
theorem msk_made' (w : World) (n k : Nat) (h : k = w.heap.size) : Msk (w.alloc (.cells (madeCells #[.int .u64 0] n) 58)) k n (fun _ => 0) := by subst h; exact Msk.made w n
end Go.Proofs.Ytoommeiiadobfaa
/- What can be reached from the beginning: the program's Reach. -/
namespace Go.Proofs.Ytoommeiiadobfaa
open Go.RowKit Go
set_option linter.unusedVariables false
set_option linter.unusedSimpArgs false
def reachP (f : FuI) (i : Nat) : Prop := Comes (webN f) 1 (fun _ => 0) 0 i
theorem one_bit {b : Nat} (h : (1 : Mk).getLsbD b = true) : b = 0 := by
 have hb : b < 64 := BitVec.lt_of_getLsbD h
 apply Classical.byContradiction
 intro hn
 have h2 : (1 : Mk).getLsbD b = false := by
  rw [BitVec.getLsbD, show (1 : Mk).toNat = 1 from rfl, Nat.testBit_eq_decide_div_mod_eq]
  have h3 : 1 / 2 ^ b = 0 := Nat.div_eq_of_lt (Nat.one_lt_two_pow hn)
  rw [h3]
  rfl
 rw [h2] at h
 cases h
def BooB (w : World) (g n : Nat) (F : Nat → Bool) (k : Nat) : Prop := ∃ c : Array Value, w.heap[g]? = some (.cells c 4 (0, 0)) ∧ c.size = n ∧ ∀ j, j < n → ∃ z : Bool, c[j]? = some (.bool z) ∧ (j < k → z = F j)
theorem BooB.fz {w : World} {g n k : Nat} {F : Nat → Bool} (h : BooB w g n F k) (i : Nat) : w.frozen? ⟨g, i, none⟩ = false := by
 obtain ⟨c, h1, _⟩ := h
 exact heap_thaw h1 i
theorem BooB.lt {w : World} {g n k : Nat} {F : Nat → Bool} (h : BooB w g n F k) : g < w.heap.size := by
 obtain ⟨c, h1, _⟩ := h
 exact heap_lt h1
theorem BooB.any {w : World} {g n k i : Nat} {F : Nat → Bool} (h : BooB w g n F k) (hi : i < n) : ∃ z : Bool, w.cell? ⟨g, i, none⟩ = some (.bool z) := by
 obtain ⟨c, h1, h2, h3⟩ := h
 obtain ⟨z, h4, _⟩ := h3 i hi
 exact ⟨z, heap_cell h1 h4⟩
theorem BooB.of {w w' : World} {g n k : Nat} {F : Nat → Bool} (h : BooB w g n F k) (e : w'.heap[g]? = w.heap[g]?) : BooB w' g n F k := by
 obtain ⟨c, h1, h2⟩ := h
 exact ⟨c, e.trans h1, h2⟩
theorem BooB.put {w : World} {g n k : Nat} {F : Nat → Bool} (h : BooB w g n F k) {z : Bool} (hz : z = F k) : BooB (w.setCell ⟨g, k, none⟩ (.bool z)) g n F (k + 1) := by
 obtain ⟨c, h1, h2, h3⟩ := h
 refine ⟨_, heap_set h1 _, by simpa using h2, fun j hj => ?_⟩
 by_cases e : k = j
 ·subst e
  exact ⟨z, by rw [Array.getElem?_setIfInBounds, if_pos rfl, if_pos (by omega)], fun _ => hz⟩
 ·obtain ⟨y, h4, h5⟩ := h3 j hj
  exact ⟨y, by rw [Array.getElem?_setIfInBounds, if_neg e]; exact h4, fun h => h5 (by omega)⟩
theorem BooB.made (w : World) (n : Nat) (F : Nat → Bool) : BooB (w.alloc (.cells (madeCells #[.bool false] n) 4)) w.heap.size n F 0 :=
 ⟨_, heap_alloc_new w _, by rw [size_madeCells], fun i hi => ⟨false, made_at0 _ _ _ _ hi (by rw [show i % (#[Value.bool false] : Array Value).size = 0 from Nat.mod_one i]; rfl), fun h => by omega⟩⟩
theorem BooB.rd {w : World} {g n : Nat} {F : Nat → Bool} (h : BooB w g n F n) (hn : n ≤ 140737488355328) : RdX (fun b => b = g) 1 BlE w (.slice (some ⟨g, 0, none⟩) n n) ((List.range n).map F) := by
 obtain ⟨c, h1, h2, h3⟩ := h
 refine ⟨some ⟨g, 0, none⟩, n, by simp, fun e => (by cases e), by simpa using hn, fun i a hi => ?_⟩
 have hi2 : i < n := by have := (List.getElem?_eq_some_iff.1 hi).1; simpa using this
 obtain ⟨z, h4, h5⟩ := h3 i hi2
 have ha : a = F i := by simp [hi2] at hi; exact hi.symm
 refine ⟨g, 0, [.bool a], rfl, rfl, rfl, fun j u hj => ?_⟩
 cases j with
 | zero =>
  simp at hj
  subst hj
  have h6 := heap_cell h1 h4
  rw [h5 hi2] at h6
  simpa [ha] using h6
 | succ j => simp at hj
end Go.Proofs.Ytoommeiiadobfaa
