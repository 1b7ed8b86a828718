/- While marks spread: what a round leaves, the marks of deferred calls, a row that is cut by one. -/
import Derived.Test.YtbkeneadoccodaaJCFlwWebOf
import Derived.RangeFuncLeaves
namespace Go.Proofs.Ytbkeneadoccodaa
open Go.RowKit Go
set_option linter.unusedVariables false
set_option linter.unusedSimpArgs false
structure SpL (G TB H B : Nat) (w w' : World) : Prop where
 os : w'.os = w.os
 tape : w'.tape = w.tape
 output : w'.output = w.output
 size : w.heap.size ≤ w'.heap.size
 low : ∀ k, k < B → k ≠ G → k ≠ TB → k ≠ H → w'.heap[k]? = w.heap[k]?
 obj : ∀ (k : Nat) (o : Obj), w.heap[k]? = some o → o.isCells = false → w'.heap[k]? = some o
theorem SpL.refl (G TB H B : Nat) (w : World) : SpL G TB H B w w := ⟨rfl, rfl, rfl, Nat.le_refl _, fun _ _ _ _ _ => rfl, fun _ _ h _ => h⟩
theorem SpL.trans {G TB H B : Nat} {a b c : World} (h : SpL G TB H B a b) (k : SpL G TB H B b c) : SpL G TB H B a c where
 os := k.os.trans h.os
 tape := k.tape.trans h.tape
 output := k.output.trans h.output
 size := Nat.le_trans h.size k.size
 low i h1 h2 h3 h4 := (k.low i h1 h2 h3 h4).trans (h.low i h1 h2 h3 h4)
 obj i o ho hc := k.obj i o (h.obj i o ho hc) hc
theorem SpK.l {G TB H B : Nat} {Pr : Nat → Prop} {w w' : World} (h : SpK G TB B Pr w w') : SpL G TB H B w w' := ⟨h.os, h.tape, h.output, h.size, fun k h1 h2 h3 _ => h.low k h1 h2 h3, h.obj⟩
theorem SpL.of_below {G TB H B : Nat} {w w' : World} (hb : Below w.heap.size w w') (hB : B ≤ w.heap.size) : SpL G TB H B w w' := ⟨hb.os, hb.tape, hb.output, hb.size, fun k h1 _ _ _ => hb.block k (by omega), fun k o hk _ => heap_keep hk hb⟩
theorem SpL.set {G TB H B p i : Nat} {w0 w : World} (h : SpL G TB H B w0 w) {c : Array Value} {t : TypeId} {f : Nat × Nat} (hp : w.heap[p]? = some (.cells c t f)) (hB : B ≤ p ∨ p = G ∨ p = TB ∨ p = H) (u : Value) : SpL G TB H B w0 (w.setCell ⟨p, i, none⟩ u) := by
 have hc := (Ch.refl (fun k => k = p) w).set (p := ⟨p, i, none⟩) (fun _ => rfl) u
 refine h.trans ⟨hc.os, hc.tape, hc.output, hc.size, fun k h1 h2 h3 h4 => ?_, fun k o hk ho => hc.keep hk (fun e => ?_)⟩
 ·by_cases hk : k < w.heap.size
  ·exact hc.block k hk (by omega)
  ·have e2 : (w.setCell ⟨p, i, none⟩ u).heap.size = w.heap.size := by simp
   rw [Array.getElem?_eq_none (by omega), Array.getElem?_eq_none (by omega)]
 ·subst e
  rw [hp] at hk
  injection hk with hk
  subst hk
  cases ho
theorem SpL.to {G TB H B b : Nat} {w w' : World} (h : SpL G TB H B w w') (hB : b ≤ B) (hG : b ≤ G) (hT : b ≤ TB) (hH : b ≤ H) : Below b w w' := ⟨h.os, h.tape, h.output, h.size, fun k hk => h.low k (by omega) (by omega) (by omega) (by omega)⟩
def mkD (D : Nat) : Deferred := { target := .collected D, args := #[] }
structure MrkD (w : World) (B : Nat) (Ds : List Nat) : Prop where
 nd : Ds.Nodup
 at' : ∀ D ∈ Ds, B ≤ D ∧ w.heap[D]? = some (.deferred (some []))
theorem MrkD.of {G TB H B C : Nat} {Ds : List Nat} {w w' : World} (h : MrkD w C Ds) (hl : SpL G TB H B w w') : MrkD w' C Ds := ⟨h.nd, fun D hD => ⟨(h.at' D hD).1, hl.obj D _ (h.at' D hD).2 rfl⟩⟩
theorem MrkD.cons {C D : Nat} {Ds : List Nat} {w : World} (h : MrkD w C Ds) (hD : ∀ d ∈ Ds, d < D) (hC : C ≤ D) (hk : w.heap[D]? = some (.deferred (some []))) : MrkD w C (D :: Ds) :=
 ⟨List.nodup_cons.2 ⟨fun hm => by have := hD D hm; omega, h.nd⟩, fun d hd => by
  rcases List.mem_cons.1 hd with rfl | hd
  ·exact ⟨hC, hk⟩
  ·exact h.at' d hd⟩
theorem leaves_marks {F : Fence} {n : Nat} {P : Program} {fn : Func} {tmps : Array Value} {R : Ending → World → Prop} (B : Nat) : ∀ (Ds : List Nat) (w : World), MrkD w B Ds → B ≤ w.heap.size → (∀ w', Below B w w' → (∀ (k : Nat) (c : Array Value) (t : TypeId) (f : Nat × Nat), w.heap[k]? = some (Obj.cells c t f) → w'.heap[k]? = w.heap[k]?) → LeavesIn F n P fn tmps R [] .returning w') → LeavesInM F n P fn tmps R (Ds.map mkD) .returning w
 | [], w, _, _, h => h w (Below.refl _ _) (fun _ _ _ _ _ => rfl)
 | D :: Ds, w, hm, hB, h => by
  have hD := hm.at' D List.mem_cons_self
  have hl := heap_lt hD.2
  have hs : (w.putObj D (.deferred none)).heap.size = w.heap.size := by have := (grownBy_putObj' w D (.deferred none)).size; simp [World.putObj]
  refine ⟨by simp, .inl ⟨D, _, rfl, run_takeDeferred hD.2, leaves_marks B Ds _ ⟨(List.nodup_cons.1 hm.nd).2, fun d hd => ⟨(hm.at' d (List.mem_cons_of_mem _ hd)).1, ?_⟩⟩ (by omega) fun w' hb hk => h w' ?_ ?_⟩⟩
  ·rw [World.putObj_heap_other (fun e => by subst e; exact (List.nodup_cons.1 hm.nd).1 hd)]
   exact (hm.at' d (List.mem_cons_of_mem _ hd)).2
  ·have hg := grownBy_putObj' w D (.deferred none)
   have h1 : Below B w (w.putObj D (.deferred none)) := ⟨hg.os, hg.tape, hg.output, hg.size, fun k hk => hg.block k (by omega) (fun e => by injection e with e; omega)⟩
   exact h1.trans hb
  ·intro k c t f hc
   have hne : k ≠ D := fun e => by subst e; rw [hD.2] at hc; injection hc with hc; cases hc
   have e1 : (w.putObj D (.deferred none)).heap[k]? = w.heap[k]? := World.putObj_heap_other hne
   exact (hk k c t f (e1.trans hc)).trans e1
theorem own_init {w : World} {B g cap : Nat} {l : List Int} {x : Int} (h : OwN w B (.slice (some ⟨g, 0, none⟩) (l.length + 1) cap) (l ++ [x])) : OwN w B (.slice (some ⟨g, 0, none⟩) l.length cap) l ∧ w.cell? ⟨g, l.length, none⟩ = some (.int .i64 x) ∧ l.length + 1 ≤ cap := by
 have hl : (l ++ [x]).length = l.length + 1 := by simp
 unfold OwN at h ⊢
 rw [hl] at h
 rcases h.2 with ⟨h1, _⟩ | ⟨g', cap', cur, h1, hb, hg, hn, hm, hs, ht⟩
 ·cases h1
 ·injection h1 with e1 e2 e3
  injection e1 with e1
  injection e1 with e1
  subst e1 e3
  rw [Nat.mul_one] at ht hs
  have hcur : cur[l.length]? = some (.int .i64 x) := by
   have h5 : (cur.toList.take (l.length + 1))[l.length]? = some (vI x) := by rw [ht]; simp
   rw [List.getElem?_take_of_lt (by omega)] at h5
   simpa [vI] using h5
  refine ⟨⟨by simp, .inr ⟨g, cap, cur, rfl, hb, hg, by omega, hm, by omega, ?_⟩⟩, heap_cell hg hcur, hn⟩
  rw [Nat.mul_one]
  have h6 : (cur.toList.take (l.length + 1)).take l.length = (List.map vI (l ++ [x])).take l.length := by rw [ht]
  rw [List.take_take, Nat.min_eq_left (by omega)] at h6
  rw [h6]
  simp
theorem zer_64 (x : Mk) : zer x ≤ 64 := by
 have := List.countP_le_length (p := fun b => !x.getLsbD b) (l := List.range 64)
 simpa [zer] using this
theorem zerS_64 (n : Nat) (m : Nat → Mk) : zerS n m ≤ 64 * n := by
 unfold zerS
 induction n with
 | zero => simp
 | succ n ih =>
  rw [List.range_succ, List.map_append, List.sum_append]
  have := zer_64 (m n)
  simp at ih ⊢
  omega
def webN (f : FuI) : WbN where
 n := f.code.length
 nx i := nextL f i
 ct i := catL f.rows i
 th i := match f.code[i]? with | some x => throwsB x.op | none => false
 st i := (strN f.rows i).toNat
 same i j hi hj h := stretch_same (by
  have h1 := strB_at f.rows (i + 1)
  have h2 := strB_at f.rows (j + 1)
  have e1 : strB f.rows (i + 1) = strN f.rows i := rfl
  have e2 : strB f.rows (j + 1) = strN f.rows j := rfl
  rw [e1] at h1
  rw [e2] at h2
  omega)
end Go.Proofs.Ytbkeneadoccodaa
