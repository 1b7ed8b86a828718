/- Texts of this claim, joined: CFlwWebOf, CFlwSpL. -/
import Derived.Test.YtoommeiiadobfaaM10
import Derived.Test.YtoommeiiadobfaaM12
import Derived.Deep.RegionLaw
import Derived.Deep.RegionHeld3
import Derived.RangeFuncLeaves
/- A function with what is asked of it again and again: the program's webOf. -/
namespace Go.Proofs.Ytoommeiiadobfaa
open Go.RowKit Go
set_option linter.unusedVariables false
set_option linter.unusedSimpArgs false
def cutL (rows : List RwI) (k : Nat) : List Int := (rows.take k).flatMap fun r => [r.fr, r.too]
theorem cutL_snoc {rows : List RwI} {k : Nat} {r : RwI} (h : rows[k]? = some r) : cutL rows (k + 1) = cutL rows k ++ [r.fr, r.too] := by
 unfold cutL
 rw [List.take_add_one, h]
 simp
theorem cutL_all (rows : List RwI) (i : Nat) : atL (cutL rows rows.length) i ↔ cutB rows i = true := by
 unfold atL cutL cutB
 rw [List.take_of_length_le (Nat.le_refl _), List.mem_flatMap, List.any_eq_true]
 constructor
 ·rintro ⟨r, hr, h⟩
  exact ⟨r, hr, by simp at h; rcases h with h | h <;> simp [h]⟩
 ·rintro ⟨r, hr, h⟩
  exact ⟨r, hr, by simp at h ⊢; rcases h with h | h <;> simp [h]⟩
def strB (rows : List RwI) : Nat → Int
 | 0 => 0
 | k + 1 => strN rows k
theorem strN_step (rows : List RwI) (k : Nat) : strN rows k = if cutB rows k then strB rows k + 1 else strB rows k := by
 cases k with
 | zero => rfl
 | succ k => rfl
theorem strB_at (rows : List RwI) (k : Nat) : 0 ≤ strB rows k ∧ strB rows k ≤ k := by
 induction k with
 | zero => exact ⟨Int.le_refl _, Int.le_refl _⟩
 | succ k ih =>
  have h1 := ih.1
  have h2 := ih.2
  show 0 ≤ strN rows k ∧ strN rows k ≤ _
  rw [strN_step]
  split <;> omega
def NumB (w : World) (g n : Nat) (F : Nat → Int) (k : Nat) : Prop := ∃ c : Array Value, w.heap[g]? = some (.cells c 3 (0, 0)) ∧ c.size = n ∧ ∀ j, j < n → ∃ z : Int, c[j]? = some (.int .i64 z) ∧ (j < k → z = F j)
theorem NumB.fz {w : World} {g n k : Nat} {F : Nat → Int} (h : NumB w g n F k) (i : Nat) : w.frozen? ⟨g, i, none⟩ = false := by
 obtain ⟨c, h1, _⟩ := h
 exact heap_thaw h1 i
theorem NumB.lt {w : World} {g n k : Nat} {F : Nat → Int} (h : NumB w g n F k) : g < w.heap.size := by
 obtain ⟨c, h1, _⟩ := h
 exact heap_lt h1
theorem NumB.any {w : World} {g n k i : Nat} {F : Nat → Int} (h : NumB w g n F k) (hi : i < n) : ∃ z : Int, w.cell? ⟨g, i, none⟩ = some (.int .i64 z) := by
 obtain ⟨c, h1, h2, h3⟩ := h
 obtain ⟨z, h4, _⟩ := h3 i hi
 exact ⟨z, heap_cell h1 h4⟩
theorem NumB.at' {w : World} {g n k i : Nat} {F : Nat → Int} (h : NumB w g n F k) (hi : i < n) (hk : i < k) : w.cell? ⟨g, i, none⟩ = some (.int .i64 (F i)) := by
 obtain ⟨c, h1, h2, h3⟩ := h
 obtain ⟨z, h4, h5⟩ := h3 i hi
 rw [← h5 hk]
 exact heap_cell h1 h4
theorem NumB.of {w w' : World} {g n k : Nat} {F : Nat → Int} (h : NumB w g n F k) (e : w'.heap[g]? = w.heap[g]?) : NumB w' g n F k := by
 obtain ⟨c, h1, h2⟩ := h
 exact ⟨c, e.trans h1, h2⟩
theorem NumB.put {w : World} {g n k : Nat} {F : Nat → Int} (h : NumB w g n F k) {z : Int} (hz : z = F k) : NumB (w.setCell ⟨g, k, none⟩ (.int .i64 z)) g n F (k + 1) := by
 obtain ⟨c, h1, h2, h3⟩ := h
 refine ⟨_, heap_set h1 _, by simpa using h2, fun j hj => ?_⟩
 by_cases e : k = j
 ·subst e
  exact ⟨z, by rw [Array.getElem?_setIfInBounds, if_pos rfl, if_pos (by omega)], fun _ => hz⟩
 ·obtain ⟨y, h4, h5⟩ := h3 j hj
  exact ⟨y, by rw [Array.getElem?_setIfInBounds, if_neg e]; exact h4, fun h => h5 (by omega)⟩
theorem NumB.made {w : World} {g n : Nat} {F : Nat → Int} (h : w.heap[g]? = some (.cells (madeCells #[.int .i64 0] n) 3 (0, 0))) : NumB w g n F 0 :=
 ⟨_, h, by rw [size_madeCells], fun i hi => ⟨0, made_at0 _ _ _ _ hi (by rw [show i % (#[Value.int .i64 0] : Array Value).size = 0 from Nat.mod_one i]; rfl), fun h => by omega⟩⟩
def LstB (w : World) (g n B : Nat) (F : Nat → List Int) (k : Nat) : Prop := ∃ c : Array Value, w.heap[g]? = some (.cells c 22 (0, 0)) ∧ c.size = n ∧ ∀ j, j < n → ∃ v, c[j]? = some v ∧ (∃ A m cap, v = .slice A m cap) ∧ (j < k → OwN w B v (F j) ∧ v.ownBlock ≠ some g)
theorem LstB.fz {w : World} {g n B k : Nat} {F : Nat → List Int} (h : LstB w g n B F k) (i : Nat) : w.frozen? ⟨g, i, none⟩ = false := by
 obtain ⟨c, h1, _⟩ := h
 exact heap_thaw h1 i
theorem LstB.lt {w : World} {g n B k : Nat} {F : Nat → List Int} (h : LstB w g n B F k) : g < w.heap.size := by
 obtain ⟨c, h1, _⟩ := h
 exact heap_lt h1
theorem LstB.any {w : World} {g n B k i : Nat} {F : Nat → List Int} (h : LstB w g n B F k) (hi : i < n) : ∃ A m cap, w.cell? ⟨g, i, none⟩ = some (.slice A m cap) := by
 obtain ⟨c, h1, h2, h3⟩ := h
 obtain ⟨v, h4, ⟨A, m, cap, rfl⟩, _⟩ := h3 i hi
 exact ⟨A, m, cap, heap_cell h1 h4⟩
theorem LstB.at' {w : World} {g n B k i : Nat} {F : Nat → List Int} (h : LstB w g n B F k) (hi : i < n) (hk : i < k) : ∃ v, w.cell? ⟨g, i, none⟩ = some v ∧ OwN w B v (F i) := by
 obtain ⟨c, h1, h2, h3⟩ := h
 obtain ⟨v, h4, _, h5⟩ := h3 i hi
 exact ⟨v, heap_cell h1 h4, (h5 hk).1⟩
theorem LstB.below {w w' : World} {g n B k : Nat} {F : Nat → List Int} (h : LstB w g n B F k) (hb : Below w.heap.size w w') : LstB w' g n B F k := by
 obtain ⟨c, h1, h2, h3⟩ := h
 refine ⟨c, heap_keep h1 hb, h2, fun j hj => ?_⟩
 obtain ⟨v, h4, h5, h6⟩ := h3 j hj
 exact ⟨v, h4, h5, fun hk => ⟨own_below (h6 hk).1 hb, (h6 hk).2⟩⟩
theorem LstB.num {w : World} {g n B k s i : Nat} {F : Nat → List Int} (h : LstB w g n B F k) (hs : s < B) (hg : s ≠ g) (u : Value) : LstB (w.setCell ⟨s, i, none⟩ u) g n B F k := by
 obtain ⟨c, h1, h2, h3⟩ := h
 have hc := (Ch.refl (fun k => k = s) w).set (p := ⟨s, i, none⟩) (fun _ => rfl) u
 refine ⟨c, hc.keep h1 (fun e => hg e.symm), h2, fun j hj => ?_⟩
 obtain ⟨v, h4, h5, h6⟩ := h3 j hj
 exact ⟨v, h4, h5, fun hk => ⟨own_ch (h6 hk).1 hc (fun b hb e => by have := own_lt (h6 hk).1 b hb; omega), (h6 hk).2⟩⟩
theorem LstB.put {w : World} {g n B k : Nat} {F : Nat → List Int} (h : LstB w g n B F k) {v : Value} (hv : OwN w B v (F k)) (hg : v.ownBlock ≠ some g) : LstB (w.setCell ⟨g, k, none⟩ v) g n B F (k + 1) := by
 obtain ⟨c, h1, h2, h3⟩ := h
 have hc := (Ch.refl (fun k => k = g) w).set (p := ⟨g, k, none⟩) (fun _ => rfl) v
 have ho : ∀ {u : Value} {l : List Int}, OwN w B u l → u.ownBlock ≠ some g → OwN (w.setCell ⟨g, k, none⟩ v) B u l := fun hu hb => own_ch hu hc (fun b h e => hb (by rw [h, e]))
 refine ⟨_, heap_set h1 _, by simpa using h2, fun j hj => ?_⟩
 by_cases e : k = j
 ·subst e
  obtain ⟨A, cap, hs⟩ := own_shape hv
  exact ⟨v, by rw [Array.getElem?_setIfInBounds, if_pos rfl, if_pos (by omega)], ⟨A, _, cap, hs⟩, fun _ => ⟨ho hv hg, hg⟩⟩
 ·obtain ⟨y, h4, h5, h6⟩ := h3 j hj
  exact ⟨y, by rw [Array.getElem?_setIfInBounds, if_neg e]; exact h4, h5, fun h => ⟨ho (h6 (by omega)).1 (h6 (by omega)).2, (h6 (by omega)).2⟩⟩
theorem LstB.made {w : World} {g n B : Nat} {F : Nat → List Int} (h : w.heap[g]? = some (.cells (madeCells #[.slice none 0 0] n) 22 (0, 0))) : LstB w g n B F 0 :=
 ⟨_, h, by rw [size_madeCells], fun i hi => ⟨_, made_at0 _ _ _ _ hi (by rw [show i % (#[Value.slice none 0 0] : Array Value).size = 0 from Nat.mod_one i]; rfl), ⟨_, _, _, rfl⟩, fun h => by omega⟩⟩
theorem LstB.ch {w w' : World} {g n B k : Nat} {F : Nat → List Int} {X : Nat → Prop} (h : LstB w g n B F k) (hc : Ch X w w') (hX : ∀ b, X b → b < B ∧ b ≠ g) : LstB w' g n B F k := by
 obtain ⟨c, h1, h2, h3⟩ := h
 refine ⟨c, hc.keep h1 (fun e => (hX g e).2 rfl), h2, fun j hj => ?_⟩
 obtain ⟨v, h4, h5, h6⟩ := h3 j hj
 exact ⟨v, h4, h5, fun hk => ⟨own_ch (h6 hk).1 hc (fun b hb e => by have h7 := own_lt (h6 hk).1 b hb; have h8 := (hX b e).1; omega), (h6 hk).2⟩⟩
theorem LstB.base {w : World} {g n B B' k : Nat} {F : Nat → List Int} (h : LstB w g n B F k) (hB : B' ≤ B) : LstB w g n B' F k := by
 obtain ⟨c, h1, h2, h3⟩ := h
 refine ⟨c, h1, h2, fun j hj => ?_⟩
 obtain ⟨v, h4, h5, h6⟩ := h3 j hj
 exact ⟨v, h4, h5, fun hk => ⟨own_base (h6 hk).1 hB, (h6 hk).2⟩⟩
theorem bel_drew {B : Nat} {w w' : World} (h : Below B w w') : Below B w w'.drew := Below.drewN' h 1
end Go.Proofs.Ytoommeiiadobfaa
/- While marks spread: what a round leaves, the marks of deferred calls, a row that is cut by one. -/
namespace Go.Proofs.Ytoommeiiadobfaa
open Go.RowKit Go
set_option linter.unusedVariables false
set_option linter.unusedSimpArgs false
structure SpL (G TB H B : Nat) (w w' : World) : Prop where
 os : w'.os = w.os
 tape : w'.tape = w.tape
 output : w'.output = w.output
 size : w.heap.size ≤ w'.heap.size
 low : ∀ k, k < B → k ≠ G → k ≠ TB → k ≠ H → w'.heap[k]? = w.heap[k]?
 obj : ∀ (k : Nat) (o : Obj), w.heap[k]? = some o → o.isCells = false → w'.heap[k]? = some o
theorem SpL.refl (G TB H B : Nat) (w : World) : SpL G TB H B w w := ⟨rfl, rfl, rfl, Nat.le_refl _, fun _ _ _ _ _ => rfl, fun _ _ h _ => h⟩
theorem SpL.trans {G TB H B : Nat} {a b c : World} (h : SpL G TB H B a b) (k : SpL G TB H B b c) : SpL G TB H B a c where
 os := k.os.trans h.os
 tape := k.tape.trans h.tape
 output := k.output.trans h.output
 size := Nat.le_trans h.size k.size
 low i h1 h2 h3 h4 := (k.low i h1 h2 h3 h4).trans (h.low i h1 h2 h3 h4)
 obj i o ho hc := k.obj i o (h.obj i o ho hc) hc
theorem SpK.l {G TB H B : Nat} {Pr : Nat → Prop} {w w' : World} (h : SpK G TB B Pr w w') : SpL G TB H B w w' := ⟨h.os, h.tape, h.output, h.size, fun k h1 h2 h3 _ => h.low k h1 h2 h3, h.obj⟩
theorem SpL.set {G TB H B p i : Nat} {w0 w : World} (h : SpL G TB H B w0 w) {c : Array Value} {t : TypeId} {f : Nat × Nat} (hp : w.heap[p]? = some (.cells c t f)) (hB : B ≤ p ∨ p = G ∨ p = TB ∨ p = H) (u : Value) : SpL G TB H B w0 (w.setCell ⟨p, i, none⟩ u) := by
 have hc := (Ch.refl (fun k => k = p) w).set (p := ⟨p, i, none⟩) (fun _ => rfl) u
 refine h.trans ⟨hc.os, hc.tape, hc.output, hc.size, fun k h1 h2 h3 h4 => ?_, fun k o hk ho => hc.keep hk (fun e => ?_)⟩
 ·by_cases hk : k < w.heap.size
  ·exact hc.block k hk (by omega)
  ·have e2 : (w.setCell ⟨p, i, none⟩ u).heap.size = w.heap.size := by simp
   rw [Array.getElem?_eq_none (by omega), Array.getElem?_eq_none (by omega)]
 ·subst e
  rw [hp] at hk
  injection hk with hk
  subst hk
  cases ho
theorem SpL.to {G TB H B b : Nat} {w w' : World} (h : SpL G TB H B w w') (hB : b ≤ B) (hG : b ≤ G) (hT : b ≤ TB) (hH : b ≤ H) : Below b w w' := ⟨h.os, h.tape, h.output, h.size, fun k hk => h.low k (by omega) (by omega) (by omega) (by omega)⟩
structure MrkD (w : World) (B : Nat) (Ds : List Nat) : Prop where
 nd : Ds.Nodup
 at' : ∀ D ∈ Ds, B ≤ D ∧ w.heap[D]? = some (.deferred (some []))
theorem MrkD.of {G TB H B C : Nat} {Ds : List Nat} {w w' : World} (h : MrkD w C Ds) (hl : SpL G TB H B w w') : MrkD w' C Ds := ⟨h.nd, fun D hD => ⟨(h.at' D hD).1, hl.obj D _ (h.at' D hD).2 rfl⟩⟩
theorem MrkD.cons {C D : Nat} {Ds : List Nat} {w : World} (h : MrkD w C Ds) (hD : ∀ d ∈ Ds, d < D) (hC : C ≤ D) (hk : w.heap[D]? = some (.deferred (some []))) : MrkD w C (D :: Ds) :=
 ⟨List.nodup_cons.2 ⟨fun hm => by have := hD D hm; omega, h.nd⟩, fun d hd => by
  rcases List.mem_cons.1 hd with rfl | hd
  ·exact ⟨hC, hk⟩
  ·exact h.at' d hd⟩
theorem own_init {w : World} {B g cap : Nat} {l : List Int} {x : Int} (h : OwN w B (.slice (some ⟨g, 0, none⟩) (l.length + 1) cap) (l ++ [x])) : OwN w B (.slice (some ⟨g, 0, none⟩) l.length cap) l ∧ w.cell? ⟨g, l.length, none⟩ = some (.int .i64 x) ∧ l.length + 1 ≤ cap := by
 have hl : (l ++ [x]).length = l.length + 1 := by simp
 unfold OwN at h ⊢
 rw [hl] at h
 rcases h.2 with ⟨h1, _⟩ | ⟨g', cap', cur, h1, hb, hg, hn, hm, hs, ht⟩
 ·cases h1
 ·injection h1 with e1 e2 e3
  injection e1 with e1
  injection e1 with e1
  subst e1 e3
  rw [Nat.mul_one] at ht hs
  have hcur : cur[l.length]? = some (.int .i64 x) := by
   have h5 : (cur.toList.take (l.length + 1))[l.length]? = some (vI x) := by rw [ht]; simp
   rw [List.getElem?_take_of_lt (by omega)] at h5
   simpa [vI] using h5
  refine ⟨⟨by simp, .inr ⟨g, cap, cur, rfl, hb, hg, by omega, hm, by omega, ?_⟩⟩, heap_cell hg hcur, hn⟩
  rw [Nat.mul_one]
  have h6 : (cur.toList.take (l.length + 1)).take l.length = (List.map vI (l ++ [x])).take l.length := by rw [ht]
  rw [List.take_take, Nat.min_eq_left (by omega)] at h6
  rw [h6]
  simp
theorem zer_64 (x : Mk) : zer x ≤ 64 := by
 have := List.countP_le_length (p := fun b => !x.getLsbD b) (l := List.range 64)
 simpa [zer] using this
theorem zerS_64 (n : Nat) (m : Nat → Mk) : zerS n m ≤ 64 * n := by
 unfold zerS
 induction n with
 | zero => simp
 | succ n ih =>
  rw [List.range_succ, List.map_append, List.sum_append]
  have := zer_64 (m n)
  simp at ih ⊢
  omega
def webN (f : FuI) : WbN where
 n := f.code.length
 nx i := nextL f i
 ct i := catL f.rows i
 th i := match f.code[i]? with | some x => throwsB x.op | none => false
 st i := (strN f.rows i).toNat
 same i j hi hj h := stretch_same (by
  have h1 := strB_at f.rows (i + 1)
  have h2 := strB_at f.rows (j + 1)
  have e1 : strB f.rows (i + 1) = strN f.rows i := rfl
  have e2 : strB f.rows (j + 1) = strN f.rows j := rfl
  rw [e1] at h1
  rw [e2] at h2
  omega)
end Go.Proofs.Ytoommeiiadobfaa
