/- Blocks of lists: those of the call's own that grow, and those that are only read. -/
import Derived.Test.YtoommeiiadobfaaDM14
import Derived.Test.YtoommeiiadobfaaJDFlwWebOf
namespace Go.Proofs.Ytoommeiiadobfaa
open Go.RowKit Go
set_option linter.unusedVariables false
set_option linter.unusedSimpArgs false
def LL (w : World) (g n C : Nat) (L : List (List Int)) : Prop := ∃ c : Array Value, w.heap[g]? = some (.cells c 22 (0, 0)) ∧ c.size = n ∧ L.length = n ∧ (∀ (i : Nat) l, L[i]? = some l → ∃ u, c[i]? = some u ∧ OwN w C u l) ∧ (∀ (i j : Nat) (u u' : Value), c[i]? = some u → c[j]? = some u' → i ≠ j → ∀ b, u.ownBlock = some b → u'.ownBlock ≠ some b)
def LLo (w : World) (g b : Nat) : Prop := ∃ (c : Array Value) (i : Nat) (u : Value), w.heap[g]? = some (.cells c 22 (0, 0)) ∧ c[i]? = some u ∧ u.ownBlock = some b
theorem LLo.of {w w' : World} {g b : Nat} (e : w'.heap[g]? = w.heap[g]?) (h : LLo w' g b) : LLo w g b := by
 obtain ⟨c, i, u, h1, h2, h3⟩ := h
 exact ⟨c, i, u, e.symm.trans h1, h2, h3⟩
theorem LL.own {w : World} {g n C b : Nat} {L : List (List Int)} (h : LL w g n C L) (hb : LLo w g b) : C ≤ b ∧ b < w.heap.size := by
 obtain ⟨c, h1, h2, h3, h4, _⟩ := h
 obtain ⟨c', i, u, h5, h6, h7⟩ := hb
 rw [h1] at h5
 injection h5 with h5
 injection h5 with h5
 subst h5
 have hl := (Array.getElem?_eq_some_iff.1 h6).1
 obtain ⟨u', h8, h9⟩ := h4 i _ (List.getElem?_eq_getElem (by omega))
 rw [h6] at h8
 injection h8 with h8
 subst h8
 exact h9.lt b h7
theorem LL.made {w : World} {g n C : Nat} (h : w.heap[g]? = some (.cells (madeCells #[.slice none 0 0] n) 22 (0, 0))) : LL w g n C (List.replicate n []) := by
 have hm : ∀ i, i < n → (madeCells #[Value.slice none 0 0] n)[i]? = some (.slice none 0 0) := fun i hi => made_at0 _ _ _ _ hi (by rw [show i % (#[Value.slice none 0 0] : Array Value).size = 0 from Nat.mod_one i]; rfl)
 refine ⟨_, h, by rw [size_madeCells], by simp, fun i l hi => ?_, fun i j u u' hi hj hij b hb => ?_⟩
 ·rw [List.getElem?_replicate] at hi
  split at hi
  ·injection hi with hi
   subst hi
   exact ⟨_, hm i (by assumption), World.ownsRow_nil _ _ _ _⟩
  ·cases hi
 ·have hl := (Array.getElem?_eq_some_iff.1 hi).1
  rw [size_madeCells] at hl
  rw [hm i hl] at hi
  injection hi with hi
  subst hi
  cases hb
theorem LL.ch {w w' : World} {g n C : Nat} {L : List (List Int)} {X : Nat → Prop} (h : LL w g n C L) (hc : Ch X w w') (hg : ¬ X g) (he : ∀ b, LLo w g b → ¬ X b) : LL w' g n C L := by
 obtain ⟨c, h1, h2, h3, h4, h5⟩ := h
 refine ⟨c, hc.keep h1 hg, h2, h3, fun i l hi => ?_, h5⟩
 obtain ⟨u, h6, h7⟩ := h4 i l hi
 exact ⟨u, h6, own_ch h7 hc (fun b hb => he b ⟨c, i, u, h1, h6, hb⟩)⟩
theorem LL.below {w w' : World} {g n C : Nat} {L : List (List Int)} (h : LL w g n C L) (hb : Below w.heap.size w w') : LL w' g n C L := by
 obtain ⟨c, h1, h2, h3, h4, h5⟩ := h
 refine ⟨c, heap_keep h1 hb, h2, h3, fun i l hi => ?_, h5⟩
 obtain ⟨u, h6, h7⟩ := h4 i l hi
 exact ⟨u, h6, own_below h7 hb⟩
theorem LL.fz {w : World} {g n C : Nat} {L : List (List Int)} (h : LL w g n C L) (i : Nat) : w.frozen? ⟨g, i, none⟩ = false := by
 obtain ⟨c, h1, _⟩ := h
 exact heap_thaw h1 i
theorem LL.lt {w : World} {g n C : Nat} {L : List (List Int)} (h : LL w g n C L) : g < w.heap.size := by
 obtain ⟨c, h1, _⟩ := h
 exact heap_lt h1
theorem LL.at' {w : World} {g n C i : Nat} {L : List (List Int)} {l : List Int} (h : LL w g n C L) (hi : L[i]? = some l) : ∃ UA uc, w.cell? ⟨g, i, none⟩ = some (.slice UA l.length uc) ∧ OwN w C (.slice UA l.length uc) l ∧ ∀ b, (Value.slice UA l.length uc).ownBlock = some b → LLo w g b := by
 obtain ⟨c, h1, h2, h3, h4, h5⟩ := h
 obtain ⟨u, h6, h7⟩ := h4 i l hi
 obtain ⟨UA, uc, rfl⟩ := own_shape h7
 exact ⟨UA, uc, heap_cell h1 h6, h7, fun b hb => ⟨c, i, _, h1, h6, hb⟩⟩
theorem LL.set {w w4 : World} {g n C i : Nat} {L : List (List Int)} {l l' : List Int} {UA : Option Addr} {un uc : Nat} {u' : Value} (h : LL w g n C L) (hgC : g < C) (hi : L[i]? = some l) (hu : w.cell? ⟨g, i, none⟩ = some (.slice UA un uc)) (hc : Ch (fun k => (Value.slice UA un uc).ownBlock = some k) w w4) (ho : OwN w4 C u' l') (hf : ∀ b, u'.ownBlock = some b → (Value.slice UA un uc).ownBlock = some b ∨ w.heap.size ≤ b) :
  LL (w4.setCell ⟨g, i, none⟩ u') g n C (L.set i l') ∧ ∀ b, LLo (w4.setCell ⟨g, i, none⟩ u') g b → LLo w g b ∨ w.heap.size ≤ b := by
 obtain ⟨c, h1, h2, h3, h4, h5⟩ := h
 obtain ⟨u, h6, h7⟩ := h4 i l hi
 have hl := (List.getElem?_eq_some_iff.1 hi).1
 have hlc := (Array.getElem?_eq_some_iff.1 h6).1
 have e : u = .slice UA un uc := by
  have h8 := heap_cell h1 h6
  rw [hu] at h8
  injection h8 with h8
  exact h8.symm
 subst e
 have hgx : (Value.slice UA un uc).ownBlock ≠ some g := fun e => by have := (h7.lt g e).1; omega
 have hg4 : w4.heap[g]? = some (.cells c 22 (0, 0)) := hc.keep h1 hgx
 have hs : (w4.setCell ⟨g, i, none⟩ u').heap[g]? = some (.cells (c.setIfInBounds i u') 22 (0, 0)) := heap_set hg4 _
 have keep : ∀ {v : Value} {m : List Int}, OwN w4 C v m → OwN (w4.setCell ⟨g, i, none⟩ u') C v m := fun hv => own_of hv fun b hb => Below.heap_setCell _ _ _ _ (fun e => by have := (hv.lt b hb).1; simp at e; omega)
 have old : ∀ j x, j ≠ i → c[j]? = some x → ∀ b, x.ownBlock = some b → b < w.heap.size ∧ (Value.slice UA un uc).ownBlock ≠ some b := fun j x hj hx b hb => by
  have hjl := (Array.getElem?_eq_some_iff.1 hx).1
  obtain ⟨x', h8, h9⟩ := h4 j _ (List.getElem?_eq_getElem (by omega))
  rw [hx] at h8
  injection h8 with h8
  subst h8
  exact ⟨(h9.lt b hb).2, fun e => h5 j i x _ hx h6 hj b hb e⟩
 have at1 : ∀ j x, (c.setIfInBounds i u')[j]? = some x → (j = i ∧ x = u') ∨ (j ≠ i ∧ c[j]? = some x) := fun j x hx => by
  by_cases e : i = j
  ·subst e
   rw [Array.getElem?_setIfInBounds, if_pos rfl, if_pos hlc] at hx
   injection hx with hx
   exact .inl ⟨rfl, hx.symm⟩
  ·rw [Array.getElem?_setIfInBounds, if_neg e] at hx
   exact .inr ⟨fun e2 => e e2.symm, hx⟩
 refine ⟨⟨_, hs, by simpa using h2, by simpa using h3, fun j m hj => ?_, fun a b x y ha hb hab bb hx hy => ?_⟩, fun b hb => ?_⟩
 ·by_cases e : i = j
  ·subst e
   rw [List.getElem?_set_self hl] at hj
   injection hj with hj
   subst hj
   exact ⟨u', by rw [Array.getElem?_setIfInBounds, if_pos rfl, if_pos hlc], keep ho⟩
  ·rw [List.getElem?_set_ne e] at hj
   obtain ⟨x, h8, h9⟩ := h4 j m hj
   exact ⟨x, by rw [Array.getElem?_setIfInBounds, if_neg e]; exact h8, keep (own_ch h9 hc (fun b hb e2 => h5 i j _ x h6 h8 e b e2 hb))⟩
 ·rcases at1 a x ha with ⟨ea, rfl⟩ | ⟨ea, ha2⟩
  ·rcases at1 b y hb with ⟨eb, rfl⟩ | ⟨eb, hb2⟩
   ·omega
   ·obtain ⟨h8, h9⟩ := old b y eb hb2 bb hy
    rcases hf bb hx with h10 | h10
    ·exact h9 h10
    ·omega
  ·rcases at1 b y hb with ⟨eb, rfl⟩ | ⟨eb, hb2⟩
   ·obtain ⟨h8, h9⟩ := old a x ea ha2 bb hx
    rcases hf bb hy with h10 | h10
    ·exact h9 h10
    ·omega
   ·exact h5 a b x y ha2 hb2 hab bb hx hy
 ·obtain ⟨c', j, x, h8, h9, h10⟩ := hb
  rw [hs] at h8
  injection h8 with h8
  injection h8 with h8
  subst h8
  rcases at1 j x h9 with ⟨e, rfl⟩ | ⟨e, h12⟩
  ·rcases hf b h10 with h11 | h11
   ·exact .inl ⟨c, i, _, h1, h6, h11⟩
   ·exact .inr h11
  ·exact .inl ⟨c, j, x, h1, h12, h10⟩
theorem LL.rd {w : World} {g n C : Nat} {L : List (List Int)} (h : LL w g n C L) (hn : n ≤ 140737488355328) (hi : ∀ l ∈ L, l.length ≤ 140737488355328) : RdX Tru 1 (LsE Tru) w (.slice (some ⟨g, 0, none⟩) n n) L := by
 have h0 := h
 obtain ⟨c, h1, h2, h3, h4, h5⟩ := h
 refine ⟨_, _, by rw [h3], fun e => (by cases e), by rw [h3]; exact hn, fun i l hil => ?_⟩
 obtain ⟨UA, uc, h6, h7, _⟩ := h0.at' hil
 refine ⟨g, 0, [.slice UA l.length uc], rfl, trivial, ⟨_, rfl, (OwN.rd h7 (hi l (List.mem_of_getElem? hil))).any fun _ _ => trivial⟩, fun j u hj => ?_⟩
 cases j with
 | succ j => simp at hj
 | zero =>
  simp at hj
  subst hj
  simpa using h6
def LR (w : World) (P : Nat → Prop) (g n k : Nat) (F : Nat → List Int) : Prop := ∃ c : Array Value, w.heap[g]? = some (.cells c 22 (0, 0)) ∧ c.size = n ∧ ∀ j, j < n → ∃ A m cap, c[j]? = some (.slice A m cap) ∧ (j < k → RdX P 1 NuE w (.slice A m cap) (F j))
theorem LR.fz {w : World} {P : Nat → Prop} {g n k : Nat} {F : Nat → List Int} (h : LR w P g n k F) (i : Nat) : w.frozen? ⟨g, i, none⟩ = false := by
 obtain ⟨c, h1, _⟩ := h
 exact heap_thaw h1 i
theorem LR.lt {w : World} {P : Nat → Prop} {g n k : Nat} {F : Nat → List Int} (h : LR w P g n k F) : g < w.heap.size := by
 obtain ⟨c, h1, _⟩ := h
 exact heap_lt h1
theorem LR.any {w : World} {P : Nat → Prop} {g n k i : Nat} {F : Nat → List Int} (h : LR w P g n k F) (hi : i < n) : ∃ A m cap, w.cell? ⟨g, i, none⟩ = some (.slice A m cap) := by
 obtain ⟨c, h1, h2, h3⟩ := h
 obtain ⟨A, m, cap, h4, _⟩ := h3 i hi
 exact ⟨A, m, cap, heap_cell h1 h4⟩
theorem LR.at' {w : World} {P : Nat → Prop} {g n k i : Nat} {F : Nat → List Int} (h : LR w P g n k F) (hi : i < n) (hk : i < k) : ∃ A cap, w.cell? ⟨g, i, none⟩ = some (.slice A (F i).length cap) ∧ RdX P 1 NuE w (.slice A (F i).length cap) (F i) := by
 obtain ⟨c, h1, h2, h3⟩ := h
 obtain ⟨A, m, cap, h4, h5⟩ := h3 i hi
 obtain ⟨A2, c2, h6⟩ := (h5 hk).shape
 rw [h6] at h4
 refine ⟨A2, c2, heap_cell h1 h4, ?_⟩
 rw [← h6]
 exact h5 hk
theorem LR.made {w : World} {P : Nat → Prop} {g n : Nat} {F : Nat → List Int} (h : w.heap[g]? = some (.cells (madeCells #[.slice none 0 0] n) 22 (0, 0))) : LR w P g n 0 F :=
 ⟨_, h, by rw [size_madeCells], fun i hi => ⟨none, 0, 0, made_at0 _ _ _ _ hi (by rw [show i % (#[Value.slice none 0 0] : Array Value).size = 0 from Nat.mod_one i]; rfl), fun h => by omega⟩⟩
theorem LR.weak {w : World} {P Q : Nat → Prop} {g n k : Nat} {F : Nat → List Int} (h : LR w P g n k F) (hP : ∀ b, P b → b < w.heap.size → Q b) : LR w Q g n k F := by
 obtain ⟨c, h1, h2, h3⟩ := h
 refine ⟨c, h1, h2, fun j hj => ?_⟩
 obtain ⟨A, m, cap, h4, h5⟩ := h3 j hj
 exact ⟨A, m, cap, h4, fun hk => (h5 hk).mono (fun _ _ h => h) hP (fun _ _ h => by rw [h]; simp)⟩
theorem LR.below {w w' : World} {P : Nat → Prop} {g n k : Nat} {F : Nat → List Int} (h : LR w P g n k F) (hb : Below w.heap.size w w') : LR w' P g n k F := by
 obtain ⟨c, h1, h2, h3⟩ := h
 refine ⟨c, heap_keep h1 hb, h2, fun j hj => ?_⟩
 obtain ⟨A, m, cap, h4, h5⟩ := h3 j hj
 exact ⟨A, m, cap, h4, fun hk => (h5 hk).below (keptX_nu _) hb⟩
theorem LR.ch {w w' : World} {P X : Nat → Prop} {g n k : Nat} {F : Nat → List Int} (h : LR w P g n k F) (hc : Ch X w w') (hg : ¬ X g) (hP : ∀ b, P b → b < w.heap.size → ¬ X b) : LR w' P g n k F := by
 obtain ⟨c, h1, h2, h3⟩ := h
 refine ⟨c, hc.keep h1 hg, h2, fun j hj => ?_⟩
 obtain ⟨A, m, cap, h4, h5⟩ := h3 j hj
 exact ⟨A, m, cap, h4, fun hk => (h5 hk).kept (keptX_nu _) (fun b hb hl => hc.block b hl (hP b hb hl))⟩
theorem LR.put {w : World} {P : Nat → Prop} {g n k : Nat} {F : Nat → List Int} (h : LR w P g n k F) {A : Option Addr} {m cap : Nat} (hv : RdX P 1 NuE w (.slice A m cap) (F k)) (hg : ¬ P g) : LR (w.setCell ⟨g, k, none⟩ (.slice A m cap)) P g n (k + 1) F := by
 obtain ⟨c, h1, h2, h3⟩ := h
 have hc := (Ch.refl (fun b => b = g) w).set (p := ⟨g, k, none⟩) (fun _ => rfl) (.slice A m cap)
 have keep : ∀ {v : Value} {l : List Int}, RdX P 1 NuE w v l → RdX P 1 NuE (w.setCell ⟨g, k, none⟩ (.slice A m cap)) v l := fun hr => hr.kept (keptX_nu _) (fun b hb hl => hc.block b hl (fun e => hg (e ▸ hb)))
 refine ⟨_, heap_set h1 _, by simpa using h2, fun j hj => ?_⟩
 by_cases e : k = j
 ·subst e
  exact ⟨A, m, cap, by rw [Array.getElem?_setIfInBounds, if_pos rfl, if_pos (by omega)], fun _ => keep hv⟩
 ·obtain ⟨A2, m2, c2, h4, h5⟩ := h3 j hj
  exact ⟨A2, m2, c2, by rw [Array.getElem?_setIfInBounds, if_neg e]; exact h4, fun h => keep (h5 (by omega))⟩
theorem LR.rd {w : World} {P : Nat → Prop} {g n : Nat} {F : Nat → List Int} (h : LR w P g n n F) (hn : n ≤ 140737488355328) : RdX Tru 1 (LsE Tru) w (.slice (some ⟨g, 0, none⟩) n n) ((List.range n).map F) := by
 refine ⟨some ⟨g, 0, none⟩, n, by simp, fun e => (by cases e), by simpa using hn, fun i l hil => ?_⟩
 have hi : i < n := by have := (List.getElem?_eq_some_iff.1 hil).1; simpa using this
 have hl : l = F i := by simp [hi] at hil; exact hil.symm
 subst hl
 obtain ⟨A, cap, h1, h2⟩ := h.at' hi hi
 refine ⟨g, 0, [.slice A (F i).length cap], rfl, trivial, ⟨_, rfl, h2.any fun _ _ => trivial⟩, fun j u hj => ?_⟩
 cases j with
 | succ j => simp at hj
 | zero =>
  simp at hj
  subst hj
  simpa using h1
def usesAt (f : FuI) (i : Nat) : List Int := match f.code[i]? with | some x => usesI x | none => []
def defAt (f : FuI) (i : Nat) : Int := match f.code[i]? with | some x => defI x | none => 0
structure PrS (f : FuI) (n k : Nat) (T : List Int) (PR : List (List Int)) : Prop where
 len : PR.length = n
 mem : ∀ (i : Nat) l, PR[i]? = some l → ∀ z, z ∈ l ↔ ∃ j : Nat, z = j ∧ ((j < k ∧ (i : Int) ∈ nextL f j) ∨ (j = k ∧ (i : Int) ∈ T))
 few : ∀ l ∈ PR, l.length ≤ 2 * k + T.length
theorem PrS.begin (f : FuI) (n : Nat) : PrS f n 0 [] (List.replicate n []) where
 len := by simp
 mem i l hi z := by
  have hl := List.eq_of_mem_replicate (List.mem_of_getElem? hi)
  subst hl
  constructor
  ·intro h; cases h
  ·rintro ⟨j, _, ⟨h, _⟩ | ⟨_, h⟩⟩
   ·omega
   ·cases h
 few l hl := by rw [List.eq_of_mem_replicate hl]; simp
theorem PrS.step {f : FuI} {n k t : Nat} {T l : List Int} {PR : List (List Int)} (h : PrS f n k T PR) (ht : PR[t]? = some l) : PrS f n k (T ++ [(t : Int)]) (PR.set t (l ++ [(k : Int)])) where
 len := by simpa using h.len
 mem i m hi z := by
  have htl := (List.getElem?_eq_some_iff.1 ht).1
  by_cases e : t = i
  ·subst e
   rw [List.getElem?_set_self htl] at hi
   injection hi with hi
   subst hi
   rw [List.mem_append, List.mem_singleton, h.mem t l ht z]
   constructor
   ·rintro (⟨j, h1, h2 | ⟨h2, h3⟩⟩ | h1)
    ·exact ⟨j, h1, .inl h2⟩
    ·exact ⟨j, h1, .inr ⟨h2, List.mem_append_left _ h3⟩⟩
    ·exact ⟨k, h1, .inr ⟨rfl, by simp⟩⟩
   ·rintro ⟨j, h1, h2 | ⟨h2, h3⟩⟩
    ·exact .inl ⟨j, h1, .inl h2⟩
    ·exact .inr (by rw [h1, h2])
  ·rw [List.getElem?_set_ne e] at hi
   rw [h.mem i m hi z]
   have e2 : ((i : Int) ∈ T ++ [(t : Int)]) ↔ (i : Int) ∈ T := by
    rw [List.mem_append, List.mem_singleton]
    exact ⟨fun h => h.elim id (fun h => absurd h (by omega)), .inl⟩
   simp only [e2]
 few m hm := by
  rw [List.length_append, List.length_singleton]
  rcases List.mem_or_eq_of_mem_set hm with h1 | h1
  ·have := h.few m h1; omega
  ·have := h.few l (List.mem_of_getElem? ht)
   rw [h1, List.length_append, List.length_singleton]
   omega
theorem PrS.done {f : FuI} {n k : Nat} {PR : List (List Int)} (h : PrS f n k (nextL f k) PR) (h2 : (nextL f k).length ≤ 2) : PrS f n (k + 1) [] PR where
 len := h.len
 mem i l hi z := by
  rw [h.mem i l hi z]
  constructor
  ·rintro ⟨j, h1, ⟨h3, h4⟩ | ⟨h3, h4⟩⟩
   ·exact ⟨j, h1, .inl ⟨by omega, h4⟩⟩
   ·exact ⟨j, h1, .inl ⟨by omega, by rw [h3]; exact h4⟩⟩
  ·rintro ⟨j, h1, ⟨h3, h4⟩ | ⟨_, h4⟩⟩
   ·by_cases e : j = k
    ·exact ⟨j, h1, .inr ⟨e, by rw [← e]; exact h4⟩⟩
    ·exact ⟨j, h1, .inl ⟨by omega, h4⟩⟩
   ·cases h4
 few l hl := by have := h.few l hl; simp; omega
structure W1 (f : FuI) (n C : Nat) (w0 wr : World) (gu gd gn gp ku kd kn : Nat) (PR : List (List Int)) : Prop where
 ch : Ch (fun b => b = gu ∨ b = gd ∨ b = gn ∨ b = gp) w0 wr
 us : LR wr (fun b => C ≤ b ∧ ¬ LLo wr gp b) gu n ku (usesAt f)
 ns : LR wr (fun b => C ≤ b ∧ ¬ LLo wr gp b) gn n kn (fun i => nextL f i)
 ds : NumB wr gd n (defAt f) kd
 pr : LL wr gp n C PR
structure WN (C gu gd gn gp : Nat) : Prop where
 lt : gu < C ∧ gd < C ∧ gn < C ∧ gp < C
 ne : gu ≠ gd ∧ gu ≠ gn ∧ gu ≠ gp ∧ gd ≠ gn ∧ gd ≠ gp ∧ gn ≠ gp
theorem W1.below {f : FuI} {n C : Nat} {w0 wr w' : World} {gu gd gn gp ku kd kn : Nat} {PR : List (List Int)} (h : W1 f n C w0 wr gu gd gn gp ku kd kn PR) (hb : Below wr.heap.size wr w') : W1 f n C w0 w' gu gd gn gp ku kd kn PR := by
 have e := hb.block gp h.pr.lt
 have q : ∀ b, (C ≤ b ∧ ¬ LLo wr gp b) → b < wr.heap.size → C ≤ b ∧ ¬ LLo w' gp b := fun b hb _ => ⟨hb.1, fun h => hb.2 (h.of e)⟩
 exact ⟨h.ch.below hb, (h.us.weak q).below hb, (h.ns.weak q).below hb, h.ds.of (hb.block gd h.ds.lt), h.pr.below hb⟩
theorem W1.putU {f : FuI} {n C : Nat} {w0 wr : World} {gu gd gn gp k kd kn : Nat} {PR : List (List Int)} (h : W1 f n C w0 wr gu gd gn gp k kd kn PR) (hN : WN C gu gd gn gp) (hC : w0.heap.size = C) {A : Option Addr} {m cap : Nat} (hv : RdX (fun b => C ≤ b ∧ ¬ LLo wr gp b) 1 NuE wr (.slice A m cap) (usesAt f k)) : W1 f n C w0 (wr.setCell ⟨gu, k, none⟩ (.slice A m cap)) gu gd gn gp (k + 1) kd kn PR := by
 obtain ⟨⟨l1, l2, l3, l4⟩, n1, n2, n3, n4, n5, n6⟩ := hN
 have hc := (Ch.refl (fun b => b = gu) wr).set (p := ⟨gu, k, none⟩) (fun _ => rfl) (.slice A m cap)
 have e : (wr.setCell ⟨gu, k, none⟩ (.slice A m cap)).heap[gp]? = wr.heap[gp]? := hc.block gp h.pr.lt (fun e => n3 e.symm)
 have q : ∀ (w9 : World) b, (C ≤ b ∧ ¬ LLo wr gp b) → b < w9.heap.size → C ≤ b ∧ ¬ LLo (wr.setCell ⟨gu, k, none⟩ (.slice A m cap)) gp b := fun _ b hb _ => ⟨hb.1, fun h => hb.2 (h.of e)⟩
 exact ⟨h.ch.set (p := ⟨gu, k, none⟩) (fun _ => .inl rfl) _, (h.us.put hv (fun hx => by omega)).weak (q _), (h.ns.ch hc (fun e => n2 e.symm) (fun b hb _ e => by omega)).weak (q _), h.ds.of (hc.block gd h.ds.lt (fun e => n1 e.symm)), h.pr.ch hc (fun e => n3 e.symm) (fun b hb e => by have := (h.pr.own hb).1; omega)⟩
theorem W1.putN {f : FuI} {n C : Nat} {w0 wr : World} {gu gd gn gp ku kd k : Nat} {PR : List (List Int)} (h : W1 f n C w0 wr gu gd gn gp ku kd k PR) (hN : WN C gu gd gn gp) (hC : w0.heap.size = C) {A : Option Addr} {m cap : Nat} (hv : RdX (fun b => C ≤ b ∧ ¬ LLo wr gp b) 1 NuE wr (.slice A m cap) (nextL f k)) : W1 f n C w0 (wr.setCell ⟨gn, k, none⟩ (.slice A m cap)) gu gd gn gp ku kd (k + 1) PR := by
 obtain ⟨⟨l1, l2, l3, l4⟩, n1, n2, n3, n4, n5, n6⟩ := hN
 have hc := (Ch.refl (fun b => b = gn) wr).set (p := ⟨gn, k, none⟩) (fun _ => rfl) (.slice A m cap)
 have e : (wr.setCell ⟨gn, k, none⟩ (.slice A m cap)).heap[gp]? = wr.heap[gp]? := hc.block gp h.pr.lt (fun e => n6 e.symm)
 have q : ∀ (w9 : World) b, (C ≤ b ∧ ¬ LLo wr gp b) → b < w9.heap.size → C ≤ b ∧ ¬ LLo (wr.setCell ⟨gn, k, none⟩ (.slice A m cap)) gp b := fun _ b hb _ => ⟨hb.1, fun h => hb.2 (h.of e)⟩
 exact ⟨h.ch.set (p := ⟨gn, k, none⟩) (fun _ => .inr (.inr (.inl rfl))) _, (h.us.ch hc n2 (fun b hb _ e => by omega)).weak (q _), (h.ns.put hv (fun hx => by omega)).weak (q _), h.ds.of (hc.block gd h.ds.lt n4), h.pr.ch hc (fun e => n6 e.symm) (fun b hb e => by have := (h.pr.own hb).1; omega)⟩
theorem W1.putD {f : FuI} {n C : Nat} {w0 wr : World} {gu gd gn gp ku k kn : Nat} {PR : List (List Int)} (h : W1 f n C w0 wr gu gd gn gp ku k kn PR) (hN : WN C gu gd gn gp) (hC : w0.heap.size = C) {z : Int} (hz : z = defAt f k) : W1 f n C w0 (wr.setCell ⟨gd, k, none⟩ (.int .i64 z)) gu gd gn gp ku (k + 1) kn PR := by
 obtain ⟨⟨l1, l2, l3, l4⟩, n1, n2, n3, n4, n5, n6⟩ := hN
 have hc := (Ch.refl (fun b => b = gd) wr).set (p := ⟨gd, k, none⟩) (fun _ => rfl) (.int .i64 z)
 have e : (wr.setCell ⟨gd, k, none⟩ (.int .i64 z)).heap[gp]? = wr.heap[gp]? := hc.block gp h.pr.lt (fun e => n5 e.symm)
 have q : ∀ (w9 : World) b, (C ≤ b ∧ ¬ LLo wr gp b) → b < w9.heap.size → C ≤ b ∧ ¬ LLo (wr.setCell ⟨gd, k, none⟩ (.int .i64 z)) gp b := fun _ b hb _ => ⟨hb.1, fun h => hb.2 (h.of e)⟩
 exact ⟨h.ch.set (p := ⟨gd, k, none⟩) (fun _ => .inr (.inl rfl)) _, (h.us.ch hc n1 (fun b hb _ e => by omega)).weak (q _), (h.ns.ch hc (fun e => n4 e.symm) (fun b hb _ e => by omega)).weak (q _), h.ds.put hz, h.pr.ch hc (fun e => n5 e.symm) (fun b hb e => by have := (h.pr.own hb).1; omega)⟩
theorem rd_set {wr : World} {C gp g i : Nat} {v u : Value} {l : List Int} (hr : RdX (fun b => C ≤ b ∧ ¬ LLo wr gp b) 1 NuE wr v l) (hg : g < C) (hgp : g ≠ gp) (hl : gp < wr.heap.size) : RdX (fun b => C ≤ b ∧ ¬ LLo (wr.setCell ⟨g, i, none⟩ u) gp b) 1 NuE (wr.setCell ⟨g, i, none⟩ u) v l := by
 have hc := (Ch.refl (fun b => b = g) wr).set (p := ⟨g, i, none⟩) (fun _ => rfl) u
 exact (hr.kept (keptX_nu _) (fun b hb hs => hc.block b hs (fun e => by omega))).any fun b hb => ⟨hb.1, fun h => hb.2 (h.of (hc.block gp hl (fun e => hgp e.symm)))⟩
theorem W1.push {f : FuI} {n C : Nat} {w0 wr w4 : World} {gu gd gn gp ku kd kn t : Nat} {PR : List (List Int)} {l l' : List Int} {UA : Option Addr} {un uc : Nat} {u' : Value} (h : W1 f n C w0 wr gu gd gn gp ku kd kn PR) (hN : WN C gu gd gn gp) (hC : w0.heap.size = C) (hi : PR[t]? = some l) (hu : wr.cell? ⟨gp, t, none⟩ = some (.slice UA un uc)) (hc : Ch (fun k => (Value.slice UA un uc).ownBlock = some k) wr w4) (ho : OwN w4 C u' l') (hf : ∀ b, u'.ownBlock = some b → (Value.slice UA un uc).ownBlock = some b ∨ wr.heap.size ≤ b) :
  W1 f n C w0 (w4.setCell ⟨gp, t, none⟩ u') gu gd gn gp ku kd kn (PR.set t l') := by
 obtain ⟨⟨l1, l2, l3, l4⟩, n1, n2, n3, n4, n5, n6⟩ := hN
 obtain ⟨hp, hown⟩ := h.pr.set l4 hi hu hc ho hf
 have hob : ∀ b, (Value.slice UA un uc).ownBlock = some b → LLo wr gp b := fun b hb => by
  obtain ⟨UA2, uc2, h1, h2, h3⟩ := h.pr.at' hi
  rw [hu] at h1
  injection h1 with h1
  rw [h1] at hb
  exact h3 b hb
 have hobC : ∀ b, (Value.slice UA un uc).ownBlock = some b → C ≤ b := fun b hb => (h.pr.own (hob b hb)).1
 have hc2 : Ch (fun b => (Value.slice UA un uc).ownBlock = some b ∨ b = gp) wr (w4.setCell ⟨gp, t, none⟩ u') := by
  have h1 : Ch (fun b => (Value.slice UA un uc).ownBlock = some b ∨ b = gp) wr w4 := ⟨hc.os, hc.tape, hc.output, hc.size, fun b hb hx => hc.block b hb (fun e => hx (.inl e))⟩
  exact h1.set (p := ⟨gp, t, none⟩) (fun _ => .inr rfl) _
 have hw0 : w0.heap.size ≤ wr.heap.size := h.ch.size
 have chg : Ch (fun b => b = gu ∨ b = gd ∨ b = gn ∨ b = gp) w0 (w4.setCell ⟨gp, t, none⟩ u') := by
  refine ⟨hc2.os.trans h.ch.os, hc2.tape.trans h.ch.tape, hc2.output.trans h.ch.output, Nat.le_trans h.ch.size hc2.size, fun b hb hx => (hc2.block b (by omega) (fun e => ?_)).trans (h.ch.block b hb hx)⟩
  rcases e with e | e
  ·have := hobC b e; omega
  ·exact hx (.inr (.inr (.inr e)))
 have lr : ∀ {g k : Nat} {F : Nat → List Int}, g < C → g ≠ gp → LR wr (fun b => C ≤ b ∧ ¬ LLo wr gp b) g n k F → LR (w4.setCell ⟨gp, t, none⟩ u') (fun b => C ≤ b ∧ ¬ LLo (w4.setCell ⟨gp, t, none⟩ u') gp b) g n k F := fun {g k F} hg hgp hl => by
  have h1 : LR wr (fun b => (C ≤ b ∧ ¬ LLo wr gp b) ∧ b < wr.heap.size) g n k F := hl.weak fun b hb hs => ⟨hb, hs⟩
  have h2 := h1.ch hc2 (fun e => e.elim (fun e => by have := hobC g e; omega) (fun e => hgp e)) (fun b hb _ e => e.elim (fun e => hb.1.2 (hob b e)) (fun e => by have := hb.1.1; omega))
  exact h2.weak fun b hb _ => ⟨hb.1.1, fun e => (hown b e).elim (fun e => hb.1.2 e) (fun e => by have := hb.2; omega)⟩
 exact ⟨chg, lr l1 n3 h.us, lr l3 n6 h.ns, h.ds.of (hc2.block gd h.ds.lt (fun e => e.elim (fun e => by have := hobC gd e; omega) (fun e => n5 e))), hp⟩
theorem W1.pushRd {f : FuI} {n C : Nat} {w0 wr w4 : World} {gu gd gn gp ku kd kn t : Nat} {PR : List (List Int)} {l l' : List Int} {UA : Option Addr} {un uc : Nat} {u' : Value} (h : W1 f n C w0 wr gu gd gn gp ku kd kn PR) (hN : WN C gu gd gn gp) (hC : w0.heap.size = C) (hi : PR[t]? = some l) (hu : wr.cell? ⟨gp, t, none⟩ = some (.slice UA un uc)) (hc : Ch (fun k => (Value.slice UA un uc).ownBlock = some k) wr w4) (ho : OwN w4 C u' l') (hf : ∀ b, u'.ownBlock = some b → (Value.slice UA un uc).ownBlock = some b ∨ wr.heap.size ≤ b) {v : Value} {m : List Int} (hr : RdX (fun b => C ≤ b ∧ ¬ LLo wr gp b) 1 NuE wr v m) : RdX (fun b => C ≤ b ∧ ¬ LLo (w4.setCell ⟨gp, t, none⟩ u') gp b) 1 NuE (w4.setCell ⟨gp, t, none⟩ u') v m := by
 obtain ⟨⟨l1, l2, l3, l4⟩, n1, n2, n3, n4, n5, n6⟩ := hN
 obtain ⟨hp, hown⟩ := h.pr.set l4 hi hu hc ho hf
 have hob : ∀ b, (Value.slice UA un uc).ownBlock = some b → LLo wr gp b := fun b hb => by
  obtain ⟨UA2, uc2, h1, h2, h3⟩ := h.pr.at' hi
  rw [hu] at h1
  injection h1 with h1
  rw [h1] at hb
  exact h3 b hb
 have hobC : ∀ b, (Value.slice UA un uc).ownBlock = some b → C ≤ b := fun b hb => (h.pr.own (hob b hb)).1
 have hc2 : Ch (fun b => (Value.slice UA un uc).ownBlock = some b ∨ b = gp) wr (w4.setCell ⟨gp, t, none⟩ u') := by
  have h1 : Ch (fun b => (Value.slice UA un uc).ownBlock = some b ∨ b = gp) wr w4 := ⟨hc.os, hc.tape, hc.output, hc.size, fun b hb hx => hc.block b hb (fun e => hx (.inl e))⟩
  exact h1.set (p := ⟨gp, t, none⟩) (fun _ => .inr rfl) _
 have h1 : RdX (fun b => (C ≤ b ∧ ¬ LLo wr gp b) ∧ b < wr.heap.size) 1 NuE wr v m := hr.mono (fun _ _ h => h) (fun b hb hs => ⟨hb, hs⟩) (fun _ _ h => by rw [h]; simp)
 have h2 := h1.ch (keptX_nu _) hc2 (fun b hb e => e.elim (fun e => hb.1.2 (hob b e)) (fun e => by have := hb.1.1; omega))
 exact h2.any fun b hb => ⟨hb.1.1, fun e => (hown b e).elim (fun e => hb.1.2 e) (fun e => by have := hb.2; omega)⟩
theorem NumB.rd {w : World} {g n : Nat} {F : Nat → Int} (h : NumB w g n F n) (hn : n ≤ 140737488355328) : RdX Tru 1 NuE w (.slice (some ⟨g, 0, none⟩) n n) ((List.range n).map F) := by
 refine ⟨some ⟨g, 0, none⟩, n, by simp, fun e => (by cases e), by simpa using hn, fun i z hiz => ?_⟩
 have hi : i < n := by have := (List.getElem?_eq_some_iff.1 hiz).1; simpa using this
 have hl : z = F i := by simp [hi] at hiz; exact hiz.symm
 subst hl
 refine ⟨g, 0, [.int .i64 (F i)], rfl, trivial, rfl, fun j u hj => ?_⟩
 cases j with
 | succ j => simp at hj
 | zero =>
  simp at hj
  subst hj
  simpa using h.at' hi hi
theorem uniq_nodup (xs : List Int) : (uniqL xs).Nodup := by
 have key : ∀ (xs l : List Int), l.Nodup → (xs.foldl addU l).Nodup := by
  intro xs
  induction xs with
  | nil => intro l h; exact h
  | cons x xs ih =>
   intro l h
   refine ih _ ?_
   unfold addU
   split
   ·exact h
   ·rename_i hx
    rw [List.nodup_append]
    exact ⟨h, by simp, fun a ha b hb e => hx (by rw [List.mem_singleton] at hb; rw [← hb, ← e]; exact ha)⟩
 exact key xs [] List.nodup_nil
theorem caughtL_nodup (f : FuI) (i : Int) : (caughtL f i).Nodup := by
 unfold caughtL
 split
 ·exact List.nodup_nil
 ·split
  ·exact uniq_nodup _
  ·exact List.nodup_nil
def thC (f : FuI) (tl : List Int) : List Int := match tl with | p :: _ => caughtL f p | [] => []
structure CsS (f : FuI) (n : Nat) (TH : List (List Int)) (m : Nat) (T : List Int) (CS : List (List Int)) : Prop where
 len : CS.length = n
 mem : ∀ (i : Nat) l, CS[i]? = some l → ∀ z, z ∈ l ↔ ∃ s : Nat, z = s ∧ ((s < m ∧ ∃ tl, TH[s]? = some tl ∧ (i : Int) ∈ thC f tl) ∨ (s = m ∧ (i : Int) ∈ T))
 few : ∀ (i : Nat) l, CS[i]? = some l → l.length ≤ m ∨ ((i : Int) ∈ T ∧ l.length ≤ m + 1)
theorem CsS.begin (f : FuI) (n : Nat) (TH : List (List Int)) : CsS f n TH 0 [] (List.replicate n []) where
 len := by simp
 mem i l hi z := by
  have hl := List.eq_of_mem_replicate (List.mem_of_getElem? hi)
  subst hl
  constructor
  ·intro h; cases h
  ·rintro ⟨j, _, ⟨h, _⟩ | ⟨_, h⟩⟩
   ·omega
   ·cases h
 few i l hl := by rw [List.eq_of_mem_replicate (List.mem_of_getElem? hl)]; simp
theorem CsS.step {f : FuI} {n m t : Nat} {T l : List Int} {TH CS : List (List Int)} (h : CsS f n TH m T CS) (ht : CS[t]? = some l) (hT : (t : Int) ∉ T) : CsS f n TH m (T ++ [(t : Int)]) (CS.set t (l ++ [(m : Int)])) where
 len := by simpa using h.len
 mem i x hi z := by
  have htl := (List.getElem?_eq_some_iff.1 ht).1
  by_cases e : t = i
  ·subst e
   rw [List.getElem?_set_self htl] at hi
   injection hi with hi
   subst hi
   rw [List.mem_append, List.mem_singleton, h.mem t l ht z]
   constructor
   ·rintro (⟨j, h1, h2 | ⟨h2, h3⟩⟩ | h1)
    ·exact ⟨j, h1, .inl h2⟩
    ·exact ⟨j, h1, .inr ⟨h2, List.mem_append_left _ h3⟩⟩
    ·exact ⟨m, h1, .inr ⟨rfl, by simp⟩⟩
   ·rintro ⟨j, h1, h2 | ⟨h2, h3⟩⟩
    ·exact .inl ⟨j, h1, .inl h2⟩
    ·exact .inr (by rw [h1, h2])
  ·rw [List.getElem?_set_ne e] at hi
   rw [h.mem i x hi z]
   have e2 : ((i : Int) ∈ T ++ [(t : Int)]) ↔ (i : Int) ∈ T := by
    rw [List.mem_append, List.mem_singleton]
    exact ⟨fun h => h.elim id (fun h => absurd h (by omega)), .inl⟩
   simp only [e2]
 few i x hi := by
  have htl := (List.getElem?_eq_some_iff.1 ht).1
  by_cases e : t = i
  ·subst e
   rw [List.getElem?_set_self htl] at hi
   injection hi with hi
   subst hi
   rcases h.few t l ht with h1 | h1
   ·exact .inr ⟨by simp, by simp; omega⟩
   ·exact absurd h1.1 hT
  ·rw [List.getElem?_set_ne e] at hi
   rcases h.few i x hi with h1 | h1
   ·exact .inl h1
   ·exact .inr ⟨List.mem_append_left _ h1.1, h1.2⟩
theorem CsS.done {f : FuI} {n m : Nat} {tl : List Int} {TH CS : List (List Int)} (h : CsS f n TH m (thC f tl) CS) (ht : TH[m]? = some tl) : CsS f n TH (m + 1) [] CS where
 len := h.len
 mem i l hi z := by
  rw [h.mem i l hi z]
  constructor
  ·rintro ⟨j, h1, ⟨h3, h4⟩ | ⟨h3, h4⟩⟩
   ·exact ⟨j, h1, .inl ⟨by omega, h4⟩⟩
   ·exact ⟨j, h1, .inl ⟨by omega, tl, by rw [h3]; exact ht, h4⟩⟩
  ·rintro ⟨j, h1, ⟨h3, tl2, h4, h5⟩ | ⟨_, h4⟩⟩
   ·by_cases e : j = m
    ·subst e
     rw [ht] at h4
     injection h4 with h4
     subst h4
     exact ⟨j, h1, .inr ⟨rfl, h5⟩⟩
    ·exact ⟨j, h1, .inl ⟨by omega, tl2, h4, h5⟩⟩
   ·cases h4
 few i l hl := by rcases h.few i l hl with h1 | h1 <;> exact .inl (by omega)
theorem nodup_take {l : List Int} (h : l.Nodup) {q : Nat} {z : Int} (hz : l[q]? = some z) : z ∉ l.take q := by
 intro hm
 have h1 : (l.take q ++ [z]).Nodup := by rw [← take_snoc hz]; exact h.sublist (List.take_sublist _ _)
 rw [List.nodup_append] at h1
 exact h1.2.2 z hm z (by simp) rfl
theorem LL.push {n C g t : Nat} {w0 wr w4 : World} {L : List (List Int)} {l l' : List Int} {UA : Option Addr} {un uc : Nat} {u' : Value} (h : LL wr g n C L) (hgC : g < C) (hch : Ch (fun b => b = g) w0 wr) (hC : w0.heap.size = C) (hi : L[t]? = some l) (hu : wr.cell? ⟨g, t, none⟩ = some (.slice UA un uc)) (hc : Ch (fun k => (Value.slice UA un uc).ownBlock = some k) wr w4) (ho : OwN w4 C u' l') (hf : ∀ b, u'.ownBlock = some b → (Value.slice UA un uc).ownBlock = some b ∨ wr.heap.size ≤ b) :
  LL (w4.setCell ⟨g, t, none⟩ u') g n C (L.set t l') ∧ Ch (fun b => b = g) w0 (w4.setCell ⟨g, t, none⟩ u') ∧ ∀ v m, RdX (fun b => C ≤ b ∧ ¬ LLo wr g b) 1 NuE wr v m → RdX (fun b => C ≤ b ∧ ¬ LLo (w4.setCell ⟨g, t, none⟩ u') g b) 1 NuE (w4.setCell ⟨g, t, none⟩ u') v m := by
 obtain ⟨hp, hown⟩ := h.set hgC hi hu hc ho hf
 have hob : ∀ b, (Value.slice UA un uc).ownBlock = some b → LLo wr g b := fun b hb => by
  obtain ⟨UA2, uc2, h1, h2, h3⟩ := h.at' hi
  rw [hu] at h1
  injection h1 with h1
  rw [h1] at hb
  exact h3 b hb
 have hobC : ∀ b, (Value.slice UA un uc).ownBlock = some b → C ≤ b := fun b hb => (h.own (hob b hb)).1
 have hc2 : Ch (fun b => (Value.slice UA un uc).ownBlock = some b ∨ b = g) wr (w4.setCell ⟨g, t, none⟩ u') := by
  have h1 : Ch (fun b => (Value.slice UA un uc).ownBlock = some b ∨ b = g) wr w4 := ⟨hc.os, hc.tape, hc.output, hc.size, fun b hb hx => hc.block b hb (fun e => hx (.inl e))⟩
  exact h1.set (p := ⟨g, t, none⟩) (fun _ => .inr rfl) _
 have hw0 : w0.heap.size ≤ wr.heap.size := hch.size
 refine ⟨hp, ⟨hc2.os.trans hch.os, hc2.tape.trans hch.tape, hc2.output.trans hch.output, Nat.le_trans hch.size hc2.size, fun b hb hx => (hc2.block b (by omega) (fun e => e.elim (fun e => by have := hobC b e; omega) (fun e => hx e))).trans (hch.block b hb hx)⟩, fun v m hr => ?_⟩
 have h1 : RdX (fun b => (C ≤ b ∧ ¬ LLo wr g b) ∧ b < wr.heap.size) 1 NuE wr v m := hr.mono (fun _ _ h => h) (fun b hb hs => ⟨hb, hs⟩) (fun _ _ h => by rw [h]; simp)
 have h2 := h1.ch (keptX_nu _) hc2 (fun b hb e => e.elim (fun e => hb.1.2 (hob b e)) (fun e => by have := hb.1.1; omega))
 exact h2.any fun b hb => ⟨hb.1.1, fun e => (hown b e).elim (fun e => hb.1.2 e) (fun e => by have := hb.2; omega)⟩
end Go.Proofs.Ytoommeiiadobfaa
