/- A function as what is live goes through it: the program's webOf. -/
import Derived.Test.YtoommeiiadobfaaJDLivThrow
import Derived.Test.YtoommeiiadobfaaJDLivWebM
import Derived.Test.YtoommeiiadobfaaDM13
import Derived.Test.YtoommeiiadobfaaDM5
import Derived.Test.YtoommeiiadobfaaDM15
import Derived.Orders
import Derived.Deep.AppendLies
namespace Go.Proofs.Ytoommeiiadobfaa
open Go.RowKit Go
set_option linter.unusedVariables false
set_option linter.unusedSimpArgs false
theorem next_two (f : FuI) (i : Int) : (nextL f i).length ≤ 2 := by
 unfold nextL
 split
 ·simp
 ·unfold nextX goOn
  split
  ·split <;> simp
  ·split <;> simp
structure WbI (B : Nat) (O : Nat → Obj) (w0 w : World) (l : Nat → Bool) (g : Nat → Nat) : Prop where
 bel : Below B w0 w
 at' : ∀ i, l i = true → B ≤ g i ∧ w.heap[g i]? = some (O i)
 ne : ∀ i j, l i = true → l j = true → i ≠ j → g i ≠ g j
theorem WbI.begin (B : Nat) (O : Nat → Obj) (w0 : World) {l : Nat → Bool} (hl : ∀ i, l i = false) : WbI B O w0 w0 l (fun _ => 0) := ⟨Below.refl _ _, fun i h => (by rw [hl i] at h; cases h), fun i j h => (by rw [hl i] at h; cases h)⟩
theorem WbI.more {B : Nat} {O : Nat → Obj} {w0 w w' : World} {l : Nat → Bool} {g : Nat → Nat} (h : WbI B O w0 w l g) (hb : Below w.heap.size w w') (hB : B ≤ w.heap.size) : WbI B O w0 w' l g := ⟨h.bel.trans (hb.mono hB), fun i hi => ⟨(h.at' i hi).1, heap_keep (h.at' i hi).2 hb⟩, h.ne⟩
theorem WbI.alloc {B : Nat} {O : Nat → Obj} {w0 w : World} {l : Nat → Bool} {g : Nat → Nat} (h : WbI B O w0 w l g) (hB : B ≤ w.heap.size) (k : Nat) (o : Obj) (ho : O k = o) : WbI B O w0 (w.alloc o) (fun i => if i = k then true else l i) (fun i => if i = k then w.heap.size else g i) where
 bel := h.bel.alloc hB _
 at' i hi := by
  by_cases e : i = k
  ·subst e
   rw [if_pos rfl, ho]
   exact ⟨hB, heap_alloc_new w o⟩
  ·rw [if_neg e] at hi ⊢
   exact ⟨(h.at' i hi).1, heap_keep (h.at' i hi).2 ((Below.refl _ _).alloc (Nat.le_refl _) _)⟩
 ne i j hi hj hij := by
  by_cases e : i = k
  ·by_cases e2 : j = k
   ·omega
   ·rw [if_pos e, if_neg e2]
    rw [if_neg e2] at hj
    have := heap_lt (h.at' j hj).2
    omega
  ·rw [if_neg e] at hi ⊢
   by_cases e2 : j = k
   ·rw [if_pos e2]
    have := heap_lt (h.at' i hi).2
    omega
   ·rw [if_neg e2] at hj ⊢
    exact h.ne i j hi hj hij
theorem OwLL.rdP {w : World} {B : Nat} {v : Value} {L : List (List Int)} (h : OwLL w B v L) (hl : L.length ≤ 140737488355328) (hi : ∀ l ∈ L, l.length ≤ 140737488355328) : RdX (fun b => B ≤ b ∧ b < w.heap.size) 1 (LsE fun b => B ≤ b ∧ b < w.heap.size) w v L := by
 obtain ⟨A, c, hv⟩ := h.shape
 subst hv
 have hnil : A = none → c = 0 := by
  intro e
  obtain ⟨vs, h1, _⟩ := h
  rcases h1.2 with ⟨h2, _⟩ | ⟨g, cap, cur, h2, _⟩
  ·injection h2
  ·injection h2 with h2
   rw [e] at h2
   cases h2
 refine ⟨A, c, rfl, hnil, hl, fun i l hil => ?_⟩
 obtain ⟨g, cc, UA, uc, rfl, hB, hg, h1, h2⟩ := h.at' hil
 refine ⟨g, 0, [.slice UA l.length uc], rfl, ⟨hB, heap_lt hg⟩, ⟨_, rfl, (OwN.rd h2 (hi l (List.mem_of_getElem? hil))).any fun b hb => ⟨hb.1, (h2.lt b hb.2).2⟩⟩, fun j u hj => ?_⟩
 cases j with
 | succ j => simp at hj
 | zero =>
  simp at hj
  subst hj
  simpa using h1
def WbT (f : FuI) (n B : Nat) (w : World) (l : Nat → Bool) (g : Nat → Nat) (v : Value) : Prop := ∃ (TH : List (List Int)) (bg : Bool) (T0 T1 : Nat), ThI f n bg TH ∧ B ≤ T0 ∧ T1 ≤ w.heap.size ∧ RdX (fun b => T0 ≤ b ∧ b < T1) 1 (LsE fun b => T0 ≤ b ∧ b < T1) w v TH ∧ ∀ i, l i = true → g i < T0 ∨ T1 ≤ g i
theorem WbT.made {f : FuI} {n B : Nat} {O : Nat → Obj} {w0 w w' : World} {l : Nat → Bool} {g : Nat → Nat} {v : Value} {TH : List (List Int)} {bg : Bool} (h : WbI B O w0 w l g) (hB : B ≤ w.heap.size) (hn : n ≤ 140737488355328) (ho : OwLL w' w.heap.size v TH) (ht : ThI f n bg TH) : WbT f n B w' l g v :=
 ⟨TH, bg, w.heap.size, w'.heap.size, ht, hB, Nat.le_refl _, ho.rdP (Nat.le_trans ht.len.1 hn) (fun m hm => Nat.le_trans (ht.len.2 m hm) hn), fun i hi => .inl (heap_lt (h.at' i hi).2)⟩
theorem WbT.alloc {f : FuI} {n B : Nat} {w : World} {l : Nat → Bool} {g : Nat → Nat} {v : Value} (h : WbT f n B w l g v) (k : Nat) (o : Obj) : WbT f n B (w.alloc o) (fun i => if i = k then true else l i) (fun i => if i = k then w.heap.size else g i) v := by
 obtain ⟨TH, bg, T0, T1, h1, h2, h3, h4, h5⟩ := h
 refine ⟨TH, bg, T0, T1, h1, h2, by simp; omega, h4.below (keptX_ls _) ((Below.refl _ _).alloc (Nat.le_refl _) _), fun i hi => ?_⟩
 show (if i = k then w.heap.size else g i) < T0 ∨ T1 ≤ (if i = k then w.heap.size else g i)
 replace hi : (if i = k then true else l i) = true := hi
 by_cases e : i = k
 ·rw [if_pos e]
  exact .inr h3
 ·rw [if_neg e] at hi ⊢
  exact h5 i hi
def webO (n : Nat) (i : Nat) : Obj := if i = 3 then .cells (madeCells #[.int .i64 0] n) 3 (0, 0) else if i = 13 then .cells #[.slice none 0 0, .slice none 0 0, .slice none 0 0, .slice none 0 0, .slice none 0 0, .slice none 0 0] 45 (0, 0) else .cells (madeCells #[.slice none 0 0] n) 22 (0, 0)
def mkL (l1 l3 l5 l7 l11 l13 : Bool) (i : Nat) : Bool := if i = 1 then l1 else if i = 3 then l3 else if i = 5 then l5 else if i = 7 then l7 else if i = 11 then l11 else if i = 13 then l13 else false
theorem mkL_1 (l3 l5 l7 l11 l13 : Bool) : (fun i => if i = 1 then true else mkL false l3 l5 l7 l11 l13 i) = mkL true l3 l5 l7 l11 l13 := by
 funext i
 by_cases e : i = 1
 ·subst e; rfl
 ·simp [mkL, e]
theorem mkL_3 (l1 l5 l7 l11 l13 : Bool) : (fun i => if i = 3 then true else mkL l1 false l5 l7 l11 l13 i) = mkL l1 true l5 l7 l11 l13 := by
 funext i
 by_cases e : i = 3
 ·subst e; rfl
 ·simp [mkL, e]
theorem mkL_5 (l1 l3 l7 l11 l13 : Bool) : (fun i => if i = 5 then true else mkL l1 l3 false l7 l11 l13 i) = mkL l1 l3 true l7 l11 l13 := by
 funext i
 by_cases e : i = 5
 ·subst e; rfl
 ·simp [mkL, e]
theorem mkL_7 (l1 l3 l5 l11 l13 : Bool) : (fun i => if i = 7 then true else mkL l1 l3 l5 false l11 l13 i) = mkL l1 l3 l5 true l11 l13 := by
 funext i
 by_cases e : i = 7
 ·subst e; rfl
 ·simp [mkL, e]
theorem mkL_11 (l1 l3 l5 l7 l13 : Bool) : (fun i => if i = 11 then true else mkL l1 l3 l5 l7 false l13 i) = mkL l1 l3 l5 l7 true l13 := by
 funext i
 by_cases e : i = 11
 ·subst e; rfl
 ·simp [mkL, e]
theorem mkL_13 (l1 l3 l5 l7 l11 : Bool) : (fun i => if i = 13 then true else mkL l1 l3 l5 l7 l11 false i) = mkL l1 l3 l5 l7 l11 true := by
 funext i
 by_cases e : i = 13
 ·subst e; rfl
 ·simp [mkL, e]
theorem mkL_0 (i : Nat) : mkL false false false false false false i = false := by simp [mkL]
abbrev wbN (i : Nat) : Prop := i = 1 ∨ i = 3 ∨ i = 5 ∨ i = 7 ∨ i = 11
structure WbF (f : FuI) (n B : Nat) (w0 w : World) (g : Nat → Nat) (v : Value) : Prop where
 bel : Below B w0 w
 at' : ∀ i, wbN i → B ≤ g i ∧ w.heap[g i]? = some (webO n i)
 box : B ≤ g 13 ∧ w.heap[g 13]? = some (.cells #[.slice (some ⟨g 1, 0, none⟩) n n, .slice (some ⟨g 3, 0, none⟩) n n, .slice (some ⟨g 5, 0, none⟩) n n, .slice (some ⟨g 7, 0, none⟩) n n, v, .slice (some ⟨g 11, 0, none⟩) n n] 45 (0, 0))
 ne : ∀ i j, (wbN i ∨ i = 13) → (wbN j ∨ j = 13) → i ≠ j → g i ≠ g j
 thr : WbT f n B w (fun i => decide (wbN i ∨ i = 13)) g v
theorem six_set {w : World} {b : Nat} {z0 z1 z2 z3 z4 z5 : Value} {t : TypeId} {f : Nat × Nat} (h : w.heap[b]? = some (.cells #[z0, z1, z2, z3, z4, z5] t f)) (v0 v1 v2 v3 v4 v5 : Value) : ((((((w.setCell ⟨b, 0, none⟩ v0).setCell ⟨b, 1, none⟩ v1).setCell ⟨b, 2, none⟩ v2).setCell ⟨b, 3, none⟩ v3).setCell ⟨b, 4, none⟩ v4).setCell ⟨b, 5, none⟩ v5).heap[b]? = some (.cells #[v0, v1, v2, v3, v4, v5] t f) := by
 have := heap_set (i := 5) (heap_set (i := 4) (heap_set (i := 3) (heap_set (i := 2) (heap_set (i := 1) (heap_set (i := 0) h v0) v1) v2) v3) v4) v5
 simpa using this
theorem mkL_all (i : Nat) : mkL true true true true true true i = true ↔ wbN i ∨ i = 13 := by
 unfold mkL wbN
 by_cases h1 : i = 1
 ·simp [h1]
 by_cases h3 : i = 3
 ·simp [h3]
 by_cases h5 : i = 5
 ·simp [h5]
 by_cases h7 : i = 7
 ·simp [h7]
 by_cases h11 : i = 11
 ·simp [h11]
 by_cases h13 : i = 13
 ·simp [h13]
 simp [h1, h3, h5, h7, h11, h13]
theorem WbF.made {f : FuI} {n B : Nat} {w0 wq : World} {g : Nat → Nat} {v : Value} (hi : WbI B (webO n) w0 wq (mkL true true true true true true) g) (ht : WbT f n B wq (mkL true true true true true true) g v) (hB : B = w0.heap.size) : WbF f n B w0 ((((((wq.setCell ⟨g 13, 0, none⟩ (.slice (some ⟨g 1, 0, none⟩) n n)).setCell ⟨g 13, 1, none⟩ (.slice (some ⟨g 3, 0, none⟩) n n)).setCell ⟨g 13, 2, none⟩ (.slice (some ⟨g 5, 0, none⟩) n n)).setCell ⟨g 13, 3, none⟩ (.slice (some ⟨g 7, 0, none⟩) n n)).setCell ⟨g 13, 4, none⟩ v).setCell ⟨g 13, 5, none⟩ (.slice (some ⟨g 11, 0, none⟩) n n)) g v := by
 have hc := ((((((Ch.refl (fun b => b = g 13) wq).set (p := ⟨g 13, 0, none⟩) (fun _ => rfl) (.slice (some ⟨g 1, 0, none⟩) n n)).set (p := ⟨g 13, 1, none⟩) (fun _ => rfl) (.slice (some ⟨g 3, 0, none⟩) n n)).set (p := ⟨g 13, 2, none⟩) (fun _ => rfl) (.slice (some ⟨g 5, 0, none⟩) n n)).set (p := ⟨g 13, 3, none⟩) (fun _ => rfl) (.slice (some ⟨g 7, 0, none⟩) n n)).set (p := ⟨g 13, 4, none⟩) (fun _ => rfl) v).set (p := ⟨g 13, 5, none⟩) (fun _ => rfl) (.slice (some ⟨g 11, 0, none⟩) n n)
 have h13 := hi.at' 13 rfl
 refine ⟨hi.bel.trans (hc.to (by rw [hB]; exact hi.bel.size) (fun b e => by rw [e]; exact h13.1)), fun i h => ?_, ⟨h13.1, ?_⟩, fun i j h1 h2 hij => hi.ne i j ((mkL_all i).2 h1) ((mkL_all j).2 h2) hij, ?_⟩
 ·have h1 := hi.at' i ((mkL_all i).2 (.inl h))
  refine ⟨h1.1, hc.keep h1.2 (hi.ne i 13 ((mkL_all i).2 (.inl h)) rfl (fun e => by subst e; rcases h with h | h | h | h | h <;> cases h))⟩
 ·exact six_set h13.2 _ _ _ _ _ _
 ·obtain ⟨TH, bg, T0, T1, h1, h2, h3, h4, h5⟩ := ht
  refine ⟨TH, bg, T0, T1, h1, h2, Nat.le_trans h3 hc.size, h4.ch (keptX_ls _) hc (fun b hb e => ?_), fun i hi => h5 i ((mkL_all i).2 (of_decide_eq_true hi))⟩
  have h6 := h5 13 rfl
  omega
theorem WbF.open {f : FuI} {n B : Nat} {w0 w : World} {g : Nat → Nat} {v : Value} (h : WbF f n B w0 w g v) : ∃ (TH : List (List Int)) (bg : Bool) (A9 : Option Addr) (c9 : Nat), v = .slice A9 TH.length c9 ∧ Hid (ThI f n bg TH) ∧ Hid (RdX (fun b => b < w.heap.size ∧ b ≠ g 1 ∧ b ≠ g 3 ∧ b ≠ g 5 ∧ b ≠ g 7 ∧ b ≠ g 11 ∧ B ≤ b) 1 (LsE fun b => b < w.heap.size ∧ b ≠ g 1 ∧ b ≠ g 3 ∧ b ≠ g 5 ∧ b ≠ g 7 ∧ b ≠ g 11 ∧ B ≤ b) w v TH) := by
 obtain ⟨TH, bg, T0, T1, h1, h2, h3, h4, h5⟩ := h.thr
 obtain ⟨A, c, h6⟩ := h4.shape
 have key : ∀ b, (T0 ≤ b ∧ b < T1) → b < w.heap.size ∧ b ≠ g 1 ∧ b ≠ g 3 ∧ b ≠ g 5 ∧ b ≠ g 7 ∧ b ≠ g 11 ∧ B ≤ b := fun b hb => by
  have e1 := h5 1 (by decide)
  have e3 := h5 3 (by decide)
  have e5 := h5 5 (by decide)
  have e7 := h5 7 (by decide)
  have e11 := h5 11 (by decide)
  omega
 exact ⟨TH, bg, A, c, h6, lhid h1, lhid (h4.mono (fun a c hc => by obtain ⟨u, e, hu⟩ := hc; exact ⟨u, e, hu.any key⟩) (fun b hb _ => key b hb) ls_ne)⟩
theorem WbF.webI {f : FuI} {n B : Nat} {w0 w : World} {g : Nat → Nat} {v : Value} (h : WbF f n B w0 w g v) : Below B w0 w ∧ w.heap[g 13]? = some (.cells #[.slice (some ⟨g 1, 0, none⟩) n n, .slice (some ⟨g 3, 0, none⟩) n n, .slice (some ⟨g 5, 0, none⟩) n n, .slice (some ⟨g 7, 0, none⟩) n n, v, .slice (some ⟨g 11, 0, none⟩) n n] 45 (0, 0)) ∧ w.heap[g 11]? = some (.cells (madeCells #[.slice none 0 0] n) 22 (0, 0)) ∧ (B ≤ g 1 ∧ B ≤ g 3 ∧ B ≤ g 5 ∧ B ≤ g 7 ∧ B ≤ g 11 ∧ B ≤ g 13) ∧ (g 13 ≠ g 1 ∧ g 13 ≠ g 3 ∧ g 13 ≠ g 5 ∧ g 13 ≠ g 7 ∧ g 13 ≠ g 11) ∧ (g 11 ≠ g 1 ∧ g 11 ≠ g 3 ∧ g 11 ≠ g 5 ∧ g 11 ≠ g 7) :=
 ⟨h.bel, h.box.2, (h.at' 11 (by decide)).2, ⟨(h.at' 1 (by decide)).1, (h.at' 3 (by decide)).1, (h.at' 5 (by decide)).1, (h.at' 7 (by decide)).1, (h.at' 11 (by decide)).1, h.box.1⟩, ⟨h.ne 13 1 (by decide) (by decide) (by decide), h.ne 13 3 (by decide) (by decide) (by decide), h.ne 13 5 (by decide) (by decide) (by decide), h.ne 13 7 (by decide) (by decide) (by decide), h.ne 13 11 (by decide) (by decide) (by decide)⟩, ⟨h.ne 11 1 (by decide) (by decide) (by decide), h.ne 11 3 (by decide) (by decide) (by decide), h.ne 11 5 (by decide) (by decide) (by decide), h.ne 11 7 (by decide) (by decide) (by decide)⟩⟩
theorem WbF.wn {f : FuI} {n B : Nat} {w0 w : World} {g : Nat → Nat} {v : Value} (h : WbF f n B w0 w g v) : WN w.heap.size (g 1) (g 3) (g 5) (g 7) :=
 ⟨⟨heap_lt (h.at' 1 (by decide)).2, heap_lt (h.at' 3 (by decide)).2, heap_lt (h.at' 5 (by decide)).2, heap_lt (h.at' 7 (by decide)).2⟩, h.ne 1 3 (by decide) (by decide) (by decide), h.ne 1 5 (by decide) (by decide) (by decide), h.ne 1 7 (by decide) (by decide) (by decide), h.ne 3 5 (by decide) (by decide) (by decide), h.ne 3 7 (by decide) (by decide) (by decide), h.ne 5 7 (by decide) (by decide) (by decide)⟩
theorem WbF.w1 {f : FuI} {n B : Nat} {w0 w : World} {g : Nat → Nat} {v : Value} (h : WbF f n B w0 w g v) : W1 f n w.heap.size w w (g 1) (g 3) (g 5) (g 7) 0 0 0 (List.replicate n []) :=
 ⟨Ch.refl _ _, LR.made (h.at' 1 (by decide)).2, LR.made (h.at' 5 (by decide)).2, NumB.made (h.at' 3 (by decide)).2, LL.made (h.at' 7 (by decide)).2⟩
theorem sizeWebL : (Try.prog.info? 45).map (·.size) = some 6 := by kernel_rfl
def WebOut (f : FuI) (n : Nat) (w : World) (e : Ending) (w' : World) : Prop := ∃ (UA DA NA PA TA CA : Option Addr) (uc dc nc pc tc cc : Nat) (Ps Th Cs : List (List Int)) (bg : Bool), e = .returned (.agg #[.slice UA n uc, .slice DA n dc, .slice NA n nc, .slice PA n pc, .slice TA Th.length tc, .slice CA n cc]) ∧ RdX Tru 1 (LsE Tru) w' (.slice UA n uc) ((List.range n).map (usesAt f)) ∧ RdX Tru 1 NuE w' (.slice DA n dc) ((List.range n).map (defAt f)) ∧ RdX Tru 1 (LsE Tru) w' (.slice NA n nc) ((List.range n).map fun i => nextL f (i : Nat)) ∧ RdX Tru 1 (LsE Tru) w' (.slice PA n pc) Ps ∧ RdX Tru 1 (LsE Tru) w' (.slice TA Th.length tc) Th ∧ RdX Tru 1 (LsE Tru) w' (.slice CA n cc) Cs ∧ PrS f n n [] Ps ∧ ThI f n bg Th ∧ CsS f n Th Th.length [] Cs ∧ Below w.heap.size w w'
set_option maxHeartbeats 16000000 in
set_option maxRecDepth 100000 in
theorem webOf_l {P : Nat → Prop} (f : FuI) (n : Nat) (hn : f.code.length = n) (fa fb fd fe : Value) (w : World) (h : Hid (FuV P w f fa fb fd fe)) (hcl : Hid ((f.code.length + 1) * 1024 ≤ 140737488355328)) (hrow : Hid (∀ r ∈ f.rows, (0 ≤ r.fr ∧ r.fr ≤ n) ∧ (0 ≤ r.too ∧ r.too ≤ n))) (hI : Hid (∀ x ∈ f.code, I64 (defI x) ∧ (∀ u ∈ usesI x, I64 u) ∧ x.args.length * 8 ≤ 140737488355328 ∧ (usesI x).length * 8 ≤ 140737488355328)) (hrn : Hid (RwN f.rows)) (hrl : Hid (f.rows.length * 8 ≤ 140737488355328)) (hnx : Hid (∀ k : Nat, k < n → ∀ z ∈ nextL f k, ∃ j : Nat, z = j ∧ j < n)) (hct : Hid (∀ (k : Int), ∀ z ∈ caughtL f k, ∃ j : Nat, z = j ∧ j < n)) :
  Calls Try.prog 23 #[fuL fa fb f.ret fd fe] w fun e w' => WebOut f n w e w' := by
 obtain ⟨FA, ac, hFA⟩ := h.out.a.shape
 subst hFA
 obtain ⟨FB, bc, hFB⟩ := h.out.b.shape
 subst hFB
 obtain ⟨D, dcap, hD⟩ := h.out.d.shape
 subst hD
 obtain ⟨E, ecap, hE⟩ := h.out.e.shape
 subst hE
 have HN := lhid hn
 have hcl2 := hcl.out
 have hf2 := h.out
 have hel := h.out.e.len
 have HNB8 : Hid (n * 8 ≤ 140737488355328) := lhid (by rw [← hn]; omega)
 have HNB : Hid (n ≤ 140737488355328) := lhid (by rw [← hn]; omega)
 rw [hn] at hcl2 hf2 ⊢
 have HFU := lhid hf2
 clear hn hf2 h
 go_enter Try.func23, Try.ntmps23
 go_upto_region 2 with fail
 generalize hW : World.alloc _ _ = w2
 obtain ⟨B0, hB0⟩ : ∃ B0, B0 = w.heap.size := ⟨_, rfl⟩
 obtain ⟨w1, hw1e⟩ : ∃ w1, w1 = w.alloc (.cells #[.slice FA f.regs.length ac, .slice FB f.params.length bc, .int .i64 f.ret, .slice D n dcap, .slice E f.rows.length ecap] 26) := ⟨_, rfl⟩
 rw [← hw1e] at hW
 have hb1 : Below w.heap.size w w1 := by rw [hw1e]; exact (Below.refl _ _).alloc (Nat.le_refl _) _
 have hF1 : FBox w1 B0 (.slice FA f.regs.length ac) (.slice FB f.params.length bc) f.ret (.slice D n dcap) (.slice E f.rows.length ecap) := by rw [hw1e, hB0]; exact heap_alloc_new w _
 have hs1 : w1.heap.size = B0 + 1 := by rw [hw1e, hB0]; simp
 have hb2 : Below w1.heap.size w1 w2 := by rw [← hW]; exact (Below.refl _ _).alloc (Nat.le_refl _) _
 rw [show w.heap.size + 1 = B0 + 1 by rw [hB0]]
 rw [← hB0]
 have HB0 := lhid hB0
 have HF2 : Hid (FBox w2 B0 (.slice FA f.regs.length ac) (.slice FB f.params.length bc) f.ret (.slice D n dcap) (.slice E f.rows.length ecap)) := lhid (heap_keep hF1 hb2)
 have HBW := lhid (hb1.trans (hb2.mono hb1.size))
 have HS2 : Hid (w2.heap.size = B0 + 2) := lhid (by rw [← hW]; simp [hs1])
 have HR2 : Hid (w2.heap[B0 + 1]? = some (webO n 13)) := lhid (by rw [← hW, ← hs1]; exact heap_alloc_new w1 _)
 clear hW hw1e hb1 hF1 hs1 hb2 hB0
 refine wp_region_any (by kernel_rfl) ?_
 try (change wpAny _ _ _ _ _ _ _ (World.drew _))
 refine wpAny_take (i := 0) (v := ?v0_1) rfl (by kernel_rfl) (by kernel_rfl) (by kernel_rfl) (fun _ _ _ h => h) (Or.inl ⟨by rfl, ?hy0_1⟩) ?rest0_1
 case hy0_1 => intro w; (first | (go_simp; done) | (go_simp; with_reducible rfl))
 simp only [List.getElem_toArray, List.getElem_cons_zero, List.getElem_cons_succ]
 simp only [Act.put, List.setIfInBounds_toArray, List.set_cons_zero, List.set_cons_succ]
 refine wpAny_take (i := 2) (v := ?v2_2) rfl (by kernel_rfl) (by kernel_rfl) (by kernel_rfl) (fun _ _ _ h => h) (Or.inl ⟨by rfl, ?hy2_2⟩) ?rest2_2
 case hy2_2 => intro w; (first | (go_simp; done) | (go_simp; with_reducible rfl))
 simp only [List.getElem_toArray, List.getElem_cons_zero, List.getElem_cons_succ]
 simp only [Act.put, List.setIfInBounds_toArray, List.set_cons_zero, List.set_cons_succ]
 refine wpAny_take (i := 4) (v := ?v4_3) rfl (by kernel_rfl) (by kernel_rfl) (by kernel_rfl) (fun _ _ _ h => h) (Or.inl ⟨by rfl, ?hy4_3⟩) ?rest4_3
 case hy4_3 => intro w; (first | (go_simp; done) | (go_simp; with_reducible rfl))
 simp only [List.getElem_toArray, List.getElem_cons_zero, List.getElem_cons_succ]
 simp only [Act.put, List.setIfInBounds_toArray, List.set_cons_zero, List.set_cons_succ]
 refine wpAny_take (i := 6) (v := ?v6_4) rfl (by kernel_rfl) (by kernel_rfl) (by kernel_rfl) (fun _ _ _ h => h) (Or.inl ⟨by rfl, ?hy6_4⟩) ?rest6_4
 case hy6_4 => intro w; (first | (go_simp; done) | (go_simp; with_reducible rfl))
 simp only [List.getElem_toArray, List.getElem_cons_zero, List.getElem_cons_succ]
 simp only [Act.put, List.setIfInBounds_toArray, List.set_cons_zero, List.set_cons_succ]
 refine wpAny_take (i := 10) (v := ?v10_5) rfl (by kernel_rfl) (by kernel_rfl) (by kernel_rfl) (fun _ _ _ h => h) (Or.inl ⟨by rfl, ?hy10_5⟩) ?rest10_5
 case hy10_5 => intro w; (first | (go_simp; done) | (go_simp; with_reducible rfl))
 simp only [List.getElem_toArray, List.getElem_cons_zero, List.getElem_cons_succ]
 simp only [Act.put, List.setIfInBounds_toArray, List.set_cons_zero, List.set_cons_succ]
 change wpAny _ _ _ _ 10 #[true, false, true, false, true, false, true, false, false, false, true, false, false, false, false] _ _
 obtain ⟨wz, hwz⟩ : ∃ wz, wz = w2.drew := ⟨_, rfl⟩
 rw [← hwz]
 have hbz : Below w2.heap.size w2 wz := by rw [hwz]; exact Below.drew' (Below.refl _ _)
 have HFK : Hid (∀ w' : World, Below (B0 + 2) w2 w' → FBox w' B0 (.slice FA f.regs.length ac) (.slice FB f.params.length bc) f.ret (.slice D n dcap) (.slice E f.rows.length ecap) ∧ B0 + 2 ≤ w'.heap.size) := lhid (fun w' hb => ⟨heap_keep HF2.out (by rw [HS2.out]; exact hb), by have := hb.size; have := HS2.out; omega⟩)
 have HI0 : Hid (WbI (B0 + 2) (webO n) w2 wz (mkL false false false false false false) (fun _ => 0)) := lhid ((WbI.begin _ _ _ mkL_0).more hbz (by rw [HS2.out]; exact Nat.le_refl _))
 have hmk1 : ∀ w : World, (Instr.makeSlice 43 (.int .i64 (n : Int)) (.int .i64 (n : Int))).run Try.prog w = .ok (.slice (some ⟨w.heap.size, 0, none⟩) n n) (w.alloc (.cells (madeCells #[.slice none 0 0] n) 22)) := fun w => make_lists n (by omega) w
 have hmk2 : ∀ w : World, (Instr.makeSlice 22 (.int .i64 (n : Int)) (.int .i64 (n : Int))).run Try.prog w = .ok (.slice (some ⟨w.heap.size, 0, none⟩) n n) (w.alloc (.cells (madeCells #[.int .i64 0] n) 3)) := fun w => make_ints n (by omega) w
 have HTC : Hid ((f.code.length + 1) * 1024 ≤ 140737488355328) := hcl
 clear hwz hbz
 refine wpAny_inv (fun listed a wq => ∃ (l1 l3 l5 l7 l8 l9 l11 l12 l13 : Bool) (g : Nat → Nat) (v9 : Value), (listed = #[true, l1, true, l3, true, l5, true, l7, l8, l9, true, l11, l12, l13, false] ∧ a = { tmps := #[fuL (.slice FA f.regs.length ac) (.slice FB f.params.length bc) f.ret (.slice D n dcap) (.slice E f.rows.length ecap), .pointer (some ⟨B0, 0, none⟩), .pointer (some ⟨B0 + 1, 0, none⟩), .int .i64 (n : Int), bif l13 then (.pointer (some ⟨g 13, 0, none⟩)) else undef, undef, undef, undef, undef, undef, undef, undef, undef, .pointer (some ⟨B0, 3, none⟩), .slice D n dcap, .int .i64 (n : Int), .int .i64 (n : Int), bif l1 then (.slice (some ⟨g 1, 0, none⟩) n n) else undef, .int .i64 (n : Int), bif l3 then (.slice (some ⟨g 3, 0, none⟩) n n) else undef, .int .i64 (n : Int), bif l5 then (.slice (some ⟨g 5, 0, none⟩) n n) else undef, .int .i64 (n : Int), bif l7 then (.slice (some ⟨g 7, 0, none⟩) n n) else undef, bif l8 then (.agg #[.slice FA f.regs.length ac, .slice FB f.params.length bc, .int .i64 f.ret, .slice D n dcap, .slice E f.rows.length ecap]) else undef, bif l9 then v9 else undef, .int .i64 (n : Int), bif l11 then (.slice (some ⟨g 11, 0, none⟩) n n) else undef, bif l12 then (.agg #[(.slice (some ⟨g 1, 0, none⟩) n n), (.slice (some ⟨g 3, 0, none⟩) n n), (.slice (some ⟨g 5, 0, none⟩) n n), (.slice (some ⟨g 7, 0, none⟩) n n), v9, (.slice (some ⟨g 11, 0, none⟩) n n)]) else undef, undef, undef, undef, undef, undef, undef, undef, undef, undef, undef, undef, undef, undef, undef, undef, undef, undef, undef, undef, undef, undef, undef, undef, undef, undef, undef, undef, undef, undef, undef, undef, undef, undef, undef, undef, undef, undef, undef, undef, undef, undef, undef, undef, undef, undef, undef, undef, undef, undef, undef, undef, undef, undef, undef, undef, undef, undef, undef, undef, undef, undef, undef, undef, undef, undef, undef, undef, undef, undef, undef, undef, undef, undef, undef, undef, undef, undef, undef, undef, undef, undef, undef, undef, undef], defers := [] } ∧ Hid ((l9 = true → l8 = true) ∧ (l12 = true → l1 = true ∧ l3 = true ∧ l5 = true ∧ l7 = true ∧ l9 = true ∧ l11 = true)) ∧ Hid (WbI (B0 + 2) (webO n) w2 wq (mkL l1 l3 l5 l7 l11 l13) g) ∧ Hid (l9 = true → WbT f n (B0 + 2) wq (mkL l1 l3 l5 l7 l11 l13) g v9)) ∨ (listed = #[true, true, true, true, true, true, true, true, true, true, true, true, true, true, true] ∧ a = { tmps := #[fuL (.slice FA f.regs.length ac) (.slice FB f.params.length bc) f.ret (.slice D n dcap) (.slice E f.rows.length ecap), .pointer (some ⟨B0, 0, none⟩), .pointer (some ⟨B0 + 1, 0, none⟩), .int .i64 (n : Int), (.pointer (some ⟨g 13, 0, none⟩)), undef, undef, undef, undef, undef, undef, undef, undef, .pointer (some ⟨B0, 3, none⟩), .slice D n dcap, .int .i64 (n : Int), .int .i64 (n : Int), (.slice (some ⟨g 1, 0, none⟩) n n), .int .i64 (n : Int), (.slice (some ⟨g 3, 0, none⟩) n n), .int .i64 (n : Int), (.slice (some ⟨g 5, 0, none⟩) n n), .int .i64 (n : Int), (.slice (some ⟨g 7, 0, none⟩) n n), (.agg #[.slice FA f.regs.length ac, .slice FB f.params.length bc, .int .i64 f.ret, .slice D n dcap, .slice E f.rows.length ecap]), v9, .int .i64 (n : Int), (.slice (some ⟨g 11, 0, none⟩) n n), (.agg #[(.slice (some ⟨g 1, 0, none⟩) n n), (.slice (some ⟨g 3, 0, none⟩) n n), (.slice (some ⟨g 5, 0, none⟩) n n), (.slice (some ⟨g 7, 0, none⟩) n n), v9, (.slice (some ⟨g 11, 0, none⟩) n n)]), undef, undef, undef, undef, undef, undef, undef, undef, undef, undef, undef, undef, undef, undef, undef, undef, undef, undef, undef, undef, undef, undef, undef, undef, undef, undef, undef, undef, undef, undef, undef, undef, undef, undef, undef, undef, undef, undef, undef, undef, undef, undef, undef, undef, undef, undef, undef, undef, undef, undef, undef, undef, undef, undef, undef, undef, undef, undef, undef, undef, undef, undef, undef, undef, undef, undef, undef, undef, undef, undef, undef, undef, undef, undef, undef, undef, undef, undef, undef, undef, undef, undef, undef, undef], defers := [] } ∧ Hid (WbF f n (B0 + 2) w2 wq g v9))) ?hstep ?hend 10 _ _ _ rfl (by decide) ⟨false, false, false, false, false, false, false, false, false, fun _ => 0, undef, .inl ⟨rfl, rfl, lhid ⟨fun h => h, fun h => (by cases h)⟩, HI0, lhid (fun h => (by cases h))⟩⟩
 case hend =>
  rintro listed a wq hs hr ⟨l1, l3, l5, l7, l8, l9, l11, l12, l13, g, v9, ⟨rfl, rfl, HP, HI, HT⟩ | ⟨rfl, rfl, HF⟩⟩
  ·exfalso
   have nr : ∀ j, j ∉ Region.ready .any _ #[true, l1, true, l3, true, l5, true, l7, l8, l9, true, l11, l12, l13, false] := fun j hj => by rw [hr] at hj; cases hj
   clear hr HI HT HP
   have e1 : l1 = true := by cases l1 with
    | true => rfl
    | false => exact absurd (mem_ready.2 ⟨rfl, _, rfl, by simp⟩) (nr 1)
   subst e1
   have e3 : l3 = true := by cases l3 with
    | true => rfl
    | false => exact absurd (mem_ready.2 ⟨rfl, _, rfl, by simp⟩) (nr 3)
   subst e3
   have e5 : l5 = true := by cases l5 with
    | true => rfl
    | false => exact absurd (mem_ready.2 ⟨rfl, _, rfl, by simp⟩) (nr 5)
   subst e5
   have e7 : l7 = true := by cases l7 with
    | true => rfl
    | false => exact absurd (mem_ready.2 ⟨rfl, _, rfl, by simp⟩) (nr 7)
   subst e7
   have e8 : l8 = true := by cases l8 with
    | true => rfl
    | false => exact absurd (mem_ready.2 ⟨rfl, _, rfl, by simp⟩) (nr 8)
   subst e8
   have e9 : l9 = true := by cases l9 with
    | true => rfl
    | false => exact absurd (mem_ready.2 ⟨rfl, _, rfl, by simp⟩) (nr 9)
   subst e9
   have e11 : l11 = true := by cases l11 with
    | true => rfl
    | false => exact absurd (mem_ready.2 ⟨rfl, _, rfl, by simp⟩) (nr 11)
   subst e11
   have e13 : l13 = true := by cases l13 with
    | true => rfl
    | false => exact absurd (mem_ready.2 ⟨rfl, _, rfl, by simp⟩) (nr 13)
   subst e13
   have e12 : l12 = true := by cases l12 with
    | true => rfl
    | false => exact absurd (mem_ready.2 ⟨rfl, _, rfl, by simp⟩) (nr 12)
   subst e12
   exact absurd (mem_ready.2 ⟨rfl, _, rfl, by simp [Region.binds]⟩) (nr 14)
  ·obtain ⟨TH, bg, A9, c9, hv9, hTI, hTR⟩ : ∃ (TH : List (List Int)) (bg : Bool) (A9 : Option Addr) (c9 : Nat), v9 = .slice A9 TH.length c9 ∧ Hid (ThI f n bg TH) ∧ Hid (RdX (fun b => b < wq.heap.size ∧ b ≠ g 1 ∧ b ≠ g 3 ∧ b ≠ g 5 ∧ b ≠ g 7 ∧ b ≠ g 11 ∧ B0 + 2 ≤ b) 1 (LsE fun b => b < wq.heap.size ∧ b ≠ g 1 ∧ b ≠ g 3 ∧ b ≠ g 5 ∧ b ≠ g 7 ∧ b ≠ g 11 ∧ B0 + 2 ≤ b) wq v9 TH) := HF.out.open
   subst hv9
   have HWB := lhid HF.out.webI
   have HW1 := lhid HF.out.w1
   have HWN := lhid HF.out.wn
   clear HF
   generalize g 1 = gu at HWB HW1 HWN hTR ⊢
   generalize g 3 = gd at HWB HW1 HWN hTR ⊢
   generalize g 5 = gn at HWB HW1 HWN hTR ⊢
   generalize g 7 = gp at HWB HW1 HWN hTR ⊢
   generalize g 11 = gc at HWB HW1 HWN hTR ⊢
   generalize g 13 = gb at HWB HW1 HWN hTR ⊢
   obtain ⟨C, hC⟩ : ∃ C, C = wq.heap.size := ⟨_, rfl⟩
   rw [← hC] at HW1 HWN hTR
   have HC := lhid hC
   have HSQ : Hid (B0 + 2 ≤ wq.heap.size) := lhid (HFK.out _ HWB.out.1).2
   have HFQ : Hid (FBox wq B0 (.slice FA f.regs.length ac) (.slice FB f.params.length bc) f.ret (.slice D n dcap) (.slice E f.rows.length ecap)) := lhid (HFK.out _ HWB.out.1).1
   have HBQ : Hid (Below w.heap.size w wq) := lhid (HBW.out.trans (HWB.out.1.mono (by have := HB0.out; omega)))
   have HGB : Hid (gb < wq.heap.size ∧ gc < wq.heap.size) := lhid ⟨heap_lt HWB.out.2.1, heap_lt HWB.out.2.2.1⟩
   obtain ⟨p0, p1, p2, p3, p4⟩ := HFQ.out.cells
   clear hC hs hr
   go_wp2_with fail
   clear p0 p1 p2 p3 p4
   have HP0 := lhid (PrS.begin f n)
   go_loopg [32] n (fun gg s wr => ∃ (k : Nat) (PR : List (List Int)), gg = n - k ∧ s = .int .i64 k ∧ k ≤ n ∧ Hid (W1 f n C wq wr gu gd gn gp k k k PR) ∧ Hid (PrS f n k [] PR))
   case atStart => exact ⟨0, _, rfl, rfl, Nat.zero_le _, HW1, HP0⟩
   case round =>
    clear HP0 HW1
    obtain ⟨k, PR, rfl, rfl, hk, HW, HPR⟩ := hrel
    by_cases hlt : k < n
    ·have HMK : Hid (n - (k + 1) < n - k) := lhid (Nat.sub_lt_sub_left hlt (Nat.lt_succ_self k))
     have k3 : (k : Int) < n := by omega
     have hwk : wrap64 ((k : Int) + 1) = ((k + 1 : Nat) : Int) := by rw [IntWalk.wrap64_in _ (by omega)]; omega
     obtain ⟨x, hx⟩ : ∃ x, f.code[k]? = some x := ⟨_, List.getElem?_eq_getElem (by have := HN.out; omega)⟩
     have hsz : wq.heap.size ≤ wr.heap.size := HW.out.ch.size
     have hBq : Below w.heap.size w wr := HBQ.out.trans (HW.out.ch.to HBQ.out.size (fun b e => by have h1 := HWB.out.2.2.2; have h2 := HS2.out; have h3 := HB0.out; rcases e with e | e | e | e <;> omega))
     obtain ⟨gi, o, v, hD, _, hva, c0, c1, c2, c3, c4, c5, c6, c7, c8⟩ := in_cells (HFU.out.below hBq).d hx
     subst hD
     obtain ⟨VA, vc, hv0⟩ := hva.shape
     subst hv0
     have hgi : gi < wr.heap.size := cell_lt c0
     have HX := lhid hx
     have HBR := lhid hBq
     have HVA := lhid hva
     have HVL := lhid hva.len
     clear hx hva hBq
     go_upto_region 6 with fail
     generalize hW : World.alloc _ _ = w3
     obtain ⟨xb, hxb⟩ : ∃ xb, xb = wr.heap.size := ⟨_, rfl⟩
     rw [← hxb]
     have hb3 : Below wr.heap.size wr w3 := by rw [← hW]; exact (Below.refl _ _).alloc (Nat.le_refl _) _
     have HXB : Hid (w3.heap[xb]? = some (.cells #[.int .i64 x.op, .int .i64 x.dst, .int .i64 x.a, .int .i64 x.b, .int .i64 x.c, .int .i64 x.num, .int .i64 x.too, .string (tx x.ref), .slice VA x.args.length vc] 35 (0, 0))) := lhid (by rw [← hW, hxb]; exact heap_alloc_new wr _)
     have HW3 := lhid (HW.out.below hb3)
     have HBR3 : Hid (Below w.heap.size w w3) := lhid (HBR.out.trans (hb3.mono (by have := HBR.out.size; omega)))
     have HGB3 : Hid (w3.heap[gb]? = some (.cells #[.slice (some ⟨gu, 0, none⟩) n n, .slice (some ⟨gd, 0, none⟩) n n, .slice (some ⟨gn, 0, none⟩) n n, .slice (some ⟨gp, 0, none⟩) n n, .slice A9 TH.length c9, .slice (some ⟨gc, 0, none⟩) n n] 45 (0, 0))) := lhid (heap_keep (HW.out.ch.keep HWB.out.2.1 (fun e => by have h1 := HWB.out.2.2.2.2.1; omega)) hb3)
     have HF3 : Hid (FBox w3 B0 (.slice FA f.regs.length ac) (.slice FB f.params.length bc) f.ret (.slice (some ⟨gi, o, none⟩) n dcap) (.slice E f.rows.length ecap)) := lhid (heap_keep (HW.out.ch.keep HFQ.out (fun e => by have h1 := HWB.out.2.2.2.1; omega)) hb3)
     have HXN : Hid (C ≤ xb ∧ gu < C ∧ gd < C ∧ gn < C ∧ gp < C) := lhid (by have h1 := HC.out; have h2 := HWN.out.lt; omega)
     have HVA3 := lhid (HVA.out.below (keptX_nu _) hb3)
     clear hW hxb hb3 c0 c1 c2 c3 c4 c5 c6 c7 c8 hgi hsz HW HBR HVA
     obtain ⟨wz, hwz⟩ : ∃ wz, wz = w3.drew := ⟨_, rfl⟩
     have hbz : Below w3.heap.size w3 wz := by rw [hwz]; exact Below.drew' (Below.refl _ _)
     have HWz := lhid (HW3.out.below hbz)
     have HXz : Hid (wz.heap[xb]? = some (.cells #[.int .i64 x.op, .int .i64 x.dst, .int .i64 x.a, .int .i64 x.b, .int .i64 x.c, .int .i64 x.num, .int .i64 x.too, .string (tx x.ref), .slice VA x.args.length vc] 35 (0, 0))) := lhid (heap_keep HXB.out hbz)
     have HGz : Hid (wz.heap[gb]? = some (.cells #[.slice (some ⟨gu, 0, none⟩) n n, .slice (some ⟨gd, 0, none⟩) n n, .slice (some ⟨gn, 0, none⟩) n n, .slice (some ⟨gp, 0, none⟩) n n, .slice A9 TH.length c9, .slice (some ⟨gc, 0, none⟩) n n] 45 (0, 0))) := lhid (heap_keep HGB3.out hbz)
     have HFz : Hid (FBox wz B0 (.slice FA f.regs.length ac) (.slice FB f.params.length bc) f.ret (.slice (some ⟨gi, o, none⟩) n dcap) (.slice E f.rows.length ecap)) := lhid (heap_keep HF3.out hbz)
     have HVz := lhid (HVA3.out.below (keptX_nu _) hbz)
     have HBz : Hid (Below w.heap.size w wz) := lhid (HBR3.out.trans (hbz.mono (by have := HBR3.out.size; omega)))
     have HCELL : Hid (∀ w' : World, (w'.heap[xb]? = wz.heap[xb]? ∧ w'.heap[gb]? = wz.heap[gb]? ∧ w'.heap[B0]? = wz.heap[B0]?) → w'.cell? ⟨xb, 0, none⟩ = some (.int .i64 x.op) ∧ w'.cell? ⟨xb, 1, none⟩ = some (.int .i64 x.dst) ∧ w'.cell? ⟨xb, 2, none⟩ = some (.int .i64 x.a) ∧ w'.cell? ⟨xb, 3, none⟩ = some (.int .i64 x.b) ∧ w'.cell? ⟨xb, 4, none⟩ = some (.int .i64 x.c) ∧ w'.cell? ⟨xb, 5, none⟩ = some (.int .i64 x.num) ∧ w'.cell? ⟨xb, 6, none⟩ = some (.int .i64 x.too) ∧ w'.cell? ⟨xb, 7, none⟩ = some (.string (tx x.ref)) ∧ w'.cell? ⟨xb, 8, none⟩ = some (.slice VA x.args.length vc) ∧ w'.cell? ⟨gb, 0, none⟩ = some (.slice (some ⟨gu, 0, none⟩) n n) ∧ w'.cell? ⟨gb, 1, none⟩ = some (.slice (some ⟨gd, 0, none⟩) n n) ∧ w'.cell? ⟨gb, 2, none⟩ = some (.slice (some ⟨gn, 0, none⟩) n n) ∧ w'.cell? ⟨B0, 0, none⟩ = some (.slice FA f.regs.length ac) ∧ w'.cell? ⟨B0, 1, none⟩ = some (.slice FB f.params.length bc) ∧ w'.cell? ⟨B0, 2, none⟩ = some (.int .i64 f.ret) ∧ w'.cell? ⟨B0, 3, none⟩ = some (.slice (some ⟨gi, o, none⟩) n dcap) ∧ w'.cell? ⟨B0, 4, none⟩ = some (.slice E f.rows.length ecap)) := lhid (fun w' hw' => by
      have h1 := hw'.1.trans HXz.out
      have h2 := hw'.2.1.trans HGz.out
      have h3 := hw'.2.2.trans HFz.out
      exact ⟨heap_cell h1 rfl, heap_cell h1 rfl, heap_cell h1 rfl, heap_cell h1 rfl, heap_cell h1 rfl, heap_cell h1 rfl, heap_cell h1 rfl, heap_cell h1 rfl, heap_cell h1 rfl, heap_cell h2 rfl, heap_cell h2 rfl, heap_cell h2 rfl, heap_cell h3 rfl, heap_cell h3 rfl, heap_cell h3 rfl, heap_cell h3 rfl, heap_cell h3 rfl⟩)
     refine wp_region_held_drew (S := fun w' => w'.heap[xb]? = wz.heap[xb]? ∧ w'.heap[gb]? = wz.heap[gb]? ∧ w'.heap[B0]? = wz.heap[B0]?) (by kernel_rfl) (by rw [hwz]; exact ⟨rfl, rfl, rfl⟩) ?_
     intro hS0
     rw [← hwz] at hS0 ⊢
     clear hwz hbz HW3 HXB HGB3 HF3 HVA3 HBR3
     refine wpAnyH_take (i := 0) (v := ?tv501) rfl (by kernel_rfl) (by kernel_rfl) (by kernel_rfl) (fun _ _ _ h => h) (Or.inl ⟨by rfl, ?ty501⟩) hS0 ?tr501
     case ty501 => (intro w' hw'; obtain ⟨a0, a1, a2, a3, a4, a5, a6, a7, a8, b0, b1, b2, p0, p1, p2, p3, p4⟩ := HCELL.out w' hw'; go_simp; try with_reducible rfl)
     try simp only [List.getElem_toArray, List.getElem_cons_zero, List.getElem_cons_succ]
     try simp only [Act.put, List.setIfInBounds_toArray, List.set_cons_zero, List.set_cons_succ]
     refine wpAnyH_take (i := 1) (v := ?tv502) rfl (by kernel_rfl) (by kernel_rfl) (by kernel_rfl) (fun _ _ _ h => h) (Or.inl ⟨by rfl, ?ty502⟩) hS0 ?tr502
     case ty502 => (intro w' hw'; obtain ⟨a0, a1, a2, a3, a4, a5, a6, a7, a8, b0, b1, b2, p0, p1, p2, p3, p4⟩ := HCELL.out w' hw'; go_simp; try with_reducible rfl)
     try simp only [List.getElem_toArray, List.getElem_cons_zero, List.getElem_cons_succ]
     try simp only [Act.put, List.setIfInBounds_toArray, List.set_cons_zero, List.set_cons_succ]
     refine wpAnyH_take (i := 2) (v := ?tv503) rfl (by kernel_rfl) (by kernel_rfl) (by kernel_rfl) (fun _ _ _ h => h) (Or.inl ⟨by rfl, ?ty503⟩) hS0 ?tr503
     case ty503 => (intro w' hw'; obtain ⟨a0, a1, a2, a3, a4, a5, a6, a7, a8, b0, b1, b2, p0, p1, p2, p3, p4⟩ := HCELL.out w' hw'; go_simp; try with_reducible rfl)
     try simp only [List.getElem_toArray, List.getElem_cons_zero, List.getElem_cons_succ]
     try simp only [Act.put, List.setIfInBounds_toArray, List.set_cons_zero, List.set_cons_succ]
     refine wpAnyH_take (i := 3) (v := ?tv504) rfl (by kernel_rfl) (by kernel_rfl) (by kernel_rfl) (fun _ _ _ h => h) (Or.inl ⟨by rfl, ?ty504⟩) hS0 ?tr504
     case ty504 => (intro w' hw'; obtain ⟨a0, a1, a2, a3, a4, a5, a6, a7, a8, b0, b1, b2, p0, p1, p2, p3, p4⟩ := HCELL.out w' hw'; go_simp; try with_reducible rfl)
     try simp only [List.getElem_toArray, List.getElem_cons_zero, List.getElem_cons_succ]
     try simp only [Act.put, List.setIfInBounds_toArray, List.set_cons_zero, List.set_cons_succ]
     refine wpAnyH_take (i := 4) (v := ?tv505) rfl (by kernel_rfl) (by kernel_rfl) (by kernel_rfl) (fun _ _ _ h => h) (Or.inl ⟨by rfl, ?ty505⟩) hS0 ?tr505
     case ty505 => (intro w' hw'; obtain ⟨a0, a1, a2, a3, a4, a5, a6, a7, a8, b0, b1, b2, p0, p1, p2, p3, p4⟩ := HCELL.out w' hw'; go_simp; try with_reducible rfl)
     try simp only [List.getElem_toArray, List.getElem_cons_zero, List.getElem_cons_succ]
     try simp only [Act.put, List.setIfInBounds_toArray, List.set_cons_zero, List.set_cons_succ]
     refine wpAnyH_take (i := 5) (v := ?tv506) rfl (by kernel_rfl) (by kernel_rfl) (by kernel_rfl) (fun _ _ _ h => h) (Or.inl ⟨by rfl, ?ty506⟩) hS0 ?tr506
     case ty506 => (intro w' hw'; obtain ⟨a0, a1, a2, a3, a4, a5, a6, a7, a8, b0, b1, b2, p0, p1, p2, p3, p4⟩ := HCELL.out w' hw'; go_simp; try with_reducible rfl)
     try simp only [List.getElem_toArray, List.getElem_cons_zero, List.getElem_cons_succ]
     try simp only [Act.put, List.setIfInBounds_toArray, List.set_cons_zero, List.set_cons_succ]
     refine wpAnyH_take (i := 6) (v := ?tv507) rfl (by kernel_rfl) (by kernel_rfl) (by kernel_rfl) (fun _ _ _ h => h) (Or.inl ⟨by rfl, ?ty507⟩) hS0 ?tr507
     case ty507 => (intro w' hw'; obtain ⟨a0, a1, a2, a3, a4, a5, a6, a7, a8, b0, b1, b2, p0, p1, p2, p3, p4⟩ := HCELL.out w' hw'; go_simp; try with_reducible rfl)
     try simp only [List.getElem_toArray, List.getElem_cons_zero, List.getElem_cons_succ]
     try simp only [Act.put, List.setIfInBounds_toArray, List.set_cons_zero, List.set_cons_succ]
     refine wpAnyH_take (i := 7) (v := ?tv508) rfl (by kernel_rfl) (by kernel_rfl) (by kernel_rfl) (fun _ _ _ h => h) (Or.inl ⟨by rfl, ?ty508⟩) hS0 ?tr508
     case ty508 => (intro w' hw'; obtain ⟨a0, a1, a2, a3, a4, a5, a6, a7, a8, b0, b1, b2, p0, p1, p2, p3, p4⟩ := HCELL.out w' hw'; go_simp; try with_reducible rfl)
     try simp only [List.getElem_toArray, List.getElem_cons_zero, List.getElem_cons_succ]
     try simp only [Act.put, List.setIfInBounds_toArray, List.set_cons_zero, List.set_cons_succ]
     refine wpAnyH_take (i := 8) (v := ?tv509) rfl (by kernel_rfl) (by kernel_rfl) (by kernel_rfl) (fun _ _ _ h => h) (Or.inl ⟨by rfl, ?ty509⟩) hS0 ?tr509
     case ty509 => (intro w' hw'; obtain ⟨a0, a1, a2, a3, a4, a5, a6, a7, a8, b0, b1, b2, p0, p1, p2, p3, p4⟩ := HCELL.out w' hw'; go_simp; try with_reducible rfl)
     try simp only [List.getElem_toArray, List.getElem_cons_zero, List.getElem_cons_succ]
     try simp only [Act.put, List.setIfInBounds_toArray, List.set_cons_zero, List.set_cons_succ]
     refine wpAnyH_take (i := 9) (v := ?tv510) rfl (by kernel_rfl) (by kernel_rfl) (by kernel_rfl) (fun _ _ _ h => h) (Or.inl ⟨by rfl, ?ty510⟩) hS0 ?tr510
     case ty510 => (intro w' hw'; obtain ⟨a0, a1, a2, a3, a4, a5, a6, a7, a8, b0, b1, b2, p0, p1, p2, p3, p4⟩ := HCELL.out w' hw'; go_simp; try with_reducible rfl)
     try simp only [List.getElem_toArray, List.getElem_cons_zero, List.getElem_cons_succ]
     try simp only [Act.put, List.setIfInBounds_toArray, List.set_cons_zero, List.set_cons_succ]
     refine wpAnyH_take (i := 11) (v := ?tv511) rfl (by kernel_rfl) (by kernel_rfl) (by kernel_rfl) (fun _ _ _ h => h) (Or.inl ⟨by rfl, ?ty511⟩) hS0 ?tr511
     case ty511 => (intro w' hw'; obtain ⟨a0, a1, a2, a3, a4, a5, a6, a7, a8, b0, b1, b2, p0, p1, p2, p3, p4⟩ := HCELL.out w' hw'; go_simp; try with_reducible rfl)
     try simp only [List.getElem_toArray, List.getElem_cons_zero, List.getElem_cons_succ]
     try simp only [Act.put, List.setIfInBounds_toArray, List.set_cons_zero, List.set_cons_succ]
     refine wpAnyH_take (i := 13) (v := ?tv512) rfl (by kernel_rfl) (by kernel_rfl) (by kernel_rfl) (fun _ _ _ h => h) (Or.inl ⟨by rfl, ?ty512⟩) hS0 ?tr512
     case ty512 => (intro w' hw'; obtain ⟨a0, a1, a2, a3, a4, a5, a6, a7, a8, b0, b1, b2, p0, p1, p2, p3, p4⟩ := HCELL.out w' hw'; go_simp; try with_reducible rfl)
     try simp only [List.getElem_toArray, List.getElem_cons_zero, List.getElem_cons_succ]
     try simp only [Act.put, List.setIfInBounds_toArray, List.set_cons_zero, List.set_cons_succ]
     refine wpAnyH_take (i := 14) (v := ?tv513) rfl (by kernel_rfl) (by kernel_rfl) (by kernel_rfl) (fun _ _ _ h => h) (Or.inl ⟨by rfl, ?ty513⟩) hS0 ?tr513
     case ty513 => (intro w' hw'; obtain ⟨a0, a1, a2, a3, a4, a5, a6, a7, a8, b0, b1, b2, p0, p1, p2, p3, p4⟩ := HCELL.out w' hw'; go_simp; try with_reducible rfl)
     try simp only [List.getElem_toArray, List.getElem_cons_zero, List.getElem_cons_succ]
     try simp only [Act.put, List.setIfInBounds_toArray, List.set_cons_zero, List.set_cons_succ]
     have HNX : Hid (w.heap.size ≤ wz.heap.size ∧ xb < wz.heap.size ∧ gb < wz.heap.size ∧ B0 < wz.heap.size ∧ C ≤ wz.heap.size) := lhid ⟨HBz.out.size, heap_lt HXz.out, heap_lt HGz.out, heap_lt HFz.out, by have h1 := HC.out; have h2 := HWz.out.ch.size; omega⟩
     refine wpAnyH_ready (rs := [10]) (by kernel_rfl) (by simp) ?_
     refine AllReadyH.cons rfl (fun K hK => ?_) AllReadyH.nil
     go_simp
     refine (uses_w x (.slice VA x.args.length vc) (usesI x) wz (lhid HVz.out) (lhid (hI.out x (List.mem_of_getElem? HX.out)).2.2.1) (lhid rfl)).mono ?_
     rintro e wa ⟨vu, rfl, hou, hba⟩
     have hSa : wa.heap[xb]? = wz.heap[xb]? ∧ wa.heap[gb]? = wz.heap[gb]? ∧ wa.heap[B0]? = wz.heap[B0]? := ⟨hba.block xb HNX.out.2.1, hba.block gb HNX.out.2.2.1, hba.block B0 HNX.out.2.2.2.1⟩
     obtain ⟨UA1, uc1, rfl⟩ := own_shape hou
     have HRu : Hid (RdX (fun b => wz.heap.size ≤ b) 1 NuE wa (.slice UA1 (usesI x).length uc1) (usesI x)) := lhid ((OwN.rd hou (by have := (hI.out x (List.mem_of_getElem? HX.out)).2.2.2; omega)).any fun b hb => hb.1)
     have HBa := lhid hba
     clear hou hba
     dsimp only
     refine hK.out _ _ hSa (fun _ => ?_)
     clear hK K
     try simp only [Act.put, List.setIfInBounds_toArray, List.set_cons_zero, List.set_cons_succ]
     refine wpAnyH_ready (rs := [12]) (by kernel_rfl) (by simp) ?_
     refine AllReadyH.cons rfl (fun K hK => ?_) AllReadyH.nil
     go_simp
     refine (def_w x (.slice VA x.args.length vc) wa (defI x) (lhid rfl)).mono ?_
     rintro e wb ⟨rfl, hbb⟩
     have HBb : Hid (Below wz.heap.size wz wb) := lhid (HBa.out.trans (hbb.mono HBa.out.size))
     have hSb : wb.heap[xb]? = wz.heap[xb]? ∧ wb.heap[gb]? = wz.heap[gb]? ∧ wb.heap[B0]? = wz.heap[B0]? := ⟨HBb.out.block xb HNX.out.2.1, HBb.out.block gb HNX.out.2.2.1, HBb.out.block B0 HNX.out.2.2.2.1⟩
     have HRu2 := lhid (HRu.out.below (keptX_nu _) hbb)
     clear hbb HRu
     dsimp only
     refine hK.out _ _ hSb (fun _ => ?_)
     clear hK K
     try simp only [Act.put, List.setIfInBounds_toArray, List.set_cons_zero, List.set_cons_succ]
     refine wpAnyH_ready (rs := [15]) (by kernel_rfl) (by simp) ?_
     refine AllReadyH.cons rfl (fun K hK => ?_) AllReadyH.nil
     go_simp
     refine (next_any f _ _ _ _ (k : Int) wb (lhid (HFU.out.below (HBz.out.trans (HBb.out.mono HNX.out.1))))).mono ?_
     rintro e wc ⟨vn, rfl, hon, hbc⟩
     have HBc : Hid (Below wz.heap.size wz wc) := lhid (HBb.out.trans (hbc.mono HBb.out.size))
     have hSc : wc.heap[xb]? = wz.heap[xb]? ∧ wc.heap[gb]? = wz.heap[gb]? ∧ wc.heap[B0]? = wz.heap[B0]? := ⟨HBc.out.block xb HNX.out.2.1, HBc.out.block gb HNX.out.2.2.1, HBc.out.block B0 HNX.out.2.2.2.1⟩
     obtain ⟨NA1, nc1, rfl⟩ := own_shape hon
     have HRu3 := lhid (HRu2.out.below (keptX_nu _) hbc)
     have HRn : Hid (RdX (fun b => wz.heap.size ≤ b) 1 NuE wc (.slice NA1 (nextL f k).length nc1) (nextL f k)) := lhid ((OwN.rd hon (by have := next_two f k; omega)).any fun b hb => by have h1 := HBb.out.size; omega)
     have HWc := lhid (HWz.out.below HBc.out)
     clear hon hbc HRu2
     dsimp only
     refine hK.out _ _ hSc (fun _ => ?_)
     clear hK K
     try simp only [Act.put, List.setIfInBounds_toArray, List.set_cons_zero, List.set_cons_succ]
     have HRuP : Hid (RdX (fun b => C ≤ b ∧ ¬ LLo wc gp b) 1 NuE wc (.slice UA1 (usesAt f k).length uc1) (usesAt f k)) := lhid (by have h9 := HRu3.out; rw [show usesI x = usesAt f k by unfold usesAt; rw [HX.out]] at h9; exact h9.any fun b hb => ⟨by have := HNX.out; omega, fun hlo => by have h1 := (HWz.out.pr.own (hlo.of (HBc.out.block gp HWz.out.pr.lt))).2; omega⟩)
     have HRnP : Hid (RdX (fun b => C ≤ b ∧ ¬ LLo wc gp b) 1 NuE wc (.slice NA1 (nextL f k).length nc1) (nextL f k)) := lhid (HRn.out.any fun b hb => ⟨by have := HNX.out; omega, fun hlo => by have h1 := (HWz.out.pr.own (hlo.of (HBc.out.block gp HWz.out.pr.lt))).2; omega⟩)
     have HUL : Hid (usesI x = usesAt f k ∧ defI x = defAt f k) := lhid ⟨by unfold usesAt; rw [HX.out], by unfold defAt; rw [HX.out]⟩
     rw [HUL.out.1, HUL.out.2]
     clear HRu3 HRn
     refine wpAnyH_take (i := 16) (v := ?tv514) rfl (by kernel_rfl) (by kernel_rfl) (by kernel_rfl) (fun _ _ _ h => h) (Or.inl ⟨by rfl, ?ty514⟩) hSc ?tr514
     case ty514 => (intro w' hw'; obtain ⟨a0, a1, a2, a3, a4, a5, a6, a7, a8, b0, b1, b2, p0, p1, p2, p3, p4⟩ := HCELL.out w' hw'; go_simp; try with_reducible rfl)
     try simp only [List.getElem_toArray, List.getElem_cons_zero, List.getElem_cons_succ]
     try simp only [Act.put, List.setIfInBounds_toArray, List.set_cons_zero, List.set_cons_succ]
     refine wpAnyH_ready (rs := [17]) (by kernel_rfl) (by simp) ?_
     refine AllReadyH.cons rfl (fun K hK => ?_) AllReadyH.nil
     obtain ⟨A1, m1, q1, y1⟩ := HWc.out.us.any hlt
     have z1 := HWc.out.us.fz k
     have l1 := HWc.out.us.lt
     go_simp
     have HWd0 := HWc.out.putU HWN.out HC.out.symm HRuP.out
     have HRnd0 := rd_set (g := gu) (i := k) (u := .slice UA1 (usesAt f k).length uc1) HRnP.out HWN.out.lt.1 HWN.out.ne.2.2.1 HWc.out.pr.lt
     have hSd : (wc.setCell ⟨gu, k, none⟩ (.slice UA1 (usesAt f k).length uc1)).heap[xb]? = wz.heap[xb]? ∧ (wc.setCell ⟨gu, k, none⟩ (.slice UA1 (usesAt f k).length uc1)).heap[gb]? = wz.heap[gb]? ∧ (wc.setCell ⟨gu, k, none⟩ (.slice UA1 (usesAt f k).length uc1)).heap[B0]? = wz.heap[B0]? := ⟨(Below.heap_setCell _ _ _ _ (by have h1 := HXN.out; show xb ≠ gu; omega)).trans hSc.1, (Below.heap_setCell _ _ _ _ (by have h1 := HWB.out.2.2.2.2.1; show gb ≠ gu; omega)).trans hSc.2.1, (Below.heap_setCell _ _ _ _ (by have h1 := HWB.out.2.2.2.1; show B0 ≠ gu; omega)).trans hSc.2.2⟩
     have hsd : wc.heap.size ≤ (wc.setCell ⟨gu, k, none⟩ (.slice UA1 (usesAt f k).length uc1)).heap.size := by simp
     generalize wc.setCell ⟨gu, k, none⟩ (.slice UA1 (usesAt f k).length uc1) = wd at HWd0 HRnd0 hSd hsd ⊢
     have HWd := lhid HWd0
     have HRnd := lhid HRnd0
     clear HWd0 HRnd0 y1 z1 l1
     refine hK.out _ _ hSd (fun _ => ?_)
     clear hK K
     try simp only [Act.put, List.setIfInBounds_toArray, List.set_cons_zero, List.set_cons_succ]
     refine wpAnyH_take (i := 18) (v := ?tv515) rfl (by kernel_rfl) (by kernel_rfl) (by kernel_rfl) (fun _ _ _ h => h) (Or.inl ⟨by rfl, ?ty515⟩) hSd ?tr515
     case ty515 => (intro w' hw'; obtain ⟨a0, a1, a2, a3, a4, a5, a6, a7, a8, b0, b1, b2, p0, p1, p2, p3, p4⟩ := HCELL.out w' hw'; go_simp; try with_reducible rfl)
     try simp only [List.getElem_toArray, List.getElem_cons_zero, List.getElem_cons_succ]
     try simp only [Act.put, List.setIfInBounds_toArray, List.set_cons_zero, List.set_cons_succ]
     refine wpAnyH_ready (rs := [19]) (by kernel_rfl) (by simp) ?_
     refine AllReadyH.cons rfl (fun K hK => ?_) AllReadyH.nil
     obtain ⟨z9, y1⟩ := HWd.out.ds.any hlt
     have z1 := HWd.out.ds.fz k
     have l1 := HWd.out.ds.lt
     go_simp
     have HWe0 := HWd.out.putD HWN.out HC.out.symm (z := defAt f k) rfl
     have HRne0 := rd_set (g := gd) (i := k) (u := .int .i64 (defAt f k)) HRnd.out HWN.out.lt.2.1 HWN.out.ne.2.2.2.2.1 HWd.out.pr.lt
     have hSe : (wd.setCell ⟨gd, k, none⟩ (.int .i64 (defAt f k))).heap[xb]? = wz.heap[xb]? ∧ (wd.setCell ⟨gd, k, none⟩ (.int .i64 (defAt f k))).heap[gb]? = wz.heap[gb]? ∧ (wd.setCell ⟨gd, k, none⟩ (.int .i64 (defAt f k))).heap[B0]? = wz.heap[B0]? := ⟨(Below.heap_setCell _ _ _ _ (by have h1 := HXN.out; show xb ≠ gd; omega)).trans hSd.1, (Below.heap_setCell _ _ _ _ (by have h1 := HWB.out.2.2.2.2.1; show gb ≠ gd; omega)).trans hSd.2.1, (Below.heap_setCell _ _ _ _ (by have h1 := HWB.out.2.2.2.1; show B0 ≠ gd; omega)).trans hSd.2.2⟩
     generalize wd.setCell ⟨gd, k, none⟩ (.int .i64 (defAt f k)) = we at HWe0 HRne0 hSe ⊢
     have HWe := lhid HWe0
     have HRne := lhid HRne0
     clear HWe0 HRne0 y1 z1 l1
     refine hK.out _ _ hSe (fun _ => ?_)
     clear hK K
     try simp only [Act.put, List.setIfInBounds_toArray, List.set_cons_zero, List.set_cons_succ]
     refine wpAnyH_take (i := 20) (v := ?tv516) rfl (by kernel_rfl) (by kernel_rfl) (by kernel_rfl) (fun _ _ _ h => h) (Or.inl ⟨by rfl, ?ty516⟩) hSe ?tr516
     case ty516 => (intro w' hw'; obtain ⟨a0, a1, a2, a3, a4, a5, a6, a7, a8, b0, b1, b2, p0, p1, p2, p3, p4⟩ := HCELL.out w' hw'; go_simp; try with_reducible rfl)
     try simp only [List.getElem_toArray, List.getElem_cons_zero, List.getElem_cons_succ]
     try simp only [Act.put, List.setIfInBounds_toArray, List.set_cons_zero, List.set_cons_succ]
     refine wpAnyH_ready (rs := [21]) (by kernel_rfl) (by simp) ?_
     refine AllReadyH.cons rfl (fun K hK => ?_) AllReadyH.nil
     obtain ⟨A1, m1, q1, y1⟩ := HWe.out.ns.any hlt
     have z1 := HWe.out.ns.fz k
     have l1 := HWe.out.ns.lt
     go_simp
     have HWf0 := HWe.out.putN HWN.out HC.out.symm HRne.out
     have hSf : (we.setCell ⟨gn, k, none⟩ (.slice NA1 (nextL f k).length nc1)).heap[xb]? = wz.heap[xb]? ∧ (we.setCell ⟨gn, k, none⟩ (.slice NA1 (nextL f k).length nc1)).heap[gb]? = wz.heap[gb]? ∧ (we.setCell ⟨gn, k, none⟩ (.slice NA1 (nextL f k).length nc1)).heap[B0]? = wz.heap[B0]? := ⟨(Below.heap_setCell _ _ _ _ (by have h1 := HXN.out; show xb ≠ gn; omega)).trans hSe.1, (Below.heap_setCell _ _ _ _ (by have h1 := HWB.out.2.2.2.2.1; show gb ≠ gn; omega)).trans hSe.2.1, (Below.heap_setCell _ _ _ _ (by have h1 := HWB.out.2.2.2.1; show B0 ≠ gn; omega)).trans hSe.2.2⟩
     generalize we.setCell ⟨gn, k, none⟩ (.slice NA1 (nextL f k).length nc1) = wf at HWf0 hSf ⊢
     have HWf := lhid HWf0
     have HSF := lhid hSf
     clear HWf0 y1 z1 l1
     refine hK.out _ _ hSf (fun _ => ?_)
     clear hK K
     try simp only [Act.put, List.setIfInBounds_toArray, List.set_cons_zero, List.set_cons_succ]
     refine wpAnyH_done (by kernel_rfl) ?_ _
     clear hS0 hSa hSb hSc hSd hSe hSf hsd HRuP HRnP HRnd HRne HWz HWc HWd HWe HBa HBb HBc HUL HVz
     have HGf : Hid (wf.heap[gb]? = some (.cells #[.slice (some ⟨gu, 0, none⟩) n n, .slice (some ⟨gd, 0, none⟩) n n, .slice (some ⟨gn, 0, none⟩) n n, .slice (some ⟨gp, 0, none⟩) n n, .slice A9 TH.length c9, .slice (some ⟨gc, 0, none⟩) n n] 45 (0, 0))) := lhid (HSF.out.2.1.trans HGz.out)
     have HFf : Hid (FBox wf B0 (.slice FA f.regs.length ac) (.slice FB f.params.length bc) f.ret (.slice (some ⟨gi, o, none⟩) n dcap) (.slice E f.rows.length ecap)) := lhid (HSF.out.2.2.trans HFz.out)
     clear HCELL HSF HXz HGz HFz
     obtain ⟨NA2, nc2, hcn, hrn2⟩ := HWf.out.ns.at' (i := k) hlt (Nat.lt_succ_self k)
     have HRN := lhid hrn2
     have q2 := heap_cell (i := 2) HGf.out rfl
     obtain ⟨i0, hi0, hz0, hz1, hz2⟩ := info_parts info_nuP
     clear hrn2
     go_wp2_with fail
     clear hcn q2 HGf HFf
     go_loopg [62] (nextL f k).length (fun gg s wr => ∃ (q : Nat) (PR' : List (List Int)), gg = (nextL f k).length - q ∧ s = .int .i64 q ∧ q ≤ (nextL f k).length ∧ Hid (W1 f n C wq wr gu gd gn gp (k + 1) (k + 1) (k + 1) PR') ∧ Hid (PrS f n k ((nextL f k).take q) PR') ∧ Hid (RdX (fun b => C ≤ b ∧ ¬ LLo wr gp b) 1 NuE wr (.slice NA2 (nextL f k).length nc2) (nextL f k)))
     case atStart => exact ⟨0, PR, rfl, rfl, Nat.zero_le _, HWf, lhid (by rw [List.take_zero]; exact HPR.out), HRN⟩
     case round =>
      clear HWf HPR HRN
      obtain ⟨q, PR', rfl, rfl, hq, HW, HPR, HRN⟩ := hrel
      by_cases hlq : q < (nextL f k).length
      ·have HMS : Hid ((nextL f k).length - (q + 1) < (nextL f k).length - q) := lhid (Nat.sub_lt_sub_left hlq (Nat.lt_succ_self q))
       have HQS : Hid (q + 1 ≤ (nextL f k).length) := lhid hlq
       have k5 : (q : Int) < (nextL f k).length := Int.ofNat_lt.2 hlq
       have hwq : wrap64 ((q : Int) + 1) = ((q + 1 : Nat) : Int) := by rw [IntWalk.wrap64_in _ (by have := next_two f k; omega)]; omega
       obtain ⟨z, hz⟩ : ∃ z, (nextL f k)[q]? = some z := ⟨_, List.getElem?_eq_getElem hlq⟩
       obtain ⟨t, hzt, htn⟩ := hnx.out k hlt z (List.mem_of_getElem? hz)
       subst hzt
       obtain ⟨gl, ol, hLA, c0⟩ := nu_cell HRN.out hz
       subst hLA
       have hgl := cell_lt c0
       have HQZ := lhid hz
       obtain ⟨l, hl⟩ : ∃ l, PR'[t]? = some l := ⟨_, List.getElem?_eq_getElem (by rw [HPR.out.len]; exact htn)⟩
       have htk : (t : Int) < n := by omega
       clear hz
       go_upto_region 10 with fail
       obtain ⟨wz, hwz⟩ : ∃ wz, wz = wr.drew := ⟨_, rfl⟩
       have hbz : Below wr.heap.size wr wz := by rw [hwz]; exact Below.drew' (Below.refl _ _)
       have HWz := lhid (HW.out.below hbz)
       have HRNz : Hid (RdX (fun b => C ≤ b ∧ ¬ LLo wz gp b) 1 NuE wz (.slice (some ⟨gl, ol, none⟩) (nextL f k).length nc2) (nextL f k)) := lhid ((HRN.out.below (keptX_nu _) hbz).any fun b hb => ⟨hb.1, fun e => hb.2 (e.of (hbz.block gp HW.out.pr.lt))⟩)
       have HGz : Hid (wz.heap[gb]? = some (.cells #[.slice (some ⟨gu, 0, none⟩) n n, .slice (some ⟨gd, 0, none⟩) n n, .slice (some ⟨gn, 0, none⟩) n n, .slice (some ⟨gp, 0, none⟩) n n, .slice A9 TH.length c9, .slice (some ⟨gc, 0, none⟩) n n] 45 (0, 0))) := lhid (heap_keep (HW.out.ch.keep HWB.out.2.1 (fun e => by have h1 := HWB.out.2.2.2.2.1; omega)) hbz)
       have HCELL : Hid (∀ w' : World, w'.heap[gb]? = wz.heap[gb]? → w'.cell? ⟨gb, 3, none⟩ = some (.slice (some ⟨gp, 0, none⟩) n n)) := lhid (fun w' hw' => heap_cell (hw'.trans HGz.out) rfl)
       obtain ⟨UA, uc, hcu, hou, hlo⟩ := HWz.out.pr.at' hl
       have HCU := lhid hcu
       have HOU := lhid hou
       have HGB2 : Hid (gb < wz.heap.size ∧ ¬ LLo wz gp gb ∧ C ≤ wz.heap.size) := lhid ⟨heap_lt HGz.out, fun e => by have h1 := (HWz.out.pr.own e).1; have h2 := HGB.out.1; have h3 := HC.out; omega, by have h1 := HC.out; have h2 := HWz.out.ch.size; omega⟩
       have h63 : l.length + 1 ≤ maxLen := by have h1 := HPR.out.few l (List.mem_of_getElem? hl); rw [List.length_take] at h1; have := next_two f k; unfold maxLen; omega
       have hby8 : (l.length + 1) * 8 ≤ 140737488355328 := by have h1 := HPR.out.few l (List.mem_of_getElem? hl); rw [List.length_take] at h1; have := next_two f k; omega
       clear hcu hou c0 hgl
       refine wp_region_held_drew (S := fun w' => w'.heap[gb]? = wz.heap[gb]?) (by kernel_rfl) (by rw [hwz]) ?_
       intro hS0
       rw [← hwz] at hS0 ⊢
       clear hwz hbz HW HRN
       obtain ⟨wy, hwy⟩ : ∃ wy, wy = wz.alloc (.cells #[.int .i64 (k : Int)] 3) := ⟨_, rfl⟩
       have hbyz : Below wz.heap.size wz wy := by rw [hwy]; exact (Below.refl _ _).alloc (Nat.le_refl _) _
       have HNB1 : Hid (wy.heap[wz.heap.size]? = some (.cells #[.int .i64 (k : Int)] 3 (0, 0))) := lhid (by rw [hwy]; exact heap_alloc_new wz _)
       have HOUy : Hid (OwN wy C (.slice UA l.length uc) l) := lhid (own_below HOU.out hbyz)
       have HCUy : Hid (wy.cell? ⟨gp, t, none⟩ = some (.slice UA l.length uc)) := lhid ((hbyz.cell (cell_lt HCU.out)).trans HCU.out)
       have HSy : Hid (wy.heap[gb]? = wz.heap[gb]?) := lhid (hbyz.block gb HGB2.out.1)
       have HWY := lhid hwy
       clear hwy
       have hCs : C ≤ wy.heap.size := Nat.le_trans HGB2.out.2.2 hbyz.size
       refine wpAnyH_take (i := 0) (v := ?tv517) rfl (by kernel_rfl) (by kernel_rfl) (by kernel_rfl) (fun _ _ _ h => h) (Or.inl ⟨by rfl, ?ty517⟩) hS0 ?tr517
       case ty517 => (intro w' hw'; obtain p0 := HCELL.out w' hw'; go_simp; try with_reducible rfl)
       try simp only [List.getElem_toArray, List.getElem_cons_zero, List.getElem_cons_succ]
       try simp only [Act.put, List.setIfInBounds_toArray, List.set_cons_zero, List.set_cons_succ]
       refine wpAnyH_take (i := 1) (v := ?tv518) rfl (by kernel_rfl) (by kernel_rfl) (by kernel_rfl) (fun _ _ _ h => h) (Or.inl ⟨by rfl, ?ty518⟩) hS0 ?tr518
       case ty518 => (intro w' hw'; obtain p0 := HCELL.out w' hw'; go_simp; try with_reducible rfl)
       try simp only [List.getElem_toArray, List.getElem_cons_zero, List.getElem_cons_succ]
       try simp only [Act.put, List.setIfInBounds_toArray, List.set_cons_zero, List.set_cons_succ]
       refine wpAnyH_take (i := 2) (v := ?tv519) rfl (by kernel_rfl) (by kernel_rfl) (by kernel_rfl) (fun _ _ _ h => h) (Or.inl ⟨by rfl, ?ty519⟩) hS0 ?tr519
       case ty519 => (intro w' hw'; obtain p0 := HCELL.out w' hw'; go_simp; try with_reducible rfl)
       try simp only [List.getElem_toArray, List.getElem_cons_zero, List.getElem_cons_succ]
       try simp only [Act.put, List.setIfInBounds_toArray, List.set_cons_zero, List.set_cons_succ]
       refine wpAnyH_take (i := 3) (v := ?tv520) rfl (by kernel_rfl) (by kernel_rfl) (by kernel_rfl) (fun _ _ _ h => h) (Or.inl ⟨by rfl, ?ty520⟩) hS0 ?tr520
       case ty520 => (intro w' hw'; obtain p0 := HCELL.out w' hw'; go_simp; try with_reducible rfl)
       try simp only [List.getElem_toArray, List.getElem_cons_zero, List.getElem_cons_succ]
       try simp only [Act.put, List.setIfInBounds_toArray, List.set_cons_zero, List.set_cons_succ]
       refine wpAnyH_take (i := 4) (v := ?tv521) rfl (by kernel_rfl) (by kernel_rfl) (by kernel_rfl) (fun _ _ _ h => h) (Or.inl ⟨by rfl, ?ty521⟩) hS0 ?tr521
       case ty521 => (intro w' hw'; obtain p0 := HCELL.out w' hw'; go_simp; try with_reducible rfl)
       try simp only [List.getElem_toArray, List.getElem_cons_zero, List.getElem_cons_succ]
       try simp only [Act.put, List.setIfInBounds_toArray, List.set_cons_zero, List.set_cons_succ]
       refine wpAnyH_take (i := 5) (v := ?tv522) rfl (by kernel_rfl) (by kernel_rfl) (by kernel_rfl) (fun _ _ _ h => h) (Or.inl ⟨by rfl, ?ty522⟩) hS0 ?tr522
       case ty522 => (intro w' hw'; obtain p0 := HCELL.out w' hw'; go_simp; try with_reducible rfl)
       try simp only [List.getElem_toArray, List.getElem_cons_zero, List.getElem_cons_succ]
       try simp only [Act.put, List.setIfInBounds_toArray, List.set_cons_zero, List.set_cons_succ]
       refine wpAnyH_take (i := 6) (v := ?tv523) rfl (by kernel_rfl) (by kernel_rfl) (by kernel_rfl) (fun _ _ _ h => h) (Or.inl ⟨by rfl, ?ty523⟩) hS0 ?tr523
       case ty523 => (intro w' hw'; obtain p0 := HCELL.out w' hw'; go_simp; try with_reducible rfl)
       try simp only [List.getElem_toArray, List.getElem_cons_zero, List.getElem_cons_succ]
       try simp only [Act.put, List.setIfInBounds_toArray, List.set_cons_zero, List.set_cons_succ]
       refine wpAnyH_take (i := 8) (v := ?tv524) rfl (by kernel_rfl) (by kernel_rfl) (by kernel_rfl) (fun _ _ _ h => h) (Or.inl ⟨by rfl, ?ty524⟩) hS0 ?tr524
       case ty524 => (intro w' hw'; obtain p0 := HCELL.out w' hw'; go_simp; try with_reducible rfl)
       try simp only [List.getElem_toArray, List.getElem_cons_zero, List.getElem_cons_succ]
       try simp only [Act.put, List.setIfInBounds_toArray, List.set_cons_zero, List.set_cons_succ]
       refine wpAnyH_ready (rs := [7, 9]) (by kernel_rfl) (by simp) ?_
       refine AllReadyH.cons rfl (fun K hK => ?_) (AllReadyH.cons rfl (fun K hK => ?_) AllReadyH.nil)
       ·have g7 := HCU.out
        go_simp
        clear g7
        refine hK.out _ _ hS0 (fun _ => ?_)
        clear hK K
        try simp only [Act.put, List.setIfInBounds_toArray, List.set_cons_zero, List.set_cons_succ]
        refine wpAnyH_ready (rs := [9]) (by kernel_rfl) (by simp) ?_
        refine AllReadyH.cons rfl (fun K hK => ?_) AllReadyH.nil
        go_simp
        rw [← HWY.out]
        refine hK.out _ _ HSy.out (fun _ => ?_)
        clear hK K
        try simp only [Act.put, List.setIfInBounds_toArray, List.set_cons_zero, List.set_cons_succ]
        refine wpAnyH_ready (rs := [10]) (by kernel_rfl) (by simp) ?_
        refine AllReadyH.cons rfl (fun K hK => ?_) AllReadyH.nil
        refine step_append_lies _ rfl (.tmp 73) (.tmp 75) 22 rfl C 3 i0 (.int .i64 0) 1 8 Try.underlying22 hi0 hz0 hz1 hz2 rfl (by decide) (.slice UA l.length uc) l.length (l.map fun z => .int .i64 z) rfl HOUy.out _ 1 _ [.int .i64 (k : Int)] rfl rfl (World.news_of_block HNB1.out) (by simp [Value.oneCell']) (by decide) h63 hby8 hCs _ rfl ?_
        intro g' cap w6 hown hgrow hat hlt6
        have hc6 : Ch (fun b => (Value.slice UA l.length uc).ownBlock = some b) wz w6 := ((Ch.refl (fun b => (Value.slice UA l.length uc).ownBlock = some b) wz).below hbyz).grown hgrow (fun k e _ => e)
        have ho6 : OwN w6 C (.slice (some ⟨g', 0, none⟩) (l.length + 1) cap) (l ++ [(k : Int)]) := by
         show w6.ownsRow _ _ _ _ _ _
         rw [List.length_append, List.map_append]
         exact hown
        have hf6 : ∀ b, (Value.slice (some ⟨g', 0, none⟩) (l.length + 1) cap).ownBlock = some b → (Value.slice UA l.length uc).ownBlock = some b ∨ wz.heap.size ≤ b := fun b hb => by
         injection hb with hb
         subst hb
         rcases hat with h9 | h9
         ·exact .inl h9
         ·right; rw [h9]; exact hbyz.size
        have hgx : ∀ b, (Value.slice UA l.length uc).ownBlock = some b → C ≤ b := fun b e => (HOU.out.lt b e).1
        have hS6 : w6.heap[gb]? = wz.heap[gb]? := hc6.block gb HGB2.out.1 (fun e => HGB2.out.2.1 (hlo gb e))
        obtain ⟨cp, hcp, _⟩ := HWz.out.pr
        have hgp6 : w6.heap[gp]? = some (.cells cp 22 (0, 0)) := hc6.keep hcp (fun e => by have h1 := hgx gp e; have h2 := HWN.out.lt.2.2.2; omega)
        have cu6 : w6.cell? ⟨gp, t, none⟩ = some (.slice UA l.length uc) := (cell_heap (hgp6.trans hcp.symm) t).trans HCU.out
        have zu6 := heap_thaw hgp6 t
        have lu6 := heap_lt hgp6
        refine hK.out _ _ hS6 (fun _ => ?_)
        clear hK K
        try simp only [Act.put, List.setIfInBounds_toArray, List.set_cons_zero, List.set_cons_succ]
        refine wpAnyH_take (i := 11) (v := ?tv525) rfl (by kernel_rfl) (by kernel_rfl) (by kernel_rfl) (fun _ _ _ h => h) (Or.inl ⟨by rfl, ?ty525⟩) hS6 ?tr525
        case ty525 => (intro w' hw'; obtain p0 := HCELL.out w' hw'; go_simp; try with_reducible rfl)
        try simp only [List.getElem_toArray, List.getElem_cons_zero, List.getElem_cons_succ]
        try simp only [Act.put, List.setIfInBounds_toArray, List.set_cons_zero, List.set_cons_succ]
        refine wpAnyH_ready (rs := [12]) (by kernel_rfl) (by simp) ?_
        refine AllReadyH.cons rfl (fun K hK => ?_) AllReadyH.nil
        go_simp
        have hS7 : (w6.setCell ⟨gp, t, none⟩ (.slice (some ⟨g', 0, none⟩) (l.length + 1) cap)).heap[gb]? = wz.heap[gb]? := (Below.heap_setCell _ _ _ _ (by have h1 := HWB.out.2.2.2.2.1; show gb ≠ gp; omega)).trans hS6
        have HW7 := lhid (HWz.out.push HWN.out HC.out.symm hl HCU.out hc6 ho6 hf6)
        have HR7 := lhid (HWz.out.pushRd HWN.out HC.out.symm hl HCU.out hc6 ho6 hf6 HRNz.out)
        refine hK.out _ _ hS7 (fun _ => ?_)
        clear hK K
        try simp only [Act.put, List.setIfInBounds_toArray, List.set_cons_zero, List.set_cons_succ]
        refine wpAnyH_done (by kernel_rfl) ?_ _
        have HP7 : Hid (PrS f n k ((nextL f k).take (q + 1)) (PR'.set t (l ++ [(k : Int)]))) := lhid (by rw [take_snoc HQZ.out]; exact HPR.out.step hl)
        clear hS0 hS6 hS7 hown hgrow hat hlt6 hc6 ho6 hf6 hgx hcp hgp6 cu6 zu6 lu6 hlo hl hbyz HWz HPR HRNz
        go_wp2_with fail
        go_roundg ((nextL f k).length - (q + 1))
        case measure => exact HMS.out
        case rel => exact ⟨q + 1, _, rfl, by first | rfl | rw [hwq], HQS.out, HW7, HP7, HR7⟩
       ·go_simp
        rw [← HWY.out]
        refine hK.out _ _ HSy.out (fun _ => ?_)
        clear hK K
        try simp only [Act.put, List.setIfInBounds_toArray, List.set_cons_zero, List.set_cons_succ]
        refine wpAnyH_ready (rs := [7]) (by kernel_rfl) (by simp) ?_
        refine AllReadyH.cons rfl (fun K hK => ?_) AllReadyH.nil
        have g7 := HCUy.out
        go_simp
        clear g7
        refine hK.out _ _ HSy.out (fun _ => ?_)
        clear hK K
        try simp only [Act.put, List.setIfInBounds_toArray, List.set_cons_zero, List.set_cons_succ]
        refine wpAnyH_ready (rs := [10]) (by kernel_rfl) (by simp) ?_
        refine AllReadyH.cons rfl (fun K hK => ?_) AllReadyH.nil
        refine step_append_lies _ rfl (.tmp 73) (.tmp 75) 22 rfl C 3 i0 (.int .i64 0) 1 8 Try.underlying22 hi0 hz0 hz1 hz2 rfl (by decide) (.slice UA l.length uc) l.length (l.map fun z => .int .i64 z) rfl HOUy.out _ 1 _ [.int .i64 (k : Int)] rfl rfl (World.news_of_block HNB1.out) (by simp [Value.oneCell']) (by decide) h63 hby8 hCs _ rfl ?_
        intro g' cap w6 hown hgrow hat hlt6
        have hc6 : Ch (fun b => (Value.slice UA l.length uc).ownBlock = some b) wz w6 := ((Ch.refl (fun b => (Value.slice UA l.length uc).ownBlock = some b) wz).below hbyz).grown hgrow (fun k e _ => e)
        have ho6 : OwN w6 C (.slice (some ⟨g', 0, none⟩) (l.length + 1) cap) (l ++ [(k : Int)]) := by
         show w6.ownsRow _ _ _ _ _ _
         rw [List.length_append, List.map_append]
         exact hown
        have hf6 : ∀ b, (Value.slice (some ⟨g', 0, none⟩) (l.length + 1) cap).ownBlock = some b → (Value.slice UA l.length uc).ownBlock = some b ∨ wz.heap.size ≤ b := fun b hb => by
         injection hb with hb
         subst hb
         rcases hat with h9 | h9
         ·exact .inl h9
         ·right; rw [h9]; exact hbyz.size
        have hgx : ∀ b, (Value.slice UA l.length uc).ownBlock = some b → C ≤ b := fun b e => (HOU.out.lt b e).1
        have hS6 : w6.heap[gb]? = wz.heap[gb]? := hc6.block gb HGB2.out.1 (fun e => HGB2.out.2.1 (hlo gb e))
        obtain ⟨cp, hcp, _⟩ := HWz.out.pr
        have hgp6 : w6.heap[gp]? = some (.cells cp 22 (0, 0)) := hc6.keep hcp (fun e => by have h1 := hgx gp e; have h2 := HWN.out.lt.2.2.2; omega)
        have cu6 : w6.cell? ⟨gp, t, none⟩ = some (.slice UA l.length uc) := (cell_heap (hgp6.trans hcp.symm) t).trans HCU.out
        have zu6 := heap_thaw hgp6 t
        have lu6 := heap_lt hgp6
        refine hK.out _ _ hS6 (fun _ => ?_)
        clear hK K
        try simp only [Act.put, List.setIfInBounds_toArray, List.set_cons_zero, List.set_cons_succ]
        refine wpAnyH_take (i := 11) (v := ?tv526) rfl (by kernel_rfl) (by kernel_rfl) (by kernel_rfl) (fun _ _ _ h => h) (Or.inl ⟨by rfl, ?ty526⟩) hS6 ?tr526
        case ty526 => (intro w' hw'; obtain p0 := HCELL.out w' hw'; go_simp; try with_reducible rfl)
        try simp only [List.getElem_toArray, List.getElem_cons_zero, List.getElem_cons_succ]
        try simp only [Act.put, List.setIfInBounds_toArray, List.set_cons_zero, List.set_cons_succ]
        refine wpAnyH_ready (rs := [12]) (by kernel_rfl) (by simp) ?_
        refine AllReadyH.cons rfl (fun K hK => ?_) AllReadyH.nil
        go_simp
        have hS7 : (w6.setCell ⟨gp, t, none⟩ (.slice (some ⟨g', 0, none⟩) (l.length + 1) cap)).heap[gb]? = wz.heap[gb]? := (Below.heap_setCell _ _ _ _ (by have h1 := HWB.out.2.2.2.2.1; show gb ≠ gp; omega)).trans hS6
        have HW7 := lhid (HWz.out.push HWN.out HC.out.symm hl HCU.out hc6 ho6 hf6)
        have HR7 := lhid (HWz.out.pushRd HWN.out HC.out.symm hl HCU.out hc6 ho6 hf6 HRNz.out)
        refine hK.out _ _ hS7 (fun _ => ?_)
        clear hK K
        try simp only [Act.put, List.setIfInBounds_toArray, List.set_cons_zero, List.set_cons_succ]
        refine wpAnyH_done (by kernel_rfl) ?_ _
        have HP7 : Hid (PrS f n k ((nextL f k).take (q + 1)) (PR'.set t (l ++ [(k : Int)]))) := lhid (by rw [take_snoc HQZ.out]; exact HPR.out.step hl)
        clear hS0 hS6 hS7 hown hgrow hat hlt6 hc6 ho6 hf6 hgx hcp hgp6 cu6 zu6 lu6 hlo hl hbyz HWz HPR HRNz
        go_wp2_with fail
        go_roundg ((nextL f k).length - (q + 1))
        case measure => exact HMS.out
        case rel => exact ⟨q + 1, _, rfl, by first | rfl | rw [hwq], HQS.out, HW7, HP7, HR7⟩
      ·have k5 : ¬ (q : Int) < (nextL f k).length := by omega
       have HP8 : Hid (PrS f n (k + 1) [] PR') := lhid (by
        have h1 := HPR.out
        rw [List.take_of_length_le (Nat.le_of_not_lt hlq)] at h1
        exact h1.done (next_two f k))
       clear HPR HRN
       go_wp2_with fail
       go_roundg (n - (k + 1))
       case measure => exact HMK.out
       case rel => exact ⟨k + 1, PR', rfl, by first | rfl | rw [hwk], hlt, HW, HP8⟩
    ·have k3 : ¬ (k : Int) < n := by omega
     have hke : n = k := by omega
     subst hke
     obtain ⟨wl, hwl⟩ : ∃ x, x = wr := ⟨_, rfl⟩
     subst hwl
     have HGl : Hid (wl.heap[gb]? = some (.cells #[.slice (some ⟨gu, 0, none⟩) n n, .slice (some ⟨gd, 0, none⟩) n n, .slice (some ⟨gn, 0, none⟩) n n, .slice (some ⟨gp, 0, none⟩) n n, .slice A9 TH.length c9, .slice (some ⟨gc, 0, none⟩) n n] 45 (0, 0))) := lhid (HW.out.ch.keep HWB.out.2.1 (fun e => by have h1 := HWB.out.2.2.2.2.1; omega))
     have HFl : Hid (FBox wl B0 (.slice FA f.regs.length ac) (.slice FB f.params.length bc) f.ret (.slice D n dcap) (.slice E f.rows.length ecap)) := lhid (HW.out.ch.keep HFQ.out (fun e => by have h1 := HWB.out.2.2.2.1; omega))
     have HCl : Hid (wl.heap[gc]? = some (.cells (madeCells #[.slice none 0 0] n) 22 (0, 0))) := lhid (HW.out.ch.keep HWB.out.2.2.1 (fun e => by have h1 := HWB.out.2.2.2.2.2; omega))
     have HBl : Hid (Below w.heap.size w wl) := lhid (HBQ.out.trans (HW.out.ch.to HBQ.out.size (fun b e => by have h1 := HWB.out.2.2.2; have h2 := HS2.out; have h3 := HB0.out; rcases e with e | e | e | e <;> omega)))
     have HRl : Hid (wl.heap[B0 + 1]? = some (webO n 13)) := lhid (HW.out.ch.keep (heap_keep HR2.out (by rw [HS2.out]; exact HWB.out.1)) (fun e => by have h1 := HWB.out.2.2.2.1; omega))
     have HTl : Hid (RdX (fun b => b ≠ gc ∧ B0 + 2 ≤ b) 1 (LsE fun b => b ≠ gc ∧ B0 + 2 ≤ b) wl (.slice A9 TH.length c9) TH) := lhid (((hTR.out.ch (keptX_ls _) HW.out.ch (fun b hb e => by rcases e with e | e | e | e <;> omega)).mono (fun a c hc => by obtain ⟨u, e, hu⟩ := hc; exact ⟨u, e, hu.any fun b hb => hb.2.2.2.2.2⟩) (fun b hb _ => hb.2.2.2.2.2) ls_ne))
     have HNM : Hid (gc < C ∧ gb < C ∧ gb ≠ gc ∧ B0 + 2 ≤ gc ∧ B0 + 2 ≤ gb ∧ C ≤ wl.heap.size ∧ (gc ≠ gu ∧ gc ≠ gd ∧ gc ≠ gn ∧ gc ≠ gp) ∧ (B0 + 2 ≤ gu ∧ B0 + 2 ≤ gd ∧ B0 + 2 ≤ gn ∧ B0 + 2 ≤ gp)) := lhid (by have h1 := HWB.out.2.2.2; have h2 := HGB.out; have h3 := HC.out; have h4 := HW.out.ch.size; omega)
     clear hTR HWB HBQ HFQ HSQ HGB HFK HR2 HF2 HBW
     have q4 := heap_cell (i := 4) HGl.out rfl
     obtain ⟨C3, hC3⟩ : ∃ C3, C3 = wl.heap.size := ⟨_, rfl⟩
     have HC3 := lhid hC3
     have HL0 : Hid (LL wl gc n C3 (List.replicate n [])) := lhid (LL.made HCl.out)
     have HS0 := lhid (CsS.begin f n TH)
     have HTLn : Hid (TH.length ≤ n) := lhid hTI.out.len.1
     have htl2 : TH.length ≤ 140737488355328 := Nat.le_trans HTLn.out HNB.out
     obtain ⟨i0, hi0, hz0, hz1, hz2⟩ := info_parts info_nuP
     clear hC3
     go_wp2_with fail
     clear q4
     go_loopg [83] TH.length (fun gg s wr => ∃ (m : Nat) (CS : List (List Int)), gg = TH.length - m ∧ s = .int .i64 m ∧ m ≤ TH.length ∧ Hid (Ch (fun b => b = gc) wl wr) ∧ Hid (LL wr gc n C3 CS) ∧ Hid (CsS f n TH m [] CS))
     case atStart => exact ⟨0, _, rfl, rfl, Nat.zero_le _, lhid (Ch.refl _ _), HL0, HS0⟩
     case round =>
      clear HL0 HS0
      obtain ⟨m, CS, rfl, rfl, hm, HCh, HLL, HCS⟩ := hrel
      by_cases hlm : m < TH.length
      ·have HMM : Hid (TH.length - (m + 1) < TH.length - m) := lhid (Nat.sub_lt_sub_left hlm (Nat.lt_succ_self m))
       have k4 : (m : Int) < TH.length := Int.ofNat_lt.2 hlm
       have hwm : wrap64 ((m : Int) + 1) = ((m + 1 : Nat) : Int) := by rw [IntWalk.wrap64_in _ (by omega)]; omega
       obtain ⟨tl, htl⟩ : ∃ tl, TH[m]? = some tl := ⟨_, List.getElem?_eq_getElem hlm⟩
       obtain ⟨gt, ot, TA2, tc2, hTA, c0, hrt⟩ := ls_cell (HTl.out.ch (keptX_ls _) HCh.out (fun b hb e => hb.1 e)) htl
       subst hTA
       have hgt := cell_lt c0
       obtain ⟨p, ps, htp⟩ : ∃ p ps, tl = p :: ps := by
        have h1 := (hTI.out.some' tl (List.mem_of_getElem? htl)).1
        cases tl with
        | nil => exact absurd rfl h1
        | cons p ps => exact ⟨p, ps, rfl⟩
       subst htp
       obtain ⟨gp0, op0, hTA2, c1⟩ := nu_cell hrt (i := 0) (z := p) rfl
       subst hTA2
       have HTM := lhid htl
       have hpl : (0 : Int) < ((p :: ps).length : Nat) := by have h1 : 0 < (p :: ps).length := Nat.succ_pos _; omega
       replace c1 : wr.cell? ⟨gp0, op0, none⟩ = some (.int .i64 p) := c1
       have HBr : Hid (Below w.heap.size w wr) := lhid (HBl.out.trans (HCh.out.to HBl.out.size (fun b e => by have h1 := HNM.out; have h2 := HB0.out; omega)))
       have HFr : Hid (FBox wr B0 (.slice FA f.regs.length ac) (.slice FB f.params.length bc) f.ret (.slice D n dcap) (.slice E f.rows.length ecap)) := lhid (HCh.out.keep HFl.out (fun e => by have h1 := HNM.out; omega))
       have HCR : Hid (C3 ≤ wr.heap.size) := lhid (by have h1 := HC3.out; have h2 := HCh.out.size; omega)
       clear htl hrt
       go_upto_region 16 with fail
       obtain ⟨wz, hwz⟩ : ∃ wz, wz = wr.drew := ⟨_, rfl⟩
       have hbz : Below wr.heap.size wr wz := by rw [hwz]; exact Below.drew' (Below.refl _ _)
       have HCELL : Hid (∀ w' : World, Below wz.heap.size wz w' → (w'.cell? ⟨B0, 0, none⟩ = some (.slice FA f.regs.length ac) ∧ w'.cell? ⟨B0, 1, none⟩ = some (.slice FB f.params.length bc) ∧ w'.cell? ⟨B0, 2, none⟩ = some (.int .i64 f.ret) ∧ w'.cell? ⟨B0, 3, none⟩ = some (.slice D n dcap) ∧ w'.cell? ⟨B0, 4, none⟩ = some (.slice E f.rows.length ecap)) ∧ w'.cell? ⟨gp0, op0, none⟩ = some (.int .i64 p)) := lhid (fun w' hw' => by
        have h1 : w'.heap[B0]? = _ := heap_keep (heap_keep HFr.out hbz) hw'
        have h2 := (hw'.cell (p := ⟨gp0, op0, none⟩) (Nat.lt_of_lt_of_le (cell_lt c1) hbz.size)).trans ((hbz.cell (cell_lt c1)).trans c1)
        exact ⟨⟨heap_cell h1 rfl, heap_cell h1 rfl, heap_cell h1 rfl, heap_cell h1 rfl, heap_cell h1 rfl⟩, h2⟩)
       have HChz := lhid (HCh.out.below hbz)
       have HLLz := lhid (HLL.out.below hbz)
       have HBrz : Hid (Below w.heap.size w wz) := lhid (HBr.out.trans (hbz.mono HBr.out.size))
       have HCRz : Hid (C3 ≤ wz.heap.size) := lhid (Nat.le_trans HCR.out hbz.size)
       refine wp_region_held_drew (S := fun w' => Below wz.heap.size wz w') (by kernel_rfl) (by rw [hwz]; exact Below.refl _ _) ?_
       intro hS0
       rw [← hwz] at hS0 ⊢
       clear hwz hbz HCh HLL HBr HFr HCR c0 c1 hgt
       refine wpAnyH_take (i := 0) (v := ?tv527) rfl (by kernel_rfl) (by kernel_rfl) (by kernel_rfl) (fun _ _ _ h => h) (Or.inl ⟨by rfl, ?ty527⟩) hS0 ?tr527
       case ty527 => (intro w' hw'; obtain ⟨⟨p0, p1, p2, p3, p4⟩, p5⟩ := HCELL.out w' hw'; go_simp; try with_reducible rfl)
       try simp only [List.getElem_toArray, List.getElem_cons_zero, List.getElem_cons_succ]
       try simp only [Act.put, List.setIfInBounds_toArray, List.set_cons_zero, List.set_cons_succ]
       refine wpAnyH_take (i := 1) (v := ?tv528) rfl (by kernel_rfl) (by kernel_rfl) (by kernel_rfl) (fun _ _ _ h => h) (Or.inl ⟨by rfl, ?ty528⟩) hS0 ?tr528
       case ty528 => (intro w' hw'; obtain ⟨⟨p0, p1, p2, p3, p4⟩, p5⟩ := HCELL.out w' hw'; go_simp; try with_reducible rfl)
       try simp only [List.getElem_toArray, List.getElem_cons_zero, List.getElem_cons_succ]
       try simp only [Act.put, List.setIfInBounds_toArray, List.set_cons_zero, List.set_cons_succ]
       refine wpAnyH_take (i := 2) (v := ?tv529) rfl (by kernel_rfl) (by kernel_rfl) (by kernel_rfl) (fun _ _ _ h => h) (Or.inl ⟨by rfl, ?ty529⟩) hS0 ?tr529
       case ty529 => (intro w' hw'; obtain ⟨⟨p0, p1, p2, p3, p4⟩, p5⟩ := HCELL.out w' hw'; go_simp; try with_reducible rfl)
       try simp only [List.getElem_toArray, List.getElem_cons_zero, List.getElem_cons_succ]
       try simp only [Act.put, List.setIfInBounds_toArray, List.set_cons_zero, List.set_cons_succ]
       refine wpAnyH_take (i := 3) (v := ?tv530) rfl (by kernel_rfl) (by kernel_rfl) (by kernel_rfl) (fun _ _ _ h => h) (Or.inl ⟨by rfl, ?ty530⟩) hS0 ?tr530
       case ty530 => (intro w' hw'; obtain ⟨⟨p0, p1, p2, p3, p4⟩, p5⟩ := HCELL.out w' hw'; go_simp; try with_reducible rfl)
       try simp only [List.getElem_toArray, List.getElem_cons_zero, List.getElem_cons_succ]
       try simp only [Act.put, List.setIfInBounds_toArray, List.set_cons_zero, List.set_cons_succ]
       refine wpAnyH_take (i := 6) (v := ?tv531) rfl (by kernel_rfl) (by kernel_rfl) (by kernel_rfl) (fun _ _ _ h => h) (Or.inl ⟨by rfl, ?ty531⟩) hS0 ?tr531
       case ty531 => (intro w' hw'; obtain ⟨⟨p0, p1, p2, p3, p4⟩, p5⟩ := HCELL.out w' hw'; go_simp; try with_reducible rfl)
       try simp only [List.getElem_toArray, List.getElem_cons_zero, List.getElem_cons_succ]
       try simp only [Act.put, List.setIfInBounds_toArray, List.set_cons_zero, List.set_cons_succ]
       refine wpAnyH_ready (rs := [4]) (by kernel_rfl) (by simp) ?_
       refine AllReadyH.cons rfl (fun K hK => ?_) AllReadyH.nil
       go_simp
       refine (caught_any f _ _ _ _ p wz (lhid (HFU.out.below HBrz.out)) hrn hrl).mono ?_
       rintro e wa ⟨vk, rfl, hok, hba⟩
       obtain ⟨KA, kc, rfl⟩ := own_shape hok
       have hkl : (caughtL f p).length ≤ 140737488355328 := by have h1 := caughtL_len f p; have h2 := hrl.out; omega
       have HRK : Hid (RdX (fun b => C3 ≤ b ∧ ¬ LLo wa gc b) 1 NuE wa (.slice KA (caughtL f p).length kc) (caughtL f p)) := lhid ((OwN.rd hok hkl).any fun b hb => ⟨Nat.le_trans HCRz.out hb.1, fun hlo => by have h1 := (HLLz.out.own (hlo.of (hba.block gc HLLz.out.lt))).2; have h2 := hb.1; omega⟩)
       have HCha := lhid (HChz.out.below hba)
       have HLLa := lhid (HLLz.out.below hba)
       have HBra : Hid (Below w.heap.size w wa) := lhid (HBrz.out.trans (hba.mono HBrz.out.size))
       clear hok
       dsimp only
       refine hK.out _ _ hba (fun _ => ?_)
       clear hK K
       try simp only [Act.put, List.setIfInBounds_toArray, List.set_cons_zero, List.set_cons_succ]
       refine wpAnyH_take (i := 5) (v := ?tv532) rfl (by kernel_rfl) (by kernel_rfl) (by kernel_rfl) (fun _ _ _ h => h) (Or.inl ⟨by rfl, ?ty532⟩) hba ?tr532
       case ty532 => (intro w' hw'; go_simp; try with_reducible rfl)
       try simp only [List.getElem_toArray, List.getElem_cons_zero, List.getElem_cons_succ]
       try simp only [Act.put, List.setIfInBounds_toArray, List.set_cons_zero, List.set_cons_succ]
       refine wpAnyH_done (by kernel_rfl) ?_ _
       clear hba hS0 HCELL HChz HLLz HBrz
       have HND : Hid ((caughtL f p).Nodup) := lhid (caughtL_nodup f p)
       go_wp2_with fail
       go_loopg [94] (caughtL f p).length (fun gg s wr => ∃ (q : Nat) (CS' : List (List Int)), gg = (caughtL f p).length - q ∧ s = .int .i64 q ∧ q ≤ (caughtL f p).length ∧ Hid (Ch (fun b => b = gc) wl wr) ∧ Hid (LL wr gc n C3 CS') ∧ Hid (CsS f n TH m ((caughtL f p).take q) CS') ∧ Hid (RdX (fun b => C3 ≤ b ∧ ¬ LLo wr gc b) 1 NuE wr (.slice KA (caughtL f p).length kc) (caughtL f p)))
       case atStart => exact ⟨0, CS, rfl, rfl, Nat.zero_le _, HCha, HLLa, lhid (by rw [List.take_zero]; exact HCS.out), HRK⟩
       case round =>
        clear HCha HLLa HCS HRK
        obtain ⟨q, CS', rfl, rfl, hq, HCh, HLL, HCS, HRK⟩ := hrel
        by_cases hlq : q < (caughtL f p).length
        ·have HMS : Hid ((caughtL f p).length - (q + 1) < (caughtL f p).length - q) := lhid (Nat.sub_lt_sub_left hlq (Nat.lt_succ_self q))
         have HQS : Hid (q + 1 ≤ (caughtL f p).length) := lhid hlq
         have k5 : (q : Int) < (caughtL f p).length := Int.ofNat_lt.2 hlq
         have hwq : wrap64 ((q : Int) + 1) = ((q + 1 : Nat) : Int) := by rw [IntWalk.wrap64_in _ (by omega)]; omega
         obtain ⟨z, hz⟩ : ∃ z, (caughtL f p)[q]? = some z := ⟨_, List.getElem?_eq_getElem hlq⟩
         obtain ⟨t, hzt, htn⟩ := hct.out p z (List.mem_of_getElem? hz)
         subst hzt
         obtain ⟨gl, ol, hLA, c0⟩ := nu_cell HRK.out hz
         subst hLA
         have hgl := cell_lt c0
         have HQZ := lhid hz
         have HNT := lhid (nodup_take HND.out hz)
         obtain ⟨l, hl⟩ : ∃ l, CS'[t]? = some l := ⟨_, List.getElem?_eq_getElem (by rw [HCS.out.len]; exact htn)⟩
         have htk : (t : Int) < n := by omega
         clear hz
         go_upto_region 19 with fail
         obtain ⟨wz, hwz⟩ : ∃ wz, wz = wr.drew := ⟨_, rfl⟩
         have hbz : Below wr.heap.size wr wz := by rw [hwz]; exact Below.drew' (Below.refl _ _)
         have HChz := lhid (HCh.out.below hbz)
         have HLLz := lhid (HLL.out.below hbz)
         have HRKz : Hid (RdX (fun b => C3 ≤ b ∧ ¬ LLo wz gc b) 1 NuE wz (.slice (some ⟨gl, ol, none⟩) (caughtL f p).length kc) (caughtL f p)) := lhid ((HRK.out.below (keptX_nu _) hbz).any fun b hb => ⟨hb.1, fun e => hb.2 (e.of (hbz.block gc HLL.out.lt))⟩)
         have HGz : Hid (wz.heap[gb]? = some (.cells #[.slice (some ⟨gu, 0, none⟩) n n, .slice (some ⟨gd, 0, none⟩) n n, .slice (some ⟨gn, 0, none⟩) n n, .slice (some ⟨gp, 0, none⟩) n n, .slice (some ⟨gt, ot, none⟩) TH.length c9, .slice (some ⟨gc, 0, none⟩) n n] 45 (0, 0))) := lhid (heap_keep (HCh.out.keep HGl.out (fun e => by have h1 := HNM.out; omega)) hbz)
         have HCELL : Hid (∀ w' : World, w'.heap[gb]? = wz.heap[gb]? → w'.cell? ⟨gb, 5, none⟩ = some (.slice (some ⟨gc, 0, none⟩) n n)) := lhid (fun w' hw' => heap_cell (hw'.trans HGz.out) rfl)
         obtain ⟨UA, uc, hcu, hou, hlo⟩ := HLLz.out.at' hl
         have HCU := lhid hcu
         have HOU := lhid hou
         have HGB2 : Hid (gb < wz.heap.size ∧ ¬ LLo wz gc gb ∧ C3 ≤ wz.heap.size) := lhid ⟨heap_lt HGz.out, fun e => by have h1 := (HLLz.out.own e).1; have h2 := HNM.out; have h3 := HC3.out; omega, by have h1 := HC3.out; have h2 := HChz.out.size; omega⟩
         have h63 : l.length + 1 ≤ maxLen := by have h1 := HCS.out.few t l hl; have h2 := HTLn.out; have h3 := HNB.out; unfold maxLen; omega
         have hby8 : (l.length + 1) * 8 ≤ 140737488355328 := by have h1 := HCS.out.few t l hl; have h2 := HTLn.out; omega
         clear hcu hou c0 hgl
         refine wp_region_held_drew (S := fun w' => w'.heap[gb]? = wz.heap[gb]?) (by kernel_rfl) (by rw [hwz]) ?_
         intro hS0
         rw [← hwz] at hS0 ⊢
         clear hwz hbz HCh HLL HRK
         obtain ⟨wy, hwy⟩ : ∃ wy, wy = wz.alloc (.cells #[.int .i64 (m : Int)] 3) := ⟨_, rfl⟩
         have hbyz : Below wz.heap.size wz wy := by rw [hwy]; exact (Below.refl _ _).alloc (Nat.le_refl _) _
         have HNB1 : Hid (wy.heap[wz.heap.size]? = some (.cells #[.int .i64 (m : Int)] 3 (0, 0))) := lhid (by rw [hwy]; exact heap_alloc_new wz _)
         have HOUy : Hid (OwN wy C3 (.slice UA l.length uc) l) := lhid (own_below HOU.out hbyz)
         have HCUy : Hid (wy.cell? ⟨gc, t, none⟩ = some (.slice UA l.length uc)) := lhid ((hbyz.cell (cell_lt HCU.out)).trans HCU.out)
         have HSy : Hid (wy.heap[gb]? = wz.heap[gb]?) := lhid (hbyz.block gb HGB2.out.1)
         have HWY := lhid hwy
         clear hwy
         have hCs : C3 ≤ wy.heap.size := Nat.le_trans HGB2.out.2.2 hbyz.size
         refine wpAnyH_take (i := 0) (v := ?tv533) rfl (by kernel_rfl) (by kernel_rfl) (by kernel_rfl) (fun _ _ _ h => h) (Or.inl ⟨by rfl, ?ty533⟩) hS0 ?tr533
         case ty533 => (intro w' hw'; obtain p0 := HCELL.out w' hw'; go_simp; try with_reducible rfl)
         try simp only [List.getElem_toArray, List.getElem_cons_zero, List.getElem_cons_succ]
         try simp only [Act.put, List.setIfInBounds_toArray, List.set_cons_zero, List.set_cons_succ]
         refine wpAnyH_take (i := 1) (v := ?tv534) rfl (by kernel_rfl) (by kernel_rfl) (by kernel_rfl) (fun _ _ _ h => h) (Or.inl ⟨by rfl, ?ty534⟩) hS0 ?tr534
         case ty534 => (intro w' hw'; obtain p0 := HCELL.out w' hw'; go_simp; try with_reducible rfl)
         try simp only [List.getElem_toArray, List.getElem_cons_zero, List.getElem_cons_succ]
         try simp only [Act.put, List.setIfInBounds_toArray, List.set_cons_zero, List.set_cons_succ]
         refine wpAnyH_take (i := 2) (v := ?tv535) rfl (by kernel_rfl) (by kernel_rfl) (by kernel_rfl) (fun _ _ _ h => h) (Or.inl ⟨by rfl, ?ty535⟩) hS0 ?tr535
         case ty535 => (intro w' hw'; obtain p0 := HCELL.out w' hw'; go_simp; try with_reducible rfl)
         try simp only [List.getElem_toArray, List.getElem_cons_zero, List.getElem_cons_succ]
         try simp only [Act.put, List.setIfInBounds_toArray, List.set_cons_zero, List.set_cons_succ]
         refine wpAnyH_take (i := 3) (v := ?tv536) rfl (by kernel_rfl) (by kernel_rfl) (by kernel_rfl) (fun _ _ _ h => h) (Or.inl ⟨by rfl, ?ty536⟩) hS0 ?tr536
         case ty536 => (intro w' hw'; obtain p0 := HCELL.out w' hw'; go_simp; try with_reducible rfl)
         try simp only [List.getElem_toArray, List.getElem_cons_zero, List.getElem_cons_succ]
         try simp only [Act.put, List.setIfInBounds_toArray, List.set_cons_zero, List.set_cons_succ]
         refine wpAnyH_take (i := 4) (v := ?tv537) rfl (by kernel_rfl) (by kernel_rfl) (by kernel_rfl) (fun _ _ _ h => h) (Or.inl ⟨by rfl, ?ty537⟩) hS0 ?tr537
         case ty537 => (intro w' hw'; obtain p0 := HCELL.out w' hw'; go_simp; try with_reducible rfl)
         try simp only [List.getElem_toArray, List.getElem_cons_zero, List.getElem_cons_succ]
         try simp only [Act.put, List.setIfInBounds_toArray, List.set_cons_zero, List.set_cons_succ]
         refine wpAnyH_take (i := 5) (v := ?tv538) rfl (by kernel_rfl) (by kernel_rfl) (by kernel_rfl) (fun _ _ _ h => h) (Or.inl ⟨by rfl, ?ty538⟩) hS0 ?tr538
         case ty538 => (intro w' hw'; obtain p0 := HCELL.out w' hw'; go_simp; try with_reducible rfl)
         try simp only [List.getElem_toArray, List.getElem_cons_zero, List.getElem_cons_succ]
         try simp only [Act.put, List.setIfInBounds_toArray, List.set_cons_zero, List.set_cons_succ]
         refine wpAnyH_take (i := 6) (v := ?tv539) rfl (by kernel_rfl) (by kernel_rfl) (by kernel_rfl) (fun _ _ _ h => h) (Or.inl ⟨by rfl, ?ty539⟩) hS0 ?tr539
         case ty539 => (intro w' hw'; obtain p0 := HCELL.out w' hw'; go_simp; try with_reducible rfl)
         try simp only [List.getElem_toArray, List.getElem_cons_zero, List.getElem_cons_succ]
         try simp only [Act.put, List.setIfInBounds_toArray, List.set_cons_zero, List.set_cons_succ]
         refine wpAnyH_take (i := 8) (v := ?tv540) rfl (by kernel_rfl) (by kernel_rfl) (by kernel_rfl) (fun _ _ _ h => h) (Or.inl ⟨by rfl, ?ty540⟩) hS0 ?tr540
         case ty540 => (intro w' hw'; obtain p0 := HCELL.out w' hw'; go_simp; try with_reducible rfl)
         try simp only [List.getElem_toArray, List.getElem_cons_zero, List.getElem_cons_succ]
         try simp only [Act.put, List.setIfInBounds_toArray, List.set_cons_zero, List.set_cons_succ]
         refine wpAnyH_ready (rs := [7, 9]) (by kernel_rfl) (by simp) ?_
         refine AllReadyH.cons rfl (fun K hK => ?_) (AllReadyH.cons rfl (fun K hK => ?_) AllReadyH.nil)
         ·have g7 := HCU.out
          go_simp
          clear g7
          refine hK.out _ _ hS0 (fun _ => ?_)
          clear hK K
          try simp only [Act.put, List.setIfInBounds_toArray, List.set_cons_zero, List.set_cons_succ]
          refine wpAnyH_ready (rs := [9]) (by kernel_rfl) (by simp) ?_
          refine AllReadyH.cons rfl (fun K hK => ?_) AllReadyH.nil
          go_simp
          rw [← HWY.out]
          refine hK.out _ _ HSy.out (fun _ => ?_)
          clear hK K
          try simp only [Act.put, List.setIfInBounds_toArray, List.set_cons_zero, List.set_cons_succ]
          refine wpAnyH_ready (rs := [10]) (by kernel_rfl) (by simp) ?_
          refine AllReadyH.cons rfl (fun K hK => ?_) AllReadyH.nil
          refine step_append_lies _ rfl (.tmp 105) (.tmp 107) 22 rfl C3 3 i0 (.int .i64 0) 1 8 Try.underlying22 hi0 hz0 hz1 hz2 rfl (by decide) (.slice UA l.length uc) l.length (l.map fun z => .int .i64 z) rfl HOUy.out _ 1 _ [.int .i64 (m : Int)] rfl rfl (World.news_of_block HNB1.out) (by simp [Value.oneCell']) (by decide) h63 hby8 hCs _ rfl ?_
          intro g' cap w6 hown hgrow hat hlt6
          have hc6 : Ch (fun b => (Value.slice UA l.length uc).ownBlock = some b) wz w6 := ((Ch.refl (fun b => (Value.slice UA l.length uc).ownBlock = some b) wz).below hbyz).grown hgrow (fun k e _ => e)
          have ho6 : OwN w6 C3 (.slice (some ⟨g', 0, none⟩) (l.length + 1) cap) (l ++ [(m : Int)]) := by
           show w6.ownsRow _ _ _ _ _ _
           rw [List.length_append, List.map_append]
           exact hown
          have hf6 : ∀ b, (Value.slice (some ⟨g', 0, none⟩) (l.length + 1) cap).ownBlock = some b → (Value.slice UA l.length uc).ownBlock = some b ∨ wz.heap.size ≤ b := fun b hb => by
           injection hb with hb
           subst hb
           rcases hat with h9 | h9
           ·exact .inl h9
           ·right; rw [h9]; exact hbyz.size
          have hgx : ∀ b, (Value.slice UA l.length uc).ownBlock = some b → C3 ≤ b := fun b e => (HOU.out.lt b e).1
          have hS6 : w6.heap[gb]? = wz.heap[gb]? := hc6.block gb HGB2.out.1 (fun e => HGB2.out.2.1 (hlo gb e))
          obtain ⟨cp, hcp, _⟩ := HLLz.out
          have hgp6 : w6.heap[gc]? = some (.cells cp 22 (0, 0)) := hc6.keep hcp (fun e => by have h1 := hgx gc e; have h2 := HNM.out; have h3 := HC3.out; omega)
          have cu6 : w6.cell? ⟨gc, t, none⟩ = some (.slice UA l.length uc) := (cell_heap (hgp6.trans hcp.symm) t).trans HCU.out
          have zu6 := heap_thaw hgp6 t
          have lu6 := heap_lt hgp6
          refine hK.out _ _ hS6 (fun _ => ?_)
          clear hK K
          try simp only [Act.put, List.setIfInBounds_toArray, List.set_cons_zero, List.set_cons_succ]
          refine wpAnyH_take (i := 11) (v := ?tv541) rfl (by kernel_rfl) (by kernel_rfl) (by kernel_rfl) (fun _ _ _ h => h) (Or.inl ⟨by rfl, ?ty541⟩) hS6 ?tr541
          case ty541 => (intro w' hw'; obtain p0 := HCELL.out w' hw'; go_simp; try with_reducible rfl)
          try simp only [List.getElem_toArray, List.getElem_cons_zero, List.getElem_cons_succ]
          try simp only [Act.put, List.setIfInBounds_toArray, List.set_cons_zero, List.set_cons_succ]
          refine wpAnyH_ready (rs := [12]) (by kernel_rfl) (by simp) ?_
          refine AllReadyH.cons rfl (fun K hK => ?_) AllReadyH.nil
          go_simp
          have hS7 : (w6.setCell ⟨gc, t, none⟩ (.slice (some ⟨g', 0, none⟩) (l.length + 1) cap)).heap[gb]? = wz.heap[gb]? := (Below.heap_setCell _ _ _ _ (by have h1 := HNM.out; show gb ≠ gc; omega)).trans hS6
          have H7 := HLLz.out.push (by have h2 := HNM.out; have h3 := HC3.out; omega) HChz.out HC3.out.symm hl HCU.out hc6 ho6 hf6
          have HL7 := lhid H7.1
          have HC7 := lhid H7.2.1
          have HR7 := lhid (H7.2.2 _ _ HRKz.out)
          clear H7
          refine hK.out _ _ hS7 (fun _ => ?_)
          clear hK K
          try simp only [Act.put, List.setIfInBounds_toArray, List.set_cons_zero, List.set_cons_succ]
          refine wpAnyH_done (by kernel_rfl) ?_ _
          have HP7 : Hid (CsS f n TH m ((caughtL f p).take (q + 1)) (CS'.set t (l ++ [(m : Int)]))) := lhid (by rw [take_snoc HQZ.out]; exact HCS.out.step hl HNT.out)
          clear hS0 hS6 hS7 hown hgrow hat hlt6 hc6 ho6 hf6 hgx hcp hgp6 cu6 zu6 lu6 hlo hl hbyz HLLz HChz HCS HRKz
          go_wp2_with fail
          go_roundg ((caughtL f p).length - (q + 1))
          case measure => exact HMS.out
          case rel => exact ⟨q + 1, _, rfl, by first | rfl | rw [hwq], HQS.out, HC7, HL7, HP7, HR7⟩
         ·go_simp
          rw [← HWY.out]
          refine hK.out _ _ HSy.out (fun _ => ?_)
          clear hK K
          try simp only [Act.put, List.setIfInBounds_toArray, List.set_cons_zero, List.set_cons_succ]
          refine wpAnyH_ready (rs := [7]) (by kernel_rfl) (by simp) ?_
          refine AllReadyH.cons rfl (fun K hK => ?_) AllReadyH.nil
          have g7 := HCUy.out
          go_simp
          clear g7
          refine hK.out _ _ HSy.out (fun _ => ?_)
          clear hK K
          try simp only [Act.put, List.setIfInBounds_toArray, List.set_cons_zero, List.set_cons_succ]
          refine wpAnyH_ready (rs := [10]) (by kernel_rfl) (by simp) ?_
          refine AllReadyH.cons rfl (fun K hK => ?_) AllReadyH.nil
          refine step_append_lies _ rfl (.tmp 105) (.tmp 107) 22 rfl C3 3 i0 (.int .i64 0) 1 8 Try.underlying22 hi0 hz0 hz1 hz2 rfl (by decide) (.slice UA l.length uc) l.length (l.map fun z => .int .i64 z) rfl HOUy.out _ 1 _ [.int .i64 (m : Int)] rfl rfl (World.news_of_block HNB1.out) (by simp [Value.oneCell']) (by decide) h63 hby8 hCs _ rfl ?_
          intro g' cap w6 hown hgrow hat hlt6
          have hc6 : Ch (fun b => (Value.slice UA l.length uc).ownBlock = some b) wz w6 := ((Ch.refl (fun b => (Value.slice UA l.length uc).ownBlock = some b) wz).below hbyz).grown hgrow (fun k e _ => e)
          have ho6 : OwN w6 C3 (.slice (some ⟨g', 0, none⟩) (l.length + 1) cap) (l ++ [(m : Int)]) := by
           show w6.ownsRow _ _ _ _ _ _
           rw [List.length_append, List.map_append]
           exact hown
          have hf6 : ∀ b, (Value.slice (some ⟨g', 0, none⟩) (l.length + 1) cap).ownBlock = some b → (Value.slice UA l.length uc).ownBlock = some b ∨ wz.heap.size ≤ b := fun b hb => by
           injection hb with hb
           subst hb
           rcases hat with h9 | h9
           ·exact .inl h9
           ·right; rw [h9]; exact hbyz.size
          have hgx : ∀ b, (Value.slice UA l.length uc).ownBlock = some b → C3 ≤ b := fun b e => (HOU.out.lt b e).1
          have hS6 : w6.heap[gb]? = wz.heap[gb]? := hc6.block gb HGB2.out.1 (fun e => HGB2.out.2.1 (hlo gb e))
          obtain ⟨cp, hcp, _⟩ := HLLz.out
          have hgp6 : w6.heap[gc]? = some (.cells cp 22 (0, 0)) := hc6.keep hcp (fun e => by have h1 := hgx gc e; have h2 := HNM.out; have h3 := HC3.out; omega)
          have cu6 : w6.cell? ⟨gc, t, none⟩ = some (.slice UA l.length uc) := (cell_heap (hgp6.trans hcp.symm) t).trans HCU.out
          have zu6 := heap_thaw hgp6 t
          have lu6 := heap_lt hgp6
          refine hK.out _ _ hS6 (fun _ => ?_)
          clear hK K
          try simp only [Act.put, List.setIfInBounds_toArray, List.set_cons_zero, List.set_cons_succ]
          refine wpAnyH_take (i := 11) (v := ?tv542) rfl (by kernel_rfl) (by kernel_rfl) (by kernel_rfl) (fun _ _ _ h => h) (Or.inl ⟨by rfl, ?ty542⟩) hS6 ?tr542
          case ty542 => (intro w' hw'; obtain p0 := HCELL.out w' hw'; go_simp; try with_reducible rfl)
          try simp only [List.getElem_toArray, List.getElem_cons_zero, List.getElem_cons_succ]
          try simp only [Act.put, List.setIfInBounds_toArray, List.set_cons_zero, List.set_cons_succ]
          refine wpAnyH_ready (rs := [12]) (by kernel_rfl) (by simp) ?_
          refine AllReadyH.cons rfl (fun K hK => ?_) AllReadyH.nil
          go_simp
          have hS7 : (w6.setCell ⟨gc, t, none⟩ (.slice (some ⟨g', 0, none⟩) (l.length + 1) cap)).heap[gb]? = wz.heap[gb]? := (Below.heap_setCell _ _ _ _ (by have h1 := HNM.out; show gb ≠ gc; omega)).trans hS6
          have H7 := HLLz.out.push (by have h2 := HNM.out; have h3 := HC3.out; omega) HChz.out HC3.out.symm hl HCU.out hc6 ho6 hf6
          have HL7 := lhid H7.1
          have HC7 := lhid H7.2.1
          have HR7 := lhid (H7.2.2 _ _ HRKz.out)
          clear H7
          refine hK.out _ _ hS7 (fun _ => ?_)
          clear hK K
          try simp only [Act.put, List.setIfInBounds_toArray, List.set_cons_zero, List.set_cons_succ]
          refine wpAnyH_done (by kernel_rfl) ?_ _
          have HP7 : Hid (CsS f n TH m ((caughtL f p).take (q + 1)) (CS'.set t (l ++ [(m : Int)]))) := lhid (by rw [take_snoc HQZ.out]; exact HCS.out.step hl HNT.out)
          clear hS0 hS6 hS7 hown hgrow hat hlt6 hc6 ho6 hf6 hgx hcp hgp6 cu6 zu6 lu6 hlo hl hbyz HLLz HChz HCS HRKz
          go_wp2_with fail
          go_roundg ((caughtL f p).length - (q + 1))
          case measure => exact HMS.out
          case rel => exact ⟨q + 1, _, rfl, by first | rfl | rw [hwq], HQS.out, HC7, HL7, HP7, HR7⟩
        ·have k5 : ¬ (q : Int) < (caughtL f p).length := by omega
         have HP8 : Hid (CsS f n TH (m + 1) [] CS') := lhid (by
          have h1 := HCS.out
          rw [List.take_of_length_le (Nat.le_of_not_lt hlq)] at h1
          exact CsS.done (tl := p :: ps) h1 HTM.out)
         clear HCS HRK
         go_wp2_with fail
         go_roundg (TH.length - (m + 1))
         case measure => exact HMM.out
         case rel => exact ⟨m + 1, CS', rfl, by first | rfl | rw [hwm], hlm, HCh, HLL, HP8⟩
      ·have k4 : ¬ (m : Int) < TH.length := by omega
       have hme : TH.length = m := by omega
       have HCSf : Hid (CsS f n TH TH.length [] CS) := lhid (by rw [hme]; exact HCS.out)
       clear hme HCS
       have HBr : Hid (Below w.heap.size w wr) := lhid (HBl.out.trans (HCh.out.to HBl.out.size (fun b e => by have h1 := HNM.out; have h2 := HB0.out; omega)))
       have HGr : Hid (wr.heap[gb]? = some (.cells #[.slice (some ⟨gu, 0, none⟩) n n, .slice (some ⟨gd, 0, none⟩) n n, .slice (some ⟨gn, 0, none⟩) n n, .slice (some ⟨gp, 0, none⟩) n n, .slice A9 TH.length c9, .slice (some ⟨gc, 0, none⟩) n n] 45 (0, 0))) := lhid (HCh.out.keep HGl.out (fun e => by have h1 := HNM.out; omega))
       have HRr : Hid (wr.heap[B0 + 1]? = some (.cells #[.slice none 0 0, .slice none 0 0, .slice none 0 0, .slice none 0 0, .slice none 0 0, .slice none 0 0] 45 (0, 0))) := lhid (HCh.out.keep HRl.out (fun e => by have h1 := HNM.out; omega))
       have y0 := heap_cell (i := 0) HGr.out rfl
       have y1 := heap_cell (i := 1) HGr.out rfl
       have y2 := heap_cell (i := 2) HGr.out rfl
       have y3 := heap_cell (i := 3) HGr.out rfl
       have y4 := heap_cell (i := 4) HGr.out rfl
       have y5 := heap_cell (i := 5) HGr.out rfl
       have r0 := heap_cell (i := 0) HRr.out rfl
       have r1 := heap_cell (i := 1) HRr.out rfl
       have r2 := heap_cell (i := 2) HRr.out rfl
       have r3 := heap_cell (i := 3) HRr.out rfl
       have r4 := heap_cell (i := 4) HRr.out rfl
       have r5 := heap_cell (i := 5) HRr.out rfl
       have z0 := heap_thaw HRr.out 0
       have z1 := heap_thaw HRr.out 1
       have z2 := heap_thaw HRr.out 2
       have z3 := heap_thaw HRr.out 3
       have z4 := heap_thaw HRr.out 4
       have z5 := heap_thaw HRr.out 5
       have rl := heap_lt HRr.out
       go_wp2_with fail
       clear y0 y1 y2 y3 y4 y5 r0 r1 r2 r3 r4 r5 z0 z1 z2 z3 z4 z5
       refine bodyPost_ret (results_cell_row rfl _ _ (B0 + 1) 45 _ _ _ rfl (six_set HRr.out _ _ _ _ _ _) Try.underlying45 rfl sizeWebL) rfl ?_
       have hcf := ((((((Ch.refl (fun b => b = B0 + 1) wr).set (p := ⟨B0 + 1, 0, none⟩) (fun _ => rfl) (.slice (some ⟨gu, 0, none⟩) n n)).set (p := ⟨B0 + 1, 1, none⟩) (fun _ => rfl) (.slice (some ⟨gd, 0, none⟩) n n)).set (p := ⟨B0 + 1, 2, none⟩) (fun _ => rfl) (.slice (some ⟨gn, 0, none⟩) n n)).set (p := ⟨B0 + 1, 3, none⟩) (fun _ => rfl) (.slice (some ⟨gp, 0, none⟩) n n)).set (p := ⟨B0 + 1, 4, none⟩) (fun _ => rfl) (.slice A9 TH.length c9)).set (p := ⟨B0 + 1, 5, none⟩) (fun _ => rfl) (.slice (some ⟨gc, 0, none⟩) n n)
       have hnm := HNM.out
       have hc3 := HC3.out
       have hus := (HW.out.us.ch HCh.out (fun e => hnm.2.2.2.2.2.2.1.1 e.symm) (fun b hb _ e => by have := hb.1; omega)).ch hcf (fun e => by omega) (fun b hb _ e => by have := hb.1; omega)
       have hns := (HW.out.ns.ch HCh.out (fun e => hnm.2.2.2.2.2.2.1.2.2.1 e.symm) (fun b hb _ e => by have := hb.1; omega)).ch hcf (fun e => by omega) (fun b hb _ e => by have := hb.1; omega)
       have hds := (HW.out.ds.of (HCh.out.block gd HW.out.ds.lt (fun e => hnm.2.2.2.2.2.2.1.2.1 e.symm))).of (hcf.block gd (Nat.lt_of_lt_of_le HW.out.ds.lt HCh.out.size) (fun e => by omega))
       have hpr := (HW.out.pr.ch HCh.out (fun e => hnm.2.2.2.2.2.2.1.2.2.2 e.symm) (fun b hb e => by have := (HW.out.pr.own hb).1; omega)).ch hcf (fun e => by omega) (fun b hb e => by have := (LL.own (HW.out.pr.ch HCh.out (fun e => hnm.2.2.2.2.2.2.1.2.2.2 e.symm) (fun b hb e => by have := (HW.out.pr.own hb).1; omega)) hb).1; omega)
       have hth := ((HTl.out.ch (keptX_ls _) HCh.out (fun b hb e => hb.1 e)).ch (keptX_ls _) hcf (fun b hb e => by have := hb.2; omega)).mono (E' := LsE Tru) (Q := Tru) (fun a c hc => by obtain ⟨u, e, hu⟩ := hc; exact ⟨u, e, hu.any fun _ _ => trivial⟩) (fun _ _ _ => trivial) ls_ne
       have hcs := HLL.out.ch hcf (fun e => by omega) (fun b hb e => by have := (HLL.out.own hb).1; omega)
       exact ⟨_, _, _, _, _, _, _, _, _, _, _, _, PR, TH, CS, bg, rfl, hus.rd HNB.out, hds.rd HNB.out, hns.rd HNB.out, hpr.rd HNB.out (fun l hl => by have h1 := HPR.out.few l hl; have h2 := HNB8.out; simp at h1; omega), hth, hcs.rd HNB.out (fun l hl => by obtain ⟨i, hi⟩ := List.getElem?_of_mem hl; have h1 := HCSf.out.few i l hi; have h2 := HTLn.out; have h3 := HNB8.out; omega), HPR.out, hTI.out, HCSf.out, HBr.out.trans (hcf.to HBr.out.size (fun b e => by have := HB0.out; omega))⟩
 case hstep =>
  rintro listed a wq j hs ⟨l1, l3, l5, l7, l8, l9, l11, l12, l13, g, v9, ⟨rfl, rfl, HP, HI, HT⟩ | ⟨rfl, rfl, HF⟩⟩ hi
  ·obtain ⟨h1, o, ho, h3⟩ := mem_ready.1 hi
   rcases j with _ | _ | _ | _ | _ | _ | _ | _ | _ | _ | _ | _ | _ | _ | _ | j
   all_goals try (have ho := Option.some.inj ho; subst ho)
   ·simp at h1
   ·have e : l1 = false := h1
    have e12 : l12 = false := by
     cases l12 with
     | false => rfl
     | true => have h9 := HP.out.2 rfl; rw [e] at h9; simp at h9
    subst e12
    have HB := lhid (HFK.out _ HI.out.bel)
    subst e
    refine wpOp_step rfl (fun K hK => ?_)
    go_simp
    refine hK _ _ ?_
    exact ⟨true, l3, l5, l7, l8, l9, l11, false, l13, (fun j => if j = 1 then wq.heap.size else g j), v9, .inl ⟨rfl, rfl, lhid ⟨HP.out.1, fun h => (by cases h)⟩, lhid (by have h9 := HI.out.alloc HB.out.2 1 (webO n 1) rfl; rw [mkL_1] at h9; exact h9), lhid (fun h => by have h9 := (HT.out h).alloc 1 (webO n 1); rw [mkL_1] at h9; exact h9)⟩⟩
   ·simp at h1
   ·have e : l3 = false := h1
    have e12 : l12 = false := by
     cases l12 with
     | false => rfl
     | true => have h9 := HP.out.2 rfl; rw [e] at h9; simp at h9
    subst e12
    have HB := lhid (HFK.out _ HI.out.bel)
    subst e
    refine wpOp_step rfl (fun K hK => ?_)
    go_simp
    refine hK _ _ ?_
    exact ⟨l1, true, l5, l7, l8, l9, l11, false, l13, (fun j => if j = 3 then wq.heap.size else g j), v9, .inl ⟨rfl, rfl, lhid ⟨HP.out.1, fun h => (by cases h)⟩, lhid (by have h9 := HI.out.alloc HB.out.2 3 (webO n 3) rfl; rw [mkL_3] at h9; exact h9), lhid (fun h => by have h9 := (HT.out h).alloc 3 (webO n 3); rw [mkL_3] at h9; exact h9)⟩⟩
   ·simp at h1
   ·have e : l5 = false := h1
    have e12 : l12 = false := by
     cases l12 with
     | false => rfl
     | true => have h9 := HP.out.2 rfl; rw [e] at h9; simp at h9
    subst e12
    have HB := lhid (HFK.out _ HI.out.bel)
    subst e
    refine wpOp_step rfl (fun K hK => ?_)
    go_simp
    refine hK _ _ ?_
    exact ⟨l1, l3, true, l7, l8, l9, l11, false, l13, (fun j => if j = 5 then wq.heap.size else g j), v9, .inl ⟨rfl, rfl, lhid ⟨HP.out.1, fun h => (by cases h)⟩, lhid (by have h9 := HI.out.alloc HB.out.2 5 (webO n 5) rfl; rw [mkL_5] at h9; exact h9), lhid (fun h => by have h9 := (HT.out h).alloc 5 (webO n 5); rw [mkL_5] at h9; exact h9)⟩⟩
   ·simp at h1
   ·have e : l7 = false := h1
    have e12 : l12 = false := by
     cases l12 with
     | false => rfl
     | true => have h9 := HP.out.2 rfl; rw [e] at h9; simp at h9
    subst e12
    have HB := lhid (HFK.out _ HI.out.bel)
    subst e
    refine wpOp_step rfl (fun K hK => ?_)
    go_simp
    refine hK _ _ ?_
    exact ⟨l1, l3, l5, true, l8, l9, l11, false, l13, (fun j => if j = 7 then wq.heap.size else g j), v9, .inl ⟨rfl, rfl, lhid ⟨HP.out.1, fun h => (by cases h)⟩, lhid (by have h9 := HI.out.alloc HB.out.2 7 (webO n 7) rfl; rw [mkL_7] at h9; exact h9), lhid (fun h => by have h9 := (HT.out h).alloc 7 (webO n 7); rw [mkL_7] at h9; exact h9)⟩⟩
   ·have e : l8 = false := h1
    have e9 : l9 = false := by
     cases l9 with
     | false => rfl
     | true => have h9 := HP.out.1 rfl; rw [e] at h9; cases h9
    subst e9
    subst e
    obtain ⟨p0, p1, p2, p3, p4⟩ := (HFK.out _ HI.out.bel).1.cells
    refine wpOp_step rfl (fun K hK => ?_)
    go_simp
    refine hK _ _ ?_
    exact ⟨l1, l3, l5, l7, true, false, l11, l12, l13, g, v9, .inl ⟨rfl, rfl, lhid ⟨fun h => (by cases h), fun h => by have h9 := HP.out.2 h; cases h9.2.2.2.2.1⟩, HI, lhid (fun h => (by cases h))⟩⟩
   ·have e : l9 = false := h1
    have e8 : l8 = true := h3 ⟨8, .data⟩ (by simp) rfl
    subst e8
    have e12 : l12 = false := by
     cases l12 with
     | false => rfl
     | true => have h9 := HP.out.2 rfl; rw [e] at h9; simp at h9
    subst e12
    subst e
    have HB := lhid (HFK.out _ HI.out.bel)
    have HBQ : Hid (Below w.heap.size w wq) := lhid (HBW.out.trans (HI.out.bel.mono (by have := HB0.out; omega)))
    refine wpOp_step rfl (fun K hK => ?_)
    go_simp
    refine (throwing_any f n HN.out _ _ _ _ wq (lhid (HFU.out.below HBQ.out)) HTC hrow).mono ?_
    rintro e w5 ⟨v, TH, bg, rfl, ho, ht, hb⟩
    dsimp only
    refine hK _ _ ?_
    exact ⟨l1, l3, l5, l7, true, true, l11, false, l13, g, v, .inl ⟨rfl, rfl, lhid ⟨fun _ => rfl, fun h => (by cases h)⟩, lhid (HI.out.more hb HB.out.2), lhid (fun _ => WbT.made HI.out HB.out.2 HNB.out ho ht)⟩⟩
   ·simp at h1
   ·have e : l11 = false := h1
    have e12 : l12 = false := by
     cases l12 with
     | false => rfl
     | true => have h9 := HP.out.2 rfl; rw [e] at h9; simp at h9
    subst e12
    have HB := lhid (HFK.out _ HI.out.bel)
    subst e
    refine wpOp_step rfl (fun K hK => ?_)
    go_simp
    refine hK _ _ ?_
    exact ⟨l1, l3, l5, l7, l8, l9, true, false, l13, (fun j => if j = 11 then wq.heap.size else g j), v9, .inl ⟨rfl, rfl, lhid ⟨HP.out.1, fun h => (by cases h)⟩, lhid (by have h9 := HI.out.alloc HB.out.2 11 (webO n 11) rfl; rw [mkL_11] at h9; exact h9), lhid (fun h => by have h9 := (HT.out h).alloc 11 (webO n 11); rw [mkL_11] at h9; exact h9)⟩⟩
   ·have e : l12 = false := h1
    subst e
    have e1 : l1 = true := h3 ⟨1, .data⟩ (by simp) rfl
    have e3 : l3 = true := h3 ⟨3, .data⟩ (by simp) rfl
    have e5 : l5 = true := h3 ⟨5, .data⟩ (by simp) rfl
    have e7 : l7 = true := h3 ⟨7, .data⟩ (by simp) rfl
    have e9 : l9 = true := h3 ⟨9, .data⟩ (by simp) rfl
    have e11 : l11 = true := h3 ⟨11, .data⟩ (by simp) rfl
    subst e1 e3 e5 e7 e9 e11
    obtain ⟨A9, n9, c9, hv9⟩ : ∃ A n c, v9 = .slice A n c := by
     obtain ⟨TH, bg, T0, T1, _, _, _, h4, _⟩ := HT.out rfl
     obtain ⟨A, c, h5⟩ := h4.shape
     exact ⟨A, _, c, h5⟩
    subst hv9
    refine wpOp_step rfl (fun K hK => ?_)
    go_simp
    refine hK _ _ ?_
    exact ⟨true, true, true, true, l8, true, true, true, l13, g, .slice A9 n9 c9, .inl ⟨rfl, rfl, lhid ⟨HP.out.1, fun _ => ⟨rfl, rfl, rfl, rfl, rfl, rfl⟩⟩, HI, HT⟩⟩
   ·have e : l13 = false := h1
    have HB := lhid (HFK.out _ HI.out.bel)
    subst e
    refine wpOp_step rfl (fun K hK => ?_)
    go_simp
    refine hK _ _ ?_
    exact ⟨l1, l3, l5, l7, l8, l9, l11, l12, true, (fun j => if j = 13 then wq.heap.size else g j), v9, .inl ⟨rfl, rfl, lhid HP.out, lhid (by have h9 := HI.out.alloc HB.out.2 13 (webO n 13) rfl; rw [mkL_13] at h9; exact h9), lhid (fun h => by have h9 := (HT.out h).alloc 13 (webO n 13); rw [mkL_13] at h9; exact h9)⟩⟩
   ·have e12 : l12 = true := h3 ⟨12, .data⟩ (by simp) rfl
    have e13 : l13 = true := h3 ⟨13, .data⟩ (by simp) rfl
    subst e12 e13
    obtain ⟨rfl, rfl, rfl, rfl, rfl, rfl⟩ := HP.out.2 rfl
    have e8 := HP.out.1 rfl
    subst e8
    obtain ⟨A9, n9, c9, hv9⟩ : ∃ A n c, v9 = .slice A n c := by
     obtain ⟨TH, bg, T0, T1, _, _, _, h4, _⟩ := HT.out rfl
     obtain ⟨A, c, h5⟩ := h4.shape
     exact ⟨A, _, c, h5⟩
    subst hv9
    obtain ⟨hg13, hbx⟩ := HI.out.at' 13 rfl
    replace hbx : wq.heap[g 13]? = some (.cells #[.slice none 0 0, .slice none 0 0, .slice none 0 0, .slice none 0 0, .slice none 0 0, .slice none 0 0] 45 (0, 0)) := hbx
    have y0 := heap_cell (i := 0) hbx rfl
    have y1 := heap_cell (i := 1) hbx rfl
    have y2 := heap_cell (i := 2) hbx rfl
    have y3 := heap_cell (i := 3) hbx rfl
    have y4 := heap_cell (i := 4) hbx rfl
    have y5 := heap_cell (i := 5) hbx rfl
    have x0 := heap_thaw hbx 0
    have x1 := heap_thaw hbx 1
    have x2 := heap_thaw hbx 2
    have x3 := heap_thaw hbx 3
    have x4 := heap_thaw hbx 4
    have x5 := heap_thaw hbx 5
    have xl := heap_lt hbx
    refine wpOp_step rfl (fun K hK => ?_)
    go_simp
    refine hK _ _ ?_
    exact ⟨true, true, true, true, true, true, true, true, true, g, .slice A9 n9 c9, .inr ⟨rfl, rfl, lhid (WbF.made HI.out (HT.out rfl) HS2.out.symm)⟩⟩
   ·simp at ho
  ·obtain ⟨h1, _⟩ := mem_ready.1 hi
   rcases j with _ | _ | _ | _ | _ | _ | _ | _ | _ | _ | _ | _ | _ | _ | _ | j
   all_goals simp at h1
end Go.Proofs.Ytoommeiiadobfaa
