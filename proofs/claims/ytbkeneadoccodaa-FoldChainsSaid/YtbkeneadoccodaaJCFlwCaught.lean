/- Which places may catch what a place throws: the program's Caught. -/
import Derived.Test.YtbkeneadoccodaaM11
import Derived.RangeFuncWrites
import Derived.Deep.Cut
namespace Go.Proofs.Ytbkeneadoccodaa
open Go.RowKit Go Go.Maps
attribute [local go_sem] Oper.semAt_some
set_option linter.unusedVariables false
set_option linter.unusedSimpArgs false
def addU (l : List Int) (x : Int) : List Int := if x ∈ l then l else l ++ [x]
def uniqL (xs : List Int) : List Int := xs.foldl addU []
theorem throws_r (x : InI) (v : Value) (z : Bool) (w : World) (h : Hid (throwsB x.op = z)) : Calls Try.prog 100 #[inA x v] w fun e w' => e = .returned (.bool z) ∧ Below w.heap.size w w' := by
 have := throws_any x v w
 rwa [h.out] at this
def unitV : Value := .agg #[]
def mapF (l : List Int) : Int → Option Value := fun s => if s ∈ l then some unitV else none
structure CgI (wL : World) (L0 mb : Nat) (pre : List Int) (W : World) : Prop where
 ch : Ch (fun k => k = L0 ∨ k = mb) wL W
 box : ∃ v, W.heap[L0]? = some (.cells #[v] 23 (0, 0)) ∧ OwN W wL.heap.size v (uniqL pre)
 map : MI W mb (uniqL pre).length (mapF (uniqL pre))
theorem cqL_snoc (l : List CqT) (y : CqT) : cqL (l ++ [y]) = cqL l ++ [y.1] := by simp [cqL]
theorem heap_new3 (w : World) (o1 o2 o3 : Obj) : (((w.alloc o1).alloc o2).alloc o3).heap[w.heap.size + 2]? = some o3 := by
 have := heap_alloc_new ((w.alloc o1).alloc o2) o3
 have e : ((w.alloc o1).alloc o2).heap.size = w.heap.size + 2 := by simp
 rwa [e] at this
theorem FuV.lt' {P : Nat → Prop} {w : World} {f : FuI} {fa fb fd fe : Value} (h : FuV P w f fa fb fd fe) : FuV (fun g => g < w.heap.size) w f fa fb fd fe :=
 ⟨h.a.mono (fun _ _ h => h) (fun _ _ h => h) nu_ne, h.b.mono (fun _ _ h => h) (fun _ _ h => h) nu_ne, h.d.mono (inE_mono fun _ _ h => h) (fun _ _ h => h) in_ne, h.e.mono (fun _ _ h => h) (fun _ _ h => h) rw_ne⟩
theorem own_le {w : World} {B C : Nat} {v : Value} {l : List Int} (h : OwN w B v l) (hc : C ≤ B) : OwN w C v l := ⟨h.1, h.2.imp id fun ⟨g, cap, cur, h1, h2, h3⟩ => ⟨g, cap, cur, h1, Nat.le_trans hc h2, h3⟩⟩
theorem CgI.same {wL : World} {L0 mb : Nat} {pre q : List Int} {W : World} (h : CgI wL L0 mb pre W) (e : uniqL q = uniqL pre) : CgI wL L0 mb q W := ⟨h.ch, by rw [e]; exact h.box, by rw [e]; exact h.map⟩
theorem kpc_put {R : Nat → Prop} {p q B : Nat} {W : World} {l : Nat} {o o' : Obj} (hl : B ≤ l) (ho : W.heap[l]? = some o) (hc : o.isCells = false) (hp : p < B) (hq : q < B) (hR : ∀ k, R k → k < B) : KpC R p q W (W.putObj l o') := fun k hk => by
 refine World.putObj_heap_other ?_
 rintro rfl
 rcases hk with e | e | e | ⟨cs, fz, e⟩
 ·omega
 ·omega
 ·have := hR _ e; omega
 ·rw [ho] at e
  injection e with e
  subst e
  cases hc
theorem CgI.add {R : Nat → Prop} {wL W W2 w3 : World} {L0 p q n : Nat} {pre' u : List Int} {y : Int} {A : Option Addr} {c : Nat} {v' : Value} {x z : Obj}
  (hu : uniqL pre' = u ++ [y]) (hB : wL.heap.size = L0 + 5) (hR : ∀ k, R k → k < L0) (hp : L0 + 1 < p ∧ p < L0 + 5) (hq : L0 + 1 < q ∧ q < L0 + 5)
  (hch : Ch (fun k => k = L0 ∨ k = L0 + 1) wL W) (hbox : W.heap[L0]? = some (.cells #[.slice A u.length c] 23 (0, 0))) (hown : OwN W wL.heap.size (.slice A u.length c) u) (hmi : MI W (L0 + 1) n (mapF u))
  (hg2 : (W.alloc x).grownBy W2 (some (L0 + 1))) (hm2 : MI W2 (L0 + 1) (u.length + 1) (fun t => if t = y then some (.agg #[]) else mapF u t))
  (hgrow : (W2.alloc z).grownBy w3 (Value.slice A u.length c).ownBlock) (hown3 : w3.ownsRow wL.heap.size 3 1 v' (u.length + 1) (u.map vI ++ [vI y])) :
  KeepsFrom wL.heap.size W (w3.setCell ⟨L0, 0, none⟩ v') ∧ KpC R p q W (w3.setCell ⟨L0, 0, none⟩ v') ∧ CgI wL L0 (L0 + 1) pre' (w3.setCell ⟨L0, 0, none⟩ v') := by
 have hs := hch.size
 have hs2 := hg2.size
 have hs3 := hgrow.size
 simp only [World.size_alloc] at hs2 hs3
 have hob : ∀ b, (Value.slice A u.length c).ownBlock = some b → wL.heap.size ≤ b ∧ b < W.heap.size ∧ ∃ cs fz, W.heap[b]? = some (.cells cs 3 fz) := fun b hb => by
  refine ⟨(hown.lt b hb).1, (hown.lt b hb).2, ?_⟩
  rcases hown.2 with ⟨h1, _⟩ | ⟨g, cap, cur, h1, _, h5, _⟩
  ·rw [h1] at hb
   cases hb
  ·rw [h1] at hb
   injection hb with hb
   subst hb
   exact ⟨_, _, h5⟩
 have hk : ∀ k, k < W.heap.size → k ≠ L0 → k ≠ L0 + 1 → (Value.slice A u.length c).ownBlock ≠ some k → (w3.setCell ⟨L0, 0, none⟩ v').heap[k]? = W.heap[k]? := fun k h1 h2 h3 h4 =>
  (Below.heap_setCell _ _ _ _ h2).trans ((hgrow.block k (by simp; omega) (fun e => h4 e.symm)).trans ((Below.heap_alloc _ _ _ (by omega)).trans ((hg2.block k (by simp; omega) (fun e => by injection e with e; omega)).trans (Below.heap_alloc _ _ _ h1))))
 have hL3 : w3.heap[L0]? = some (.cells #[.slice A u.length c] 23 (0, 0)) :=
  (hgrow.block L0 (by simp; omega) (fun e => by have := (hob L0 e.symm).1; omega)).trans ((Below.heap_alloc _ _ _ (by omega)).trans ((hg2.block L0 (by simp; omega) (fun e => by injection e with e; omega)).trans ((Below.heap_alloc _ _ _ (by omega)).trans hbox)))
 have hmk : (w3.setCell ⟨L0, 0, none⟩ v').heap[L0 + 1]? = W2.heap[L0 + 1]? :=
  (Below.heap_setCell _ _ _ _ (show L0 + 1 ≠ L0 by omega)).trans ((hgrow.block (L0 + 1) (by simp; omega) (fun e => by have := (hob _ e.symm).1; omega)).trans (Below.heap_alloc _ _ _ (by omega)))
 refine ⟨((KeepsOthers.alloc W x).from _).trans ((KeepsFrom.of_grownBy hg2 (fun j e => by injection e with e; omega)).trans (((KeepsOthers.alloc W2 z).from _).trans (((KeepsOthers.of_grownBy hgrow (fun j o e ho => ?_)).from _).trans ((KeepsOthers.setCell w3 _ _).from _)))), fun k hkk => ?_, ?_⟩
 ·obtain ⟨h1, h2, cs, fz, h3⟩ := hob j e
  have h4 : (W2.alloc z).heap[j]? = some (.cells cs 3 fz) := (Below.heap_alloc _ _ _ (by omega)).trans ((hg2.block j (by simp; omega) (fun e => by injection e with e; omega)).trans ((Below.heap_alloc _ _ _ h2).trans h3))
  rw [h4] at ho
  injection ho with ho
  subst ho
  rfl
 ·have hne : ∀ b, k = b → L0 + 1 < b ∧ b < L0 + 5 → (w3.setCell ⟨L0, 0, none⟩ v').heap[k]? = W.heap[k]? := fun b e hb =>
   hk k (by omega) (by omega) (by omega) (fun e' => by have := (hob k e').1; omega)
  rcases hkk with e | e | e | ⟨cs, fz, e⟩
  ·exact hne p e hp
  ·exact hne q e hq
  ·have := hR k e
   exact hk k (by omega) (by omega) (by omega) (fun e' => by have := (hob k e').1; omega)
  ·refine hk k (Array.getElem?_eq_some_iff.1 e).1 ?_ ?_ ?_
   ·rintro rfl
    rw [hbox] at e
    injection e with e
    injection e with _ e _
    cases e
   ·rintro rfl
    obtain ⟨D, ⟨es, clock, h1, _⟩, _⟩ := hmi
    rw [h1] at e
    injection e with e
    cases e
   ·intro e'
    obtain ⟨_, _, cs', fz', h3⟩ := hob k e'
    rw [h3] at e
    injection e with e
    injection e with _ e _
    cases e
 ·refine ⟨?_, ⟨v', ?_, ?_⟩, ?_⟩
  ·exact ((((hch.alloc x).grown hg2 (fun k e _ => by injection e with e; exact .inr e.symm)).alloc z).grown hgrow (fun k e hlt => absurd hlt (by have := (hob k e).1; omega))).set (fun _ => .inl rfl) _
  ·exact heap_set hL3 v'
  ·rw [hu]
   have h0 : OwN w3 wL.heap.size v' (u ++ [y]) := by unfold OwN; rw [List.length_append, List.map_append]; exact hown3
   exact own_of h0 fun b hb => Below.heap_setCell _ _ _ _ (by have := (h0.lt b hb).1; show b ≠ L0; omega)
  ·rw [hu, List.length_append]
   refine (hm2.of hmk).ext (fun s => ?_)
   unfold mapF
   by_cases h : s = y
   ·rw [if_pos h, if_pos (by rw [h]; simp)]; rfl
   ·rw [if_neg h]
    by_cases h' : s ∈ u
    ·rw [if_pos h', if_pos (by simp [h'])]
    ·rw [if_neg h', if_neg (by simp [h, h'])]
end Go.Proofs.Ytbkeneadoccodaa
