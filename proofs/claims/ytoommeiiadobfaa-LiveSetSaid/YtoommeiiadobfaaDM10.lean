/- Texts of this claim, joined: DFlwCaught, DFlwHead, DFlwNew, DFlwWeb. -/
import Derived.Test.YtoommeiiadobfaaJDFlwIMap
import Derived.RangeFuncWrites
import Derived.Deep.Cut
import Derived.Deep.RegionLaw
import Derived.Deep.RegionHeld3
/- Which places may catch what a place throws: the program's Caught. -/
namespace Go.Proofs.Ytoommeiiadobfaa
open Go.RowKit Go Go.Maps
attribute [local go_sem] Oper.semAt_some
set_option linter.unusedVariables false
set_option linter.unusedSimpArgs false
def addU (l : List Int) (x : Int) : List Int := if x ∈ l then l else l ++ [x]
def uniqL (xs : List Int) : List Int := xs.foldl addU []
def caughtL (f : FuI) (i : Int) : List Int := match atC f.code i with | none => [] | some x => if throwsB x.op then uniqL (catL f.rows i) else []
theorem uniq_snoc (xs : List Int) (x : Int) : uniqL (xs ++ [x]) = addU (uniqL xs) x := by unfold uniqL; rw [List.foldl_append]; rfl
theorem addU_len (l : List Int) (x : Int) : (addU l x).length ≤ l.length + 1 := by unfold addU; split <;> simp
theorem uniq_len (xs : List Int) : (uniqL xs).length ≤ xs.length := by
 have key : ∀ (xs l : List Int), (xs.foldl addU l).length ≤ l.length + xs.length := by
  intro xs
  induction xs with
  | nil => intro l; simp
  | cons x r ih => intro l; have h1 := ih (addU l x); have h2 := addU_len l x; simp only [List.foldl_cons, List.length_cons]; omega
 have := key xs []
 simpa [uniqL] using this
theorem throws_r (x : InI) (v : Value) (z : Bool) (w : World) (h : Hid (throwsB x.op = z)) : Calls Try.prog 67 #[inA x v] w fun e w' => e = .returned (.bool z) ∧ Below w.heap.size w w' := by
 have := throws_any x v w
 rwa [h.out] at this
def unitV : Value := .agg #[]
theorem zero_unit (w : World) : (zeroValue 94).run Try.prog w = .ok unitV w := by kernel_rfl
def mapF (l : List Int) : Int → Option Value := fun s => if s ∈ l then some unitV else none
structure CgI (wL : World) (L0 mb : Nat) (pre : List Int) (W : World) : Prop where
 ch : Ch (fun k => k = L0 ∨ k = mb) wL W
 box : ∃ v, W.heap[L0]? = some (.cells #[v] 22 (0, 0)) ∧ OwN W wL.heap.size v (uniqL pre)
 map : MI W mb (uniqL pre).length (mapF (uniqL pre))
theorem cqL_snoc (l : List CqT) (y : CqT) : cqL (l ++ [y]) = cqL l ++ [y.1] := by simp [cqL]
theorem mi_at (w2 : World) (x y : Obj) : MI (((w2.alloc x).alloc (.map #[] 0)).alloc y) (w2.heap.size + 1) 0 (fun _ => none) := by
 have h9 := mi_made (w2.alloc x)
 have e9 : (w2.alloc x).heap.size = w2.heap.size + 1 := by simp
 rw [e9] at h9
 exact h9.alloc _
theorem heap_new3 (w : World) (o1 o2 o3 : Obj) : (((w.alloc o1).alloc o2).alloc o3).heap[w.heap.size + 2]? = some o3 := by
 have := heap_alloc_new ((w.alloc o1).alloc o2) o3
 have e : ((w.alloc o1).alloc o2).heap.size = w.heap.size + 2 := by simp
 rwa [e] at this
theorem FuV.lt' {P : Nat → Prop} {w : World} {f : FuI} {fa fb fd fe : Value} (h : FuV P w f fa fb fd fe) : FuV (fun g => g < w.heap.size) w f fa fb fd fe :=
 ⟨h.a.mono (fun _ _ h => h) (fun _ _ h => h) nu_ne, h.b.mono (fun _ _ h => h) (fun _ _ h => h) nu_ne, h.d.mono (inE_mono fun _ _ h => h) (fun _ _ h => h) in_ne, h.e.mono (fun _ _ h => h) (fun _ _ h => h) rw_ne⟩
theorem own_le {w : World} {B C : Nat} {v : Value} {l : List Int} (h : OwN w B v l) (hc : C ≤ B) : OwN w C v l := ⟨h.1, h.2.imp id fun ⟨g, cap, cur, h1, h2, h3⟩ => ⟨g, cap, cur, h1, Nat.le_trans hc h2, h3⟩⟩
theorem CgI.same {wL : World} {L0 mb : Nat} {pre q : List Int} {W : World} (h : CgI wL L0 mb pre W) (e : uniqL q = uniqL pre) : CgI wL L0 mb q W := ⟨h.ch, by rw [e]; exact h.box, by rw [e]; exact h.map⟩
theorem kpc_put {R : Nat → Prop} {p q B : Nat} {W : World} {l : Nat} {o o' : Obj} (hl : B ≤ l) (ho : W.heap[l]? = some o) (hc : o.isCells = false) (hp : p < B) (hq : q < B) (hR : ∀ k, R k → k < B) : KpC R p q W (W.putObj l o') := fun k hk => by
 refine World.putObj_heap_other ?_
 rintro rfl
 rcases hk with e | e | e | ⟨cs, fz, e⟩
 ·omega
 ·omega
 ·have := hR _ e; omega
 ·rw [ho] at e
  injection e with e
  subst e
  cases hc
theorem CgI.other {wL : World} {L0 mb : Nat} {pre : List Int} {W W' : World} {row : Option Nat} (h : CgI wL L0 mb pre W) (hg : W.grownBy W' row) (hr : ∀ r, row = some r → wL.heap.size ≤ r ∧ ∃ o : Obj, W.heap[r]? = some o ∧ o.isCells = false) (h1 : L0 < wL.heap.size) (h2 : mb < wL.heap.size) : CgI wL L0 mb pre W' := by
 have hk : ∀ k, k < wL.heap.size → W'.heap[k]? = W.heap[k]? := fun k hk => hg.block k (Nat.lt_of_lt_of_le hk h.ch.size) (fun e => by have := (hr k e.symm).1; omega)
 obtain ⟨v, hb, ho⟩ := h.box
 refine ⟨h.ch.grown hg (fun k e hlt => absurd hlt (by have := (hr k e).1; omega)), ⟨v, (hk L0 h1).trans hb, own_of ho fun b hb' => hg.block b (ho.lt b hb').2 (fun e => ?_)⟩, h.map.of (hk mb h2)⟩
 obtain ⟨_, o, ho1, ho2⟩ := hr b e.symm
 rcases ho.2 with ⟨rfl, _⟩ | ⟨g, cap, cur, rfl, _, h5, _⟩
 ·cases hb'
 ·injection hb' with hb'
  subst hb'
  rw [h5] at ho1
  injection ho1 with ho1
  subst ho1
  cases ho2
theorem CgI.add {R : Nat → Prop} {wL W W2 w3 : World} {L0 p q n : Nat} {pre' u : List Int} {y : Int} {A : Option Addr} {c : Nat} {v' : Value} {x z : Obj}
  (hu : uniqL pre' = u ++ [y]) (hB : wL.heap.size = L0 + 5) (hR : ∀ k, R k → k < L0) (hp : L0 + 1 < p ∧ p < L0 + 5) (hq : L0 + 1 < q ∧ q < L0 + 5)
  (hch : Ch (fun k => k = L0 ∨ k = L0 + 1) wL W) (hbox : W.heap[L0]? = some (.cells #[.slice A u.length c] 22 (0, 0))) (hown : OwN W wL.heap.size (.slice A u.length c) u) (hmi : MI W (L0 + 1) n (mapF u))
  (hg2 : (W.alloc x).grownBy W2 (some (L0 + 1))) (hm2 : MI W2 (L0 + 1) (u.length + 1) (fun t => if t = y then some (.agg #[]) else mapF u t))
  (hgrow : (W2.alloc z).grownBy w3 (Value.slice A u.length c).ownBlock) (hown3 : w3.ownsRow wL.heap.size 3 1 v' (u.length + 1) (u.map vI ++ [vI y])) :
  KeepsFrom wL.heap.size W (w3.setCell ⟨L0, 0, none⟩ v') ∧ KpC R p q W (w3.setCell ⟨L0, 0, none⟩ v') ∧ CgI wL L0 (L0 + 1) pre' (w3.setCell ⟨L0, 0, none⟩ v') := by
 have hs := hch.size
 have hs2 := hg2.size
 have hs3 := hgrow.size
 simp only [World.size_alloc] at hs2 hs3
 have hob : ∀ b, (Value.slice A u.length c).ownBlock = some b → wL.heap.size ≤ b ∧ b < W.heap.size ∧ ∃ cs fz, W.heap[b]? = some (.cells cs 3 fz) := fun b hb => by
  refine ⟨(hown.lt b hb).1, (hown.lt b hb).2, ?_⟩
  rcases hown.2 with ⟨h1, _⟩ | ⟨g, cap, cur, h1, _, h5, _⟩
  ·rw [h1] at hb
   cases hb
  ·rw [h1] at hb
   injection hb with hb
   subst hb
   exact ⟨_, _, h5⟩
 have hk : ∀ k, k < W.heap.size → k ≠ L0 → k ≠ L0 + 1 → (Value.slice A u.length c).ownBlock ≠ some k → (w3.setCell ⟨L0, 0, none⟩ v').heap[k]? = W.heap[k]? := fun k h1 h2 h3 h4 =>
  (Below.heap_setCell _ _ _ _ h2).trans ((hgrow.block k (by simp; omega) (fun e => h4 e.symm)).trans ((Below.heap_alloc _ _ _ (by omega)).trans ((hg2.block k (by simp; omega) (fun e => by injection e with e; omega)).trans (Below.heap_alloc _ _ _ h1))))
 have hL3 : w3.heap[L0]? = some (.cells #[.slice A u.length c] 22 (0, 0)) :=
  (hgrow.block L0 (by simp; omega) (fun e => by have := (hob L0 e.symm).1; omega)).trans ((Below.heap_alloc _ _ _ (by omega)).trans ((hg2.block L0 (by simp; omega) (fun e => by injection e with e; omega)).trans ((Below.heap_alloc _ _ _ (by omega)).trans hbox)))
 have hmk : (w3.setCell ⟨L0, 0, none⟩ v').heap[L0 + 1]? = W2.heap[L0 + 1]? :=
  (Below.heap_setCell _ _ _ _ (show L0 + 1 ≠ L0 by omega)).trans ((hgrow.block (L0 + 1) (by simp; omega) (fun e => by have := (hob _ e.symm).1; omega)).trans (Below.heap_alloc _ _ _ (by omega)))
 refine ⟨((KeepsOthers.alloc W x).from _).trans ((KeepsFrom.of_grownBy hg2 (fun j e => by injection e with e; omega)).trans (((KeepsOthers.alloc W2 z).from _).trans (((KeepsOthers.of_grownBy hgrow (fun j o e ho => ?_)).from _).trans ((KeepsOthers.setCell w3 _ _).from _)))), fun k hkk => ?_, ?_⟩
 ·obtain ⟨h1, h2, cs, fz, h3⟩ := hob j e
  have h4 : (W2.alloc z).heap[j]? = some (.cells cs 3 fz) := (Below.heap_alloc _ _ _ (by omega)).trans ((hg2.block j (by simp; omega) (fun e => by injection e with e; omega)).trans ((Below.heap_alloc _ _ _ h2).trans h3))
  rw [h4] at ho
  injection ho with ho
  subst ho
  rfl
 ·have hne : ∀ b, k = b → L0 + 1 < b ∧ b < L0 + 5 → (w3.setCell ⟨L0, 0, none⟩ v').heap[k]? = W.heap[k]? := fun b e hb =>
   hk k (by omega) (by omega) (by omega) (fun e' => by have := (hob k e').1; omega)
  rcases hkk with e | e | e | ⟨cs, fz, e⟩
  ·exact hne p e hp
  ·exact hne q e hq
  ·have := hR k e
   exact hk k (by omega) (by omega) (by omega) (fun e' => by have := (hob k e').1; omega)
  ·refine hk k (Array.getElem?_eq_some_iff.1 e).1 ?_ ?_ ?_
   ·rintro rfl
    rw [hbox] at e
    injection e with e
    injection e with _ e _
    cases e
   ·rintro rfl
    obtain ⟨D, ⟨es, clock, h1, _⟩, _⟩ := hmi
    rw [h1] at e
    injection e with e
    cases e
   ·intro e'
    obtain ⟨_, _, cs', fz', h3⟩ := hob k e'
    rw [h3] at e
    injection e with e
    injection e with _ e _
    cases e
 ·refine ⟨?_, ⟨v', ?_, ?_⟩, ?_⟩
  ·exact ((((hch.alloc x).grown hg2 (fun k e _ => by injection e with e; exact .inr e.symm)).alloc z).grown hgrow (fun k e hlt => absurd hlt (by have := (hob k e).1; omega))).set (fun _ => .inl rfl) _
  ·exact heap_set hL3 v'
  ·rw [hu]
   have h0 : OwN w3 wL.heap.size v' (u ++ [y]) := by unfold OwN; rw [List.length_append, List.map_append]; exact hown3
   exact own_of h0 fun b hb => Below.heap_setCell _ _ _ _ (by have := (h0.lt b hb).1; show b ≠ L0; omega)
  ·rw [hu, List.length_append]
   refine (hm2.of hmk).ext (fun s => ?_)
   unfold mapF
   by_cases h : s = y
   ·rw [if_pos h, if_pos (by rw [h]; simp)]; rfl
   ·rw [if_neg h]
    by_cases h' : s ∈ u
    ·rw [if_pos h', if_pos (by simp [h'])]
    ·rw [if_neg h', if_neg (by simp [h, h'])]
set_option maxHeartbeats 8000000 in
set_option maxRecDepth 100000 in
theorem caught_any {P : Nat → Prop} (f : FuI) (fa fb fd fe : Value) (i : Int) (w : World) (h : Hid (FuV P w f fa fb fd fe)) (hrn : Hid (RwN f.rows)) (hrl : Hid (f.rows.length * 8 ≤ 140737488355328)) :
  Calls Try.prog 38 #[fuL fa fb f.ret fd fe, .int .i64 i] w fun e w' => ∃ v, e = .returned v ∧ OwN w' w.heap.size v (caughtL f i) ∧ Below w.heap.size w w' := by
 obtain ⟨D, dcap, hD⟩ := h.out.d.shape
 subst hD
 obtain ⟨E, ecap, hE⟩ := h.out.e.shape
 subst hE
 have hdl := h.out.d.len
 have hel := h.out.e.len
 obtain ⟨n, hn⟩ : ∃ n, f.code.length = n := ⟨_, rfl⟩
 have HN := lhid hn
 have hd := h.out.d
 rw [hn] at hdl hd ⊢
 clear hn
 by_cases hp : 0 ≤ i ∧ i < n
 ·
  obtain ⟨k, rfl⟩ : ∃ k : Nat, i = k := ⟨i.toNat, by omega⟩
  obtain ⟨x, hx⟩ : ∃ x, f.code[k]? = some x := ⟨_, List.getElem?_eq_getElem (by have := HN.out; omega)⟩
  obtain ⟨g, o, v, hD, _, hv, c0, c1, c2, c3, c4, c5, c6, c7, c8⟩ := in_cells hd hx
  subst hD
  have k3 : (k : Int) < n := hp.2
  have HV := lhid hv
  obtain ⟨zt, hzt⟩ : ∃ z, throwsB x.op = z := ⟨_, rfl⟩
  have HT := lhid hzt
  have HCL : Hid (caughtL f (k : Int) = if zt then uniqL (catL f.rows k) else []) := lhid (by unfold caughtL; rw [atC_some hx]; dsimp only; rw [hzt])
  clear hx hv hd hzt
  cases zt with
  | false =>
   have HR : Hid (caughtL f (k : Int) = []) := HCL
   rw [HR.out]
   go_enter Try.func38, Try.ntmps38
   go_wp2_with fail
   with_reducible refine (isPlace_r f fa fb _ n dcap _ (k : Int) true _ (lhid (by simp [hp.2]))).mono ?_
   rintro e w1 ⟨rfl, hb⟩
   have HB1 := lhid (((Below.refl w.heap.size w).alloc (Nat.le_refl _) _).trans (hb.mono (by simp)))
   have hF : FBox w1 w.heap.size fa fb f.ret (.slice (some ⟨g, o, none⟩) n dcap) (.slice E f.rows.length ecap) := heap_keep (heap_alloc_new w _) hb
   obtain ⟨p0, p1, p2, p3, p4⟩ := hF.cells
   have HF1 := lhid hF
   have kc : ∀ {p : Addr} {u : Value}, w.cell? p = some u → w1.cell? p = some u := fun {p u} hq => (HB1.out.cell (p := p) (cell_lt hq)).trans hq
   replace c0 := kc c0
   replace c1 := kc c1
   replace c2 := kc c2
   replace c3 := kc c3
   replace c4 := kc c4
   replace c5 := kc c5
   replace c6 := kc c6
   replace c7 := kc c7
   replace c8 := kc c8
   clear hb hF kc
   go_wp2_with fail
   with_reducible refine (throws_r x v false _ HT).mono ?_
   rintro e w2 ⟨rfl, hb⟩
   have HB2 := lhid (HB1.out.trans (hb.mono HB1.out.size))
   have HF2 : Hid (FBox w2 w.heap.size fa fb f.ret (.slice (some ⟨g, o, none⟩) n dcap) (.slice E f.rows.length ecap)) := lhid (heap_keep HF1.out hb)
   clear hb c0 c1 c2 c3 c4 c5 c6 c7 c8 p0 p1 p2 p3 p4 HB1 HF1
   obtain ⟨p0, p1, p2, p3, p4⟩ := HF2.out.cells
   go_wp2_with fail
   go_ret
   exact ⟨_, rfl, World.ownsRow_nil _ _ _ _, HB2.out⟩
  | true =>
   have HR : Hid (caughtL f (k : Int) = uniqL (catL f.rows k)) := HCL
   rw [HR.out]
   clear HCL
   have hmm := @run_makeMap Try.prog
   refine (callsIn_wide (n := 8)).1 ?_
   refine callsIn_of_wp_marks Try.func38 rfl trivial ?_ rfl
   simp only [Try.ntmps38, List.size_toArray, List.length_cons, List.length_nil, Nat.reduceAdd, Nat.reduceSub, Array.replicate_succ, Array.replicate_zero, List.push_toArray, List.append_toArray, List.nil_append, List.cons_append]
   refine wpIn_wide.2 ?_
   go_wp2_with fail
   with_reducible refine (isPlace_r f fa fb _ n dcap _ (k : Int) true _ (lhid (by simp [hp.2]))).mono ?_
   rintro e w1 ⟨rfl, hb⟩
   have HB1 := lhid (((Below.refl w.heap.size w).alloc (Nat.le_refl _) _).trans (hb.mono (by simp)))
   have hF : FBox w1 w.heap.size fa fb f.ret (.slice (some ⟨g, o, none⟩) n dcap) (.slice E f.rows.length ecap) := heap_keep (heap_alloc_new w _) hb
   obtain ⟨p0, p1, p2, p3, p4⟩ := hF.cells
   have HF1 := lhid hF
   have kc : ∀ {p : Addr} {u : Value}, w.cell? p = some u → w1.cell? p = some u := fun {p u} hq => (HB1.out.cell (p := p) (cell_lt hq)).trans hq
   replace c0 := kc c0
   replace c1 := kc c1
   replace c2 := kc c2
   replace c3 := kc c3
   replace c4 := kc c4
   replace c5 := kc c5
   replace c6 := kc c6
   replace c7 := kc c7
   replace c8 := kc c8
   clear hb hF kc
   go_wp2_with fail
   with_reducible refine (throws_r x v true _ HT).mono ?_
   rintro e w2 ⟨rfl, hb⟩
   have HB2 := lhid (HB1.out.trans (hb.mono HB1.out.size))
   have HF2 : Hid (FBox w2 w.heap.size fa fb f.ret (.slice (some ⟨g, o, none⟩) n dcap) (.slice E f.rows.length ecap)) := lhid (heap_keep HF1.out hb)
   clear hb c0 c1 c2 c3 c4 c5 c6 c7 c8 p0 p1 p2 p3 p4 HB1 HF1
   obtain ⟨p0, p1, p2, p3, p4⟩ := HF2.out.cells
   go_upto_region 5 with fail
   generalize hW : ((w2.alloc _).alloc _).alloc _ = w3
   obtain ⟨L0, hL0⟩ : ∃ L, L = w2.heap.size := ⟨_, rfl⟩
   have h23 : Below w2.heap.size w2 w3 := by rw [← hW]; exact (((Below.refl w2.heap.size w2).alloc (Nat.le_refl _) _).alloc (by simp) _).alloc (by simp; omega) _
   have hs23 : w3.heap.size = L0 + 3 := by rw [← hW, hL0]; simp; try omega
   have hbx : w3.heap[L0]? = some (.cells #[.slice none 0 0] 22 (0, 0)) := by rw [← hW, hL0]; exact (Below.heap_alloc _ _ _ (by simp; omega)).trans ((Below.heap_alloc _ _ _ (by simp)).trans (heap_alloc_new w2 _))
   have hmp : MI w3 (L0 + 1) 0 (fun _ => none) := by rw [← hW, hL0]; exact mi_at w2 _ _
   have htb : w3.heap[L0 + 2]? = some (.cells #[.map (some (L0 + 1))] 90 (0, 0)) := by rw [← hW, hL0]; exact heap_new3 w2 _ _ _
   rw [← hL0]
   have HBX := lhid hbx
   have HMP := lhid hmp
   have HTB := lhid htb
   have HB3 := lhid (HB2.out.trans (h23.mono HB2.out.size))
   have HF3 : Hid (FBox w3 w.heap.size fa fb f.ret (.slice (some ⟨g, o, none⟩) n dcap) (.slice E f.rows.length ecap)) := lhid (heap_keep HF2.out h23)
   have hsw : w.heap.size < L0 := by rw [hL0]; exact heap_lt HF2.out
   clear hbx hmp htb h23 hW HB2 HF2 p0 p1 p2 p3 p4 hL0
   obtain ⟨p0, p1, p2, p3, p4⟩ := HF3.out.cells
   go_wp2_with fail
   with_reducible refine (catchers_c E f.rows.length ecap (k : Int) w3).mono ?_
   rintro e w4 ⟨rfl, hw4⟩
   have h34 : Below w3.heap.size w3 w4 := by rw [hw4]; exact ((Below.refl _ _).alloc (Nat.le_refl _) _).alloc (by simp) _
   have hc1 : w4.cell? ⟨L0 + 3, 0, none⟩ = some (.slice E f.rows.length ecap) := by rw [hw4, ← hs23]; exact heap_cell ((Below.heap_alloc _ _ _ (by simp)).trans (heap_alloc_new w3 _)) rfl
   have hc2 : w4.cell? ⟨L0 + 4, 0, none⟩ = some (.int .i64 (k : Int)) := by rw [hw4, show L0 + 4 = w3.heap.size + 1 by omega]; exact heap_cell (heap_new2 w3 _ _) rfl
   have hs4 : w4.heap.size = L0 + 5 := by rw [hw4]; simp; omega
   rw [hs23]
   have HB4 := lhid (HB3.out.trans (h34.mono HB3.out.size))
   have HBX4 : Hid (w4.heap[L0]? = some (.cells #[.slice none 0 0] 22 (0, 0))) := lhid (heap_keep HBX.out h34)
   have HMP4 := lhid (HMP.out.below h34)
   have HTB4 : Hid (w4.heap[L0 + 2]? = some (.cells #[.map (some (L0 + 1))] 90 (0, 0))) := lhid (heap_keep HTB.out h34)
   have HER : Hid (RdX (fun b => b < w.heap.size) 4 RwE w4 (.slice E f.rows.length ecap) f.rows) := lhid (h.out.lt'.e.below (keptX_rw _) HB4.out)
   have HSL := lhid (catchers_stops (P := fun b => b < w.heap.size) Fence.wide 7 trivial rfl (by decide) (L0 + 3) (L0 + 4) f.rows (k : Int) E ecap w4 hc1 hc2 HER hrn (fun k hk => by omega))
   have HS4 := lhid hs4
   have HEB : Hid (∀ b o', E = some ⟨b, o', none⟩ → 0 < f.rows.length → b < w.heap.size) := lhid (fun b o' he hpos => by
    obtain ⟨r, hr⟩ : ∃ r, f.rows[0]? = some r := ⟨_, List.getElem?_eq_getElem hpos⟩
    obtain ⟨g', o'', hA, e0, _⟩ := rw_cells h.out.e hr
    rw [hA] at he
    injection he with he
    injection he with he
    rw [← he]
    exact cell_lt e0)
   clear hw4 h34 hc1 hc2 HB3 HF3 HBX HMP HTB p0 p1 p2 p3 p4 hs23 hs4
   go_wp2_with fail
   have HCG0 : Hid (CgI w4 L0 (L0 + 1) [] w4) := lhid ⟨Ch.refl _ _, ⟨_, HBX4.out, World.ownsRow_nil _ _ _ _⟩, HMP4.out.ext (fun s => by unfold mapF; simp [uniqL])⟩
   have HEL : Hid (f.rows.length ≤ 140737488355328) := lhid hel
   have HSW : Hid (w.heap.size < L0 ∧ w4.heap.size = L0 + 5) := lhid ⟨hsw, HS4.out⟩
   clear hsw hmm hp hel hdl
   refine (wpIn_wide (n := 8)).1 ?_
   refine wpIn_rangeFunc_ownG (F := Fence.wide) (n := 8) rfl (by decide) (gf := 94) (lb := #[.pointer (some ⟨L0 + 3, 0, none⟩), .pointer (some ⟨L0 + 4, 0, none⟩)]) rfl trivial (enters_of Try.func94 (by kernel_rfl) rfl) HSL.out
    (fun h k => h.trans k)
    (fun W l o o' hl ho hc _ => kpc_put (HSW.out.2 ▸ hl) ho hc (by have := HSW.out.1; omega) (by omega) (fun k hk => by have := HSW.out.1; omega))
    (Below.refl _ _) (fun _ => rfl)
    (fun pre W => CgI w4 L0 (L0 + 1) (cqL pre) W) (fun _ _ _ => False)
    (fun pre W W' row hs hg hr => hs.other hg hr (by have := HSW.out.2; omega) (by have := HSW.out.2; omega))
    (fun _ _ _ _ _ hs _ _ => hs)
    HCG0.out
    (fun y => { tmps := #[fuL fa fb f.ret (.slice (some ⟨g, o, none⟩) n dcap) (.slice E f.rows.length ecap), .int .i64 k, .pointer (some ⟨w.heap.size, 0, none⟩), undef, .slice none 0 0, .pointer (some ⟨L0, 0, none⟩), .pointer (some ⟨L0 + 1 + 1, 0, none⟩), .int .i64 y.1, undef, undef, .agg #[fa, fb, .int .i64 f.ret, .slice (some ⟨g, o, none⟩) n dcap, .slice E f.rows.length ecap], .int .i64 k, .bool true, .bool false, .bool false, .pointer (some ⟨w.heap.size, 3, none⟩), .slice (some ⟨g, o, none⟩) n dcap, .int .i64 k, .pointer (some ⟨g, o + k * 9, none⟩), .agg #[.int .i64 x.op, .int .i64 x.dst, .int .i64 x.a, .int .i64 x.b, .int .i64 x.c, .int .i64 x.num, .int .i64 x.too, .string (tx x.ref), v], .bool true, .bool false, .bool false, .map (some (L0 + 1)), .pointer (some ⟨w.heap.size, 4, none⟩), .slice E f.rows.length ecap, .int .i64 k, .func (.func 94) #[] #[.pointer (some ⟨L0 + 3, 0, none⟩), .pointer (some ⟨L0 + 3 + 1, 0, none⟩)], .int .i64 y.1, undef, undef, undef, undef, undef, undef, undef, undef, undef, undef, undef, undef, undef, undef, undef, undef], defers := [] }) ?assign ?body ?done ?stop
   case assign =>
    intro l y W K hK
    dsimp only [cqE]
    gi_wp2
    exact hK
   case body =>
    rintro l pre y W hcg hlen
    obtain ⟨i0, hi0, hz0, hz1, hz2⟩ := info_parts info_nuP
    have HCG := lhid hcg
    obtain ⟨v0, hbox, hown⟩ := hcg.box
    obtain ⟨u, hu⟩ : ∃ u, uniqL (cqL pre) = u := ⟨_, rfl⟩
    have hul : u.length ≤ pre.length := by rw [← hu]; have := uniq_len (cqL pre); simpa using this
    have hmp := hcg.map
    rw [hu] at hown hmp
    obtain ⟨A, c, hv0⟩ := own_shape hown
    subst hv0
    have HCH := lhid hcg.ch
    have HSZ : Hid (L0 + 5 ≤ W.heap.size) := lhid (by have h1 := hcg.ch.size; have h2 := HSW.out.2; omega)
    have t0 := heap_cell (i := 0) (hcg.ch.keep HTB4.out (by omega)) rfl
    have b0 := heap_cell (i := 0) hbox rfl
    have z0 := heap_thaw hbox 0
    have HBOX := lhid hbox
    have HOWN := lhid hown
    have HMAP := lhid hmp
    have HU := lhid hu
    have hly := y.2
    have HY := lhid hly
    have hel2 := HEL.out
    clear hbox hown hmp hcg hu
    have hgot : ∀ z : Bool, decide (y.1 ∈ u) = z → (Instr.lookup 90 (.map (some (L0 + 1))) (.int .i64 y.1) true).run Try.prog W = .ok (.tuple #[.agg #[], .bool z]) W := fun z hz => by
     have h1 := (HMAP.out.look Try.underlying90 (zero_unit W) hly).2
     have h2 : ((mapF u y.1).getD unitV) = unitV := by unfold mapF; split <;> rfl
     have h3 : (mapF u y.1).isSome = z := by rw [← hz]; unfold mapF; by_cases hm : y.1 ∈ u <;> simp [hm]
     rw [h2, h3] at h1
     exact h1
    by_cases hin : y.1 ∈ u
    ·have hlk := hgot true (decide_eq_true hin)
     have HI : Hid (uniqL (cqL (pre ++ [y])) = u) := lhid (by rw [cqL_snoc, uniq_snoc, HU.out]; unfold addU; rw [if_pos hin])
     clear hgot hin hly
     gi_wp2
     exact ⟨(KeepsOthers.alloc W _).from _, KpC.alloc _ (by have := HSZ.out; omega) (by have := HSZ.out; omega) (fun k hk => by have h1 := HSZ.out; have h2 := HSW.out.1; omega) _, (HCG.out.other (World.grownBy_alloc W _ none) (fun r e => by cases e) (by have := HSW.out.2; omega) (by have := HSW.out.2; omega)).same (by rw [HI.out, HU.out])⟩
    ·have hlk := hgot false (decide_eq_false hin)
     have hum : u.length < maxLen := by unfold maxLen; omega
     obtain ⟨W2, hput, hm2, hg2, hs2⟩ := (HMAP.out.alloc (.cells #[] 94)).put Try.underlying90 hum hly (.agg #[])
     have HI : Hid (uniqL (cqL (pre ++ [y])) = u ++ [y.1]) := lhid (by rw [cqL_snoc, uniq_snoc, HU.out]; unfold addU; rw [if_neg hin])
     have HSA : Hid (W.heap.size + 1 = W2.heap.size) := lhid (by rw [hs2]; simp)
     have hb2 : W2.heap[L0]? = some (.cells #[.slice A u.length c] 22 (0, 0)) := (hg2.block L0 (by simp; have := HSZ.out; omega) (by intro e; injection e with e; omega)).trans ((Below.heap_alloc _ _ _ (by have := HSZ.out; omega)).trans HBOX.out)
     have HO2 : Hid (OwN W2 w4.heap.size (.slice A u.length c) u) := lhid (own_of (HOWN.out.alloc _) fun b hb => hg2.block b (by have := (HOWN.out.lt b hb).2; simp; omega) (by intro e; injection e with e; have h1 := own_lt HOWN.out b hb; have h2 := HSW.out.2; omega))
     have q0 := heap_cell (i := 0) hb2 rfl
     have qz := heap_thaw hb2 0
     have hL2 : L0 < W2.heap.size := heap_lt hb2
     have HB2 := lhid hb2
     have HM2 := lhid hm2
     have HG2 := lhid hg2
     have h4s : w4.heap.size ≤ W2.heap.size := by have h1 := HCH.out.size; have h2 := HSA.out; omega
     have l2 : L0 + 2 < W.heap.size := by have := HSZ.out; omega
     have l3 : ¬ L0 + 2 = W.heap.size := by omega
     clear hgot hin hm2 hg2 hs2 hb2 hly
     gi_wp2_with (gi_at_builtin; refine wpListIn_append_own _ rfl (.tmp 40) (.tmp 42) 22 rfl w4.heap.size 3 i0 (.int .i64 0) 1 8 Try.underlying22 hi0 hz0 hz1 hz2 rfl (by decide) (.slice A u.length c) u.length (u.map vI) rfl (HO2.out.alloc _) ⟨W2.heap.size, 0, none⟩ 1 1 [vI y.1] rfl rfl ?c1 ?c2 ?c3 ?c4 ?c5 ?_)
     case c1 => exact new_cells _ _ _
     case c2 => (intro u hu; simp at hu; subst hu; rfl)
     case c3 => (unfold maxLen; omega)
     case c4 => (have h5 := hrl.out; omega)
     case c5 => (have h5 := h4s; show w4.heap.size ≤ (W2.alloc _).heap.size; simp; omega)
     intro v' w3 hown3 hgrow hnil
     obtain ⟨A', c', hv'⟩ := own_shape hown3
     subst hv'
     have hfin := CgI.add (R := fun b => b < w.heap.size) (p := L0 + 3) (q := L0 + 4) HI.out HSW.out.2 (fun k hk => Nat.lt_trans hk HSW.out.1) (by omega) (by omega) HCH.out HBOX.out HOWN.out HMAP.out HG2.out HM2.out hgrow hown3
     have HFIN := lhid hfin
     have hb3 : w3.cell? ⟨L0, 0, none⟩ = some (.slice A u.length c) := heap_cell (i := 0) ((hgrow.block L0 (by simp; omega) (fun e => by have h1 := own_lt HOWN.out L0 e.symm; have h2 := HSW.out.2; omega)).trans ((Below.heap_alloc _ _ _ hL2).trans HB2.out)) rfl
     have hz3 : w3.frozen? ⟨L0, 0, none⟩ = false := heap_thaw ((hgrow.block L0 (by simp; omega) (fun e => by have h1 := own_lt HOWN.out L0 e.symm; have h2 := HSW.out.2; omega)).trans ((Below.heap_alloc _ _ _ hL2).trans HB2.out)) 0
     clear hfin hown3 hgrow hnil hput hlk q0 qz t0 b0 z0 h4s
     gi_wp2
     exact HFIN.out
   case done =>
    rintro D xs W hD hS hcg hKD
    obtain ⟨v0, hbox, hown⟩ := hcg.box
    have HCH := lhid hcg.ch
    have hb1 := heap_cell (i := 0) hbox rfl
    have HOWN := lhid hown
    have HKD := lhid hKD
    have HDD := lhid hD
    have HS := lhid hS
    clear hbox hown hcg hKD hD hS
    go_wp2_with fail
    refine ⟨by simp, .inl ⟨_, _, rfl, run_takeDeferred HKD.out, ?_⟩⟩
    have hgr := grownBy_putObj' W D (.deferred none)
    have hch : Ch (fun _ => False) w _ := ((Ch.of HB4.out).trans HCH.out (fun i hi e => by have h1 := HSW.out.1; omega)).grown hgr (fun r e hlt => by injection e with e; subst e; have h1 := HDD.out; have h2 := HSW.out; omega)
    refine ⟨_, results_tmp (t := 4) rfl _ _ _, v0, rfl, ?_, hch.to (Nat.le_refl _) (fun k h => h.elim)⟩
    rw [← HS.out]
    refine own_of (own_le HOWN.out (by have h1 := HSW.out; omega)) fun b hb => World.putObj_heap_other ?_
    rintro rfl
    have h1 := HOWN.out.2
    rcases h1 with ⟨rfl, _⟩ | ⟨g', cap, cur, rfl, _, h5, _⟩
    ·cases hb
    ·injection hb with hb
     subst hb
     have h6 := HKD.out
     rw [h5] at h6
     injection h6 with h6
     cases h6
   case stop =>
    rintro D c pre W _ _ hx
    exact hx.elim
 ·
  have HP : Hid ((decide (0 ≤ i) && decide (i < (n : Int))) = false) := lhid (by rw [Bool.and_eq_false_iff, decide_eq_false_iff_not, decide_eq_false_iff_not]; omega)
  have HR : Hid (caughtL f i = []) := lhid (by unfold caughtL; rw [atC_none (by rw [HN.out]; omega)])
  rw [HR.out]
  clear hp hd
  go_enter Try.func38, Try.ntmps38
  go_wp2_with fail
  with_reducible refine (isPlace_r f fa fb D n dcap _ i false _ HP).mono ?_
  rintro e w1 ⟨rfl, hb⟩
  have HB1 := lhid (((Below.refl w.heap.size w).alloc (Nat.le_refl _) _).trans (hb.mono (by simp)))
  clear hb
  go_wp2_with fail
  go_ret
  exact ⟨_, rfl, World.ownsRow_nil _ _ _ _, HB1.out⟩
end Go.Proofs.Ytoommeiiadobfaa
/- The places at which a block begins: the program's Heads. -/
namespace Go.Proofs.Ytoommeiiadobfaa
open Go.RowKit Go
set_option linter.unusedVariables false
set_option linter.unusedSimpArgs false
def Marks (w : World) (g n : Nat) (P : Nat → Prop) : Prop := ∃ c : Array Value, w.heap[g]? = some (.cells c 4 (0, 0)) ∧ c.size = n ∧ ∀ i, i < n → ∃ b : Bool, c[i]? = some (.bool b) ∧ (b = true ↔ P i)
theorem Marks.lt {w : World} {g n : Nat} {P : Nat → Prop} (h : Marks w g n P) : g < w.heap.size := by
 obtain ⟨c, h1, _⟩ := h
 exact heap_lt h1
theorem Marks.fz {w : World} {g n : Nat} {P : Nat → Prop} (h : Marks w g n P) (i : Nat) : w.frozen? ⟨g, i, none⟩ = false := by
 obtain ⟨c, h1, _⟩ := h
 exact heap_thaw h1 i
theorem Marks.cell {w : World} {g n : Nat} {P : Nat → Prop} (h : Marks w g n P) {i : Nat} (hi : i < n) : ∃ b : Bool, w.cell? ⟨g, i, none⟩ = some (.bool b) ∧ (b = true ↔ P i) := by
 obtain ⟨c, h1, h2, h3⟩ := h
 obtain ⟨b, h4, h5⟩ := h3 i hi
 exact ⟨b, heap_cell h1 h4, h5⟩
theorem Marks.of {w w' : World} {g n : Nat} {P : Nat → Prop} (h : Marks w g n P) (e : w'.heap[g]? = w.heap[g]?) : Marks w' g n P := by
 obtain ⟨c, h1, h2⟩ := h
 exact ⟨c, e.trans h1, h2⟩
theorem Marks.below {w w' : World} {g n : Nat} {P : Nat → Prop} (h : Marks w g n P) (hb : Below w.heap.size w w') : Marks w' g n P := h.of (hb.block g h.lt)
theorem Marks.set {w : World} {g n : Nat} {P Q : Nat → Prop} (h : Marks w g n P) {k : Nat} (hk : k < n) (hQ : ∀ i, Q i ↔ P i ∨ i = k) : Marks (w.setCell ⟨g, k, none⟩ (.bool true)) g n Q := by
 obtain ⟨c, h1, h2, h3⟩ := h
 refine ⟨_, heap_set h1 _, by simpa using h2, fun i hi => ?_⟩
 by_cases e : k = i
 ·subst e
  exact ⟨true, by rw [Array.getElem?_setIfInBounds, if_pos rfl, if_pos (by omega)], by simp [hQ]⟩
 ·obtain ⟨b, h4, h5⟩ := h3 i hi
  refine ⟨b, by rw [Array.getElem?_setIfInBounds, if_neg e]; exact h4, ?_⟩
  rw [h5, hQ]
  constructor
  ·exact .inl
  ·rintro (h | h)
   ·exact h
   ·exact absurd h.symm e
theorem Marks.grown {w w' : World} {g n : Nat} {P : Nat → Prop} {row : Option Nat} (h : Marks w g n P) (hg : w.grownBy w' row) (hr : ∀ k, row = some k → g < k) : Marks w' g n P :=
 h.of (hg.block g h.lt (fun e => by have := hr g e.symm; omega))
theorem made_at (z : Array Value) (n x : Nat) (v : Value) (hx : x < n) (hz : z[x % z.size]? = some v) : (madeCells z n)[x]? = some v := by
 unfold madeCells
 rw [Array.getElem?_map, Array.getElem?_range, if_pos hx]
 simp only [Option.map_some]
 obtain ⟨h1, h2⟩ := Array.getElem?_eq_some_iff.1 hz
 rw [getElem!_pos z _ h1, h2]
theorem Marks.made (w : World) (n : Nat) (z : Array Value) (hz : z = #[.bool false]) (P : Nat → Prop) (hP : ∀ i, ¬ P i) (m : Nat) (hm : m = n) : Marks (w.alloc (.cells (madeCells z m) 4)) w.heap.size n P := by
 subst hz hm
 refine ⟨_, heap_alloc_new w _, by rw [size_madeCells], fun i hi => ⟨false, made_at _ _ _ _ hi ?_, by simp [hP]⟩⟩
 rw [show i % (#[Value.bool false] : Array Value).size = 0 from Nat.mod_one i]
 rfl
def atL (L : List Int) : Nat → Prop := fun i => (i : Int) ∈ L
theorem atL_out {L : List Int} {c : Int} {n : Nat} {w : World} {g : Nat} (h : Marks w g n (atL L)) (hc : ¬ (0 ≤ c ∧ c < n)) : Marks w g n (atL (L ++ [c])) := by
 obtain ⟨v, h1, h2, h3⟩ := h
 refine ⟨v, h1, h2, fun i hi => ?_⟩
 obtain ⟨b, h4, h5⟩ := h3 i hi
 refine ⟨b, h4, h5.trans ?_⟩
 unfold atL
 rw [List.mem_append, List.mem_singleton]
 constructor
 ·exact .inl
 ·rintro (h | h)
  ·exact h
  ·exact absurd ⟨by omega, by omega⟩ hc
theorem take_snoc {l : List Int} {k : Nat} {x : Int} (h : l[k]? = some x) : l.take (k + 1) = l.take k ++ [x] := by
 rw [List.take_add_one, h]
 rfl
theorem make_bools (n : Nat) (hn : n ≤ 140737488355328) (w : World) :
  (Instr.makeSlice 81 (.int .i64 (n : Int)) (.int .i64 (n : Int))).run Try.prog w = .ok (.slice (some ⟨w.heap.size, 0, none⟩) n n) (w.alloc (.cells (madeCells #[.bool false] n) 4)) := by
 obtain ⟨i0, hi0, hz0, hz1, hz2⟩ := info_parts (show (Try.prog.info? 4).map (fun i => (i.zero, i.size, i.bytes)) = some (some (.bool false), 1, 1) by kernel_rfl)
 have h := run_make (P := Try.prog) w 81 4 i0 _ Try.underlying81 hi0 hz0 .i64 .i64 n n (by omega) (Int.le_refl _) (by rw [hz2]; omega) (by omega)
 rw [h, hz1, Nat.mul_one]
 rfl
structure HdS (f : FuI) (fa fb : Value) (D : Option Addr) (n dcap : Nat) (fe : Value) (w : World) (L : List Int) (W : World) : Prop where
 below : Below w.heap.size w W
 fbox : FBox W w.heap.size fa fb f.ret (.slice D n dcap) fe
 bbox : W.heap[w.heap.size + 1 + 1]? = some (.cells #[.slice (some ⟨w.heap.size + 1, 0, none⟩) n n] 81 (0, 0))
 marks : Marks W (w.heap.size + 1) n (atL L)
theorem HdS.size {f : FuI} {fa fb : Value} {D : Option Addr} {n dcap : Nat} {fe : Value} {w : World} {L : List Int} {W : World} (h : HdS f fa fb D n dcap fe w L W) : w.heap.size + 1 + 1 < W.heap.size := heap_lt h.bbox
theorem HdS.on {f : FuI} {fa fb : Value} {D : Option Addr} {n dcap : Nat} {fe : Value} {w : World} {L : List Int} {W W' : World} (h : HdS f fa fb D n dcap fe w L W) (hb : Below W.heap.size W W') : HdS f fa fb D n dcap fe w L W' :=
 ⟨h.below.trans (hb.mono h.below.size), heap_keep h.fbox hb, heap_keep h.bbox hb, h.marks.below hb⟩
theorem HdS.alloc {f : FuI} {fa fb : Value} {D : Option Addr} {n dcap : Nat} {fe : Value} {w : World} {L : List Int} {W : World} (h : HdS f fa fb D n dcap fe w L W) (o : Obj) : HdS f fa fb D n dcap fe w L (W.alloc o) := h.on ((Below.refl _ _).alloc (Nat.le_refl _) o)
theorem HdS.made (f : FuI) (fa fb : Value) (D : Option Addr) (n dcap : Nat) (fe : Value) (w : World) :
  HdS f fa fb D n dcap fe w [] (((w.alloc (.cells #[fa, fb, .int .i64 f.ret, .slice D n dcap, fe] 26)).alloc (.cells (madeCells #[.bool false] n) 4)).alloc (.cells #[.slice (some ⟨w.heap.size + 1, 0, none⟩) n n] 81)) := by
 have e1 : (w.alloc (.cells #[fa, fb, .int .i64 f.ret, .slice D n dcap, fe] 26)).heap.size = w.heap.size + 1 := by simp
 have m1 := Marks.made (w.alloc (.cells #[fa, fb, .int .i64 f.ret, .slice D n dcap, fe] 26)) n _ rfl (atL []) (by intro i; unfold atL; simp) n rfl
 rw [e1] at m1
 refine ⟨(((Below.refl _ _).alloc (Nat.le_refl _) _).alloc (by simp) _).alloc (by simp; omega) _, ?_, ?_, m1.below ((Below.refl _ _).alloc (Nat.le_refl _) _)⟩
 ·exact (Below.heap_alloc _ _ _ (by simp; omega)).trans ((Below.heap_alloc _ _ _ (by simp)).trans (heap_alloc_new w _))
 ·have := heap_new3 w (.cells #[fa, fb, .int .i64 f.ret, .slice D n dcap, fe] 26) (.cells (madeCells #[.bool false] n) 4) (.cells #[.slice (some ⟨w.heap.size + 1, 0, none⟩) n n] 81)
  exact this
end Go.Proofs.Ytoommeiiadobfaa
/- Where each place lies in what is trimmed: the program's newPlaces. -/
namespace Go.Proofs.Ytoommeiiadobfaa
open Go.RowKit Go
set_option linter.unusedVariables false
set_option linter.unusedSimpArgs false
def BlE (_ : World) (b : Bool) (c : List Value) : Prop := c = [.bool b]
def Nums (w : World) (g m : Nat) (F : Nat → Int) (k : Nat) : Prop := ∃ c : Array Value, w.heap[g]? = some (.cells c 3 (0, 0)) ∧ c.size = m ∧ ∀ j, j < m → ∃ z : Int, c[j]? = some (.int .i64 z) ∧ (j ≤ k → z = F j)
theorem Nums.fz {w : World} {g m : Nat} {F : Nat → Int} {k : Nat} (h : Nums w g m F k) (i : Nat) : w.frozen? ⟨g, i, none⟩ = false := by
 obtain ⟨c, h1, _⟩ := h
 exact heap_thaw h1 i
theorem Nums.lt {w : World} {g m : Nat} {F : Nat → Int} {k : Nat} (h : Nums w g m F k) : g < w.heap.size := by
 obtain ⟨c, h1, _⟩ := h
 exact heap_lt h1
theorem Nums.at' {w : World} {g m : Nat} {F : Nat → Int} {k i : Nat} (h : Nums w g m F k) (hi : i < m) (hk : i ≤ k) : w.cell? ⟨g, i, none⟩ = some (.int .i64 (F i)) := by
 obtain ⟨c, h1, h2, h3⟩ := h
 obtain ⟨z, h4, h5⟩ := h3 i hi
 rw [← h5 hk]
 exact heap_cell h1 h4
theorem Nums.some {w : World} {g m : Nat} {F : Nat → Int} {k i : Nat} (h : Nums w g m F k) (hi : i < m) : ∃ z : Int, w.cell? ⟨g, i, none⟩ = some (.int .i64 z) := by
 obtain ⟨c, h1, h2, h3⟩ := h
 obtain ⟨z, h4, _⟩ := h3 i hi
 exact ⟨z, heap_cell h1 h4⟩
theorem Nums.below {w w' : World} {g m : Nat} {F : Nat → Int} {k : Nat} (h : Nums w g m F k) (hb : Below w.heap.size w w') : Nums w' g m F k := by
 obtain ⟨c, h1, h2⟩ := h
 exact ⟨c, heap_keep h1 hb, h2⟩
theorem Nums.put {w : World} {g m : Nat} {F : Nat → Int} {k i : Nat} (h : Nums w g m F k) (hi : k < i) (z : Int) : Nums (w.setCell ⟨g, i, none⟩ (.int .i64 z)) g m F k := by
 obtain ⟨c, h1, h2, h3⟩ := h
 refine ⟨_, heap_set h1 _, by simpa using h2, fun j hj => ?_⟩
 by_cases e : i = j
 ·subst e
  exact ⟨z, by rw [Array.getElem?_setIfInBounds, if_pos rfl, if_pos (by omega)], fun h => by omega⟩
 ·obtain ⟨y, h4, h5⟩ := h3 j hj
  exact ⟨y, by rw [Array.getElem?_setIfInBounds, if_neg e]; exact h4, h5⟩
theorem Nums.set {w : World} {g m : Nat} {F : Nat → Int} {k : Nat} (h : Nums w g m F k) {z : Int} (hz : z = F (k + 1)) : Nums (w.setCell ⟨g, k + 1, none⟩ (.int .i64 z)) g m F (k + 1) := by
 obtain ⟨c, h1, h2, h3⟩ := h
 refine ⟨_, heap_set h1 _, by simpa using h2, fun j hj => ?_⟩
 by_cases e : k + 1 = j
 ·subst e
  exact ⟨z, by rw [Array.getElem?_setIfInBounds, if_pos rfl, if_pos (by omega)], fun _ => hz⟩
 ·obtain ⟨y, h4, h5⟩ := h3 j hj
  exact ⟨y, by rw [Array.getElem?_setIfInBounds, if_neg e]; exact h4, fun h => h5 (by omega)⟩
theorem Nums.made (w : World) (m : Nat) (F : Nat → Int) (h0 : F 0 = 0) : Nums (w.alloc (.cells (madeCells #[.int .i64 0] m) 3)) w.heap.size m F 0 :=
 ⟨_, heap_alloc_new w _, by rw [size_madeCells], fun i hi => ⟨0, made_at _ _ _ _ hi (by rw [show i % (#[Value.int .i64 0] : Array Value).size = 0 from Nat.mod_one i]; rfl), fun h => by rw [show i = 0 by omega, h0]⟩⟩
theorem make_ints (n : Nat) (hn : n * 8 ≤ 140737488355328) (w : World) :
  (Instr.makeSlice 22 (.int .i64 (n : Int)) (.int .i64 (n : Int))).run Try.prog w = .ok (.slice (some ⟨w.heap.size, 0, none⟩) n n) (w.alloc (.cells (madeCells #[.int .i64 0] n) 3)) := by
 obtain ⟨i0, hi0, hz0, hz1, hz2⟩ := info_parts info_nuP
 have h := run_make (P := Try.prog) w 22 3 i0 _ Try.underlying22 hi0 hz0 .i64 .i64 n n (by omega) (Int.le_refl _) (by rw [hz2]; omega) (by omega)
 rw [h, hz1, Nat.mul_one]
 rfl
end Go.Proofs.Ytoommeiiadobfaa
/- A function with what is asked of it again and again: the program's webOf. -/
namespace Go.Proofs.Ytoommeiiadobfaa
open Go.RowKit Go
set_option linter.unusedVariables false
set_option linter.unusedSimpArgs false
theorem info_sl : (Try.prog.info? 22).map (fun i => (i.zero, i.size, i.bytes)) = some (some (.slice none 0 0), 1, 24) := by kernel_rfl
theorem make_lists (n : Nat) (hn : n * 24 ≤ 140737488355328) (w : World) :
  (Instr.makeSlice 43 (.int .i64 (n : Int)) (.int .i64 (n : Int))).run Try.prog w = .ok (.slice (some ⟨w.heap.size, 0, none⟩) n n) (w.alloc (.cells (madeCells #[.slice none 0 0] n) 22)) := by
 obtain ⟨i0, hi0, hz0, hz1, hz2⟩ := info_parts info_sl
 have h := run_make (P := Try.prog) w 43 22 i0 _ Try.underlying43 hi0 hz0 .i64 .i64 n n (by omega) (Int.le_refl _) (by rw [hz2]; omega) (by omega)
 rw [h, hz1, Nat.mul_one]
 rfl
def cutB (rows : List RwI) (i : Nat) : Bool := rows.any fun r => r.fr == (i : Int) || r.too == (i : Int)
def strN (rows : List RwI) : Nat → Int
 | 0 => if cutB rows 0 then 1 else 0
 | k + 1 => if cutB rows (k + 1) then strN rows k + 1 else strN rows k
theorem strN_mono (rows : List RwI) (i d : Nat) : strN rows i ≤ strN rows (i + d) := by
 induction d with
 | zero => exact Int.le_refl _
 | succ d ih =>
  have : strN rows (i + d) ≤ strN rows (i + (d + 1)) := by
   have e : strN rows (i + d + 1) = if cutB rows (i + d + 1) then strN rows (i + d) + 1 else strN rows (i + d) := rfl
   show _ ≤ strN rows (i + d + 1)
   rw [e]
   split <;> omega
  omega
theorem strN_same {rows : List RwI} {i j : Nat} (hij : i ≤ j) (h : strN rows i = strN rows j) : ∀ k, i < k → k ≤ j → cutB rows k = false := by
 intro k h1 h2
 cases hc : cutB rows k with
 | false => rfl
 | true =>
  obtain ⟨m, rfl⟩ : ∃ m, k = m + 1 := ⟨k - 1, by omega⟩
  have e1 : strN rows (m + 1) = strN rows m + 1 := by show (if cutB rows (m + 1) then _ else _) = _; rw [hc]; rfl
  have e2 := strN_mono rows i (m - i)
  have e3 := strN_mono rows (m + 1) (j - (m + 1))
  rw [show i + (m - i) = m by omega] at e2
  rw [show m + 1 + (j - (m + 1)) = j by omega] at e3
  omega
theorem about_same {rows : List RwI} {i j : Nat} (hij : i ≤ j) (h : strN rows i = strN rows j) : ∀ r ∈ rows, aboutB r i = aboutB r j := by
 intro r hr
 have hc := strN_same hij h
 have key : ∀ k : Nat, i < k → k ≤ j → r.fr ≠ (k : Int) ∧ r.too ≠ (k : Int) := fun k h1 h2 => by
  have := hc k h1 h2
  unfold cutB at this
  rw [List.any_eq_false] at this
  have := this r hr
  simp at this
  exact this
 unfold aboutB
 rw [Bool.eq_iff_iff]
 simp only [Bool.and_eq_true, decide_eq_true_eq]
 have a1 : r.fr ≤ (i : Int) ↔ r.fr ≤ (j : Int) := by
  constructor
  ·intro h; omega
  ·intro h
   by_cases h9 : r.fr ≤ (i : Int)
   ·exact h9
   ·exact absurd (by omega) (key r.fr.toNat (by omega) (by omega)).1
 have a2 : (i : Int) < r.too ↔ (j : Int) < r.too := by
  constructor
  ·intro h
   by_cases h9 : (j : Int) < r.too
   ·exact h9
   ·exact absurd (by omega) (key r.too.toNat (by omega) (by omega)).2
  ·intro h; omega
 rw [a1, a2]
theorem catL_same {rows : List RwI} {i j : Int} (h : ∀ r ∈ rows, aboutB r i = aboutB r j) : catL rows i = catL rows j := by
 induction rows with
 | nil => rfl
 | cons r l ih =>
  have h1 := h r List.mem_cons_self
  have h2 := ih fun r hr => h r (List.mem_cons_of_mem _ hr)
  cases ha : aboutB r j with
  | true => rw [catL_yes (by rw [h1]; exact ha), catL_yes ha, h2]
  | false => rw [catL_no (by rw [h1]; exact ha), catL_no ha, h2]
theorem stretch_same {rows : List RwI} {i j : Nat} (h : strN rows i = strN rows j) : catL rows (i : Int) = catL rows (j : Int) := by
 rcases Nat.le_total i j with hij | hij
 ·exact catL_same (about_same hij h)
 ·exact (catL_same (about_same hij h.symm)).symm
end Go.Proofs.Ytoommeiiadobfaa
