/- Texts of this claim, joined: FlwCaught, FlwHead, FlwNew, FlwCode, FlwRCgt. -/
import Derived.Test.YtifgkpfieapdjaaJFlwIMap
import Derived.RangeFuncWrites
import Derived.Deep.Cut
/- Which places may catch what a place throws: the program's Caught. -/
namespace Go.Proofs.Ytifgkpfieapdjaa
open Go.RowKit Go Go.Maps
attribute [local go_sem] Oper.semAt_some
set_option linter.unusedVariables false
set_option linter.unusedSimpArgs false

def addU (l : List Int) (x : Int) : List Int := if x ∈ l then l else l ++ [x]
/-- Each once, in their order. -/
def uniqL (xs : List Int) : List Int := xs.foldl addU []
def caughtL (f : FuI) (i : Int) : List Int := match atC f.code i with | none => [] | some x => if throwsB x.op then uniqL (catL f.rows i) else []
theorem uniq_snoc (xs : List Int) (x : Int) : uniqL (xs ++ [x]) = addU (uniqL xs) x := by unfold uniqL; rw [List.foldl_append]; rfl
theorem addU_len (l : List Int) (x : Int) : (addU l x).length ≤ l.length + 1 := by unfold addU; split <;> simp
theorem uniq_len (xs : List Int) : (uniqL xs).length ≤ xs.length := by
  have key : ∀ (xs l : List Int), (xs.foldl addU l).length ≤ l.length + xs.length := by
    intro xs
    induction xs with
    | nil => intro l; simp
    | cons x r ih => intro l; have h1 := ih (addU l x); have h2 := addU_len l x; simp only [List.foldl_cons, List.length_cons]; omega
  have := key xs []
  simpa [uniqL] using this
theorem throws_r (x : InI) (v : Value) (z : Bool) (w : World) (h : Hid (throwsB x.op = z)) : Calls Try.prog 87 #[inA x v] w fun e w' => e = .returned (.bool z) ∧ Below w.heap.size w w' := by
  have := throws_any x v w
  rwa [h.out] at this
def unitV : Value := .agg #[]
theorem zero_unit (w : World) : (zeroValue 105).run Try.prog w = .ok unitV w := by kernel_rfl
def mapF (l : List Int) : Int → Option Value := fun s => if s ∈ l then some unitV else none
/-- The range under way: what has come, once each. -/
structure CgI (wL : World) (L0 mb : Nat) (pre : List Int) (W : World) : Prop where
  ch : Ch (fun k => k = L0 ∨ k = mb) wL W
  box : ∃ v, W.heap[L0]? = some (.cells #[v] 22 (0, 0)) ∧ OwN W wL.heap.size v (uniqL pre)
  map : MI W mb (uniqL pre).length (mapF (uniqL pre))
theorem cqL_snoc (l : List CqT) (y : CqT) : cqL (l ++ [y]) = cqL l ++ [y.1] := by simp [cqL]
theorem mi_at (w2 : World) (x y : Obj) : MI (((w2.alloc x).alloc (.map #[] 0)).alloc y) (w2.heap.size + 1) 0 (fun _ => none) := by
  have h9 := mi_made (w2.alloc x)
  have e9 : (w2.alloc x).heap.size = w2.heap.size + 1 := by simp
  rw [e9] at h9
  exact h9.alloc _
theorem heap_new3 (w : World) (o1 o2 o3 : Obj) : (((w.alloc o1).alloc o2).alloc o3).heap[w.heap.size + 2]? = some o3 := by
  have := heap_alloc_new ((w.alloc o1).alloc o2) o3
  have e : ((w.alloc o1).alloc o2).heap.size = w.heap.size + 2 := by simp
  rwa [e] at this
theorem FuV.lt' {P : Nat → Prop} {w : World} {f : FuI} {fa fb fd fe : Value} (h : FuV P w f fa fb fd fe) : FuV (fun g => g < w.heap.size) w f fa fb fd fe :=
  ⟨h.a.mono (fun _ _ h => h) (fun _ _ h => h) nu_ne, h.b.mono (fun _ _ h => h) (fun _ _ h => h) nu_ne, h.d.mono (inE_mono fun _ _ h => h) (fun _ _ h => h) in_ne, h.e.mono (fun _ _ h => h) (fun _ _ h => h) rw_ne⟩
theorem own_le {w : World} {B C : Nat} {v : Value} {l : List Int} (h : OwN w B v l) (hc : C ≤ B) : OwN w C v l := ⟨h.1, h.2.imp id fun ⟨g, cap, cur, h1, h2, h3⟩ => ⟨g, cap, cur, h1, Nat.le_trans hc h2, h3⟩⟩
theorem CgI.same {wL : World} {L0 mb : Nat} {pre q : List Int} {W : World} (h : CgI wL L0 mb pre W) (e : uniqL q = uniqL pre) : CgI wL L0 mb q W := ⟨h.ch, by rw [e]; exact h.box, by rw [e]; exact h.map⟩
theorem kpc_put {R : Nat → Prop} {p q B : Nat} {W : World} {l : Nat} {o o' : Obj} (hl : B ≤ l) (ho : W.heap[l]? = some o) (hc : o.isCells = false) (hp : p < B) (hq : q < B) (hR : ∀ k, R k → k < B) : KpC R p q W (W.putObj l o') := fun k hk => by
  refine World.putObj_heap_other ?_
  rintro rfl
  rcases hk with e | e | e | ⟨cs, fz, e⟩
  · omega
  · omega
  · have := hR _ e; omega
  · rw [ho] at e
    injection e with e
    subst e
    cases hc
theorem CgI.other {wL : World} {L0 mb : Nat} {pre : List Int} {W W' : World} {row : Option Nat} (h : CgI wL L0 mb pre W) (hg : W.grownBy W' row) (hr : ∀ r, row = some r → wL.heap.size ≤ r ∧ ∃ o : Obj, W.heap[r]? = some o ∧ o.isCells = false) (h1 : L0 < wL.heap.size) (h2 : mb < wL.heap.size) : CgI wL L0 mb pre W' := by
  have hk : ∀ k, k < wL.heap.size → W'.heap[k]? = W.heap[k]? := fun k hk => hg.block k (Nat.lt_of_lt_of_le hk h.ch.size) (fun e => by have := (hr k e.symm).1; omega)
  obtain ⟨v, hb, ho⟩ := h.box
  refine ⟨h.ch.grown hg (fun k e hlt => absurd hlt (by have := (hr k e).1; omega)), ⟨v, (hk L0 h1).trans hb, own_of ho fun b hb' => hg.block b (ho.lt b hb').2 (fun e => ?_)⟩, h.map.of (hk mb h2)⟩
  obtain ⟨_, o, ho1, ho2⟩ := hr b e.symm
  rcases ho.2 with ⟨rfl, _⟩ | ⟨g, cap, cur, rfl, _, h5, _⟩
  · cases hb'
  · injection hb' with hb'
    subst hb'
    rw [h5] at ho1
    injection ho1 with ho1
    subst ho1
    cases ho2
/-- One more: the place goes into the map, then behind the others. -/
theorem CgI.add {R : Nat → Prop} {wL W W2 w3 : World} {L0 p q n : Nat} {pre' u : List Int} {y : Int} {A : Option Addr} {c : Nat} {v' : Value} {x z : Obj}
    (hu : uniqL pre' = u ++ [y]) (hB : wL.heap.size = L0 + 5) (hR : ∀ k, R k → k < L0) (hp : L0 + 1 < p ∧ p < L0 + 5) (hq : L0 + 1 < q ∧ q < L0 + 5)
    (hch : Ch (fun k => k = L0 ∨ k = L0 + 1) wL W) (hbox : W.heap[L0]? = some (.cells #[.slice A u.length c] 22 (0, 0))) (hown : OwN W wL.heap.size (.slice A u.length c) u) (hmi : MI W (L0 + 1) n (mapF u))
    (hg2 : (W.alloc x).grownBy W2 (some (L0 + 1))) (hm2 : MI W2 (L0 + 1) (u.length + 1) (fun t => if t = y then some (.agg #[]) else mapF u t))
    (hgrow : (W2.alloc z).grownBy w3 (Value.slice A u.length c).ownBlock) (hown3 : w3.ownsRow wL.heap.size 3 1 v' (u.length + 1) (u.map vI ++ [vI y])) :
    KeepsFrom wL.heap.size W (w3.setCell ⟨L0, 0, none⟩ v') ∧ KpC R p q W (w3.setCell ⟨L0, 0, none⟩ v') ∧ CgI wL L0 (L0 + 1) pre' (w3.setCell ⟨L0, 0, none⟩ v') := by
  have hs := hch.size
  have hs2 := hg2.size
  have hs3 := hgrow.size
  simp only [World.size_alloc] at hs2 hs3
  have hob : ∀ b, (Value.slice A u.length c).ownBlock = some b → wL.heap.size ≤ b ∧ b < W.heap.size ∧ ∃ cs fz, W.heap[b]? = some (.cells cs 3 fz) := fun b hb => by
    refine ⟨(hown.lt b hb).1, (hown.lt b hb).2, ?_⟩
    rcases hown.2 with ⟨h1, _⟩ | ⟨g, cap, cur, h1, _, h5, _⟩
    · rw [h1] at hb
      cases hb
    · rw [h1] at hb
      injection hb with hb
      subst hb
      exact ⟨_, _, h5⟩
  have hk : ∀ k, k < W.heap.size → k ≠ L0 → k ≠ L0 + 1 → (Value.slice A u.length c).ownBlock ≠ some k → (w3.setCell ⟨L0, 0, none⟩ v').heap[k]? = W.heap[k]? := fun k h1 h2 h3 h4 =>
    (Below.heap_setCell _ _ _ _ h2).trans ((hgrow.block k (by simp; omega) (fun e => h4 e.symm)).trans ((Below.heap_alloc _ _ _ (by omega)).trans ((hg2.block k (by simp; omega) (fun e => by injection e with e; omega)).trans (Below.heap_alloc _ _ _ h1))))
  have hL3 : w3.heap[L0]? = some (.cells #[.slice A u.length c] 22 (0, 0)) :=
    (hgrow.block L0 (by simp; omega) (fun e => by have := (hob L0 e.symm).1; omega)).trans ((Below.heap_alloc _ _ _ (by omega)).trans ((hg2.block L0 (by simp; omega) (fun e => by injection e with e; omega)).trans ((Below.heap_alloc _ _ _ (by omega)).trans hbox)))
  have hmk : (w3.setCell ⟨L0, 0, none⟩ v').heap[L0 + 1]? = W2.heap[L0 + 1]? :=
    (Below.heap_setCell _ _ _ _ (show L0 + 1 ≠ L0 by omega)).trans ((hgrow.block (L0 + 1) (by simp; omega) (fun e => by have := (hob _ e.symm).1; omega)).trans (Below.heap_alloc _ _ _ (by omega)))
  refine ⟨((KeepsOthers.alloc W x).from _).trans ((KeepsFrom.of_grownBy hg2 (fun j e => by injection e with e; omega)).trans (((KeepsOthers.alloc W2 z).from _).trans (((KeepsOthers.of_grownBy hgrow (fun j o e ho => ?_)).from _).trans ((KeepsOthers.setCell w3 _ _).from _)))), fun k hkk => ?_, ?_⟩
  · obtain ⟨h1, h2, cs, fz, h3⟩ := hob j e
    have h4 : (W2.alloc z).heap[j]? = some (.cells cs 3 fz) := (Below.heap_alloc _ _ _ (by omega)).trans ((hg2.block j (by simp; omega) (fun e => by injection e with e; omega)).trans ((Below.heap_alloc _ _ _ h2).trans h3))
    rw [h4] at ho
    injection ho with ho
    subst ho
    rfl
  · have hne : ∀ b, k = b → L0 + 1 < b ∧ b < L0 + 5 → (w3.setCell ⟨L0, 0, none⟩ v').heap[k]? = W.heap[k]? := fun b e hb =>
      hk k (by omega) (by omega) (by omega) (fun e' => by have := (hob k e').1; omega)
    rcases hkk with e | e | e | ⟨cs, fz, e⟩
    · exact hne p e hp
    · exact hne q e hq
    · have := hR k e
      exact hk k (by omega) (by omega) (by omega) (fun e' => by have := (hob k e').1; omega)
    · refine hk k (Array.getElem?_eq_some_iff.1 e).1 ?_ ?_ ?_
      · rintro rfl
        rw [hbox] at e
        injection e with e
        injection e with _ e _
        cases e
      · rintro rfl
        obtain ⟨D, ⟨es, clock, h1, _⟩, _⟩ := hmi
        rw [h1] at e
        injection e with e
        cases e
      · intro e'
        obtain ⟨_, _, cs', fz', h3⟩ := hob k e'
        rw [h3] at e
        injection e with e
        injection e with _ e _
        cases e
  · refine ⟨?_, ⟨v', ?_, ?_⟩, ?_⟩
    · exact ((((hch.alloc x).grown hg2 (fun k e _ => by injection e with e; exact .inr e.symm)).alloc z).grown hgrow (fun k e hlt => absurd hlt (by have := (hob k e).1; omega))).set (fun _ => .inl rfl) _
    · exact heap_set hL3 v'
    · rw [hu]
      have h0 : OwN w3 wL.heap.size v' (u ++ [y]) := by unfold OwN; rw [List.length_append, List.map_append]; exact hown3
      exact own_of h0 fun b hb => Below.heap_setCell _ _ _ _ (by have := (h0.lt b hb).1; show b ≠ L0; omega)
    · rw [hu, List.length_append]
      refine (hm2.of hmk).ext (fun s => ?_)
      unfold mapF
      by_cases h : s = y
      · rw [if_pos h, if_pos (by rw [h]; simp)]; rfl
      · rw [if_neg h]
        by_cases h' : s ∈ u
        · rw [if_pos h', if_pos (by simp [h'])]
        · rw [if_neg h', if_neg (by simp [h, h'])]
set_option maxHeartbeats 8000000 in
set_option maxRecDepth 100000 in
theorem caught_any {P : Nat → Prop} (f : FuI) (fa fb fd fe : Value) (i : Int) (w : World) (h : Hid (FuV P w f fa fb fd fe)) (hrn : Hid (RwN f.rows)) (hrl : Hid (f.rows.length * 8 ≤ 140737488355328)) :
    Calls Try.prog 56 #[fuL fa fb f.ret fd fe, .int .i64 i] w fun e w' => ∃ v, e = .returned v ∧ OwN w' w.heap.size v (caughtL f i) ∧ Below w.heap.size w w' := by
  obtain ⟨D, dcap, hD⟩ := h.out.d.shape
  subst hD
  obtain ⟨E, ecap, hE⟩ := h.out.e.shape
  subst hE
  have hdl := h.out.d.len
  have hel := h.out.e.len
  obtain ⟨n, hn⟩ : ∃ n, f.code.length = n := ⟨_, rfl⟩
  have HN := lhid hn
  have hd := h.out.d
  rw [hn] at hdl hd ⊢
  clear hn
  by_cases hp : 0 ≤ i ∧ i < n
  ·
    obtain ⟨k, rfl⟩ : ∃ k : Nat, i = k := ⟨i.toNat, by omega⟩
    obtain ⟨x, hx⟩ : ∃ x, f.code[k]? = some x := ⟨_, List.getElem?_eq_getElem (by have := HN.out; omega)⟩
    obtain ⟨g, o, v, hD, _, hv, c0, c1, c2, c3, c4, c5, c6, c7, c8⟩ := in_cells hd hx
    subst hD
    have k3 : (k : Int) < n := hp.2
    have HV := lhid hv
    obtain ⟨zt, hzt⟩ : ∃ z, throwsB x.op = z := ⟨_, rfl⟩
    have HT := lhid hzt
    have HCL : Hid (caughtL f (k : Int) = if zt then uniqL (catL f.rows k) else []) := lhid (by unfold caughtL; rw [atC_some hx]; dsimp only; rw [hzt])
    clear hx hv hd hzt
    cases zt with
    | false =>
      have HR : Hid (caughtL f (k : Int) = []) := HCL
      rw [HR.out]
      go_enter Try.func56, Try.ntmps56
      go_wp2_with fail
      with_reducible refine (isPlace_r f fa fb _ n dcap _ (k : Int) true _ (lhid (by simp [hp.2]))).mono ?_
      rintro e w1 ⟨rfl, hb⟩
      have HB1 := lhid (((Below.refl w.heap.size w).alloc (Nat.le_refl _) _).trans (hb.mono (by simp)))
      have hF : FBox w1 w.heap.size fa fb f.ret (.slice (some ⟨g, o, none⟩) n dcap) (.slice E f.rows.length ecap) := heap_keep (heap_alloc_new w _) hb
      obtain ⟨p0, p1, p2, p3, p4⟩ := hF.cells
      have HF1 := lhid hF
      have kc : ∀ {p : Addr} {u : Value}, w.cell? p = some u → w1.cell? p = some u := fun {p u} hq => (HB1.out.cell (p := p) (cell_lt hq)).trans hq
      replace c0 := kc c0
      replace c1 := kc c1
      replace c2 := kc c2
      replace c3 := kc c3
      replace c4 := kc c4
      replace c5 := kc c5
      replace c6 := kc c6
      replace c7 := kc c7
      replace c8 := kc c8
      clear hb hF kc
      go_wp2_with fail
      with_reducible refine (throws_r x v false _ HT).mono ?_
      rintro e w2 ⟨rfl, hb⟩
      have HB2 := lhid (HB1.out.trans (hb.mono HB1.out.size))
      have HF2 : Hid (FBox w2 w.heap.size fa fb f.ret (.slice (some ⟨g, o, none⟩) n dcap) (.slice E f.rows.length ecap)) := lhid (heap_keep HF1.out hb)
      clear hb c0 c1 c2 c3 c4 c5 c6 c7 c8 p0 p1 p2 p3 p4 HB1 HF1
      obtain ⟨p0, p1, p2, p3, p4⟩ := HF2.out.cells
      go_wp2_with fail
      go_ret
      exact ⟨_, rfl, World.ownsRow_nil _ _ _ _, HB2.out⟩
    | true =>
      have HR : Hid (caughtL f (k : Int) = uniqL (catL f.rows k)) := HCL
      rw [HR.out]
      clear HCL
      have hmm := @run_makeMap Try.prog
      refine (callsIn_wide (n := 8)).1 ?_
      refine callsIn_of_wp_marks Try.func56 rfl trivial ?_ rfl
      simp only [Try.ntmps56, List.size_toArray, List.length_cons, List.length_nil, Nat.reduceAdd, Nat.reduceSub, Array.replicate_succ, Array.replicate_zero, List.push_toArray, List.append_toArray, List.nil_append, List.cons_append]
      refine wpIn_wide.2 ?_
      go_wp2_with fail
      with_reducible refine (isPlace_r f fa fb _ n dcap _ (k : Int) true _ (lhid (by simp [hp.2]))).mono ?_
      rintro e w1 ⟨rfl, hb⟩
      have HB1 := lhid (((Below.refl w.heap.size w).alloc (Nat.le_refl _) _).trans (hb.mono (by simp)))
      have hF : FBox w1 w.heap.size fa fb f.ret (.slice (some ⟨g, o, none⟩) n dcap) (.slice E f.rows.length ecap) := heap_keep (heap_alloc_new w _) hb
      obtain ⟨p0, p1, p2, p3, p4⟩ := hF.cells
      have HF1 := lhid hF
      have kc : ∀ {p : Addr} {u : Value}, w.cell? p = some u → w1.cell? p = some u := fun {p u} hq => (HB1.out.cell (p := p) (cell_lt hq)).trans hq
      replace c0 := kc c0
      replace c1 := kc c1
      replace c2 := kc c2
      replace c3 := kc c3
      replace c4 := kc c4
      replace c5 := kc c5
      replace c6 := kc c6
      replace c7 := kc c7
      replace c8 := kc c8
      clear hb hF kc
      go_wp2_with fail
      with_reducible refine (throws_r x v true _ HT).mono ?_
      rintro e w2 ⟨rfl, hb⟩
      have HB2 := lhid (HB1.out.trans (hb.mono HB1.out.size))
      have HF2 : Hid (FBox w2 w.heap.size fa fb f.ret (.slice (some ⟨g, o, none⟩) n dcap) (.slice E f.rows.length ecap)) := lhid (heap_keep HF1.out hb)
      clear hb c0 c1 c2 c3 c4 c5 c6 c7 c8 p0 p1 p2 p3 p4 HB1 HF1
      obtain ⟨p0, p1, p2, p3, p4⟩ := HF2.out.cells
      go_upto_region 5 with fail
      generalize hW : ((w2.alloc _).alloc _).alloc _ = w3
      obtain ⟨L0, hL0⟩ : ∃ L, L = w2.heap.size := ⟨_, rfl⟩
      have h23 : Below w2.heap.size w2 w3 := by rw [← hW]; exact (((Below.refl w2.heap.size w2).alloc (Nat.le_refl _) _).alloc (by simp) _).alloc (by simp; omega) _
      have hs23 : w3.heap.size = L0 + 3 := by rw [← hW, hL0]; simp; try omega
      have hbx : w3.heap[L0]? = some (.cells #[.slice none 0 0] 22 (0, 0)) := by rw [← hW, hL0]; exact (Below.heap_alloc _ _ _ (by simp; omega)).trans ((Below.heap_alloc _ _ _ (by simp)).trans (heap_alloc_new w2 _))
      have hmp : MI w3 (L0 + 1) 0 (fun _ => none) := by rw [← hW, hL0]; exact mi_at w2 _ _
      have htb : w3.heap[L0 + 2]? = some (.cells #[.map (some (L0 + 1))] 101 (0, 0)) := by rw [← hW, hL0]; exact heap_new3 w2 _ _ _
      rw [← hL0]
      have HBX := lhid hbx
      have HMP := lhid hmp
      have HTB := lhid htb
      have HB3 := lhid (HB2.out.trans (h23.mono HB2.out.size))
      have HF3 : Hid (FBox w3 w.heap.size fa fb f.ret (.slice (some ⟨g, o, none⟩) n dcap) (.slice E f.rows.length ecap)) := lhid (heap_keep HF2.out h23)
      have hsw : w.heap.size < L0 := by rw [hL0]; exact heap_lt HF2.out
      clear hbx hmp htb h23 hW HB2 HF2 p0 p1 p2 p3 p4 hL0
      obtain ⟨p0, p1, p2, p3, p4⟩ := HF3.out.cells
      go_wp2_with fail
      with_reducible refine (catchers_c E f.rows.length ecap (k : Int) w3).mono ?_
      rintro e w4 ⟨rfl, hw4⟩
      have h34 : Below w3.heap.size w3 w4 := by rw [hw4]; exact ((Below.refl _ _).alloc (Nat.le_refl _) _).alloc (by simp) _
      have hc1 : w4.cell? ⟨L0 + 3, 0, none⟩ = some (.slice E f.rows.length ecap) := by rw [hw4, ← hs23]; exact heap_cell ((Below.heap_alloc _ _ _ (by simp)).trans (heap_alloc_new w3 _)) rfl
      have hc2 : w4.cell? ⟨L0 + 4, 0, none⟩ = some (.int .i64 (k : Int)) := by rw [hw4, show L0 + 4 = w3.heap.size + 1 by omega]; exact heap_cell (heap_new2 w3 _ _) rfl
      have hs4 : w4.heap.size = L0 + 5 := by rw [hw4]; simp; omega
      rw [hs23]
      have HB4 := lhid (HB3.out.trans (h34.mono HB3.out.size))
      have HBX4 : Hid (w4.heap[L0]? = some (.cells #[.slice none 0 0] 22 (0, 0))) := lhid (heap_keep HBX.out h34)
      have HMP4 := lhid (HMP.out.below h34)
      have HTB4 : Hid (w4.heap[L0 + 2]? = some (.cells #[.map (some (L0 + 1))] 101 (0, 0))) := lhid (heap_keep HTB.out h34)
      have HER : Hid (RdX (fun b => b < w.heap.size) 4 RwE w4 (.slice E f.rows.length ecap) f.rows) := lhid (h.out.lt'.e.below (keptX_rw _) HB4.out)
      have HSL := lhid (catchers_stops (P := fun b => b < w.heap.size) Fence.wide 7 trivial rfl (by decide) (L0 + 3) (L0 + 4) f.rows (k : Int) E ecap w4 hc1 hc2 HER hrn (fun k hk => by omega))
      have HS4 := lhid hs4
      have HEB : Hid (∀ b o', E = some ⟨b, o', none⟩ → 0 < f.rows.length → b < w.heap.size) := lhid (fun b o' he hpos => by
        obtain ⟨r, hr⟩ : ∃ r, f.rows[0]? = some r := ⟨_, List.getElem?_eq_getElem hpos⟩
        obtain ⟨g', o'', hA, e0, _⟩ := rw_cells h.out.e hr
        rw [hA] at he
        injection he with he
        injection he with he
        rw [← he]
        exact cell_lt e0)
      clear hw4 h34 hc1 hc2 HB3 HF3 HBX HMP HTB p0 p1 p2 p3 p4 hs23 hs4
      go_wp2_with fail
      have HCG0 : Hid (CgI w4 L0 (L0 + 1) [] w4) := lhid ⟨Ch.refl _ _, ⟨_, HBX4.out, World.ownsRow_nil _ _ _ _⟩, HMP4.out.ext (fun s => by unfold mapF; simp [uniqL])⟩
      have HEL : Hid (f.rows.length ≤ 140737488355328) := lhid hel
      have HSW : Hid (w.heap.size < L0 ∧ w4.heap.size = L0 + 5) := lhid ⟨hsw, HS4.out⟩
      clear hsw hmm hp hel hdl
      refine (wpIn_wide (n := 8)).1 ?_
      refine wpIn_rangeFunc_ownG (F := Fence.wide) (n := 8) rfl (by decide) (gf := 99) (lb := #[.pointer (some ⟨L0 + 3, 0, none⟩), .pointer (some ⟨L0 + 4, 0, none⟩)]) rfl trivial (enters_of Try.func99 (by kernel_rfl) rfl) HSL.out
        (fun h k => h.trans k)
        (fun W l o o' hl ho hc _ => kpc_put (HSW.out.2 ▸ hl) ho hc (by have := HSW.out.1; omega) (by omega) (fun k hk => by have := HSW.out.1; omega))
        (Below.refl _ _) (fun _ => rfl)
        (fun pre W => CgI w4 L0 (L0 + 1) (cqL pre) W) (fun _ _ _ => False)
        (fun pre W W' row hs hg hr => hs.other hg hr (by have := HSW.out.2; omega) (by have := HSW.out.2; omega))
        (fun _ _ _ _ _ hs _ _ => hs)
        HCG0.out
        (fun y => { tmps := #[fuL fa fb f.ret (.slice (some ⟨g, o, none⟩) n dcap) (.slice E f.rows.length ecap), .int .i64 k, .pointer (some ⟨w.heap.size, 0, none⟩), undef, .slice none 0 0, .pointer (some ⟨L0, 0, none⟩), .pointer (some ⟨L0 + 1 + 1, 0, none⟩), .int .i64 y.1, undef, undef, .agg #[fa, fb, .int .i64 f.ret, .slice (some ⟨g, o, none⟩) n dcap, .slice E f.rows.length ecap], .int .i64 k, .bool true, .bool false, .bool false, .pointer (some ⟨w.heap.size, 3, none⟩), .slice (some ⟨g, o, none⟩) n dcap, .int .i64 k, .pointer (some ⟨g, o + k * 9, none⟩), .agg #[.int .i64 x.op, .int .i64 x.dst, .int .i64 x.a, .int .i64 x.b, .int .i64 x.c, .int .i64 x.num, .int .i64 x.too, .string (tx x.ref), v], .bool true, .bool false, .bool false, .map (some (L0 + 1)), .pointer (some ⟨w.heap.size, 4, none⟩), .slice E f.rows.length ecap, .int .i64 k, .func (.func 99) #[] #[.pointer (some ⟨L0 + 3, 0, none⟩), .pointer (some ⟨L0 + 3 + 1, 0, none⟩)], .int .i64 y.1, undef, undef, undef, undef, undef, undef, undef, undef, undef, undef, undef, undef, undef, undef, undef, undef], defers := [] }) ?assign ?body ?done ?stop
      case assign =>
        intro l y W K hK
        dsimp only [cqE]
        gi_wp2
        exact hK
      case body =>
        rintro l pre y W hcg hlen
        obtain ⟨i0, hi0, hz0, hz1, hz2⟩ := info_parts info_nuP
        have HCG := lhid hcg
        obtain ⟨v0, hbox, hown⟩ := hcg.box
        obtain ⟨u, hu⟩ : ∃ u, uniqL (cqL pre) = u := ⟨_, rfl⟩
        have hul : u.length ≤ pre.length := by rw [← hu]; have := uniq_len (cqL pre); simpa using this
        have hmp := hcg.map
        rw [hu] at hown hmp
        obtain ⟨A, c, hv0⟩ := own_shape hown
        subst hv0
        have HCH := lhid hcg.ch
        have HSZ : Hid (L0 + 5 ≤ W.heap.size) := lhid (by have h1 := hcg.ch.size; have h2 := HSW.out.2; omega)
        have t0 := heap_cell (i := 0) (hcg.ch.keep HTB4.out (by omega)) rfl
        have b0 := heap_cell (i := 0) hbox rfl
        have z0 := heap_thaw hbox 0
        have HBOX := lhid hbox
        have HOWN := lhid hown
        have HMAP := lhid hmp
        have HU := lhid hu
        have hly := y.2
        have HY := lhid hly
        have hel2 := HEL.out
        clear hbox hown hmp hcg hu
        have hgot : ∀ z : Bool, decide (y.1 ∈ u) = z → (Instr.lookup 101 (.map (some (L0 + 1))) (.int .i64 y.1) true).run Try.prog W = .ok (.tuple #[.agg #[], .bool z]) W := fun z hz => by
          have h1 := (HMAP.out.look Try.underlying101 (zero_unit W) hly).2
          have h2 : ((mapF u y.1).getD unitV) = unitV := by unfold mapF; split <;> rfl
          have h3 : (mapF u y.1).isSome = z := by rw [← hz]; unfold mapF; by_cases hm : y.1 ∈ u <;> simp [hm]
          rw [h2, h3] at h1
          exact h1
        by_cases hin : y.1 ∈ u
        · have hlk := hgot true (decide_eq_true hin)
          have HI : Hid (uniqL (cqL (pre ++ [y])) = u) := lhid (by rw [cqL_snoc, uniq_snoc, HU.out]; unfold addU; rw [if_pos hin])
          clear hgot hin hly
          gi_wp2
          exact ⟨(KeepsOthers.alloc W _).from _, KpC.alloc _ (by have := HSZ.out; omega) (by have := HSZ.out; omega) (fun k hk => by have h1 := HSZ.out; have h2 := HSW.out.1; omega) _, (HCG.out.other (World.grownBy_alloc W _ none) (fun r e => by cases e) (by have := HSW.out.2; omega) (by have := HSW.out.2; omega)).same (by rw [HI.out, HU.out])⟩
        · have hlk := hgot false (decide_eq_false hin)
          have hum : u.length < maxLen := by unfold maxLen; omega
          obtain ⟨W2, hput, hm2, hg2, hs2⟩ := (HMAP.out.alloc (.cells #[] 105)).put Try.underlying101 hum hly (.agg #[])
          have HI : Hid (uniqL (cqL (pre ++ [y])) = u ++ [y.1]) := lhid (by rw [cqL_snoc, uniq_snoc, HU.out]; unfold addU; rw [if_neg hin])
          have HSA : Hid (W.heap.size + 1 = W2.heap.size) := lhid (by rw [hs2]; simp)
          have hb2 : W2.heap[L0]? = some (.cells #[.slice A u.length c] 22 (0, 0)) := (hg2.block L0 (by simp; have := HSZ.out; omega) (by intro e; injection e with e; omega)).trans ((Below.heap_alloc _ _ _ (by have := HSZ.out; omega)).trans HBOX.out)
          have HO2 : Hid (OwN W2 w4.heap.size (.slice A u.length c) u) := lhid (own_of (HOWN.out.alloc _) fun b hb => hg2.block b (by have := (HOWN.out.lt b hb).2; simp; omega) (by intro e; injection e with e; have h1 := own_lt HOWN.out b hb; have h2 := HSW.out.2; omega))
          have q0 := heap_cell (i := 0) hb2 rfl
          have qz := heap_thaw hb2 0
          have hL2 : L0 < W2.heap.size := heap_lt hb2
          have HB2 := lhid hb2
          have HM2 := lhid hm2
          have HG2 := lhid hg2
          have h4s : w4.heap.size ≤ W2.heap.size := by have h1 := HCH.out.size; have h2 := HSA.out; omega
          have l2 : L0 + 2 < W.heap.size := by have := HSZ.out; omega
          have l3 : ¬ L0 + 2 = W.heap.size := by omega
          clear hgot hin hm2 hg2 hs2 hb2 hly
          gi_wp2_with (gi_at_builtin; refine wpListIn_append_own _ rfl (.tmp 40) (.tmp 42) 22 rfl w4.heap.size 3 i0 (.int .i64 0) 1 8 Try.underlying22 hi0 hz0 hz1 hz2 rfl (by decide) (.slice A u.length c) u.length (u.map vI) rfl (HO2.out.alloc _) ⟨W2.heap.size, 0, none⟩ 1 1 [vI y.1] rfl rfl ?c1 ?c2 ?c3 ?c4 ?c5 ?_)
          case c1 => exact new_cells _ _ _
          case c2 => (intro u hu; simp at hu; subst hu; rfl)
          case c3 => (unfold maxLen; omega)
          case c4 => (have h5 := hrl.out; omega)
          case c5 => (have h5 := h4s; show w4.heap.size ≤ (W2.alloc _).heap.size; simp; omega)
          intro v' w3 hown3 hgrow hnil
          obtain ⟨A', c', hv'⟩ := own_shape hown3
          subst hv'
          have hfin := CgI.add (R := fun b => b < w.heap.size) (p := L0 + 3) (q := L0 + 4) HI.out HSW.out.2 (fun k hk => Nat.lt_trans hk HSW.out.1) (by omega) (by omega) HCH.out HBOX.out HOWN.out HMAP.out HG2.out HM2.out hgrow hown3
          have HFIN := lhid hfin
          have hb3 : w3.cell? ⟨L0, 0, none⟩ = some (.slice A u.length c) := heap_cell (i := 0) ((hgrow.block L0 (by simp; omega) (fun e => by have h1 := own_lt HOWN.out L0 e.symm; have h2 := HSW.out.2; omega)).trans ((Below.heap_alloc _ _ _ hL2).trans HB2.out)) rfl
          have hz3 : w3.frozen? ⟨L0, 0, none⟩ = false := heap_thaw ((hgrow.block L0 (by simp; omega) (fun e => by have h1 := own_lt HOWN.out L0 e.symm; have h2 := HSW.out.2; omega)).trans ((Below.heap_alloc _ _ _ hL2).trans HB2.out)) 0
          clear hfin hown3 hgrow hnil hput hlk q0 qz t0 b0 z0 h4s
          gi_wp2
          exact HFIN.out
      case done =>
        rintro D xs W hD hS hcg hKD
        obtain ⟨v0, hbox, hown⟩ := hcg.box
        have HCH := lhid hcg.ch
        have hb1 := heap_cell (i := 0) hbox rfl
        have HOWN := lhid hown
        have HKD := lhid hKD
        have HDD := lhid hD
        have HS := lhid hS
        clear hbox hown hcg hKD hD hS
        go_wp2_with fail
        refine ⟨by simp, .inl ⟨_, _, rfl, run_takeDeferred HKD.out, ?_⟩⟩
        have hgr := grownBy_putObj' W D (.deferred none)
        have hch : Ch (fun _ => False) w _ := ((Ch.of HB4.out).trans HCH.out (fun i hi e => by have h1 := HSW.out.1; omega)).grown hgr (fun r e hlt => by injection e with e; subst e; have h1 := HDD.out; have h2 := HSW.out; omega)
        refine ⟨_, results_tmp (t := 4) rfl _ _ _, v0, rfl, ?_, hch.to (Nat.le_refl _) (fun k h => h.elim)⟩
        rw [← HS.out]
        refine own_of (own_le HOWN.out (by have h1 := HSW.out; omega)) fun b hb => World.putObj_heap_other ?_
        rintro rfl
        have h1 := HOWN.out.2
        rcases h1 with ⟨rfl, _⟩ | ⟨g', cap, cur, rfl, _, h5, _⟩
        · cases hb
        · injection hb with hb
          subst hb
          have h6 := HKD.out
          rw [h5] at h6
          injection h6 with h6
          cases h6
      case stop =>
        rintro D c pre W _ _ hx
        exact hx.elim
  ·
    have HP : Hid ((decide (0 ≤ i) && decide (i < (n : Int))) = false) := lhid (by rw [Bool.and_eq_false_iff, decide_eq_false_iff_not, decide_eq_false_iff_not]; omega)
    have HR : Hid (caughtL f i = []) := lhid (by unfold caughtL; rw [atC_none (by rw [HN.out]; omega)])
    rw [HR.out]
    clear hp hd
    go_enter Try.func56, Try.ntmps56
    go_wp2_with fail
    with_reducible refine (isPlace_r f fa fb D n dcap _ i false _ HP).mono ?_
    rintro e w1 ⟨rfl, hb⟩
    have HB1 := lhid (((Below.refl w.heap.size w).alloc (Nat.le_refl _) _).trans (hb.mono (by simp)))
    clear hb
    go_wp2_with fail
    go_ret
    exact ⟨_, rfl, World.ownsRow_nil _ _ _ _, HB1.out⟩
end Go.Proofs.Ytifgkpfieapdjaa
/- The places at which a block begins: the program's Heads. -/
namespace Go.Proofs.Ytifgkpfieapdjaa
open Go.RowKit Go
set_option linter.unusedVariables false
set_option linter.unusedSimpArgs false

/-- Block g holds a mark a place: which of them instructions begin at. -/
def Marks (w : World) (g n : Nat) (P : Nat → Prop) : Prop := ∃ c : Array Value, w.heap[g]? = some (.cells c 4 (0, 0)) ∧ c.size = n ∧ ∀ i, i < n → ∃ b : Bool, c[i]? = some (.bool b) ∧ (b = true ↔ P i)
theorem Marks.lt {w : World} {g n : Nat} {P : Nat → Prop} (h : Marks w g n P) : g < w.heap.size := by
  obtain ⟨c, h1, _⟩ := h
  exact heap_lt h1
theorem Marks.fz {w : World} {g n : Nat} {P : Nat → Prop} (h : Marks w g n P) (i : Nat) : w.frozen? ⟨g, i, none⟩ = false := by
  obtain ⟨c, h1, _⟩ := h
  exact heap_thaw h1 i
theorem Marks.cell {w : World} {g n : Nat} {P : Nat → Prop} (h : Marks w g n P) {i : Nat} (hi : i < n) : ∃ b : Bool, w.cell? ⟨g, i, none⟩ = some (.bool b) ∧ (b = true ↔ P i) := by
  obtain ⟨c, h1, h2, h3⟩ := h
  obtain ⟨b, h4, h5⟩ := h3 i hi
  exact ⟨b, heap_cell h1 h4, h5⟩
theorem Marks.of {w w' : World} {g n : Nat} {P : Nat → Prop} (h : Marks w g n P) (e : w'.heap[g]? = w.heap[g]?) : Marks w' g n P := by
  obtain ⟨c, h1, h2⟩ := h
  exact ⟨c, e.trans h1, h2⟩
theorem Marks.below {w w' : World} {g n : Nat} {P : Nat → Prop} (h : Marks w g n P) (hb : Below w.heap.size w w') : Marks w' g n P := h.of (hb.block g h.lt)
theorem Marks.set {w : World} {g n : Nat} {P Q : Nat → Prop} (h : Marks w g n P) {k : Nat} (hk : k < n) (hQ : ∀ i, Q i ↔ P i ∨ i = k) : Marks (w.setCell ⟨g, k, none⟩ (.bool true)) g n Q := by
  obtain ⟨c, h1, h2, h3⟩ := h
  refine ⟨_, heap_set h1 _, by simpa using h2, fun i hi => ?_⟩
  by_cases e : k = i
  · subst e
    exact ⟨true, by rw [Array.getElem?_setIfInBounds, if_pos rfl, if_pos (by omega)], by simp [hQ]⟩
  · obtain ⟨b, h4, h5⟩ := h3 i hi
    refine ⟨b, by rw [Array.getElem?_setIfInBounds, if_neg e]; exact h4, ?_⟩
    rw [h5, hQ]
    constructor
    · exact .inl
    · rintro (h | h)
      · exact h
      · exact absurd h.symm e
theorem Marks.grown {w w' : World} {g n : Nat} {P : Nat → Prop} {row : Option Nat} (h : Marks w g n P) (hg : w.grownBy w' row) (hr : ∀ k, row = some k → g < k) : Marks w' g n P :=
  h.of (hg.block g h.lt (fun e => by have := hr g e.symm; omega))
theorem made_at (z : Array Value) (n x : Nat) (v : Value) (hx : x < n) (hz : z[x % z.size]? = some v) : (madeCells z n)[x]? = some v := by
  unfold madeCells
  rw [Array.getElem?_map, Array.getElem?_range, if_pos hx]
  simp only [Option.map_some]
  obtain ⟨h1, h2⟩ := Array.getElem?_eq_some_iff.1 hz
  rw [getElem!_pos z _ h1, h2]
theorem Marks.made (w : World) (n : Nat) (z : Array Value) (hz : z = #[.bool false]) (P : Nat → Prop) (hP : ∀ i, ¬ P i) (m : Nat) (hm : m = n) : Marks (w.alloc (.cells (madeCells z m) 4)) w.heap.size n P := by
  subst hz hm
  refine ⟨_, heap_alloc_new w _, by rw [size_madeCells], fun i hi => ⟨false, made_at _ _ _ _ hi ?_, by simp [hP]⟩⟩
  rw [show i % (#[Value.bool false] : Array Value).size = 0 from Nat.mod_one i]
  rfl
/-- What a list of places marks. -/
def atL (L : List Int) : Nat → Prop := fun i => (i : Int) ∈ L
theorem atL_out {L : List Int} {c : Int} {n : Nat} {w : World} {g : Nat} (h : Marks w g n (atL L)) (hc : ¬ (0 ≤ c ∧ c < n)) : Marks w g n (atL (L ++ [c])) := by
  obtain ⟨v, h1, h2, h3⟩ := h
  refine ⟨v, h1, h2, fun i hi => ?_⟩
  obtain ⟨b, h4, h5⟩ := h3 i hi
  refine ⟨b, h4, h5.trans ?_⟩
  unfold atL
  rw [List.mem_append, List.mem_singleton]
  constructor
  · exact .inl
  · rintro (h | h)
    · exact h
    · exact absurd ⟨by omega, by omega⟩ hc
theorem take_snoc {l : List Int} {k : Nat} {x : Int} (h : l[k]? = some x) : l.take (k + 1) = l.take k ++ [x] := by
  rw [List.take_add_one, h]
  rfl
def hmX (x : InI) (k : Nat) : List Int := (if leadsB x.op then [x.too, (k : Int) + 1] else []) ++ (if endsB x.op then [(k : Int) + 1] else [])
def hmT (c : List InI) (m : Nat) : List Int := (List.range m).flatMap fun k => match c[k]? with | some x => hmX x k | none => []
def hmR (l : List RwI) (m : Nat) : List Int := (l.take m).flatMap fun r => [r.fr, r.too, r.at_]
/-- All that is marked. -/
def hmL (f : FuI) : List Int := ([0] ++ hmT f.code f.code.length) ++ hmR f.rows f.rows.length
def hmB (f : FuI) (i : Nat) : Bool := decide ((i : Int) ∈ hmL f)
def hdT (f : FuI) (m : Nat) : List Int := ((List.range m).filter (hmB f)).map fun (i : Nat) => (i : Int)
def headsL (f : FuI) : List Int := hdT f f.code.length
theorem hmT_succ {c : List InI} {k : Nat} {x : InI} (h : c[k]? = some x) : hmT c (k + 1) = hmT c k ++ hmX x k := by
  unfold hmT
  rw [List.range_succ, List.flatMap_append]
  simp [h]
theorem hmR_succ {l : List RwI} {k : Nat} {r : RwI} (h : l[k]? = some r) : hmR l (k + 1) = hmR l k ++ [r.fr, r.too, r.at_] := by
  unfold hmR
  rw [List.take_add_one, h, List.flatMap_append]
  rfl
theorem hdT_yes {f : FuI} {k : Nat} (h : hmB f k = true) : hdT f (k + 1) = hdT f k ++ [(k : Int)] := by
  unfold hdT
  rw [List.range_succ, List.filter_append, List.map_append, List.filter_cons_of_pos h]
  rfl
theorem hdT_no {f : FuI} {k : Nat} (h : hmB f k = false) : hdT f (k + 1) = hdT f k := by
  unfold hdT
  rw [List.range_succ, List.filter_append, List.map_append, List.filter_cons_of_neg (by rw [h]; decide)]
  simp
theorem hdT_len (f : FuI) (k : Nat) : (hdT f k).length ≤ k := by
  unfold hdT
  rw [List.length_map]
  exact Nat.le_trans (List.length_filter_le _ _) (by simp)
theorem make_bools (n : Nat) (hn : n ≤ 140737488355328) (w : World) :
    (Instr.makeSlice 50 (.int .i64 (n : Int)) (.int .i64 (n : Int))).run Try.prog w = .ok (.slice (some ⟨w.heap.size, 0, none⟩) n n) (w.alloc (.cells (madeCells #[.bool false] n) 4)) := by
  obtain ⟨i0, hi0, hz0, hz1, hz2⟩ := info_parts (show (Try.prog.info? 4).map (fun i => (i.zero, i.size, i.bytes)) = some (some (.bool false), 1, 1) by kernel_rfl)
  have h := run_make (P := Try.prog) w 50 4 i0 _ Try.underlying50 hi0 hz0 .i64 .i64 n n (by omega) (Int.le_refl _) (by rw [hz2]; omega) (by omega)
  rw [h, hz1, Nat.mul_one]
  rfl
/-- What stands while places are marked: the function's box, the marks, the box that names them. -/
structure HdS (f : FuI) (fa fb : Value) (D : Option Addr) (n dcap : Nat) (fe : Value) (w : World) (L : List Int) (W : World) : Prop where
  below : Below w.heap.size w W
  fbox : FBox W w.heap.size fa fb f.ret (.slice D n dcap) fe
  bbox : W.heap[w.heap.size + 1 + 1]? = some (.cells #[.slice (some ⟨w.heap.size + 1, 0, none⟩) n n] 50 (0, 0))
  marks : Marks W (w.heap.size + 1) n (atL L)
theorem HdS.size {f : FuI} {fa fb : Value} {D : Option Addr} {n dcap : Nat} {fe : Value} {w : World} {L : List Int} {W : World} (h : HdS f fa fb D n dcap fe w L W) : w.heap.size + 1 + 1 < W.heap.size := heap_lt h.bbox
theorem HdS.on {f : FuI} {fa fb : Value} {D : Option Addr} {n dcap : Nat} {fe : Value} {w : World} {L : List Int} {W W' : World} (h : HdS f fa fb D n dcap fe w L W) (hb : Below W.heap.size W W') : HdS f fa fb D n dcap fe w L W' :=
  ⟨h.below.trans (hb.mono h.below.size), heap_keep h.fbox hb, heap_keep h.bbox hb, h.marks.below hb⟩
theorem HdS.alloc {f : FuI} {fa fb : Value} {D : Option Addr} {n dcap : Nat} {fe : Value} {w : World} {L : List Int} {W : World} (h : HdS f fa fb D n dcap fe w L W) (o : Obj) : HdS f fa fb D n dcap fe w L (W.alloc o) := h.on ((Below.refl _ _).alloc (Nat.le_refl _) o)
theorem HdS.cast {f : FuI} {fa fb : Value} {D : Option Addr} {n dcap : Nat} {fe : Value} {w : World} {L L' : List Int} {W : World} (h : HdS f fa fb D n dcap fe w L W) (e : L = L') : HdS f fa fb D n dcap fe w L' W := e ▸ h
theorem HdS.made (f : FuI) (fa fb : Value) (D : Option Addr) (n dcap : Nat) (fe : Value) (w : World) :
    HdS f fa fb D n dcap fe w [] (((w.alloc (.cells #[fa, fb, .int .i64 f.ret, .slice D n dcap, fe] 26)).alloc (.cells (madeCells #[.bool false] n) 4)).alloc (.cells #[.slice (some ⟨w.heap.size + 1, 0, none⟩) n n] 50)) := by
  have e1 : (w.alloc (.cells #[fa, fb, .int .i64 f.ret, .slice D n dcap, fe] 26)).heap.size = w.heap.size + 1 := by simp
  have m1 := Marks.made (w.alloc (.cells #[fa, fb, .int .i64 f.ret, .slice D n dcap, fe] 26)) n _ rfl (atL []) (by intro i; unfold atL; simp) n rfl
  rw [e1] at m1
  refine ⟨(((Below.refl _ _).alloc (Nat.le_refl _) _).alloc (by simp) _).alloc (by simp; omega) _, ?_, ?_, m1.below ((Below.refl _ _).alloc (Nat.le_refl _) _)⟩
  · exact (Below.heap_alloc _ _ _ (by simp; omega)).trans ((Below.heap_alloc _ _ _ (by simp)).trans (heap_alloc_new w _))
  · have := heap_new3 w (.cells #[fa, fb, .int .i64 f.ret, .slice D n dcap, fe] 26) (.cells (madeCells #[.bool false] n) 4) (.cells #[.slice (some ⟨w.heap.size + 1, 0, none⟩) n n] 50)
    exact this
end Go.Proofs.Ytifgkpfieapdjaa
/- Where each place lies in what is trimmed: the program's newPlaces. -/
namespace Go.Proofs.Ytifgkpfieapdjaa
open Go.RowKit Go
set_option linter.unusedVariables false
set_option linter.unusedSimpArgs false

def BlE (_ : World) (b : Bool) (c : List Value) : Prop := c = [.bool b]
/-- Does the instruction at a place stay? -/
def stayB (c : List InI) (R : List Bool) (i : Nat) : Bool := match c[i]?, R[i]? with | some x, some b => b && !(x.op == 33) | _, _ => false
def nowN (c : List InI) (R : List Bool) : Nat → Int
  | 0 => 0
  | k + 1 => if stayB c R k then nowN c R k + 1 else nowN c R k
theorem now_at (c : List InI) (R : List Bool) (k : Nat) : 0 ≤ nowN c R k ∧ nowN c R k ≤ k := by
  induction k with
  | zero => exact ⟨Int.le_refl _, Int.le_refl _⟩
  | succ k ih =>
    have h1 := ih.1
    have h2 := ih.2
    unfold nowN
    split
    · omega
    · omega
/-- Block g holds numbers, those up to place k as F has them. -/
def Nums (w : World) (g m : Nat) (F : Nat → Int) (k : Nat) : Prop := ∃ c : Array Value, w.heap[g]? = some (.cells c 3 (0, 0)) ∧ c.size = m ∧ ∀ j, j < m → ∃ z : Int, c[j]? = some (.int .i64 z) ∧ (j ≤ k → z = F j)
theorem Nums.fz {w : World} {g m : Nat} {F : Nat → Int} {k : Nat} (h : Nums w g m F k) (i : Nat) : w.frozen? ⟨g, i, none⟩ = false := by
  obtain ⟨c, h1, _⟩ := h
  exact heap_thaw h1 i
theorem Nums.lt {w : World} {g m : Nat} {F : Nat → Int} {k : Nat} (h : Nums w g m F k) : g < w.heap.size := by
  obtain ⟨c, h1, _⟩ := h
  exact heap_lt h1
theorem Nums.at' {w : World} {g m : Nat} {F : Nat → Int} {k i : Nat} (h : Nums w g m F k) (hi : i < m) (hk : i ≤ k) : w.cell? ⟨g, i, none⟩ = some (.int .i64 (F i)) := by
  obtain ⟨c, h1, h2, h3⟩ := h
  obtain ⟨z, h4, h5⟩ := h3 i hi
  rw [← h5 hk]
  exact heap_cell h1 h4
theorem Nums.some {w : World} {g m : Nat} {F : Nat → Int} {k i : Nat} (h : Nums w g m F k) (hi : i < m) : ∃ z : Int, w.cell? ⟨g, i, none⟩ = some (.int .i64 z) := by
  obtain ⟨c, h1, h2, h3⟩ := h
  obtain ⟨z, h4, _⟩ := h3 i hi
  exact ⟨z, heap_cell h1 h4⟩
theorem Nums.below {w w' : World} {g m : Nat} {F : Nat → Int} {k : Nat} (h : Nums w g m F k) (hb : Below w.heap.size w w') : Nums w' g m F k := by
  obtain ⟨c, h1, h2⟩ := h
  exact ⟨c, heap_keep h1 hb, h2⟩
theorem Nums.put {w : World} {g m : Nat} {F : Nat → Int} {k i : Nat} (h : Nums w g m F k) (hi : k < i) (z : Int) : Nums (w.setCell ⟨g, i, none⟩ (.int .i64 z)) g m F k := by
  obtain ⟨c, h1, h2, h3⟩ := h
  refine ⟨_, heap_set h1 _, by simpa using h2, fun j hj => ?_⟩
  by_cases e : i = j
  · subst e
    exact ⟨z, by rw [Array.getElem?_setIfInBounds, if_pos rfl, if_pos (by omega)], fun h => by omega⟩
  · obtain ⟨y, h4, h5⟩ := h3 j hj
    exact ⟨y, by rw [Array.getElem?_setIfInBounds, if_neg e]; exact h4, h5⟩
theorem Nums.set {w : World} {g m : Nat} {F : Nat → Int} {k : Nat} (h : Nums w g m F k) {z : Int} (hz : z = F (k + 1)) : Nums (w.setCell ⟨g, k + 1, none⟩ (.int .i64 z)) g m F (k + 1) := by
  obtain ⟨c, h1, h2, h3⟩ := h
  refine ⟨_, heap_set h1 _, by simpa using h2, fun j hj => ?_⟩
  by_cases e : k + 1 = j
  · subst e
    exact ⟨z, by rw [Array.getElem?_setIfInBounds, if_pos rfl, if_pos (by omega)], fun _ => hz⟩
  · obtain ⟨y, h4, h5⟩ := h3 j hj
    exact ⟨y, by rw [Array.getElem?_setIfInBounds, if_neg e]; exact h4, fun h => h5 (by omega)⟩
theorem Nums.made (w : World) (m : Nat) (F : Nat → Int) (h0 : F 0 = 0) : Nums (w.alloc (.cells (madeCells #[.int .i64 0] m) 3)) w.heap.size m F 0 :=
  ⟨_, heap_alloc_new w _, by rw [size_madeCells], fun i hi => ⟨0, made_at _ _ _ _ hi (by rw [show i % (#[Value.int .i64 0] : Array Value).size = 0 from Nat.mod_one i]; rfl), fun h => by rw [show i = 0 by omega, h0]⟩⟩
theorem make_ints (n : Nat) (hn : n * 8 ≤ 140737488355328) (w : World) :
    (Instr.makeSlice 22 (.int .i64 (n : Int)) (.int .i64 (n : Int))).run Try.prog w = .ok (.slice (some ⟨w.heap.size, 0, none⟩) n n) (w.alloc (.cells (madeCells #[.int .i64 0] n) 3)) := by
  obtain ⟨i0, hi0, hz0, hz1, hz2⟩ := info_parts info_nuP
  have h := run_make (P := Try.prog) w 22 3 i0 _ Try.underlying22 hi0 hz0 .i64 .i64 n n (by omega) (Int.le_refl _) (by rw [hz2]; omega) (by omega)
  rw [h, hz1, Nat.mul_one]
  rfl
theorem nums_own {w : World} {g m B : Nat} {F : Nat → Int} {k : Nat} (h : Nums w g m F k) (hk : m ≤ k + 1) (hB : B ≤ g) (hm : m ≤ maxLen) : OwN w B (.slice (some ⟨g, 0, none⟩) m m) ((List.range m).map F) := by
  obtain ⟨c, h1, h2, h3⟩ := h
  have hc : c.toList = ((List.range m).map F).map vI := by
    apply List.ext_getElem?
    intro j
    by_cases hj : j < m
    · obtain ⟨z, h4, h5⟩ := h3 j hj
      rw [Array.getElem?_toList, h4, h5 (by omega)]
      simp [hj, vI]
    · rw [Array.getElem?_toList, Array.getElem?_eq_none (show c.size ≤ j by omega)]
      exact (List.getElem?_eq_none_iff.2 (by simp; omega)).symm
  have hl : ((List.range m).map F).length = m := by simp
  unfold OwN
  rw [hl]
  refine ⟨by simp, .inr ⟨g, m, c, rfl, hB, h1, Nat.le_refl _, hm, by omega, ?_⟩⟩
  rw [← hc]
  exact List.take_of_length_le (by simp; omega)
set_option maxHeartbeats 16000000 in
set_option maxRecDepth 100000 in
theorem newPlaces_any {P Q : Nat → Prop} (f : FuI) (fa fb fd fe : Value) (rv : Value) (R : List Bool) (w : World) (h : Hid (FuV P w f fa fb fd fe)) (hcl : Hid (f.code.length * 96 ≤ 140737488355328)) (hr : Hid (RdX Q 1 BlE w rv R)) (hrl : Hid (R.length = f.code.length)) :
    Calls Try.prog 38 #[fuL fa fb f.ret fd fe, rv] w fun e w' => ∃ v, e = .returned v ∧ OwN w' w.heap.size v ((List.range (f.code.length + 1)).map (nowN f.code R)) ∧ Below w.heap.size w w' := by
  obtain ⟨D, dcap, hD⟩ := h.out.d.shape
  subst hD
  obtain ⟨RA, rc, hRA⟩ := hr.out.shape
  obtain ⟨n, hn⟩ : ∃ n, f.code.length = n := ⟨_, rfl⟩
  have HN := lhid hn
  have hd := h.out.d
  have hrl2 := hrl.out
  have hcl2 := hcl.out
  rw [hn] at hd hrl2 hcl2 ⊢
  rw [hrl2] at hRA
  subst hRA
  have HDD := lhid hd
  clear hn hd hrl2
  obtain ⟨NL, hNL⟩ : ∃ NL, (List.range (n + 1)).map (nowN f.code R) = NL := ⟨_, rfl⟩
  rw [hNL]
  have HNL := lhid hNL
  clear hNL
  have hmake : ∀ w : World, (Instr.makeSlice 22 (.int .i64 ((n : Int) + 1)) (.int .i64 ((n : Int) + 1))).run Try.prog w = .ok (.slice (some ⟨w.heap.size, 0, none⟩) (n + 1) (n + 1)) (w.alloc (.cells (madeCells #[.int .i64 0] (n + 1)) 3)) := fun w => make_ints (n + 1) (by omega) w
  have hc1 : wrap64 ((n : Int) + 1) = (n : Int) + 1 := IntWalk.wrap64_in _ (by omega)
  go_enter Try.func38, Try.ntmps38
  go_wp2_with fail
  have HB0 := lhid ((Below.refl w.heap.size w).alloc (Nat.le_refl _) (.cells #[fa, fb, .int .i64 f.ret, .slice D n dcap, fe] 26))
  have HF0 : Hid (FBox (w.alloc (.cells #[fa, fb, .int .i64 f.ret, .slice D n dcap, fe] 26)) w.heap.size fa fb f.ret (.slice D n dcap) fe) := lhid (heap_alloc_new w _)
  have hm0 := Nums.made (w.alloc (.cells #[fa, fb, .int .i64 f.ret, .slice D n dcap, fe] 26)) (n + 1) (nowN f.code R) rfl
  rw [show (w.alloc (.cells #[fa, fb, .int .i64 f.ret, .slice D n dcap, fe] 26)).heap.size = w.heap.size + 1 by simp] at hm0
  have HM0 := lhid hm0
  have HB1 := lhid (HB0.out.alloc (by simp) (.cells (madeCells #[.int .i64 0] (n + 1)) 3))
  clear hm0 hmake hc1
  go_loopw [16] (fun i wr => ∃ k : Nat, i = .int .i64 k ∧ k ≤ n ∧ Hid (Below w.heap.size w wr) ∧ Hid (Nums wr (w.heap.size + 1) (n + 1) (nowN f.code R) k)) (fun i _ => n - (intOf i).toNat)
  case atStart => exact ⟨0, rfl, Nat.zero_le _, HB1, HM0⟩
  case round =>
    clear HB1 HM0 HF0 HB0
    obtain ⟨k, rfl, hk, HB, HM⟩ := hrel
    by_cases hlt : k < n
    ·
      obtain ⟨x, hx⟩ : ∃ x, f.code[k]? = some x := ⟨_, List.getElem?_eq_getElem (by have := HN.out; omega)⟩
      obtain ⟨g, o, v, hD, _, hv, c0, c1, c2, c3, c4, c5, c6, c7, c8⟩ := in_cells HDD.out hx
      subst hD
      obtain ⟨VA, vc, hv0⟩ := hv.shape
      subst hv0
      obtain ⟨bb, hbb⟩ : ∃ b, R[k]? = some b := ⟨_, List.getElem?_eq_getElem (by have := hrl.out; have := HN.out; omega)⟩
      obtain ⟨rg, ro, rcc, hRA, _, hE, hrc⟩ := hr.out.at' hbb
      have hE : rcc = [.bool bb] := hE
      subst hE
      subst hRA
      have d0 := hrc 0 _ rfl
      rw [Nat.add_zero, Nat.mul_one] at d0
      have hrg : rg < w.heap.size := cell_lt d0
      have n1 : ¬ rg = w.heap.size + 1 := by omega
      have n2 : ¬ w.heap.size + 1 = rg := by omega
      have n3 : rg < wr.heap.size := by have := HB.out.size; omega
      have kc : ∀ {p : Addr} {u : Value}, w.cell? p = some u → wr.cell? p = some u := fun {p u} hq => (HB.out.cell (p := p) (cell_lt hq)).trans hq
      replace c0 := kc c0
      replace c1 := kc c1
      replace c2 := kc c2
      replace c3 := kc c3
      replace c4 := kc c4
      replace c5 := kc c5
      replace c6 := kc c6
      replace c7 := kc c7
      replace c8 := kc c8
      replace d0 := kc d0
      have e0 := HM.out.at' (show k < n + 1 by omega) (Nat.le_refl k)
      obtain ⟨z1, e1⟩ := HM.out.some (show k + 1 < n + 1 by omega)
      have z0 := HM.out.fz (k + 1)
      have gl := HM.out.lt
      have HX := lhid hx
      have HBB := lhid hbb
      have k3 : (k : Int) < n := by omega
      have k4 : (k : Int) < (n : Int) + 1 := by omega
      have k5 : (k : Int) + 1 < (n : Int) + 1 := by omega
      have hwk : wrap64 ((k : Int) + 1) = (k : Int) + 1 := IntWalk.wrap64_in _ (by omega)
      obtain ⟨t, ht⟩ : ∃ t, nowN f.code R k = t := ⟨_, rfl⟩
      have htb := now_at f.code R k
      rw [ht] at e0 htb
      have htw : wrap64 (t + 1) = t + 1 := IntWalk.wrap64_in _ (by omega)
      have HT := lhid ht
      clear hx hbb hrc hv kc ht
      cases bb with
      | false =>
        have HNX : Hid (t = nowN f.code R (k + 1)) := lhid (by unfold nowN stayB; rw [HX.out, HBB.out, ← HT.out]; simp)
        have hb2 := HB.out.setCell (p := ⟨w.heap.size + 1, k + 1, none⟩) (by simp) (.int .i64 t)
        have HB2 := lhid (hb2.alloc hb2.size (.cells #[.int .i64 x.op, .int .i64 x.dst, .int .i64 x.a, .int .i64 x.b, .int .i64 x.c, .int .i64 x.num, .int .i64 x.too, .string (tx x.ref), .slice VA x.args.length vc] 37))
        have HM2 := lhid ((HM.out.set HNX.out).below ((Below.refl _ _).alloc (Nat.le_refl _) (.cells #[.int .i64 x.op, .int .i64 x.dst, .int .i64 x.a, .int .i64 x.b, .int .i64 x.c, .int .i64 x.num, .int .i64 x.too, .string (tx x.ref), .slice VA x.args.length vc] 37)))
        clear hb2
        go_wp2_with fail
        go_roundw
        case rel => exact ⟨k + 1, by go_num, by omega, HB2, HM2⟩
        case measure => simp [intOf]; omega
      | true =>
        cases h33 : (x.op == 33) with
        | true =>
          have HNX : Hid (t = nowN f.code R (k + 1)) := lhid (by unfold nowN stayB; rw [HX.out, HBB.out, ← HT.out]; simp [h33])
          have hb2 := HB.out.setCell (p := ⟨w.heap.size + 1, k + 1, none⟩) (by simp) (.int .i64 t)
          have HB2 := lhid (hb2.alloc hb2.size (.cells #[.int .i64 x.op, .int .i64 x.dst, .int .i64 x.a, .int .i64 x.b, .int .i64 x.c, .int .i64 x.num, .int .i64 x.too, .string (tx x.ref), .slice VA x.args.length vc] 37))
          have HM2 := lhid ((HM.out.set HNX.out).below ((Below.refl _ _).alloc (Nat.le_refl _) (.cells #[.int .i64 x.op, .int .i64 x.dst, .int .i64 x.a, .int .i64 x.b, .int .i64 x.c, .int .i64 x.num, .int .i64 x.too, .string (tx x.ref), .slice VA x.args.length vc] 37)))
          clear hb2
          go_wp2_with fail
          go_roundw
          case rel => exact ⟨k + 1, by go_num, by omega, HB2, HM2⟩
          case measure => simp [intOf]; omega
        | false =>
          have HNX : Hid (t + 1 = nowN f.code R (k + 1)) := lhid (by unfold nowN stayB; rw [HX.out, HBB.out, ← HT.out]; simp [h33])
          have hb2 := HB.out.setCell (p := ⟨w.heap.size + 1, k + 1, none⟩) (by simp) (.int .i64 t)
          have hb3 := hb2.setCell (p := ⟨w.heap.size + 1, k + 1, none⟩) (by simp) (.int .i64 (t + 1))
          have HB2 := lhid (hb3.alloc hb3.size (.cells #[.int .i64 x.op, .int .i64 x.dst, .int .i64 x.a, .int .i64 x.b, .int .i64 x.c, .int .i64 x.num, .int .i64 x.too, .string (tx x.ref), .slice VA x.args.length vc] 37))
          have HM2 := lhid (((HM.out.put (Nat.lt_succ_self k) t).set HNX.out).below ((Below.refl _ _).alloc (Nat.le_refl _) (.cells #[.int .i64 x.op, .int .i64 x.dst, .int .i64 x.a, .int .i64 x.b, .int .i64 x.c, .int .i64 x.num, .int .i64 x.too, .string (tx x.ref), .slice VA x.args.length vc] 37)))
          clear hb2 hb3
          go_wp2_with fail
          go_roundw
          case rel => exact ⟨k + 1, by go_num, by omega, HB2, HM2⟩
          case measure => simp [intOf]; omega
    · have k3 : ¬ (k : Int) < n := by omega
      have hke : k = n := by omega
      subst hke
      go_wp2_with fail
      go_ret
      refine ⟨_, rfl, ?_, HB.out⟩
      rw [← HNL.out]
      exact nums_own (B := w.heap.size) (g := w.heap.size + 1) HM.out (Nat.le_refl _) (by omega) (by unfold maxLen; omega)
end Go.Proofs.Ytifgkpfieapdjaa
/- The instructions that stay: the program's trimmedCode. -/
namespace Go.Proofs.Ytifgkpfieapdjaa
open Go.RowKit Go
set_option linter.unusedVariables false
set_option linter.unusedSimpArgs false

def trX (N : Nat → Int) (x : InI) : InI := { x with too := if leadsB x.op then N x.too.toNat else 0 }
def trT (c : List InI) (N : Nat → Int) (m : Nat) : List InI := (List.range m).flatMap fun i => match c[i]? with | some x => if N i < N (i + 1) then [trX N x] else [] | none => []
theorem trT_yes {c : List InI} {N : Nat → Int} {k : Nat} {x : InI} (hx : c[k]? = some x) (h : N k < N (k + 1)) : trT c N (k + 1) = trT c N k ++ [trX N x] := by
  unfold trT
  rw [List.range_succ, List.flatMap_append]
  simp [hx, h]
theorem trT_no {c : List InI} {N : Nat → Int} {k : Nat} {x : InI} (hx : c[k]? = some x) (h : ¬ N k < N (k + 1)) : trT c N (k + 1) = trT c N k := by
  unfold trT
  rw [List.range_succ, List.flatMap_append]
  simp [hx, h]
theorem trT_len (c : List InI) (N : Nat → Int) (m : Nat) : (trT c N m).length ≤ m := by
  induction m with
  | zero => simp [trT]
  | succ k ih =>
    cases hx : c[k]? with
    | none =>
      have : trT c N (k + 1) = trT c N k := by
        unfold trT
        rw [List.range_succ, List.flatMap_append]
        simp [hx]
      rw [this]
      omega
    | some x =>
      by_cases h : N k < N (k + 1)
      · rw [trT_yes hx h, List.length_append]
        simp
        omega
      · rw [trT_no hx h]
        omega
/-- A list of instructions of the call's own. -/
def OwC (P : Nat → Prop) (w0 w : World) (B : Nat) (v : Value) (L : List InI) : Prop := ∃ xs, w.ownsRow B 37 9 v L.length xs ∧ RowsE 9 (InE P w0) L xs
theorem make_code (m : Nat) (hm : m * 96 ≤ 140737488355328) (w : World) :
    ∃ z, (Instr.makeSlice 23 (.int .i64 0) (.int .i64 (m : Int))).run Try.prog w = .ok (.slice (some ⟨w.heap.size, 0, none⟩) 0 m) (w.alloc (.cells z 37)) ∧ z.size = m * 9 := by
  obtain ⟨i0, hi0, hz0, hz1, hz2⟩ := info_parts info_in
  have h := run_make (P := Try.prog) w 23 37 i0 _ Try.underlying23 hi0 hz0 .i64 .i64 0 m (by omega) (by omega) (by rw [hz2]; omega) (by omega)
  rw [hz1] at h
  exact ⟨_, h, by rw [size_madeCells]; simp⟩
set_option maxHeartbeats 16000000 in
set_option maxRecDepth 100000 in
theorem trimmedCode_any {P Q : Nat → Prop} (c : List InI) (cv nv : Value) (N : Nat → Int) (w : World) (h : Hid (RdX P 9 (InE P) w cv c)) (hcl : Hid (c.length * 96 ≤ 140737488355328)) (hv : Hid (RdX Q 1 NuE w nv ((List.range (c.length + 1)).map N)))
    (hN : Hid (∀ i, 0 ≤ N i ∧ N i ≤ i)) (hto : Hid (∀ x ∈ c, leadsB x.op = true → 0 ≤ x.too ∧ x.too < c.length)) :
    Calls Try.prog 39 #[cv, nv] w fun e w' => ∃ v, e = .returned v ∧ OwC P w w' w.heap.size v (trT c N c.length) ∧ Below w.heap.size w w' := by
  obtain ⟨D, dcap, hD⟩ := h.out.shape
  subst hD
  obtain ⟨NA, nc, hNA⟩ := hv.out.shape
  rw [show ((List.range (c.length + 1)).map N).length = c.length + 1 by simp] at hNA
  subst hNA
  obtain ⟨n, hn⟩ : ∃ n, c.length = n := ⟨_, rfl⟩
  have HN := lhid hn
  have hd := h.out
  have hcl2 := hcl.out
  rw [hn] at hd hcl2 hv ⊢
  have HDD := lhid hd
  obtain ⟨TL, hTL⟩ : ∃ TL, trT c N n = TL := ⟨_, rfl⟩
  rw [hTL]
  have HTL := lhid hTL
  have hnow : ∀ j : Nat, j < n + 1 → ∃ ng no, NA = some ⟨ng, no, none⟩ ∧ w.cell? ⟨ng, no + j, none⟩ = some (.int .i64 (N j)) := fun j hj => by
    obtain ⟨g, o, c1, h1, _, h2, h3⟩ := hv.out.at' (i := j) (a := N j) (by simp [hj])
    have h2 : c1 = [.int .i64 (N j)] := h2
    subst h2
    have h4 := h3 0 _ rfl
    rw [Nat.add_zero, Nat.mul_one] at h4
    exact ⟨g, o, h1, h4⟩
  obtain ⟨ng, no, hNA, e0⟩ := hnow n (by omega)
  subst hNA
  have HNOW : Hid (∀ j : Nat, j < n + 1 → w.cell? ⟨ng, no + j, none⟩ = some (.int .i64 (N j))) := lhid fun j hj => by
    obtain ⟨g, o, h1, h2⟩ := hnow j hj
    injection h1 with h1
    injection h1 with h1 h3
    subst h1 h3
    exact h2
  obtain ⟨m, hm⟩ : ∃ m : Nat, N n = m := ⟨(N n).toNat, by have := (hN.out n).1; omega⟩
  have hmn : m ≤ n := by have := (hN.out n).2; omega
  rw [hm] at e0
  obtain ⟨z, hmake, hz⟩ := make_code m (by omega) w
  have k0 : (n : Int) < (n : Int) + 1 := by omega
  have HZ := lhid hz
  clear hn hd hTL hnow hm hz
  go_enter Try.func39, Try.ntmps39
  go_wp2_with fail
  have HO0 : Hid (OwC P w (w.alloc (.cells z 37)) w.heap.size (.slice (some ⟨w.heap.size, 0, none⟩) 0 m) []) := lhid ⟨[], ⟨rfl, .inr ⟨w.heap.size, m, z, rfl, Nat.le_refl _, heap_alloc_new w _, Nat.zero_le _, by unfold maxLen; omega, HZ.out, by simp⟩⟩, rowsE_nil _ _⟩
  have HB0 := lhid ((Below.refl w.heap.size w).alloc (Nat.le_refl _) (.cells z 37))
  clear hmake e0 k0
  obtain ⟨i0, hi0, hz0, hz1, hz2⟩ := info_parts info_in
  go_loopw [5, 17] (fun v i wr => ∃ (L : List InI) (A : Option Addr) (q k : Nat), v = .slice A L.length q ∧ i = .int .i64 k ∧ k ≤ n ∧ Hid (L = trT c N k) ∧ Hid (OwC P w wr w.heap.size (.slice A L.length q) L) ∧ Hid (Below w.heap.size w wr)) (fun _ i _ => n - (intOf i).toNat)
  case atStart => exact ⟨[], _, m, 0, rfl, rfl, Nat.zero_le _, lhid (by simp [trT]), HO0, HB0⟩
  case round =>
    clear HO0 HB0 HZ
    obtain ⟨L, A, q, k, rfl, rfl, hk, HL, HO, HB⟩ := hrel
    by_cases hlt : k < n
    ·
      obtain ⟨x, hx⟩ : ∃ x, c[k]? = some x := ⟨_, List.getElem?_eq_getElem (by have := HN.out; omega)⟩
      obtain ⟨g, o, v, hD, _, hva, c0, c1, c2, c3, c4, c5, c6, c7, c8⟩ := in_cells HDD.out hx
      subst hD
      obtain ⟨VA, vc, hv0⟩ := hva.shape
      subst hv0
      have HVA := lhid hva
      have kc : ∀ {p : Addr} {u : Value}, w.cell? p = some u → wr.cell? p = some u := fun {p u} hq => (HB.out.cell (p := p) (cell_lt hq)).trans hq
      replace c0 := kc c0
      replace c1 := kc c1
      replace c2 := kc c2
      replace c3 := kc c3
      replace c4 := kc c4
      replace c5 := kc c5
      replace c6 := kc c6
      replace c7 := kc c7
      replace c8 := kc c8
      have d0 := kc (HNOW.out k (by omega))
      have d1 := kc (HNOW.out (k + 1) (by omega))
      have hng : ng < wr.heap.size := cell_lt d0
      have hgw : g < wr.heap.size := cell_lt c0
      have HX := lhid hx
      have HLE := lhid (trT_len c N k)
      have k3 : (k : Int) < n := by omega
      have k4 : (k : Int) < (n : Int) + 1 := by omega
      have k5 : (k : Int) + 1 < (n : Int) + 1 := by omega
      have hwk : wrap64 ((k : Int) + 1) = (k : Int) + 1 := IntWalk.wrap64_in _ (by omega)
      have hwq : IntKind.i64.wrap ((k : Int) + 1) = (k : Int) + 1 := IntWalk.i64_in _ (by omega)
      obtain ⟨t0, ht0⟩ : ∃ t, N k = t := ⟨_, rfl⟩
      obtain ⟨t1, ht1⟩ : ∃ t, N (k + 1) = t := ⟨_, rfl⟩
      rw [ht0] at d0
      rw [ht1] at d1
      have d1' := d1
      rw [show no + (k + 1) = no + k + 1 by omega] at d1'
      have HT0 := lhid ht0
      have HT1 := lhid ht1
      clear hx kc hva ht0 ht1
      by_cases hs : t0 < t1
      · have HL2 : Hid (L ++ [trX N x] = trT c N (k + 1)) := lhid (by rw [trT_yes HX.out (by rw [HT0.out, HT1.out]; exact hs), HL.out])
        have HBA := lhid (HB.out.alloc HB.out.size (.cells #[.int .i64 x.op, .int .i64 x.dst, .int .i64 x.a, .int .i64 x.b, .int .i64 x.c, .int .i64 x.num, .int .i64 x.too, .string (tx x.ref), .slice VA x.args.length vc] 37))
        go_upto_region 5 with fail
        go_quiet (fail)
        generalize hwd : World.drewN _ _ = wd
        have HBD : Hid (Below w.heap.size w wd) := lhid (by rw [← hwd]; exact Below.drewN' HBA.out _)
        have XBD : Hid (XBox wd wr.heap.size x.op x.dst x.a x.b x.c x.num x.too x.ref (.slice VA x.args.length vc)) := lhid (by rw [← hwd]; exact heap_alloc_new wr _)
        have HOD : Hid (OwC P w wd w.heap.size (.slice A L.length q) L) := lhid (by rw [← hwd]; obtain ⟨xs, h1, h2⟩ := HO.out; exact ⟨xs, h1.alloc _, h2⟩)
        clear hwd d0 d1 d1' c0 c1 c2 c3 c4 c5 c6 c7 c8 HBA
        obtain ⟨x0, x1, x2, x3, x4, x5, x6, x7, x8⟩ := XBD.out.cells
        cases hz : leadsB x.op with
        | true =>
          have HZ := lhid hz
          clear hz
          go_wp2_with fail
          with_reducible refine (leads_r x (.slice VA x.args.length vc) true _ HZ).mono ?_
          rintro e w5 ⟨rfl, hb5⟩
          have XB5 : Hid (XBox w5 wr.heap.size x.op x.dst x.a x.b x.c x.num x.too x.ref (.slice VA x.args.length vc)) := lhid (heap_keep XBD.out hb5)
          have HO5 : Hid (OwC P w w5 w.heap.size (.slice A L.length q) L) := lhid (by obtain ⟨xs, h1, h2⟩ := HOD.out; exact ⟨xs, own_of h1 fun b hb => hb5.block b (h1.lt b hb).2, h2⟩)
          have HB5 := lhid (HBD.out.trans (hb5.mono HBD.out.size))
          clear hb5 x0 x1 x2 x3 x4 x5 x6 x7 x8
          obtain ⟨x0, x1, x2, x3, x4, x5, x6, x7, x8⟩ := XB5.out.cells
          have xt := heap_thaw XB5.out 6
          have xl := heap_lt XB5.out
          have HOL : Hid (∀ b, (Value.slice A L.length q).ownBlock = some b → b < wr.heap.size) := lhid (by obtain ⟨xs, h1, h2⟩ := HO.out; exact fun b hb => (h1.lt b hb).2)
          obtain ⟨j, hj⟩ : ∃ j : Nat, x.too = j := ⟨x.too.toNat, by have := hto.out x (List.mem_of_getElem? HX.out) HZ.out; omega⟩
          have hjn : (j : Int) < (n : Int) + 1 := by have := hto.out x (List.mem_of_getElem? HX.out) HZ.out; rw [HN.out, hj] at this; omega
          have d2 := (HB5.out.cell (cell_lt (HNOW.out j (by omega)))).trans (HNOW.out j (by omega))
          obtain ⟨t2, ht2⟩ : ∃ t, N j = t := ⟨_, rfl⟩
          rw [ht2] at d2
          rw [hj] at x6
          have HTX : Hid ((trX N x).too = t2) := lhid (by show (if leadsB x.op then N x.too.toNat else 0) = t2; rw [HZ.out, hj]; exact ht2)
          have HJ := lhid hj
          have ngl : ng < w5.heap.size := cell_lt d2
          clear ht2 hj
          obtain ⟨xs, HXS⟩ : ∃ xs, Hid (w5.ownsRow w.heap.size 37 9 (.slice A L.length q) L.length xs ∧ RowsE 9 (InE P w) L xs) := by obtain ⟨xs, h1, h2⟩ := HO5.out; exact ⟨xs, lhid ⟨h1, h2⟩⟩
          have HOS : Hid ((w5.setCell ⟨wr.heap.size, 6, none⟩ (.int .i64 t2)).ownsRow w.heap.size 37 9 (.slice A L.length q) L.length xs) := lhid (own_of HXS.out.1 fun b hb => Below.heap_setCell _ _ _ _ (by have := HOL.out b hb; show b ≠ wr.heap.size; omega))
          have HBS : Hid (Below w.heap.size w (w5.setCell ⟨wr.heap.size, 6, none⟩ (.int .i64 t2))) := lhid (HB5.out.setCell (p := ⟨wr.heap.size, 6, none⟩) HB.out.size _)
          have hle := HLE.out
          rw [← HL.out] at hle
          go_wp2_with (at_builtin; refine wpList_append_own _ rfl (.tmp 43) (.tmp 45) 23 rfl w.heap.size 37 i0 (.agg #[.int .i64 0, .int .i64 0, .int .i64 0, .int .i64 0, .int .i64 0, .int .i64 0, .int .i64 0, .string ⟨#[]⟩, .slice none 0 0]) 9 96 Try.underlying23 hi0 hz0 hz1 hz2 rfl (by decide) (.slice A L.length q) L.length xs rfl (HOS.out.alloc _) ⟨w5.heap.size, 0, none⟩ 1 1 [.int .i64 x.op, .int .i64 x.dst, .int .i64 x.a, .int .i64 x.b, .int .i64 x.c, .int .i64 x.num, .int .i64 t2, .string (tx x.ref), .slice VA x.args.length vc] rfl rfl ?c1 ?c2 ?c3 ?c4 ?c5 ?_)
          case c1 =>
            have h9 := new_cells (w5.setCell ⟨wr.heap.size, 6, none⟩ (.int .i64 t2)) [.int .i64 x.op, .int .i64 x.dst, .int .i64 x.a, .int .i64 x.b, .int .i64 x.c, .int .i64 x.num, .int .i64 t2, .string (tx x.ref), .slice VA x.args.length vc] 37
            rw [show (w5.setCell ⟨wr.heap.size, 6, none⟩ (.int .i64 t2)).heap.size = w5.heap.size by simp [World.setCell]] at h9
            exact h9
          case c2 =>
            intro u hu
            simp only [List.mem_cons, List.not_mem_nil, or_false] at hu
            rcases hu with rfl | rfl | rfl | rfl | rfl | rfl | rfl | rfl | rfl <;> rfl
          case c3 => (unfold maxLen; omega)
          case c4 => omega
          case c5 => (have h5 := HB5.out.size; simp; omega)
          intro v' w' hown hgrow hnil
          obtain ⟨A', q', rfl⟩ := own_shape hown
          have HOF : Hid (OwC P w w' w.heap.size (.slice A' (L ++ [trX N x]).length q') (L ++ [trX N x])) := lhid ⟨_, by rw [List.length_append]; exact hown, HXS.out.2.app (rowsE_one (a := trX N x) ⟨_, by rw [HTX.out]; rfl, HVA.out⟩ rfl)⟩
          have HBF := lhid (Below.grown (HBS.out.alloc HBS.out.size _) hgrow (by have h5 := HB5.out.size; simp; omega) (fun r e => own_lt HXS.out.1 r e))
          obtain ⟨U, hU⟩ : ∃ U, L ++ [trX N x] = U := ⟨_, rfl⟩
          have hUl : L.length + 1 = U.length := by rw [← hU]; simp
          rw [hU] at HOF HL2
          clear hown hgrow hnil hU hle
          go_wp2_with fail
          go_roundw
          case rel => exact ⟨U, A', q', k + 1, by rw [hUl], by go_num, by omega, HL2, HOF, HBF⟩
          case measure => simp [intOf]; omega
        | false =>
          have HZ := lhid hz
          clear hz
          go_wp2_with fail
          with_reducible refine (leads_r x (.slice VA x.args.length vc) false _ HZ).mono ?_
          rintro e w5 ⟨rfl, hb5⟩
          have XB5 : Hid (XBox w5 wr.heap.size x.op x.dst x.a x.b x.c x.num x.too x.ref (.slice VA x.args.length vc)) := lhid (heap_keep XBD.out hb5)
          have HO5 : Hid (OwC P w w5 w.heap.size (.slice A L.length q) L) := lhid (by obtain ⟨xs, h1, h2⟩ := HOD.out; exact ⟨xs, own_of h1 fun b hb => hb5.block b (h1.lt b hb).2, h2⟩)
          have HB5 := lhid (HBD.out.trans (hb5.mono HBD.out.size))
          clear hb5 x0 x1 x2 x3 x4 x5 x6 x7 x8
          obtain ⟨x0, x1, x2, x3, x4, x5, x6, x7, x8⟩ := XB5.out.cells
          have xt := heap_thaw XB5.out 6
          have xl := heap_lt XB5.out
          have HOL : Hid (∀ b, (Value.slice A L.length q).ownBlock = some b → b < wr.heap.size) := lhid (by obtain ⟨xs, h1, h2⟩ := HO.out; exact fun b hb => (h1.lt b hb).2)
          have HTX : Hid ((trX N x).too = 0) := lhid (by show (if leadsB x.op then N x.too.toNat else 0) = 0; rw [HZ.out]; rfl)
          obtain ⟨xs, HXS⟩ : ∃ xs, Hid (w5.ownsRow w.heap.size 37 9 (.slice A L.length q) L.length xs ∧ RowsE 9 (InE P w) L xs) := by obtain ⟨xs, h1, h2⟩ := HO5.out; exact ⟨xs, lhid ⟨h1, h2⟩⟩
          have HOS : Hid ((w5.setCell ⟨wr.heap.size, 6, none⟩ (.int .i64 0)).ownsRow w.heap.size 37 9 (.slice A L.length q) L.length xs) := lhid (own_of HXS.out.1 fun b hb => Below.heap_setCell _ _ _ _ (by have := HOL.out b hb; show b ≠ wr.heap.size; omega))
          have HBS : Hid (Below w.heap.size w (w5.setCell ⟨wr.heap.size, 6, none⟩ (.int .i64 0))) := lhid (HB5.out.setCell (p := ⟨wr.heap.size, 6, none⟩) HB.out.size _)
          have hle := HLE.out
          rw [← HL.out] at hle
          go_wp2_with (at_builtin; refine wpList_append_own _ rfl (.tmp 43) (.tmp 45) 23 rfl w.heap.size 37 i0 (.agg #[.int .i64 0, .int .i64 0, .int .i64 0, .int .i64 0, .int .i64 0, .int .i64 0, .int .i64 0, .string ⟨#[]⟩, .slice none 0 0]) 9 96 Try.underlying23 hi0 hz0 hz1 hz2 rfl (by decide) (.slice A L.length q) L.length xs rfl (HOS.out.alloc _) ⟨w5.heap.size, 0, none⟩ 1 1 [.int .i64 x.op, .int .i64 x.dst, .int .i64 x.a, .int .i64 x.b, .int .i64 x.c, .int .i64 x.num, .int .i64 0, .string (tx x.ref), .slice VA x.args.length vc] rfl rfl ?c1 ?c2 ?c3 ?c4 ?c5 ?_)
          case c1 =>
            have h9 := new_cells (w5.setCell ⟨wr.heap.size, 6, none⟩ (.int .i64 0)) [.int .i64 x.op, .int .i64 x.dst, .int .i64 x.a, .int .i64 x.b, .int .i64 x.c, .int .i64 x.num, .int .i64 0, .string (tx x.ref), .slice VA x.args.length vc] 37
            rw [show (w5.setCell ⟨wr.heap.size, 6, none⟩ (.int .i64 0)).heap.size = w5.heap.size by simp [World.setCell]] at h9
            exact h9
          case c2 =>
            intro u hu
            simp only [List.mem_cons, List.not_mem_nil, or_false] at hu
            rcases hu with rfl | rfl | rfl | rfl | rfl | rfl | rfl | rfl | rfl <;> rfl
          case c3 => (unfold maxLen; omega)
          case c4 => omega
          case c5 => (have h5 := HB5.out.size; simp; omega)
          intro v' w' hown hgrow hnil
          obtain ⟨A', q', rfl⟩ := own_shape hown
          have HOF : Hid (OwC P w w' w.heap.size (.slice A' (L ++ [trX N x]).length q') (L ++ [trX N x])) := lhid ⟨_, by rw [List.length_append]; exact hown, HXS.out.2.app (rowsE_one (a := trX N x) ⟨_, by rw [HTX.out]; rfl, HVA.out⟩ rfl)⟩
          have HBF := lhid (Below.grown (HBS.out.alloc HBS.out.size _) hgrow (by have h5 := HB5.out.size; simp; omega) (fun r e => own_lt HXS.out.1 r e))
          obtain ⟨U, hU⟩ : ∃ U, L ++ [trX N x] = U := ⟨_, rfl⟩
          have hUl : L.length + 1 = U.length := by rw [← hU]; simp
          rw [hU] at HOF HL2
          clear hown hgrow hnil hU hle
          go_wp2_with fail
          go_roundw
          case rel => exact ⟨U, A', q', k + 1, by rw [hUl], by go_num, by omega, HL2, HOF, HBF⟩
          case measure => simp [intOf]; omega
      · have HL2 : Hid (L = trT c N (k + 1)) := lhid (by rw [trT_no HX.out (by rw [HT0.out, HT1.out]; exact hs)]; exact HL.out)
        have HB2 := lhid (HB.out.alloc HB.out.size (.cells #[.int .i64 x.op, .int .i64 x.dst, .int .i64 x.a, .int .i64 x.b, .int .i64 x.c, .int .i64 x.num, .int .i64 x.too, .string (tx x.ref), .slice VA x.args.length vc] 37))
        have HO2 : Hid (OwC P w (wr.alloc (.cells #[.int .i64 x.op, .int .i64 x.dst, .int .i64 x.a, .int .i64 x.b, .int .i64 x.c, .int .i64 x.num, .int .i64 x.too, .string (tx x.ref), .slice VA x.args.length vc] 37)) w.heap.size (.slice A L.length q) L) := lhid (by obtain ⟨xs, h1, h2⟩ := HO.out; exact ⟨xs, h1.alloc _, h2⟩)
        go_upto_region 5 with fail
        go_quiet (fail)
        generalize hwd : World.drewN _ _ = wd
        have HB3 : Hid (Below w.heap.size w wd) := lhid (by rw [← hwd]; exact Below.drewN' HB2.out _)
        have HO3 : Hid (OwC P w wd w.heap.size (.slice A L.length q) L) := lhid (by rw [← hwd]; exact HO2.out)
        clear hwd d0 d1 d1' c0 c1 c2 c3 c4 c5 c6 c7 c8
        go_wp2_with fail
        go_roundw
        case rel => exact ⟨L, A, q, k + 1, rfl, by go_num, by omega, HL2, HO3, HB3⟩
        case measure => simp [intOf]; omega
    · have k3 : ¬ (k : Int) < n := by omega
      have hke : k = n := by omega
      have HR : Hid (L = TL) := lhid (by rw [HL.out, hke]; exact HTL.out)
      clear hke
      go_wp2_with fail
      go_ret
      refine ⟨_, rfl, ?_, HB.out⟩
      rw [← HR.out]
      exact HO.out
end Go.Proofs.Ytifgkpfieapdjaa
/- Which places may catch what a place throws: the document's Caught. -/
namespace Go.Proofs.Ytifgkpfieapdjaa
open Go.RowKit Go
set_option linter.unusedVariables false
set_option linter.unusedSimpArgs false

theorem rthrows_r (c : Int) (z : Bool) (w : World) (h : Hid (throwsB c = z)) : Calls Try.prog 26 #[.int .i64 c] w fun e w' => e = .returned (.bool z) ∧ Below w.heap.size w w' := by
  have := rthrows_any c w
  rwa [h.out] at this
set_option maxHeartbeats 16000000 in
set_option maxRecDepth 100000 in
theorem rcaught_any {P : Nat → Prop} (f : FuI) (fa fb fd fe : Value) (i : Int) (w : World) (h : Hid (FuV P w f fa fb fd fe)) (hrl : Hid (f.rows.length * 8 ≤ 140737488355328)) :
    Calls Try.prog 32 #[fuL fa fb f.ret fd fe, .int .i64 i] w fun e w' => ∃ v, e = .returned v ∧ OwN w' w.heap.size v (caughtL f i) ∧ Below w.heap.size w w' := by
  obtain ⟨D, dcap, hD⟩ := h.out.d.shape
  subst hD
  obtain ⟨E, ecap, hE⟩ := h.out.e.shape
  subst hE
  have hdl := h.out.d.len
  have hel := h.out.e.len
  obtain ⟨n, hn⟩ : ∃ n, f.code.length = n := ⟨_, rfl⟩
  have HN := lhid hn
  have hd := h.out.d
  rw [hn] at hdl hd ⊢
  clear hn
  by_cases h0 : i < 0
  · have HR : Hid (caughtL f i = []) := lhid (by unfold caughtL; rw [atC_none (.inl h0)])
    rw [HR.out]
    go_enter Try.func32, Try.ntmps32
    go_wp2_with fail
    go_ret
    exact ⟨_, rfl, World.ownsRow_nil _ _ _ _, (Below.refl _ _).alloc (Nat.le_refl _) _⟩
  obtain ⟨k0, rfl⟩ : ∃ k : Nat, i = k := ⟨i.toNat, by omega⟩
  by_cases h1 : (k0 : Int) < n
  ·
    obtain ⟨x, hx⟩ : ∃ x, f.code[k0]? = some x := ⟨_, List.getElem?_eq_getElem (by have := HN.out; omega)⟩
    obtain ⟨g, o, v, hD, _, hv, c0, c1, c2, c3, c4, c5, c6, c7, c8⟩ := in_cells hd hx
    subst hD
    have hgw : g < w.heap.size := cell_lt c0
    have h2 : ¬ (n : Int) ≤ k0 := by omega
    obtain ⟨zt, hzt⟩ : ∃ z, throwsB x.op = z := ⟨_, rfl⟩
    have HT := lhid hzt
    have HCL : Hid (caughtL f (k0 : Int) = if zt then uniqL (catL f.rows k0) else []) := lhid (by unfold caughtL; rw [atC_some hx]; dsimp only; rw [hzt])
    clear hx hv hd hzt
    cases zt with
    | false =>
      have HR : Hid (caughtL f (k0 : Int) = []) := HCL
      rw [HR.out]
      go_enter Try.func32, Try.ntmps32
      go_wp2_with fail
      with_reducible refine (rthrows_r x.op false _ HT).mono ?_
      rintro e w1 ⟨rfl, hb⟩
      have HB1 := lhid (((Below.refl w.heap.size w).alloc (Nat.le_refl _) _).trans (hb.mono (by simp)))
      clear hb
      go_wp2_with fail
      go_ret
      exact ⟨_, rfl, World.ownsRow_nil _ _ _ _, HB1.out⟩
    | true =>
      go_enter Try.func32, Try.ntmps32
      go_wp2_with fail
      with_reducible refine (rthrows_r x.op true _ HT).mono ?_
      rintro e w1 ⟨rfl, hb⟩
      have HB1 := lhid (((Below.refl w.heap.size w).alloc (Nat.le_refl _) _).trans (hb.mono (by simp)))
      have HF1 : Hid (FBox w1 w.heap.size fa fb f.ret (.slice (some ⟨g, o, none⟩) n dcap) (.slice E f.rows.length ecap)) := lhid (heap_keep (heap_alloc_new w _) hb)
      clear hb c0 c1 c2 c3 c4 c5 c6 c7 c8
      obtain ⟨i0, hi0, hz0, hz1, hz2⟩ := info_parts info_nuP
      go_wp2_with fail
      go_loopw [5, 6] (fun v j wr => ∃ (L : List Int) (A : Option Addr) (q k : Nat), v = .slice A L.length q ∧ j = .int .i64 k ∧ k ≤ f.rows.length ∧ Hid ((catL (f.rows.drop k) (k0 : Int)).foldl addU L = caughtL f (k0 : Int)) ∧ Hid (L.length ≤ k) ∧ Hid (OwN wr (w.heap.size + 1) (.slice A L.length q) L) ∧ Hid (Below w.heap.size w wr) ∧ Hid (FBox wr w.heap.size fa fb f.ret (.slice (some ⟨g, o, none⟩) n dcap) (.slice E f.rows.length ecap))) (fun _ j _ => f.rows.length - (intOf j).toNat)
      case atStart => exact ⟨[], none, 0, 0, rfl, rfl, Nat.zero_le _, lhid (by rw [HCL.out]; rfl), lhid (Nat.le_refl _), lhid (World.ownsRow_nil _ _ _ _), HB1, HF1⟩
      case round =>
        clear HB1 HF1
        obtain ⟨L, A, q, k, rfl, rfl, hk, HFO, HLE, HO, HB, HF⟩ := hrel
        obtain ⟨p0, p1, p2, p3, p4⟩ := HF.out.cells
        by_cases hlt : k < f.rows.length
        ·
          obtain ⟨r, hx⟩ : ∃ r, f.rows[k]? = some r := ⟨_, List.getElem?_eq_getElem hlt⟩
          obtain ⟨rg, ro, hE, c0, c1, c2, c3⟩ := rw_cells h.out.e hx
          subst hE
          have kc : ∀ {p : Addr} {u : Value}, w.cell? p = some u → wr.cell? p = some u := fun {p u} hq => (HB.out.cell (p := p) (cell_lt hq)).trans hq
          replace c0 := kc c0
          replace c1 := kc c1
          replace c2 := kc c2
          replace c3 := kc c3
          have HD : Hid (f.rows.drop k = r :: f.rows.drop (k + 1)) := lhid (by
            rw [List.drop_eq_getElem_cons hlt]
            have := List.getElem?_eq_getElem hlt
            rw [hx] at this
            rw [Option.some.inj this])
          have hfl : w.heap.size < wr.heap.size := heap_lt HF.out
          have k3 : (k : Int) < f.rows.length := by omega
          have hwk : wrap64 ((k : Int) + 1) = (k : Int) + 1 := IntWalk.wrap64_in _ (by omega)
          have HF2 : Hid (FBox (wr.alloc (.cells #[.int .i64 r.fr, .int .i64 r.too, .int .i64 r.at_, .string (tx r.cls)] 54)) w.heap.size fa fb f.ret (.slice (some ⟨g, o, none⟩) n dcap) (.slice (some ⟨rg, ro, none⟩) f.rows.length ecap)) := lhid (heap_keep HF.out ((Below.refl _ _).alloc (Nat.le_refl _) _))
          have HB2 := lhid (HB.out.alloc HB.out.size (.cells #[.int .i64 r.fr, .int .i64 r.too, .int .i64 r.at_, .string (tx r.cls)] 54))
          have HO2 : Hid (OwN (wr.alloc (.cells #[.int .i64 r.fr, .int .i64 r.too, .int .i64 r.at_, .string (tx r.cls)] 54)) (w.heap.size + 1) (.slice A L.length q) L) := lhid (HO.out.alloc _)
          have HRB : Hid ((wr.alloc (.cells #[.int .i64 r.fr, .int .i64 r.too, .int .i64 r.at_, .string (tx r.cls)] 54)).heap[wr.heap.size]? = some (.cells #[.int .i64 r.fr, .int .i64 r.too, .int .i64 r.at_, .string (tx r.cls)] 54 (0, 0))) := lhid (heap_alloc_new wr _)
          have HOL : Hid (∀ b, (Value.slice A L.length q).ownBlock = some b → b < wr.heap.size) := lhid fun b hb => (HO.out.lt b hb).2
          clear hx kc
          by_cases a1 : r.fr ≤ k0
          · by_cases a2 : (k0 : Int) < r.too
            · have HCA : Hid (catL (f.rows.drop k) k0 = r.at_ :: (if r.cls = [] then [] else catL (f.rows.drop (k + 1)) k0)) := lhid (by rw [HD.out]; exact catL_yes (by unfold aboutB; rw [decide_eq_true a1, decide_eq_true a2]; rfl))
              by_cases hin : r.at_ ∈ L
              · have HT1 : Hid (decide (r.at_ ∈ L) = true) := lhid (decide_eq_true hin)
                have HFO : Hid ((if r.cls = [] then ([] : List Int) else catL (f.rows.drop (k + 1)) k0).foldl addU L = caughtL f (k0 : Int)) := lhid (by have := HFO.out; rw [HCA.out, List.foldl_cons] at this; unfold addU at this; rw [if_pos hin] at this; exact this)
                have HFO : Hid ((if r.cls = [] then L else (catL (f.rows.drop (k + 1)) k0).foldl addU L) = caughtL f (k0 : Int)) := lhid (by
                  have := HFO.out
                  by_cases h9 : r.cls = []
                  · rw [if_pos h9] at this ⊢; exact this
                  · rw [if_neg h9] at this ⊢; exact this)
                clear hin
                go_wp2_with fail
                with_reducible refine (fin_r r.at_ (.slice A L.length q) L true _ (lhid (OwN.rd HO2.out (by have := HLE.out; omega))) HT1).mono ?_
                rintro e w9 ⟨rfl, rfl⟩
                by_cases hc : r.cls = []
                · have HC : Hid (L = caughtL f (k0 : Int)) := lhid (by have := HFO.out; rw [if_pos hc] at this; exact this)
                  have hc1 : ((tx r.cls).toList == ([] : Bs)) = true := by rw [tx_toL, hc]; rfl
                  have hc2 : (tx r.cls).toList.isEmpty = true := by rw [tx_toL, hc]; rfl
                  have hc3 : (tx r.cls).toList = [] := by rw [tx_toL]; exact hc
                  clear hc
                  go_wp2_with fail
                  go_ret
                  refine ⟨_, rfl, ?_, HB2.out⟩
                  rw [← HC.out]
                  exact own_base HO2.out (by omega)
                · have HC : Hid ((catL (f.rows.drop (k + 1)) (k0 : Int)).foldl addU (L) = caughtL f (k0 : Int)) := lhid (by have := HFO.out; rw [if_neg hc] at this; exact this)
                  have hc1 : ((tx r.cls).toList == ([] : Bs)) = false := by rw [tx_toL, beq_eq_false_iff_ne]; exact hc
                  have hc2 : (tx r.cls).toList.isEmpty = false := by rw [tx_toL]; cases h9 : r.cls with
                    | nil => exact absurd h9 hc
                    | cons _ _ => rfl
                  have hc3 : ¬ (tx r.cls).toList = [] := by rw [tx_toL]; exact hc
                  clear hc
                  go_wp2_with fail
                  go_roundw
                  case rel => exact ⟨L, A, q, k + 1, by rfl, by go_num, by omega, HC, lhid (by have := HLE.out; omega), HO2, HB2, HF2⟩
                  case measure => simp [intOf]; omega
              · have HT1 : Hid (decide (r.at_ ∈ L) = false) := lhid (decide_eq_false hin)
                have HFO : Hid ((if r.cls = [] then L ++ [r.at_] else (catL (f.rows.drop (k + 1)) k0).foldl addU (L ++ [r.at_])) = caughtL f (k0 : Int)) := lhid (by
                  have := HFO.out
                  rw [HCA.out, List.foldl_cons] at this
                  unfold addU at this
                  rw [if_neg hin] at this
                  by_cases h9 : r.cls = []
                  · rw [if_pos h9] at this ⊢; exact this
                  · rw [if_neg h9] at this ⊢; exact this)
                have hle := HLE.out
                clear hin
                go_wp2_with fail
                with_reducible refine (fin_r r.at_ (.slice A L.length q) L false _ (lhid (OwN.rd HO2.out (by have := HLE.out; omega))) HT1).mono ?_
                rintro e w9 ⟨rfl, rfl⟩
                go_wp2_with (at_builtin; refine wpList_append_own _ rfl (.tmp 54) (.tmp 57) 22 rfl (w.heap.size + 1) 3 i0 (.int .i64 0) 1 8 Try.underlying22 hi0 hz0 hz1 hz2 rfl (by decide) (.slice A L.length q) L.length (L.map vI) rfl (HO2.out.alloc _) ⟨wr.heap.size + 1, 0, none⟩ 1 1 [vI r.at_] rfl rfl ?c1 ?c2 ?c3 ?c4 ?c5 ?_)
                case c1 =>
                  have h9 := new_cells (wr.alloc (.cells #[.int .i64 r.fr, .int .i64 r.too, .int .i64 r.at_, .string (tx r.cls)] 54)) [vI r.at_] 3
                  rw [show (wr.alloc (.cells #[.int .i64 r.fr, .int .i64 r.too, .int .i64 r.at_, .string (tx r.cls)] 54)).heap.size = wr.heap.size + 1 by simp] at h9
                  exact h9
                case c2 => (intro u hu; simp at hu; subst hu; rfl)
                case c3 => (unfold maxLen; omega)
                case c4 => (have := hrl.out; omega)
                case c5 => (simp; omega)
                intro v' w' hown hgrow hnil
                obtain ⟨A', q', rfl⟩ := own_shape hown
                have HO3 : Hid (OwN w' (w.heap.size + 1) (.slice A' (L ++ [r.at_]).length q') (L ++ [r.at_])) := lhid (by simpa [OwN] using hown)
                have HF3 : Hid (FBox w' w.heap.size fa fb f.ret (.slice (some ⟨g, o, none⟩) n dcap) (.slice (some ⟨rg, ro, none⟩) f.rows.length ecap)) := lhid ((hgrow.block w.heap.size (by simp; omega) (fun e => by have := own_lt HO.out _ e.symm; omega)).trans ((Below.heap_alloc _ _ _ (by simp; omega)).trans HF2.out))
                have r3 := heap_cell (i := 3) ((hgrow.block wr.heap.size (by simp; omega) (fun e => by have := HOL.out _ e.symm; omega)).trans ((Below.heap_alloc _ _ _ (by simp)).trans HRB.out)) rfl
                have HB3 := lhid (Below.grown (HB2.out.alloc HB2.out.size _) hgrow (by simp; omega) (fun r e => by have := own_lt HO.out r e; omega))
                obtain ⟨U, hU⟩ : ∃ U, L ++ [r.at_] = U := ⟨_, rfl⟩
                have hUl : L.length + 1 = U.length := by rw [← hU]; simp
                rw [hU] at HO3 HFO
                have HO4 : Hid (OwN w' (w.heap.size + 1) (.slice A' (L.length + 1) q') U) := lhid (by rw [hUl]; exact HO3.out)
                clear hown hgrow hnil hU hle c0 c1 c2 c3 p0 p1 p2 p3 p4
                by_cases hc : r.cls = []
                · have HC : Hid (U = caughtL f (k0 : Int)) := lhid (by have := HFO.out; rw [if_pos hc] at this; exact this)
                  have hc1 : ((tx r.cls).toList == ([] : Bs)) = true := by rw [tx_toL, hc]; rfl
                  have hc2 : (tx r.cls).toList.isEmpty = true := by rw [tx_toL, hc]; rfl
                  have hc3 : (tx r.cls).toList = [] := by rw [tx_toL]; exact hc
                  clear hc
                  go_wp2_with fail
                  go_ret
                  refine ⟨_, rfl, ?_, HB3.out⟩
                  rw [← HC.out]
                  exact own_base HO4.out (by omega)
                · have HC : Hid ((catL (f.rows.drop (k + 1)) (k0 : Int)).foldl addU (U) = caughtL f (k0 : Int)) := lhid (by have := HFO.out; rw [if_neg hc] at this; exact this)
                  have hc1 : ((tx r.cls).toList == ([] : Bs)) = false := by rw [tx_toL, beq_eq_false_iff_ne]; exact hc
                  have hc2 : (tx r.cls).toList.isEmpty = false := by rw [tx_toL]; cases h9 : r.cls with
                    | nil => exact absurd h9 hc
                    | cons _ _ => rfl
                  have hc3 : ¬ (tx r.cls).toList = [] := by rw [tx_toL]; exact hc
                  clear hc
                  go_wp2_with fail
                  go_roundw
                  case rel => exact ⟨U, A', q', k + 1, by rw [hUl], by go_num, by omega, HC, lhid (by have := HLE.out; omega), HO3, HB3, HF3⟩
                  case measure => simp [intOf]; omega
            · have HFO2 : Hid ((catL (f.rows.drop (k + 1)) (k0 : Int)).foldl addU L = caughtL f (k0 : Int)) := lhid (by have := HFO.out; rw [HD.out, catL_no (by unfold aboutB; rw [decide_eq_true a1, decide_eq_false a2]; rfl)] at this; exact this)
              go_wp2_with fail
              go_roundw
              case rel => exact ⟨L, A, q, k + 1, rfl, by go_num, by omega, HFO2, lhid (by have := HLE.out; omega), HO2, HB2, HF2⟩
              case measure => simp [intOf]; omega
          · have HFO2 : Hid ((catL (f.rows.drop (k + 1)) (k0 : Int)).foldl addU L = caughtL f (k0 : Int)) := lhid (by have := HFO.out; rw [HD.out, catL_no (by unfold aboutB; rw [decide_eq_false a1]; rfl)] at this; exact this)
            go_wp2_with fail
            go_roundw
            case rel => exact ⟨L, A, q, k + 1, rfl, by go_num, by omega, HFO2, lhid (by have := HLE.out; omega), HO2, HB2, HF2⟩
            case measure => simp [intOf]; omega
        · have k3 : ¬ (k : Int) < f.rows.length := by omega
          have HR : Hid (L = caughtL f (k0 : Int)) := lhid (by have := HFO.out; rw [List.drop_of_length_le (by omega)] at this; exact this)
          go_wp2_with fail
          go_ret
          refine ⟨_, rfl, ?_, HB.out⟩
          rw [← HR.out]
          exact own_base HO.out (by omega)
  · have h2 : (n : Int) ≤ k0 := by omega
    have HR : Hid (caughtL f (k0 : Int) = []) := lhid (by unfold caughtL; rw [atC_none (.inr (by rw [HN.out]; exact h2))])
    rw [HR.out]
    go_enter Try.func32, Try.ntmps32
    go_wp2_with fail
    go_ret
    exact ⟨_, rfl, World.ownsRow_nil _ _ _ _, (Below.refl _ _).alloc (Nat.le_refl _) _⟩
end Go.Proofs.Ytifgkpfieapdjaa
