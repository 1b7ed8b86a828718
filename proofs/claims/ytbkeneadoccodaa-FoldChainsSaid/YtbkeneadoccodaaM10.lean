/- Texts of this claim, joined: CFlwNext, CInsChecks. -/
import Derived.Test.YtbkeneadoccodaaM8
import Derived.Laws.AppendOwnNone
import Derived.Test.YtbkeneadoccodaaJCInsRChk5
import Derived.Deep.Cut
/- Which places follow a place: the program's Next, the document's. -/
namespace Go.Proofs.Ytbkeneadoccodaa
open Go.RowKit Go
set_option linter.unusedVariables false
set_option linter.unusedSimpArgs false
def atC (c : List InI) (i : Int) : Option InI := if 0 ≤ i then c[i.toNat]? else none
def goOn (x : InI) (i : Int) : List Int := if endsB x.op then [] else [i + 1]
def nextX (x : InI) (i : Int) : List Int := if leadsB x.op && !decide (x.too ∈ goOn x i) then goOn x i ++ [x.too] else goOn x i
def nextL (f : FuI) (i : Int) : List Int := match atC f.code i with | none => [] | some x => nextX x i
theorem atC_none {c : List InI} {i : Int} (h : i < 0 ∨ (c.length : Int) ≤ i) : atC c i = none := by
 unfold atC
 split
 ·exact List.getElem?_eq_none_iff.2 (by omega)
 ·rfl
theorem atC_some {c : List InI} {k : Nat} {x : InI} (h : c[k]? = some x) : atC c (k : Int) = some x := by
 unfold atC
 rw [if_pos (by omega)]
 simpa using h
set_option maxRecDepth 100000 in
theorem isPlace_any (f : FuI) (fa fb : Value) (D : Option Addr) (n dcap : Nat) (fe : Value) (i : Int) (w : World) :
  Calls Try.prog 56 #[fuL fa fb f.ret (.slice D n dcap) fe, .int .i64 i] w fun e w' => e = .returned (.bool (decide (0 ≤ i) && decide (i < (n : Int)))) ∧ Below w.heap.size w w' := by
 by_cases h1 : 0 ≤ i <;> by_cases h2 : i < n
 all_goals try (exfalso; omega)
 all_goals
  go_enter Try.func56, Try.ntmps56
  go_wp2
  go_ret
  exact ⟨ret_bool (by simp [h1, h2]), (Below.refl w.heap.size w).alloc (Nat.le_refl _) _⟩
theorem isPlace_r (f : FuI) (fa fb : Value) (D : Option Addr) (n dcap : Nat) (fe : Value) (i : Int) (z : Bool) (w : World) (hz : Hid ((decide (0 ≤ i) && decide (i < (n : Int))) = z)) :
  Calls Try.prog 56 #[fuL fa fb f.ret (.slice D n dcap) fe, .int .i64 i] w fun e w' => e = .returned (.bool z) ∧ Below w.heap.size w w' := by
 have := isPlace_any f fa fb D n dcap fe i w
 rwa [hz.out] at this
set_option maxHeartbeats 8000000 in
set_option maxRecDepth 100000 in
theorem next_any {P : Nat → Prop} (f : FuI) (fa fb fd fe : Value) (i : Int) (w : World) (h : Hid (FuV P w f fa fb fd fe)) :
  Calls Try.prog 65 #[fuL fa fb f.ret fd fe, .int .i64 i] w fun e w' => ∃ v, e = .returned v ∧ OwN w' w.heap.size v (nextL f i) ∧ Below w.heap.size w w' := by
 obtain ⟨D, dcap, hD⟩ := h.out.d.shape
 subst hD
 have hdl := h.out.d.len
 obtain ⟨n, hn⟩ : ∃ n, f.code.length = n := ⟨_, rfl⟩
 have HN := lhid hn
 have hd := h.out.d
 rw [hn] at hdl hd ⊢
 clear hn
 obtain ⟨i0, hi0, hz0, hz1, hz2⟩ := info_parts info_nuP
 by_cases hp : 0 ≤ i ∧ i < n
 ·
  obtain ⟨k, rfl⟩ : ∃ k : Nat, i = k := ⟨i.toNat, by omega⟩
  obtain ⟨x, hx⟩ : ∃ x, f.code[k]? = some x := ⟨_, List.getElem?_eq_getElem (by have := HN.out; omega)⟩
  obtain ⟨g, o, v, hD, _, hv, c0, c1, c2, c3, c4, c5, c6, c7, c8⟩ := in_cells hd hx
  subst hD
  obtain ⟨VX, vx, rfl⟩ := hv.shape
  have HNX : Hid (nextL f (k : Int) = nextX x k) := lhid (by unfold nextL; rw [atC_some hx])
  have k3 : (k : Int) < n := hp.2
  have HV := lhid hv
  have hg : g < w.heap.size := cell_lt c0
  clear hx hv hd
  obtain ⟨ze, hze⟩ : ∃ z, endsB x.op = z := ⟨_, rfl⟩
  obtain ⟨zl, hzl⟩ : ∃ z, leadsB x.op = z := ⟨_, rfl⟩
  have HE := lhid hze
  have HL := lhid hzl
  cases ze with
  | true =>
   cases zl with
   | false =>
    have HR : Hid (nextL f (k : Int) = []) := lhid (by rw [HNX.out]; unfold nextX goOn; rw [hze, hzl]; rfl)
    rw [HR.out]
    clear hze hzl
    go_enter Try.func65, Try.ntmps65
    go_wp2_with fail
    with_reducible refine (isPlace_r f fa fb _ n dcap fe (k : Int) true _ (lhid (by simp [hp.2]))).mono ?_
    rintro e w1 ⟨rfl, hb⟩
    have HB1 := lhid (((Below.refl w.heap.size w).alloc (Nat.le_refl _) _).trans (hb.mono (by simp)))
    have hF : FBox w1 w.heap.size fa fb f.ret (.slice (some ⟨g, o, none⟩) n dcap) fe := heap_keep (heap_alloc_new w _) hb
    obtain ⟨p0, p1, p2, p3, p4⟩ := hF.cells
    have hs1 : w.heap.size < w1.heap.size := heap_lt hF
    have HF1 := lhid hF
    have kc : ∀ {p : Addr} {u : Value}, w.cell? p = some u → w1.cell? p = some u := fun {p u} hq => (HB1.out.cell (p := p) (cell_lt hq)).trans hq
    replace c0 := kc c0
    replace c1 := kc c1
    replace c2 := kc c2
    replace c3 := kc c3
    replace c4 := kc c4
    replace c5 := kc c5
    replace c6 := kc c6
    replace c7 := kc c7
    replace c8 := kc c8
    clear hb hF kc
    go_upto_region 5 with fail
    generalize hW : World.alloc _ _ = w2
    obtain ⟨X0, hX0⟩ : ∃ X, X = w1.heap.size := ⟨_, rfl⟩
    have h12 : Below w1.heap.size w1 w2 := by rw [← hW]; exact (Below.refl _ _).alloc (Nat.le_refl _) _
    have HX2 : Hid (XBox w2 X0 x.op x.dst x.a x.b x.c x.num x.too x.ref (.slice VX x.args.length vx)) := lhid (by rw [← hW, hX0]; exact heap_alloc_new w1 _)
    have HB2 := lhid (HB1.out.trans (h12.mono HB1.out.size))
    have hx0 : w.heap.size < X0 := by omega
    rw [← hX0]
    clear c0 c1 c2 c3 c4 c5 c6 c7 c8 p0 p1 p2 p3 p4 hW h12 HF1 HB1 hX0
    obtain ⟨y0, y1, y2, y3, y4, y5, y6, y7, y8⟩ := HX2.out.cells
    go_wp2_with fail
    with_reducible refine (ends_r x (.slice VX x.args.length vx) true _ HE).mono ?_
    rintro e w3 ⟨rfl, hb⟩
    have HB3 := lhid (HB2.out.trans (hb.mono HB2.out.size))
    have HX3 : Hid (XBox w3 X0 x.op x.dst x.a x.b x.c x.num x.too x.ref (.slice VX x.args.length vx)) := lhid (heap_keep HX2.out hb)
    have hx3 : X0 < w3.heap.size := heap_lt HX3.out
    clear hb y0 y1 y2 y3 y4 y5 y6 y7 y8 HB2 HX2
    obtain ⟨y0, y1, y2, y3, y4, y5, y6, y7, y8⟩ := HX3.out.cells
    go_wp2_with fail
    with_reducible refine (leads_r x (.slice VX x.args.length vx) false _ HL).mono ?_
    rintro e w4 ⟨rfl, hb⟩
    have HB4 := lhid (HB3.out.trans (hb.mono HB3.out.size))
    have HX4 : Hid (XBox w4 X0 x.op x.dst x.a x.b x.c x.num x.too x.ref (.slice VX x.args.length vx)) := lhid (heap_keep HX3.out hb)
    have hx4 : X0 < w4.heap.size := heap_lt HX4.out
    clear hb y0 y1 y2 y3 y4 y5 y6 y7 y8
    obtain ⟨y0, y1, y2, y3, y4, y5, y6, y7, y8⟩ := HX4.out.cells
    go_wp2_with fail
    go_ret
    exact ⟨_, rfl, World.ownsRow_nil _ _ _ _, HB4.out⟩
   | true =>
    have HR : Hid (nextL f (k : Int) = [x.too]) := lhid (by rw [HNX.out]; unfold nextX goOn; rw [hze, hzl]; rfl)
    rw [HR.out]
    clear hze hzl
    go_enter Try.func65, Try.ntmps65
    go_wp2_with fail
    with_reducible refine (isPlace_r f fa fb _ n dcap fe (k : Int) true _ (lhid (by simp [hp.2]))).mono ?_
    rintro e w1 ⟨rfl, hb⟩
    have HB1 := lhid (((Below.refl w.heap.size w).alloc (Nat.le_refl _) _).trans (hb.mono (by simp)))
    have hF : FBox w1 w.heap.size fa fb f.ret (.slice (some ⟨g, o, none⟩) n dcap) fe := heap_keep (heap_alloc_new w _) hb
    obtain ⟨p0, p1, p2, p3, p4⟩ := hF.cells
    have hs1 : w.heap.size < w1.heap.size := heap_lt hF
    have HF1 := lhid hF
    have kc : ∀ {p : Addr} {u : Value}, w.cell? p = some u → w1.cell? p = some u := fun {p u} hq => (HB1.out.cell (p := p) (cell_lt hq)).trans hq
    replace c0 := kc c0
    replace c1 := kc c1
    replace c2 := kc c2
    replace c3 := kc c3
    replace c4 := kc c4
    replace c5 := kc c5
    replace c6 := kc c6
    replace c7 := kc c7
    replace c8 := kc c8
    clear hb hF kc
    go_upto_region 5 with fail
    generalize hW : World.alloc _ _ = w2
    obtain ⟨X0, hX0⟩ : ∃ X, X = w1.heap.size := ⟨_, rfl⟩
    have h12 : Below w1.heap.size w1 w2 := by rw [← hW]; exact (Below.refl _ _).alloc (Nat.le_refl _) _
    have HX2 : Hid (XBox w2 X0 x.op x.dst x.a x.b x.c x.num x.too x.ref (.slice VX x.args.length vx)) := lhid (by rw [← hW, hX0]; exact heap_alloc_new w1 _)
    have HB2 := lhid (HB1.out.trans (h12.mono HB1.out.size))
    have hx0 : w.heap.size < X0 := by omega
    rw [← hX0]
    clear c0 c1 c2 c3 c4 c5 c6 c7 c8 p0 p1 p2 p3 p4 hW h12 HF1 HB1 hX0
    obtain ⟨y0, y1, y2, y3, y4, y5, y6, y7, y8⟩ := HX2.out.cells
    go_wp2_with fail
    with_reducible refine (ends_r x (.slice VX x.args.length vx) true _ HE).mono ?_
    rintro e w3 ⟨rfl, hb⟩
    have HB3 := lhid (HB2.out.trans (hb.mono HB2.out.size))
    have HX3 : Hid (XBox w3 X0 x.op x.dst x.a x.b x.c x.num x.too x.ref (.slice VX x.args.length vx)) := lhid (heap_keep HX2.out hb)
    have hx3 : X0 < w3.heap.size := heap_lt HX3.out
    clear hb y0 y1 y2 y3 y4 y5 y6 y7 y8 HB2 HX2
    obtain ⟨y0, y1, y2, y3, y4, y5, y6, y7, y8⟩ := HX3.out.cells
    go_wp2_with fail
    with_reducible refine (leads_r x (.slice VX x.args.length vx) true _ HL).mono ?_
    rintro e w4 ⟨rfl, hb⟩
    have HB4 := lhid (HB3.out.trans (hb.mono HB3.out.size))
    have HX4 : Hid (XBox w4 X0 x.op x.dst x.a x.b x.c x.num x.too x.ref (.slice VX x.args.length vx)) := lhid (heap_keep HX3.out hb)
    have hx4 : X0 < w4.heap.size := heap_lt HX4.out
    clear hb y0 y1 y2 y3 y4 y5 y6 y7 y8
    obtain ⟨y0, y1, y2, y3, y4, y5, y6, y7, y8⟩ := HX4.out.cells
    go_wp2_with (at_builtin; refine wpList_append_own _ rfl (.tmp 39) (.tmp 42) 23 rfl (X0 + 1) 3 i0 (.int .i64 0) 1 8 Try.underlying23 hi0 hz0 hz1 hz2 rfl (by decide) (.slice none 0 0) ([] : List Int).length (([] : List Int).map vI) rfl (World.ownsRow_nil _ _ _ _) ⟨w4.heap.size, 0, none⟩ 1 1 [vI (x.too)] rfl rfl ?u1c1 ?u1c2 ?u1c3 ?u1c4 ?u1c5 ?_)
    try case u1c1 => exact new_cells _ _ _
    case u1c2 => first | rfl | (intro u hu; simp at hu; subst hu; rfl)
    case u1c3 => unfold maxLen; simp
    case u1c4 => simp
    case u1c5 => first | omega | (simp; omega) | simp
    intro v' w5 hown hgrow hnil
    obtain ⟨A', q', hv'⟩ := own_shape hown
    subst hv'
    have HO5 : Hid (OwN w5 (X0 + 1) (.slice A' ([x.too]).length q') ([x.too])) := lhid (by simpa [OwN] using hown)
    have HX5 : Hid (XBox w5 X0 x.op x.dst x.a x.b x.c x.num x.too x.ref (.slice VX x.args.length vx)) := lhid ((hgrow.block X0 (by simp; omega) (fun e => by cases e)).trans ((Below.heap_alloc _ _ _ hx4).trans HX4.out))
    have HB5 := lhid (Below.grown (HB4.out.alloc HB4.out.size _) hgrow (by simp; have := HB4.out.size; omega) (fun k e => by cases e))
    have hx5 : X0 < w5.heap.size := heap_lt HX5.out
    clear hown hgrow hnil y0 y1 y2 y3 y4 y5 y6 y7 y8
    obtain ⟨y0, y1, y2, y3, y4, y5, y6, y7, y8⟩ := HX5.out.cells
    go_wp2_with fail
    go_ret
    exact ⟨_, rfl, own_base HO5.out (by omega), HB5.out⟩
  | false =>
   cases zl with
   | false =>
    have HR : Hid (nextL f (k : Int) = [(k : Int) + 1]) := lhid (by rw [HNX.out]; unfold nextX goOn; rw [hze, hzl]; rfl)
    rw [HR.out]
    clear hze hzl
    go_enter Try.func65, Try.ntmps65
    go_wp2_with fail
    with_reducible refine (isPlace_r f fa fb _ n dcap fe (k : Int) true _ (lhid (by simp [hp.2]))).mono ?_
    rintro e w1 ⟨rfl, hb⟩
    have HB1 := lhid (((Below.refl w.heap.size w).alloc (Nat.le_refl _) _).trans (hb.mono (by simp)))
    have hF : FBox w1 w.heap.size fa fb f.ret (.slice (some ⟨g, o, none⟩) n dcap) fe := heap_keep (heap_alloc_new w _) hb
    obtain ⟨p0, p1, p2, p3, p4⟩ := hF.cells
    have hs1 : w.heap.size < w1.heap.size := heap_lt hF
    have HF1 := lhid hF
    have kc : ∀ {p : Addr} {u : Value}, w.cell? p = some u → w1.cell? p = some u := fun {p u} hq => (HB1.out.cell (p := p) (cell_lt hq)).trans hq
    replace c0 := kc c0
    replace c1 := kc c1
    replace c2 := kc c2
    replace c3 := kc c3
    replace c4 := kc c4
    replace c5 := kc c5
    replace c6 := kc c6
    replace c7 := kc c7
    replace c8 := kc c8
    clear hb hF kc
    go_upto_region 5 with fail
    generalize hW : World.alloc _ _ = w2
    obtain ⟨X0, hX0⟩ : ∃ X, X = w1.heap.size := ⟨_, rfl⟩
    have h12 : Below w1.heap.size w1 w2 := by rw [← hW]; exact (Below.refl _ _).alloc (Nat.le_refl _) _
    have HX2 : Hid (XBox w2 X0 x.op x.dst x.a x.b x.c x.num x.too x.ref (.slice VX x.args.length vx)) := lhid (by rw [← hW, hX0]; exact heap_alloc_new w1 _)
    have HB2 := lhid (HB1.out.trans (h12.mono HB1.out.size))
    have hx0 : w.heap.size < X0 := by omega
    rw [← hX0]
    clear c0 c1 c2 c3 c4 c5 c6 c7 c8 p0 p1 p2 p3 p4 hW h12 HF1 HB1 hX0
    obtain ⟨y0, y1, y2, y3, y4, y5, y6, y7, y8⟩ := HX2.out.cells
    go_wp2_with fail
    with_reducible refine (ends_r x (.slice VX x.args.length vx) false _ HE).mono ?_
    rintro e w3 ⟨rfl, hb⟩
    have HB3 := lhid (HB2.out.trans (hb.mono HB2.out.size))
    have HX3 : Hid (XBox w3 X0 x.op x.dst x.a x.b x.c x.num x.too x.ref (.slice VX x.args.length vx)) := lhid (heap_keep HX2.out hb)
    have hx3 : X0 < w3.heap.size := heap_lt HX3.out
    clear hb y0 y1 y2 y3 y4 y5 y6 y7 y8 HB2 HX2
    obtain ⟨y0, y1, y2, y3, y4, y5, y6, y7, y8⟩ := HX3.out.cells
    go_wp2_with (at_builtin; refine wpList_append_own _ rfl (.tmp 21) (.tmp 24) 23 rfl (X0 + 1) 3 i0 (.int .i64 0) 1 8 Try.underlying23 hi0 hz0 hz1 hz2 rfl (by decide) (.slice none 0 0) ([] : List Int).length (([] : List Int).map vI) rfl (World.ownsRow_nil _ _ _ _) ⟨w3.heap.size, 0, none⟩ 1 1 [vI ((k : Int) + 1)] rfl rfl ?u2c1 ?u2c2 ?u2c3 ?u2c4 ?u2c5 ?_)
    try case u2c1 => exact new_cells _ _ _
    case u2c2 => first | rfl | (intro u hu; simp at hu; subst hu; rfl)
    case u2c3 => unfold maxLen; simp
    case u2c4 => simp
    case u2c5 => first | omega | (simp; omega) | simp
    intro v' w4 hown hgrow hnil
    obtain ⟨A', q', hv'⟩ := own_shape hown
    subst hv'
    have HO4 : Hid (OwN w4 (X0 + 1) (.slice A' ([(k : Int) + 1]).length q') ([(k : Int) + 1])) := lhid (by simpa [OwN] using hown)
    have HX4 : Hid (XBox w4 X0 x.op x.dst x.a x.b x.c x.num x.too x.ref (.slice VX x.args.length vx)) := lhid ((hgrow.block X0 (by simp; omega) (fun e => by cases e)).trans ((Below.heap_alloc _ _ _ hx3).trans HX3.out))
    have HB4 := lhid (Below.grown (HB3.out.alloc HB3.out.size _) hgrow (by simp; have := HB3.out.size; omega) (fun k e => by cases e))
    have hx4 : X0 < w4.heap.size := heap_lt HX4.out
    clear hown hgrow hnil y0 y1 y2 y3 y4 y5 y6 y7 y8
    obtain ⟨y0, y1, y2, y3, y4, y5, y6, y7, y8⟩ := HX4.out.cells
    go_wp2_with fail
    with_reducible refine (leads_r x (.slice VX x.args.length vx) false _ HL).mono ?_
    rintro e w5 ⟨rfl, hb⟩
    have HB5 := lhid (HB4.out.trans (hb.mono HB4.out.size))
    have HX5 : Hid (XBox w5 X0 x.op x.dst x.a x.b x.c x.num x.too x.ref (.slice VX x.args.length vx)) := lhid (heap_keep HX4.out hb)
    have hx5 : X0 < w5.heap.size := heap_lt HX5.out
    have HO5 := lhid (own_below HO4.out hb)
    clear hb y0 y1 y2 y3 y4 y5 y6 y7 y8
    obtain ⟨y0, y1, y2, y3, y4, y5, y6, y7, y8⟩ := HX5.out.cells
    go_wp2_with fail
    go_ret
    exact ⟨_, rfl, own_base HO5.out (by omega), HB5.out⟩
   | true =>
    by_cases ht : x.too = (k : Int) + 1
    ·
     have HR : Hid (nextL f (k : Int) = [(k : Int) + 1]) := lhid (by rw [HNX.out]; unfold nextX goOn; rw [hze, hzl]; simp [ht])
     rw [HR.out]
     have ht1 : (x.too == (k : Int) + 1) = true := by rw [ht]; simp
     have HT := lhid ht
     clear hze hzl ht
     go_enter Try.func65, Try.ntmps65
     go_wp2_with fail
     with_reducible refine (isPlace_r f fa fb _ n dcap fe (k : Int) true _ (lhid (by simp [hp.2]))).mono ?_
     rintro e w1 ⟨rfl, hb⟩
     have HB1 := lhid (((Below.refl w.heap.size w).alloc (Nat.le_refl _) _).trans (hb.mono (by simp)))
     have hF : FBox w1 w.heap.size fa fb f.ret (.slice (some ⟨g, o, none⟩) n dcap) fe := heap_keep (heap_alloc_new w _) hb
     obtain ⟨p0, p1, p2, p3, p4⟩ := hF.cells
     have hs1 : w.heap.size < w1.heap.size := heap_lt hF
     have HF1 := lhid hF
     have kc : ∀ {p : Addr} {u : Value}, w.cell? p = some u → w1.cell? p = some u := fun {p u} hq => (HB1.out.cell (p := p) (cell_lt hq)).trans hq
     replace c0 := kc c0
     replace c1 := kc c1
     replace c2 := kc c2
     replace c3 := kc c3
     replace c4 := kc c4
     replace c5 := kc c5
     replace c6 := kc c6
     replace c7 := kc c7
     replace c8 := kc c8
     clear hb hF kc
     go_upto_region 5 with fail
     generalize hW : World.alloc _ _ = w2
     obtain ⟨X0, hX0⟩ : ∃ X, X = w1.heap.size := ⟨_, rfl⟩
     have h12 : Below w1.heap.size w1 w2 := by rw [← hW]; exact (Below.refl _ _).alloc (Nat.le_refl _) _
     have HX2 : Hid (XBox w2 X0 x.op x.dst x.a x.b x.c x.num x.too x.ref (.slice VX x.args.length vx)) := lhid (by rw [← hW, hX0]; exact heap_alloc_new w1 _)
     have HB2 := lhid (HB1.out.trans (h12.mono HB1.out.size))
     have hx0 : w.heap.size < X0 := by omega
     rw [← hX0]
     clear c0 c1 c2 c3 c4 c5 c6 c7 c8 p0 p1 p2 p3 p4 hW h12 HF1 HB1 hX0
     obtain ⟨y0, y1, y2, y3, y4, y5, y6, y7, y8⟩ := HX2.out.cells
     go_wp2_with fail
     with_reducible refine (ends_r x (.slice VX x.args.length vx) false _ HE).mono ?_
     rintro e w3 ⟨rfl, hb⟩
     have HB3 := lhid (HB2.out.trans (hb.mono HB2.out.size))
     have HX3 : Hid (XBox w3 X0 x.op x.dst x.a x.b x.c x.num x.too x.ref (.slice VX x.args.length vx)) := lhid (heap_keep HX2.out hb)
     have hx3 : X0 < w3.heap.size := heap_lt HX3.out
     clear hb y0 y1 y2 y3 y4 y5 y6 y7 y8 HB2 HX2
     obtain ⟨y0, y1, y2, y3, y4, y5, y6, y7, y8⟩ := HX3.out.cells
     go_wp2_with (at_builtin; refine wpList_append_own _ rfl (.tmp 21) (.tmp 24) 23 rfl (X0 + 1) 3 i0 (.int .i64 0) 1 8 Try.underlying23 hi0 hz0 hz1 hz2 rfl (by decide) (.slice none 0 0) ([] : List Int).length (([] : List Int).map vI) rfl (World.ownsRow_nil _ _ _ _) ⟨w3.heap.size, 0, none⟩ 1 1 [vI ((k : Int) + 1)] rfl rfl ?u2c1 ?u2c2 ?u2c3 ?u2c4 ?u2c5 ?_)
     try case u2c1 => exact new_cells _ _ _
     case u2c2 => first | rfl | (intro u hu; simp at hu; subst hu; rfl)
     case u2c3 => unfold maxLen; simp
     case u2c4 => simp
     case u2c5 => first | omega | (simp; omega) | simp
     intro v' w4 hown hgrow hnil
     obtain ⟨A', q', hv'⟩ := own_shape hown
     subst hv'
     have HO4 : Hid (OwN w4 (X0 + 1) (.slice A' ([(k : Int) + 1]).length q') ([(k : Int) + 1])) := lhid (by simpa [OwN] using hown)
     have HX4 : Hid (XBox w4 X0 x.op x.dst x.a x.b x.c x.num x.too x.ref (.slice VX x.args.length vx)) := lhid ((hgrow.block X0 (by simp; omega) (fun e => by cases e)).trans ((Below.heap_alloc _ _ _ hx3).trans HX3.out))
     have HB4 := lhid (Below.grown (HB3.out.alloc HB3.out.size _) hgrow (by simp; have := HB3.out.size; omega) (fun k e => by cases e))
     have hx4 : X0 < w4.heap.size := heap_lt HX4.out
     clear hown hgrow hnil y0 y1 y2 y3 y4 y5 y6 y7 y8
     obtain ⟨y0, y1, y2, y3, y4, y5, y6, y7, y8⟩ := HX4.out.cells
     go_wp2_with fail
     with_reducible refine (leads_r x (.slice VX x.args.length vx) true _ HL).mono ?_
     rintro e w5 ⟨rfl, hb⟩
     have HB5 := lhid (HB4.out.trans (hb.mono HB4.out.size))
     have HX5 : Hid (XBox w5 X0 x.op x.dst x.a x.b x.c x.num x.too x.ref (.slice VX x.args.length vx)) := lhid (heap_keep HX4.out hb)
     have hx5 : X0 < w5.heap.size := heap_lt HX5.out
     have HO5 := lhid (own_below HO4.out hb)
     clear hb y0 y1 y2 y3 y4 y5 y6 y7 y8
     obtain ⟨y0, y1, y2, y3, y4, y5, y6, y7, y8⟩ := HX5.out.cells
     go_wp2_with fail
     go_ret
     exact ⟨_, rfl, own_base HO5.out (by omega), HB5.out⟩
    ·
     have HR : Hid (nextL f (k : Int) = [(k : Int) + 1, x.too]) := lhid (by rw [HNX.out]; unfold nextX goOn; rw [hze, hzl]; simp [ht])
     rw [HR.out]
     have ht1 : (x.too == (k : Int) + 1) = false := beq_eq_false_iff_ne.2 ht
     have HT := lhid ht
     clear hze hzl ht
     go_enter Try.func65, Try.ntmps65
     go_wp2_with fail
     with_reducible refine (isPlace_r f fa fb _ n dcap fe (k : Int) true _ (lhid (by simp [hp.2]))).mono ?_
     rintro e w1 ⟨rfl, hb⟩
     have HB1 := lhid (((Below.refl w.heap.size w).alloc (Nat.le_refl _) _).trans (hb.mono (by simp)))
     have hF : FBox w1 w.heap.size fa fb f.ret (.slice (some ⟨g, o, none⟩) n dcap) fe := heap_keep (heap_alloc_new w _) hb
     obtain ⟨p0, p1, p2, p3, p4⟩ := hF.cells
     have hs1 : w.heap.size < w1.heap.size := heap_lt hF
     have HF1 := lhid hF
     have kc : ∀ {p : Addr} {u : Value}, w.cell? p = some u → w1.cell? p = some u := fun {p u} hq => (HB1.out.cell (p := p) (cell_lt hq)).trans hq
     replace c0 := kc c0
     replace c1 := kc c1
     replace c2 := kc c2
     replace c3 := kc c3
     replace c4 := kc c4
     replace c5 := kc c5
     replace c6 := kc c6
     replace c7 := kc c7
     replace c8 := kc c8
     clear hb hF kc
     go_upto_region 5 with fail
     generalize hW : World.alloc _ _ = w2
     obtain ⟨X0, hX0⟩ : ∃ X, X = w1.heap.size := ⟨_, rfl⟩
     have h12 : Below w1.heap.size w1 w2 := by rw [← hW]; exact (Below.refl _ _).alloc (Nat.le_refl _) _
     have HX2 : Hid (XBox w2 X0 x.op x.dst x.a x.b x.c x.num x.too x.ref (.slice VX x.args.length vx)) := lhid (by rw [← hW, hX0]; exact heap_alloc_new w1 _)
     have HB2 := lhid (HB1.out.trans (h12.mono HB1.out.size))
     have hx0 : w.heap.size < X0 := by omega
     rw [← hX0]
     clear c0 c1 c2 c3 c4 c5 c6 c7 c8 p0 p1 p2 p3 p4 hW h12 HF1 HB1 hX0
     obtain ⟨y0, y1, y2, y3, y4, y5, y6, y7, y8⟩ := HX2.out.cells
     go_wp2_with fail
     with_reducible refine (ends_r x (.slice VX x.args.length vx) false _ HE).mono ?_
     rintro e w3 ⟨rfl, hb⟩
     have HB3 := lhid (HB2.out.trans (hb.mono HB2.out.size))
     have HX3 : Hid (XBox w3 X0 x.op x.dst x.a x.b x.c x.num x.too x.ref (.slice VX x.args.length vx)) := lhid (heap_keep HX2.out hb)
     have hx3 : X0 < w3.heap.size := heap_lt HX3.out
     clear hb y0 y1 y2 y3 y4 y5 y6 y7 y8 HB2 HX2
     obtain ⟨y0, y1, y2, y3, y4, y5, y6, y7, y8⟩ := HX3.out.cells
     go_wp2_with (at_builtin; refine wpList_append_own _ rfl (.tmp 21) (.tmp 24) 23 rfl (X0 + 1) 3 i0 (.int .i64 0) 1 8 Try.underlying23 hi0 hz0 hz1 hz2 rfl (by decide) (.slice none 0 0) ([] : List Int).length (([] : List Int).map vI) rfl (World.ownsRow_nil _ _ _ _) ⟨w3.heap.size, 0, none⟩ 1 1 [vI ((k : Int) + 1)] rfl rfl ?u2c1 ?u2c2 ?u2c3 ?u2c4 ?u2c5 ?_)
     try case u2c1 => exact new_cells _ _ _
     case u2c2 => first | rfl | (intro u hu; simp at hu; subst hu; rfl)
     case u2c3 => unfold maxLen; simp
     case u2c4 => simp
     case u2c5 => first | omega | (simp; omega) | simp
     intro v' w4 hown hgrow hnil
     obtain ⟨A', q', hv'⟩ := own_shape hown
     subst hv'
     have HO4 : Hid (OwN w4 (X0 + 1) (.slice A' ([(k : Int) + 1]).length q') ([(k : Int) + 1])) := lhid (by simpa [OwN] using hown)
     have HX4 : Hid (XBox w4 X0 x.op x.dst x.a x.b x.c x.num x.too x.ref (.slice VX x.args.length vx)) := lhid ((hgrow.block X0 (by simp; omega) (fun e => by cases e)).trans ((Below.heap_alloc _ _ _ hx3).trans HX3.out))
     have HB4 := lhid (Below.grown (HB3.out.alloc HB3.out.size _) hgrow (by simp; have := HB3.out.size; omega) (fun k e => by cases e))
     have hx4 : X0 < w4.heap.size := heap_lt HX4.out
     clear hown hgrow hnil y0 y1 y2 y3 y4 y5 y6 y7 y8
     obtain ⟨y0, y1, y2, y3, y4, y5, y6, y7, y8⟩ := HX4.out.cells
     go_wp2_with fail
     with_reducible refine (leads_r x (.slice VX x.args.length vx) true _ HL).mono ?_
     rintro e w5 ⟨rfl, hb⟩
     have HB5 := lhid (HB4.out.trans (hb.mono HB4.out.size))
     have HX5 : Hid (XBox w5 X0 x.op x.dst x.a x.b x.c x.num x.too x.ref (.slice VX x.args.length vx)) := lhid (heap_keep HX4.out hb)
     have hx5 : X0 < w5.heap.size := heap_lt HX5.out
     have HO5 := lhid (own_below HO4.out hb)
     clear hb y0 y1 y2 y3 y4 y5 y6 y7 y8
     obtain ⟨y0, y1, y2, y3, y4, y5, y6, y7, y8⟩ := HX5.out.cells
     go_wp2_with (at_builtin; refine wpList_append_own _ rfl (.tmp 39) (.tmp 42) 23 rfl (X0 + 1) 3 i0 (.int .i64 0) 1 8 Try.underlying23 hi0 hz0 hz1 hz2 rfl (by decide) (.slice A' ([(k : Int) + 1] : List Int).length q') [(k : Int) + 1].length ([(k : Int) + 1].map vI) rfl (HO5.out.alloc _) ⟨w5.heap.size, 0, none⟩ 1 1 [vI (x.too)] rfl rfl ?u3c1 ?u3c2 ?u3c3 ?u3c4 ?u3c5 ?_)
     try case u3c1 => exact new_cells _ _ _
     case u3c2 => first | rfl | (intro u hu; simp at hu; subst hu; rfl)
     case u3c3 => unfold maxLen; simp
     case u3c4 => simp
     case u3c5 => first | omega | (simp; omega) | simp
     intro v' w6 hown hgrow hnil
     obtain ⟨A', q', hv'⟩ := own_shape hown
     subst hv'
     have HO6 : Hid (OwN w6 (X0 + 1) (.slice A' ([(k : Int) + 1, x.too]).length q') ([(k : Int) + 1, x.too])) := lhid (by simpa [OwN] using hown)
     have HX6 : Hid (XBox w6 X0 x.op x.dst x.a x.b x.c x.num x.too x.ref (.slice VX x.args.length vx)) := lhid ((hgrow.block X0 (by simp; omega) (fun e => by have := own_lt (HO5.out) X0 (by first | exact e.symm | exact e); omega)).trans ((Below.heap_alloc _ _ _ hx5).trans HX5.out))
     have HB6 := lhid (Below.grown (HB5.out.alloc HB5.out.size _) hgrow (by simp; have := HB5.out.size; omega) (fun k e => by have := own_lt HO5.out k e; omega))
     have hx6 : X0 < w6.heap.size := heap_lt HX6.out
     clear hown hgrow hnil y0 y1 y2 y3 y4 y5 y6 y7 y8
     obtain ⟨y0, y1, y2, y3, y4, y5, y6, y7, y8⟩ := HX6.out.cells
     go_wp2_with fail
     go_ret
     exact ⟨_, rfl, own_base HO6.out (by omega), HB6.out⟩
 ·
  have HP : Hid ((decide (0 ≤ i) && decide (i < (n : Int))) = false) := lhid (by rw [Bool.and_eq_false_iff, decide_eq_false_iff_not, decide_eq_false_iff_not]; omega)
  have HR : Hid (nextL f i = []) := lhid (by unfold nextL; rw [atC_none (by rw [HN.out]; omega)])
  rw [HR.out]
  clear hp hd
  go_enter Try.func65, Try.ntmps65
  go_wp2_with fail
  with_reducible refine (isPlace_r f fa fb D n dcap fe i false _ HP).mono ?_
  rintro e w1 ⟨rfl, hb⟩
  have HB1 := lhid (((Below.refl w.heap.size w).alloc (Nat.le_refl _) _).trans (hb.mono (by simp)))
  clear hb
  go_wp2_with fail
  go_ret
  exact ⟨_, rfl, World.ownsRow_nil _ _ _ _, HB1.out⟩
end Go.Proofs.Ytbkeneadoccodaa
/- The walk of law 10's InsChecks. -/
namespace Go.Proofs.Ytbkeneadoccodaa
open Go.RowKit Go
set_option linter.unusedVariables false
set_option linter.unusedSimpArgs false
theorem rcheck_r {P : Nat → Prop} (f : FuI) (fa fb fd fe : Value) (c : Int) (w : World) (h : Hid (FuV P w f fa fb fd fe)) (hq : Hid (FuQ f)) (hcap : Hid (∀ A n cap, fb = .slice A n cap → n ≤ cap ∧ cap ≤ maxLen)) (hc : Hid (chkN f = c)) :
  Calls Try.prog 9 #[fuL fa fb f.ret fd fe] w fun e w' => e = .returned (.int .i64 c) ∧ Below w.heap.size w w' := by
 have := rcheck_any f fa fb fd fe w h hq hcap
 rwa [hc.out] at this
end Go.Proofs.Ytbkeneadoccodaa
