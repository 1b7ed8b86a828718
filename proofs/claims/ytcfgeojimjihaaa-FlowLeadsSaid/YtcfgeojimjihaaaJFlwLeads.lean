/- FlowLeads: the law walked. -/
import Derived.Test.YtcfgeojimjihaaaM12
import Derived.Test.YtcfgeojimjihaaaJFlwReach
import Derived.Test.YtcfgeojimjihaaaM11
import Derived.Test.YtcfgeojimjihaaaM5
namespace Go.Proofs.Ytcfgeojimjihaaa
open Go.RowKit Go
set_option linter.unusedVariables false
set_option linter.unusedSimpArgs false

theorem bl_cell {P : Nat → Prop} {w : World} {g n cap : Nat} {R : List Bool} (h : RdX P 1 BlE w (.slice (some ⟨g, 0, none⟩) n cap) R) {k : Nat} {b : Bool} (hb : R[k]? = some b) : w.cell? ⟨g, k, none⟩ = some (.bool b) := by
  obtain ⟨g', o, c, h1, _, h3, h4⟩ := h.at' hb
  injection h1 with h1
  injection h1 with h1 h2 h5
  subst h1 h2
  have h6 := h4 0 _ (by rw [h3]; rfl)
  simpa using h6
theorem rints_same {P Q : Nat → Prop} (v u : Value) (l : List Int) (w : World) (h1 : Hid (RdX P 1 NuE w v l)) (h2 : Hid (RdX Q 1 NuE w u l)) :
    Calls Try.prog 9 #[v, u] w fun e w' => e = .returned (.bool true) ∧ Below w.heap.size w w' := by
  refine (rints_any v u l l w h1 h2).mono ?_
  rintro e w1 ⟨rfl, n, rfl⟩
  exact ⟨ret_bool (by simp), Below.drewN' (Below.refl _ _) n⟩
theorem reach_n {P : Nat → Prop} (f : FuI) (n : Nat) (hn : f.code.length = n) (fa fb fd fe : Value) (w : World) (h : Hid (FuV P w f fa fb fd fe)) (hcl : Hid ((f.code.length + 1) * 1024 ≤ 140737488355328)) (hrn : Hid (RwN f.rows)) (hrl : Hid (f.rows.length * 8 ≤ 140737488355328)) :
    Calls Try.prog 14 #[fuL fa fb f.ret fd fe] w fun e w' => ∃ (g : Nat) (R : List Bool), e = .returned (.slice (some ⟨g, 0, none⟩) n n) ∧ w.heap.size ≤ g ∧ RdX (fun b => b = g) 1 BlE w' (.slice (some ⟨g, 0, none⟩) n n) R ∧ IsReach f R ∧ Below w.heap.size w w' := by
  subst hn
  exact reach_any f fa fb fd fe w h hcl hrn hrl
theorem rreach_n {P : Nat → Prop} (f : FuI) (n : Nat) (hn : f.code.length = n) (fa fb fd fe : Value) (w : World) (h : Hid (FuV P w f fa fb fd fe)) (hcl : Hid ((f.code.length + 1) * 1024 ≤ 140737488355328)) (hrl : Hid ((f.rows.length + 2) * 8 ≤ 140737488355328)) :
    Calls Try.prog 15 #[fuL fa fb f.ret fd fe] w fun e w' => ∃ (g : Nat) (R : List Bool), e = .returned (.slice (some ⟨g, 0, none⟩) n n) ∧ w.heap.size ≤ g ∧ RdX (fun b => b = g) 1 BlE w' (.slice (some ⟨g, 0, none⟩) n n) R ∧ IsReach f R ∧ Below w.heap.size w w' := by
  subst hn
  exact rreach_any f fa fb fd fe w h hcl hrl
set_option maxHeartbeats 32000000 in
set_option maxRecDepth 100000 in
theorem FlowLeads_walk {P : Nat → Prop} (f : FuI) (fa fb fd fe : Value) (i : Int) (w : World) (h : Hid (FuV P w f fa fb fd fe)) (hrn : Hid (RwN f.rows)) :
    Calls Try.prog 3 #[fuL fa fb f.ret fd fe, .int .i64 i] w fun e w' => e = .returned (.bool true) ∧ Below w.heap.size w w' := by
  obtain ⟨FA, ac, hFA⟩ := h.out.a.shape
  subst hFA
  obtain ⟨FB, bc, hFB⟩ := h.out.b.shape
  subst hFB
  obtain ⟨D, dcap, hD⟩ := h.out.d.shape
  subst hD
  obtain ⟨E, ecap, hE⟩ := h.out.e.shape
  subst hE
  obtain ⟨n, hn⟩ : ∃ n, f.code.length = n := ⟨_, rfl⟩
  have HN := lhid hn
  have hf2 := h.out
  rw [hn] at hf2 ⊢
  have HFU := lhid hf2
  clear hn hf2 h
  obtain ⟨z, hz⟩ : ∃ z, lightB f = z := ⟨_, rfl⟩
  have HZ := lhid hz
  clear hz
  go_enter Try.func3, Try.ntmps3
  go_wp2_with fail
  generalize hW : World.alloc _ _ = w0
  have hb0 : Below w.heap.size w w0 := by rw [← hW]; exact (Below.refl _ _).alloc (Nat.le_refl _) _
  have hF0 : FBox w0 w.heap.size (.slice FA f.regs.length ac) (.slice FB f.params.length bc) f.ret (.slice D n dcap) (.slice E f.rows.length ecap) := by rw [← hW]; exact heap_alloc_new w _
  have HF0 := lhid hF0
  have HB0 := lhid hb0
  clear hW hb0 hF0
  with_reducible refine (holds11_any w0).mono ?_
  rintro e w1 ⟨rfl, hb⟩
  have hF1 : FBox w1 w.heap.size (.slice FA f.regs.length ac) (.slice FB f.params.length bc) f.ret (.slice D n dcap) (.slice E f.rows.length ecap) := heap_keep HF0.out hb
  have HF1 := lhid hF1
  have HB1 : Hid (Below w.heap.size w w1) := lhid (HB0.out.trans (hb.mono HB0.out.size))
  have HU1 := lhid (HFU.out.below HB1.out)
  obtain ⟨p0, p1, p2, p3, p4⟩ := hF1.cells
  clear hb hF1 HF0 HB0
  cases z with
  | false =>
    go_wp2_with fail
    with_reducible refine (light11_r f _ _ _ _ false w1 HU1 HZ).mono ?_
    rintro e w2 ⟨rfl, hb⟩
    have HB2 : Hid (Below w.heap.size w w2) := lhid (HB1.out.trans (hb.mono HB1.out.size))
    clear hb p0 p1 p2 p3 p4
    go_wp2_with fail
    go_ret
    exact ⟨rfl, HB2.out⟩
  | true =>
    go_wp2_with fail
    with_reducible refine (light11_r f _ _ _ _ true w1 HU1 HZ).mono ?_
    rintro e w2 ⟨rfl, hb⟩
    have HB2 : Hid (Below w.heap.size w w2) := lhid (HB1.out.trans (hb.mono HB1.out.size))
    have hb12 := hb
    clear hb p0 p1 p2 p3 p4
    have hF2 : FBox w2 w.heap.size (.slice FA f.regs.length ac) (.slice FB f.params.length bc) f.ret (.slice D n dcap) (.slice E f.rows.length ecap) := heap_keep HF1.out hb12
    have HFK : Hid (∀ w', Below w2.heap.size w2 w' → w'.cell? ⟨w.heap.size, 0, none⟩ = some (.slice FA f.regs.length ac) ∧ w'.cell? ⟨w.heap.size, 1, none⟩ = some (.slice FB f.params.length bc) ∧ w'.cell? ⟨w.heap.size, 2, none⟩ = some (.int .i64 f.ret) ∧ w'.cell? ⟨w.heap.size, 3, none⟩ = some (.slice D n dcap) ∧ w'.cell? ⟨w.heap.size, 4, none⟩ = some (.slice E f.rows.length ecap)) := lhid (fun w' hb => FBox.cells (heap_keep hF2 hb))
    have HU2 := lhid (HFU.out.below HB2.out)
    clear hb12 hF2
    have HLI : Hid (n ≤ 400 ∧ f.rows.length ≤ 100) := lhid (by
      have h1 := HZ.out
      unfold lightB at h1
      simp only [Bool.and_eq_true, decide_eq_true_eq] at h1
      have := HN.out
      omega)
    have HRL : Hid (f.rows.length * 8 ≤ 140737488355328) := lhid (by have := HLI.out; omega)
    have HRL2 : Hid ((f.rows.length + 2) * 8 ≤ 140737488355328) := lhid (by have := HLI.out; omega)
    have HCL : Hid ((f.code.length + 1) * 1024 ≤ 140737488355328) := lhid (by have := HLI.out; have := HN.out; omega)
    have HCL9 : Hid (f.code.length * 96 ≤ 140737488355328) := lhid (by have := HLI.out; have := HN.out; omega)
    go_wp2_with fail
    go_loopg [5] (n + 2) (fun g s wr => ∃ m : Nat, g = n + 2 - m ∧ s = .int .i64 ((m : Int) - 1) ∧ m ≤ n + 2 ∧ Hid (Below w2.heap.size w2 wr))
    case atStart => exact ⟨0, rfl, rfl, Nat.zero_le _, lhid (Below.refl _ _)⟩
    case round =>
      obtain ⟨m, rfl, rfl, hm, HB⟩ := hrel
      have HFR : Hid (∀ w', Below wr.heap.size wr w' → w'.cell? ⟨w.heap.size, 0, none⟩ = some (.slice FA f.regs.length ac) ∧ w'.cell? ⟨w.heap.size, 1, none⟩ = some (.slice FB f.params.length bc) ∧ w'.cell? ⟨w.heap.size, 2, none⟩ = some (.int .i64 f.ret) ∧ w'.cell? ⟨w.heap.size, 3, none⟩ = some (.slice D n dcap) ∧ w'.cell? ⟨w.heap.size, 4, none⟩ = some (.slice E f.rows.length ecap)) := lhid (fun w' hb => HFK.out w' (HB.out.trans (hb.mono HB.out.size)))
      have HUR := lhid (HU2.out.below HB.out)
      obtain ⟨p0, p1, p2, p3, p4⟩ := HFR.out _ (Below.refl _ _)
      obtain ⟨x, hx⟩ : ∃ x : Int, (m : Int) - 1 = x := ⟨_, rfl⟩
      have HX := lhid hx
      rw [hx]
      have HLI2 := HLI.out
      by_cases hlt : m ≤ n + 1
      · have k3 : x ≤ n := by omega
        have hwx : wrap64 (x + 1) = x + 1 := IntWalk.wrap64_in _ (by omega)
        clear hx
        go_upto_region 8 with fail
        clear p0 p1 p2 p3 p4 HLI2
        refine wp_region_held_drew (S := fun w' => Below wr.heap.size wr w') (by kernel_rfl) (Below.drew' (Below.refl _ _)) ?_
        intro hS
        refine wpAnyH_take (i := 0) (v := ?tvq19) rfl (by kernel_rfl) (by kernel_rfl) (by kernel_rfl) (fun _ _ _ h => h) (Or.inl ⟨by rfl, ?tyq19⟩) hS ?trq19
        case tyq19 => (intro w' hw'; obtain ⟨y0, y1, y2, y3, y4⟩ := HFR.out w' hw'; go_simp; try with_reducible rfl)
        try simp only [Act.put, List.setIfInBounds_toArray, List.set_cons_zero, List.set_cons_succ]
        try simp only [List.getElem_toArray, List.getElem_cons_zero, List.getElem_cons_succ]
        refine wpAnyH_take (i := 1) (v := ?tvq20) rfl (by kernel_rfl) (by kernel_rfl) (by kernel_rfl) (fun _ _ _ h => h) (Or.inl ⟨by rfl, ?tyq20⟩) hS ?trq20
        case tyq20 => (intro w' hw'; obtain ⟨y0, y1, y2, y3, y4⟩ := HFR.out w' hw'; go_simp; try with_reducible rfl)
        try simp only [Act.put, List.setIfInBounds_toArray, List.set_cons_zero, List.set_cons_succ]
        try simp only [List.getElem_toArray, List.getElem_cons_zero, List.getElem_cons_succ]
        refine wpAnyH_take (i := 3) (v := ?tvq21) rfl (by kernel_rfl) (by kernel_rfl) (by kernel_rfl) (fun _ _ _ h => h) (Or.inl ⟨by rfl, ?tyq21⟩) hS ?trq21
        case tyq21 => (intro w' hw'; obtain ⟨y0, y1, y2, y3, y4⟩ := HFR.out w' hw'; go_simp; try with_reducible rfl)
        try simp only [Act.put, List.setIfInBounds_toArray, List.set_cons_zero, List.set_cons_succ]
        try simp only [List.getElem_toArray, List.getElem_cons_zero, List.getElem_cons_succ]
        refine wpAnyH_take (i := 4) (v := ?tvq22) rfl (by kernel_rfl) (by kernel_rfl) (by kernel_rfl) (fun _ _ _ h => h) (Or.inl ⟨by rfl, ?tyq22⟩) hS ?trq22
        case tyq22 => (intro w' hw'; obtain ⟨y0, y1, y2, y3, y4⟩ := HFR.out w' hw'; go_simp; try with_reducible rfl)
        try simp only [Act.put, List.setIfInBounds_toArray, List.set_cons_zero, List.set_cons_succ]
        try simp only [List.getElem_toArray, List.getElem_cons_zero, List.getElem_cons_succ]
        refine wpAnyH_ready (rs := [2]) (by kernel_rfl) (by simp) ?_
        refine AllReadyH.cons rfl (fun K hK => ?_) AllReadyH.nil
        go_simp
        refine (next_any f _ _ _ _ x _ (lhid (HUR.out.below hS))).mono ?_
        rintro e wxa ⟨v1, rfl, hn1, hb⟩
        have hSa1 : Below wr.heap.size wr wxa := hS.trans (hb.mono hS.size)
        have h01 : OwN wxa wr.heap.size v1 (nextL f x) := own_base hn1 hS.size
        dsimp only
        refine hK.out _ _ hSa1 (fun _ => ?_)
        clear hK K hb
        try simp only [Act.put, List.setIfInBounds_toArray, List.set_cons_zero, List.set_cons_succ]
        try simp only [List.getElem_toArray, List.getElem_cons_zero, List.getElem_cons_succ]
        refine wpAnyH_ready (rs := [5]) (by kernel_rfl) (by simp) ?_
        refine AllReadyH.cons rfl (fun K hK => ?_) AllReadyH.nil
        go_simp
        refine (rnext_any f _ _ _ _ x _ (lhid (HUR.out.below hSa1))).mono ?_
        rintro e wya ⟨v2, rfl, hn2, hb⟩
        have hSa2 : Below wr.heap.size wr wya := hSa1.trans (hb.mono hSa1.size)
        have h02 : OwN wya wr.heap.size v2 (nextL f x) := own_base hn2 hSa1.size
        have h03 : OwN wya wr.heap.size v1 (nextL f x) := own_below h01 hb
        clear hn1 hn2 h01
        dsimp only
        refine hK.out _ _ hSa2 (fun _ => ?_)
        clear hK K hb
        try simp only [Act.put, List.setIfInBounds_toArray, List.set_cons_zero, List.set_cons_succ]
        try simp only [List.getElem_toArray, List.getElem_cons_zero, List.getElem_cons_succ]
        refine wpAnyH_ready (rs := [6]) (by kernel_rfl) (by simp) ?_
        refine AllReadyH.cons rfl (fun K hK => ?_) AllReadyH.nil
        go_simp
        refine (rints_same v1 v2 (nextL f x) _ (lhid (OwN.rd h03 (by have := nextL_two f x; omega))) (lhid (OwN.rd h02 (by have := nextL_two f x; omega)))).mono ?_
        rintro e wza ⟨rfl, hb⟩
        have hSa3 : Below wr.heap.size wr wza := hSa2.trans (hb.mono hSa2.size)
        clear h02 h03
        dsimp only
        refine hK.out _ _ hSa3 (fun _ => ?_)
        clear hK K hb
        try simp only [Act.put, List.setIfInBounds_toArray, List.set_cons_zero, List.set_cons_succ]
        try simp only [List.getElem_toArray, List.getElem_cons_zero, List.getElem_cons_succ]
        refine wpAnyH_take (i := 7) (v := ?tvq23) rfl (by kernel_rfl) (by kernel_rfl) (by kernel_rfl) (fun _ _ _ h => h) (Or.inl ⟨by rfl, ?tyq23⟩) hSa3 ?trq23
        case tyq23 => (intro w' hw'; go_simp; try with_reducible rfl)
        try simp only [Act.put, List.setIfInBounds_toArray, List.set_cons_zero, List.set_cons_succ]
        try simp only [List.getElem_toArray, List.getElem_cons_zero, List.getElem_cons_succ]
        refine wpAnyH_take (i := 8) (v := ?tvq24) rfl (by kernel_rfl) (by kernel_rfl) (by kernel_rfl) (fun _ _ _ h => h) (Or.inl ⟨by rfl, ?tyq24⟩) hSa3 ?trq24
        case tyq24 => (intro w' hw'; go_simp; try with_reducible rfl)
        try simp only [Act.put, List.setIfInBounds_toArray, List.set_cons_zero, List.set_cons_succ]
        try simp only [List.getElem_toArray, List.getElem_cons_zero, List.getElem_cons_succ]
        refine wpAnyH_take (i := 9) (v := ?tvq25) rfl (by kernel_rfl) (by kernel_rfl) (by kernel_rfl) (fun _ _ _ h => h) (Or.inl ⟨by rfl, ?tyq25⟩) hSa3 ?trq25
        case tyq25 => (intro w' hw'; obtain ⟨y0, y1, y2, y3, y4⟩ := HFR.out w' hw'; go_simp; try with_reducible rfl)
        try simp only [Act.put, List.setIfInBounds_toArray, List.set_cons_zero, List.set_cons_succ]
        try simp only [List.getElem_toArray, List.getElem_cons_zero, List.getElem_cons_succ]
        refine wpAnyH_take (i := 10) (v := ?tvq26) rfl (by kernel_rfl) (by kernel_rfl) (by kernel_rfl) (fun _ _ _ h => h) (Or.inl ⟨by rfl, ?tyq26⟩) hSa3 ?trq26
        case tyq26 => (intro w' hw'; obtain ⟨y0, y1, y2, y3, y4⟩ := HFR.out w' hw'; go_simp; try with_reducible rfl)
        try simp only [Act.put, List.setIfInBounds_toArray, List.set_cons_zero, List.set_cons_succ]
        try simp only [List.getElem_toArray, List.getElem_cons_zero, List.getElem_cons_succ]
        refine wpAnyH_take (i := 12) (v := ?tvq27) rfl (by kernel_rfl) (by kernel_rfl) (by kernel_rfl) (fun _ _ _ h => h) (Or.inl ⟨by rfl, ?tyq27⟩) hSa3 ?trq27
        case tyq27 => (intro w' hw'; obtain ⟨y0, y1, y2, y3, y4⟩ := HFR.out w' hw'; go_simp; try with_reducible rfl)
        try simp only [Act.put, List.setIfInBounds_toArray, List.set_cons_zero, List.set_cons_succ]
        try simp only [List.getElem_toArray, List.getElem_cons_zero, List.getElem_cons_succ]
        refine wpAnyH_take (i := 13) (v := ?tvq28) rfl (by kernel_rfl) (by kernel_rfl) (by kernel_rfl) (fun _ _ _ h => h) (Or.inl ⟨by rfl, ?tyq28⟩) hSa3 ?trq28
        case tyq28 => (intro w' hw'; obtain ⟨y0, y1, y2, y3, y4⟩ := HFR.out w' hw'; go_simp; try with_reducible rfl)
        try simp only [Act.put, List.setIfInBounds_toArray, List.set_cons_zero, List.set_cons_succ]
        try simp only [List.getElem_toArray, List.getElem_cons_zero, List.getElem_cons_succ]
        refine wpAnyH_ready (rs := [11]) (by kernel_rfl) (by simp) ?_
        refine AllReadyH.cons rfl (fun K hK => ?_) AllReadyH.nil
        rw [if_pos (by rfl)]
        go_simp
        refine (caught_any f _ _ _ _ x _ (lhid (HUR.out.below hSa3)) hrn HRL).mono ?_
        rintro e wxb ⟨v1, rfl, hn1, hb⟩
        have hSa3b1 : Below wr.heap.size wr wxb := hSa3.trans (hb.mono hSa3.size)
        have h01 : OwN wxb wr.heap.size v1 (caughtL f x) := own_base hn1 hSa3.size
        dsimp only
        refine hK.out _ _ hSa3b1 (fun _ => ?_)
        clear hK K hb
        try simp only [Act.put, List.setIfInBounds_toArray, List.set_cons_zero, List.set_cons_succ]
        try simp only [List.getElem_toArray, List.getElem_cons_zero, List.getElem_cons_succ]
        refine wpAnyH_ready (rs := [14]) (by kernel_rfl) (by simp) ?_
        refine AllReadyH.cons rfl (fun K hK => ?_) AllReadyH.nil
        rw [if_pos (by rfl)]
        go_simp
        refine (rcaught_any f _ _ _ _ x _ (lhid (HUR.out.below hSa3b1)) HRL).mono ?_
        rintro e wyb ⟨v2, rfl, hn2, hb⟩
        have hSa3b2 : Below wr.heap.size wr wyb := hSa3b1.trans (hb.mono hSa3b1.size)
        have h02 : OwN wyb wr.heap.size v2 (caughtL f x) := own_base hn2 hSa3b1.size
        have h03 : OwN wyb wr.heap.size v1 (caughtL f x) := own_below h01 hb
        clear hn1 hn2 h01
        dsimp only
        refine hK.out _ _ hSa3b2 (fun _ => ?_)
        clear hK K hb
        try simp only [Act.put, List.setIfInBounds_toArray, List.set_cons_zero, List.set_cons_succ]
        try simp only [List.getElem_toArray, List.getElem_cons_zero, List.getElem_cons_succ]
        refine wpAnyH_ready (rs := [15]) (by kernel_rfl) (by simp) ?_
        refine AllReadyH.cons rfl (fun K hK => ?_) AllReadyH.nil
        rw [if_pos (by rfl)]
        go_simp
        refine (rints_same v1 v2 (caughtL f x) _ (lhid (OwN.rd h03 (by have := caught_len f x; have := HLI.out; omega))) (lhid (OwN.rd h02 (by have := caught_len f x; have := HLI.out; omega)))).mono ?_
        rintro e wzb ⟨rfl, hb⟩
        have hSa3b3 : Below wr.heap.size wr wzb := hSa3b2.trans (hb.mono hSa3b2.size)
        clear h02 h03
        dsimp only
        refine hK.out _ _ hSa3b3 (fun _ => ?_)
        clear hK K hb
        try simp only [Act.put, List.setIfInBounds_toArray, List.set_cons_zero, List.set_cons_succ]
        try simp only [List.getElem_toArray, List.getElem_cons_zero, List.getElem_cons_succ]
        refine wpAnyH_take (i := 16) (v := ?tvq29) rfl (by kernel_rfl) (by kernel_rfl) (by kernel_rfl) (fun _ _ _ h => h) (Or.inl ⟨by rfl, ?tyq29⟩) hSa3b3 ?trq29
        case tyq29 => (intro w' hw'; go_simp; try with_reducible rfl)
        try simp only [Act.put, List.setIfInBounds_toArray, List.set_cons_zero, List.set_cons_succ]
        try simp only [List.getElem_toArray, List.getElem_cons_zero, List.getElem_cons_succ]
        refine wpAnyH_take (i := 17) (v := ?tvq30) rfl (by kernel_rfl) (by kernel_rfl) (by kernel_rfl) (fun _ _ _ h => h) (Or.inl ⟨by rfl, ?tyq30⟩) hSa3b3 ?trq30
        case tyq30 => (intro w' hw'; go_simp; try with_reducible rfl)
        try simp only [Act.put, List.setIfInBounds_toArray, List.set_cons_zero, List.set_cons_succ]
        try simp only [List.getElem_toArray, List.getElem_cons_zero, List.getElem_cons_succ]
        refine wpAnyH_done (by kernel_rfl) ?_ _
        have HBZ : Hid (Below w2.heap.size w2 wzb) := lhid (HB.out.trans (hSa3b3.mono HB.out.size))
        clear hSa3b3
        go_wp2_with fail
        go_roundg (n + 2 - (m + 1))
        case measure => omega
        case rel => exact ⟨m + 1, rfl, by have h9 := HX.out; rw [show ((m + 1 : Nat) : Int) - 1 = x + 1 by omega, hwx], by omega, HBZ⟩
      · have k3 : ¬ x ≤ n := by omega
        clear hx HLI2
        go_upto_region 10 with fail
        clear p0 p1 p2 p3 p4
        refine wp_region_held_drew (S := fun w' => Below wr.heap.size wr w') (by kernel_rfl) (Below.drew' (Below.refl _ _)) ?_
        intro hS
        refine wpAnyH_take (i := 0) (v := ?tvq31) rfl (by kernel_rfl) (by kernel_rfl) (by kernel_rfl) (fun _ _ _ h => h) (Or.inl ⟨by rfl, ?tyq31⟩) hS ?trq31
        case tyq31 => (intro w' hw'; obtain ⟨y0, y1, y2, y3, y4⟩ := HFR.out w' hw'; go_simp; try with_reducible rfl)
        try simp only [Act.put, List.setIfInBounds_toArray, List.set_cons_zero, List.set_cons_succ]
        try simp only [List.getElem_toArray, List.getElem_cons_zero, List.getElem_cons_succ]
        refine wpAnyH_take (i := 2) (v := ?tvq32) rfl (by kernel_rfl) (by kernel_rfl) (by kernel_rfl) (fun _ _ _ h => h) (Or.inl ⟨by rfl, ?tyq32⟩) hS ?trq32
        case tyq32 => (intro w' hw'; obtain ⟨y0, y1, y2, y3, y4⟩ := HFR.out w' hw'; go_simp; try with_reducible rfl)
        try simp only [Act.put, List.setIfInBounds_toArray, List.set_cons_zero, List.set_cons_succ]
        try simp only [List.getElem_toArray, List.getElem_cons_zero, List.getElem_cons_succ]
        refine wpAnyH_ready (rs := [1]) (by kernel_rfl) (by simp) ?_
        refine AllReadyH.cons rfl (fun K hK => ?_) AllReadyH.nil
        go_simp
        refine (reach_n f n HN.out _ _ _ _ _ (lhid (HUR.out.below hS)) HCL hrn HRL).mono ?_
        rintro e wA ⟨gA, RA, rfl, hgA, hRA, hIA, hb⟩
        have hS1 : Below wr.heap.size wr wA := hS.trans (hb.mono hS.size)
        dsimp only
        refine hK.out _ _ hS1 (fun _ => ?_)
        clear hK K hb
        try simp only [Act.put, List.setIfInBounds_toArray, List.set_cons_zero, List.set_cons_succ]
        try simp only [List.getElem_toArray, List.getElem_cons_zero, List.getElem_cons_succ]
        refine wpAnyH_ready (rs := [3]) (by kernel_rfl) (by simp) ?_
        refine AllReadyH.cons rfl (fun K hK => ?_) AllReadyH.nil
        go_simp
        refine (rreach_n f n HN.out _ _ _ _ _ (lhid (HUR.out.below hS1)) HCL HRL2).mono ?_
        rintro e wB ⟨gB, RB, rfl, hgB, hRB, hIB, hb⟩
        have hS2 : Below wr.heap.size wr wB := hS1.trans (hb.mono hS1.size)
        have HEQ : Hid (RA = RB) := lhid (hIA.eq hIB)
        have HRA : Hid (RdX (fun b => b = gA) 1 BlE wB (.slice (some ⟨gA, 0, none⟩) n n) RA) := lhid (hRA.below (keptX_bl _) hb)
        have HRB := lhid hRB
        dsimp only
        refine hK.out _ _ hS2 (fun _ => ?_)
        clear hK K hb
        try simp only [Act.put, List.setIfInBounds_toArray, List.set_cons_zero, List.set_cons_succ]
        try simp only [List.getElem_toArray, List.getElem_cons_zero, List.getElem_cons_succ]
        refine wpAnyH_take (i := 4) (v := ?tvq33) rfl (by kernel_rfl) (by kernel_rfl) (by kernel_rfl) (fun _ _ _ h => h) (Or.inl ⟨by rfl, ?tyq33⟩) hS2 ?trq33
        case tyq33 => (intro w' hw'; go_simp; try with_reducible rfl)
        try simp only [Act.put, List.setIfInBounds_toArray, List.set_cons_zero, List.set_cons_succ]
        try simp only [List.getElem_toArray, List.getElem_cons_zero, List.getElem_cons_succ]
        refine wpAnyH_take (i := 5) (v := ?tvq34) rfl (by kernel_rfl) (by kernel_rfl) (by kernel_rfl) (fun _ _ _ h => h) (Or.inl ⟨by rfl, ?tyq34⟩) hS2 ?trq34
        case tyq34 => (intro w' hw'; go_simp; try with_reducible rfl)
        try simp only [Act.put, List.setIfInBounds_toArray, List.set_cons_zero, List.set_cons_succ]
        try simp only [List.getElem_toArray, List.getElem_cons_zero, List.getElem_cons_succ]
        refine wpAnyH_done (by kernel_rfl) ?_ _
        have HBB := lhid hS2
        clear hIA hIB hRA hRB hgA hgB hS hS1 hS2
        go_wp2_with fail
        go_loopg [50] n (fun g s wr => ∃ k : Nat, g = n - k ∧ s = .int .i64 k ∧ k ≤ n ∧ Hid (Below wB.heap.size wB wr))
        case atStart => exact ⟨0, rfl, rfl, Nat.zero_le _, lhid (Below.refl _ _)⟩
        case round =>
          obtain ⟨k, rfl, rfl, hk, HBk⟩ := hrel
          by_cases hlk : k < n
          · have k4 : (k : Int) < n := by omega
            have hwk : wrap64 ((k : Int) + 1) = (k : Int) + 1 := IntWalk.wrap64_in _ (by have := HLI.out; omega)
            have HRA2 := HRA.out.below (keptX_bl _) HBk.out
            have HRB2 := HRB.out.below (keptX_bl _) HBk.out
            have hll : RA.length = n := by have h9 := HRA.out.shape; obtain ⟨A, c, h9⟩ := h9; injection h9 with h9 h8 h7; omega
            obtain ⟨b, hb⟩ : ∃ b, RA[k]? = some b := ⟨_, List.getElem?_eq_getElem (by omega)⟩
            have hb2 : RB[k]? = some b := by rw [← HEQ.out]; exact hb
            have c0 : wr.cell? ⟨gA, k, none⟩ = some (.bool b) := bl_cell HRA2 hb
            have c1 : wr.cell? ⟨gB, k, none⟩ = some (.bool b) := bl_cell HRB2 hb2
            clear HRA2 HRB2 hb hb2 hll
            have HFC : Hid (∀ w', Below wr.heap.size wr w' → w'.cell? ⟨gA, k, none⟩ = some (.bool b) ∧ w'.cell? ⟨gB, k, none⟩ = some (.bool b)) := lhid (fun w' hb => ⟨(hb.cell (cell_lt c0)).trans c0, (hb.cell (cell_lt c1)).trans c1⟩)
            clear c0 c1
            go_upto_region 16 with fail
            refine wp_region_held_drew (S := fun w' => Below wr.heap.size wr w') (by kernel_rfl) (Below.drew' (Below.refl _ _)) ?_
            intro hS
            refine wpAnyH_take (i := 0) (v := ?tvq1) rfl (by kernel_rfl) (by kernel_rfl) (by kernel_rfl) (fun _ _ _ h => h) (Or.inl ⟨by rfl, ?tyq1⟩) hS ?trq1
            case tyq1 => (intro w' hw'; obtain ⟨y0, y1⟩ := HFC.out w' hw'; go_simp; try with_reducible rfl)
            try simp only [Act.put, List.setIfInBounds_toArray, List.set_cons_zero, List.set_cons_succ]
            try simp only [List.getElem_toArray, List.getElem_cons_zero, List.getElem_cons_succ]
            refine wpAnyH_take (i := 1) (v := ?tvq2) rfl (by kernel_rfl) (by kernel_rfl) (by kernel_rfl) (fun _ _ _ h => h) (Or.inl ⟨by rfl, ?tyq2⟩) hS ?trq2
            case tyq2 => (intro w' hw'; obtain ⟨y0, y1⟩ := HFC.out w' hw'; go_simp; try with_reducible rfl)
            try simp only [Act.put, List.setIfInBounds_toArray, List.set_cons_zero, List.set_cons_succ]
            try simp only [List.getElem_toArray, List.getElem_cons_zero, List.getElem_cons_succ]
            refine wpAnyH_take (i := 2) (v := ?tvq3) rfl (by kernel_rfl) (by kernel_rfl) (by kernel_rfl) (fun _ _ _ h => h) (Or.inl ⟨by rfl, ?tyq3⟩) hS ?trq3
            case tyq3 => (intro w' hw'; obtain ⟨y0, y1⟩ := HFC.out w' hw'; go_simp; try with_reducible rfl)
            try simp only [Act.put, List.setIfInBounds_toArray, List.set_cons_zero, List.set_cons_succ]
            try simp only [List.getElem_toArray, List.getElem_cons_zero, List.getElem_cons_succ]
            refine wpAnyH_take (i := 3) (v := ?tvq4) rfl (by kernel_rfl) (by kernel_rfl) (by kernel_rfl) (fun _ _ _ h => h) (Or.inl ⟨by rfl, ?tyq4⟩) hS ?trq4
            case tyq4 => (intro w' hw'; obtain ⟨y0, y1⟩ := HFC.out w' hw'; go_simp; try with_reducible rfl)
            try simp only [Act.put, List.setIfInBounds_toArray, List.set_cons_zero, List.set_cons_succ]
            try simp only [List.getElem_toArray, List.getElem_cons_zero, List.getElem_cons_succ]
            refine wpAnyH_take (i := 4) (v := ?tvq5) rfl (by kernel_rfl) (by kernel_rfl) (by kernel_rfl) (fun _ _ _ h => h) (Or.inl ⟨by rfl, ?tyq5⟩) hS ?trq5
            case tyq5 => (intro w' hw'; obtain ⟨y0, y1⟩ := HFC.out w' hw'; go_simp; try with_reducible rfl)
            try simp only [Act.put, List.setIfInBounds_toArray, List.set_cons_zero, List.set_cons_succ]
            try simp only [List.getElem_toArray, List.getElem_cons_zero, List.getElem_cons_succ]
            refine wpAnyH_take (i := 5) (v := ?tvq6) rfl (by kernel_rfl) (by kernel_rfl) (by kernel_rfl) (fun _ _ _ h => h) (Or.inl ⟨by rfl, ?tyq6⟩) hS ?trq6
            case tyq6 => (intro w' hw'; obtain ⟨y0, y1⟩ := HFC.out w' hw'; go_simp; try with_reducible rfl)
            try simp only [Act.put, List.setIfInBounds_toArray, List.set_cons_zero, List.set_cons_succ]
            try simp only [List.getElem_toArray, List.getElem_cons_zero, List.getElem_cons_succ]
            refine wpAnyH_take (i := 6) (v := ?tvq7) rfl (by kernel_rfl) (by kernel_rfl) (by kernel_rfl) (fun _ _ _ h => h) (Or.inl ⟨by rfl, ?tyq7⟩) hS ?trq7
            case tyq7 => (intro w' hw'; obtain ⟨y0, y1⟩ := HFC.out w' hw'; go_simp; try with_reducible rfl)
            try simp only [Act.put, List.setIfInBounds_toArray, List.set_cons_zero, List.set_cons_succ]
            try simp only [List.getElem_toArray, List.getElem_cons_zero, List.getElem_cons_succ]
            refine wpAnyH_take (i := 7) (v := ?tvq8) rfl (by kernel_rfl) (by kernel_rfl) (by kernel_rfl) (fun _ _ _ h => h) (Or.inl ⟨by rfl, ?tyq8⟩) hS ?trq8
            case tyq8 => (intro w' hw'; obtain ⟨y0, y1⟩ := HFC.out w' hw'; go_simp; try with_reducible rfl)
            try simp only [Act.put, List.setIfInBounds_toArray, List.set_cons_zero, List.set_cons_succ]
            try simp only [List.getElem_toArray, List.getElem_cons_zero, List.getElem_cons_succ]
            refine wpAnyH_take (i := 8) (v := ?tvq9) rfl (by kernel_rfl) (by kernel_rfl) (by kernel_rfl) (fun _ _ _ h => h) (Or.inl ⟨by rfl, ?tyq9⟩) hS ?trq9
            case tyq9 => (intro w' hw'; obtain ⟨y0, y1⟩ := HFC.out w' hw'; go_simp; try with_reducible rfl)
            try simp only [Act.put, List.setIfInBounds_toArray, List.set_cons_zero, List.set_cons_succ]
            try simp only [List.getElem_toArray, List.getElem_cons_zero, List.getElem_cons_succ]
            refine wpAnyH_done (by kernel_rfl) ?_ _
            have HBZ := lhid (HBk.out.trans (hS.mono HBk.out.size))
            clear hS
            cases b <;>
            · go_wp2_with fail
              go_roundg (n - (k + 1))
              case measure => omega
              case rel => exact ⟨k + 1, rfl, by go_num, by omega, HBZ⟩
          · have k4 : ¬ (k : Int) < n := by omega
            clear hk hlk HRA HRB HEQ
            have HFS : Hid (∀ w', Below wr.heap.size wr w' → w'.cell? ⟨w.heap.size, 0, none⟩ = some (.slice FA f.regs.length ac) ∧ w'.cell? ⟨w.heap.size, 1, none⟩ = some (.slice FB f.params.length bc) ∧ w'.cell? ⟨w.heap.size, 2, none⟩ = some (.int .i64 f.ret) ∧ w'.cell? ⟨w.heap.size, 3, none⟩ = some (.slice D n dcap) ∧ w'.cell? ⟨w.heap.size, 4, none⟩ = some (.slice E f.rows.length ecap)) := lhid (fun w' hb => HFR.out w' (HBB.out.trans ((HBk.out.trans (hb.mono HBk.out.size)).mono HBB.out.size)))
            have HUS := lhid (HUR.out.below (HBB.out.trans (HBk.out.mono HBB.out.size)))
            have HBS : Hid (Below w.heap.size w wr) := lhid (HB2.out.trans ((HB.out.trans ((HBB.out.trans (HBk.out.mono HBB.out.size)).mono HB.out.size)).mono HB2.out.size))
            go_upto_region 19 with fail
            refine wp_region_held_drew (S := fun w' => Below wr.heap.size wr w') (by kernel_rfl) (Below.drew' (Below.refl _ _)) ?_
            intro hS
            refine wpAnyH_take (i := 0) (v := ?tvq10) rfl (by kernel_rfl) (by kernel_rfl) (by kernel_rfl) (fun _ _ _ h => h) (Or.inl ⟨by rfl, ?tyq10⟩) hS ?trq10
            case tyq10 => (intro w' hw'; obtain ⟨y0, y1, y2, y3, y4⟩ := HFS.out w' hw'; go_simp; try with_reducible rfl)
            try simp only [Act.put, List.setIfInBounds_toArray, List.set_cons_zero, List.set_cons_succ]
            try simp only [List.getElem_toArray, List.getElem_cons_zero, List.getElem_cons_succ]
            refine wpAnyH_take (i := 2) (v := ?tvq11) rfl (by kernel_rfl) (by kernel_rfl) (by kernel_rfl) (fun _ _ _ h => h) (Or.inl ⟨by rfl, ?tyq11⟩) hS ?trq11
            case tyq11 => (intro w' hw'; obtain ⟨y0, y1, y2, y3, y4⟩ := HFS.out w' hw'; go_simp; try with_reducible rfl)
            try simp only [Act.put, List.setIfInBounds_toArray, List.set_cons_zero, List.set_cons_succ]
            try simp only [List.getElem_toArray, List.getElem_cons_zero, List.getElem_cons_succ]
            refine wpAnyH_ready (rs := [1]) (by kernel_rfl) (by simp) ?_
            refine AllReadyH.cons rfl (fun K hK => ?_) AllReadyH.nil
            go_simp
            refine (heads_any f _ _ _ _ _ (lhid (HUS.out.below hS)) HCL9).mono ?_
            rintro e wxa ⟨v1, rfl, hn1, hb⟩
            have hSa1 : Below wr.heap.size wr wxa := hS.trans (hb.mono hS.size)
            have h01 : OwN wxa wr.heap.size v1 (headsL f) := own_base hn1 hS.size
            dsimp only
            refine hK.out _ _ hSa1 (fun _ => ?_)
            clear hK K hb
            try simp only [Act.put, List.setIfInBounds_toArray, List.set_cons_zero, List.set_cons_succ]
            try simp only [List.getElem_toArray, List.getElem_cons_zero, List.getElem_cons_succ]
            refine wpAnyH_ready (rs := [3]) (by kernel_rfl) (by simp) ?_
            refine AllReadyH.cons rfl (fun K hK => ?_) AllReadyH.nil
            go_simp
            refine (rheads_any f _ _ _ _ _ (lhid (HUS.out.below hSa1)) HCL9).mono ?_
            rintro e wya ⟨v2, rfl, hn2, hb⟩
            have hSa2 : Below wr.heap.size wr wya := hSa1.trans (hb.mono hSa1.size)
            have h02 : OwN wya wr.heap.size v2 (headsL f) := own_base hn2 hSa1.size
            have h03 : OwN wya wr.heap.size v1 (headsL f) := own_below h01 hb
            clear hn1 hn2 h01
            dsimp only
            refine hK.out _ _ hSa2 (fun _ => ?_)
            clear hK K hb
            try simp only [Act.put, List.setIfInBounds_toArray, List.set_cons_zero, List.set_cons_succ]
            try simp only [List.getElem_toArray, List.getElem_cons_zero, List.getElem_cons_succ]
            refine wpAnyH_ready (rs := [4]) (by kernel_rfl) (by simp) ?_
            refine AllReadyH.cons rfl (fun K hK => ?_) AllReadyH.nil
            go_simp
            refine (rints_same v1 v2 (headsL f) _ (lhid (OwN.rd h03 (by have h9 := hdT_len f f.code.length; have h8 := HLI.out; have h7 := HN.out; unfold headsL; omega))) (lhid (OwN.rd h02 (by have h9 := hdT_len f f.code.length; have h8 := HLI.out; have h7 := HN.out; unfold headsL; omega)))).mono ?_
            rintro e wza ⟨rfl, hb⟩
            have hSa3 : Below wr.heap.size wr wza := hSa2.trans (hb.mono hSa2.size)
            clear h02 h03
            dsimp only
            refine hK.out _ _ hSa3 (fun _ => ?_)
            clear hK K hb
            try simp only [Act.put, List.setIfInBounds_toArray, List.set_cons_zero, List.set_cons_succ]
            try simp only [List.getElem_toArray, List.getElem_cons_zero, List.getElem_cons_succ]
            refine wpAnyH_take (i := 5) (v := ?tvq12) rfl (by kernel_rfl) (by kernel_rfl) (by kernel_rfl) (fun _ _ _ h => h) (Or.inl ⟨by rfl, ?tyq12⟩) hSa3 ?trq12
            case tyq12 => (intro w' hw'; go_simp; try with_reducible rfl)
            try simp only [Act.put, List.setIfInBounds_toArray, List.set_cons_zero, List.set_cons_succ]
            try simp only [List.getElem_toArray, List.getElem_cons_zero, List.getElem_cons_succ]
            refine wpAnyH_take (i := 6) (v := ?tvq13) rfl (by kernel_rfl) (by kernel_rfl) (by kernel_rfl) (fun _ _ _ h => h) (Or.inl ⟨by rfl, ?tyq13⟩) hSa3 ?trq13
            case tyq13 => (intro w' hw'; obtain ⟨y0, y1, y2, y3, y4⟩ := HFS.out w' hw'; go_simp; try with_reducible rfl)
            try simp only [Act.put, List.setIfInBounds_toArray, List.set_cons_zero, List.set_cons_succ]
            try simp only [List.getElem_toArray, List.getElem_cons_zero, List.getElem_cons_succ]
            refine wpAnyH_take (i := 7) (v := ?tvq14) rfl (by kernel_rfl) (by kernel_rfl) (by kernel_rfl) (fun _ _ _ h => h) (Or.inl ⟨by rfl, ?tyq14⟩) hSa3 ?trq14
            case tyq14 => (intro w' hw'; obtain ⟨y0, y1, y2, y3, y4⟩ := HFS.out w' hw'; go_simp; try with_reducible rfl)
            try simp only [Act.put, List.setIfInBounds_toArray, List.set_cons_zero, List.set_cons_succ]
            try simp only [List.getElem_toArray, List.getElem_cons_zero, List.getElem_cons_succ]
            refine wpAnyH_take (i := 9) (v := ?tvq15) rfl (by kernel_rfl) (by kernel_rfl) (by kernel_rfl) (fun _ _ _ h => h) (Or.inl ⟨by rfl, ?tyq15⟩) hSa3 ?trq15
            case tyq15 => (intro w' hw'; obtain ⟨y0, y1, y2, y3, y4⟩ := HFS.out w' hw'; go_simp; try with_reducible rfl)
            try simp only [Act.put, List.setIfInBounds_toArray, List.set_cons_zero, List.set_cons_succ]
            try simp only [List.getElem_toArray, List.getElem_cons_zero, List.getElem_cons_succ]
            refine wpAnyH_take (i := 10) (v := ?tvq16) rfl (by kernel_rfl) (by kernel_rfl) (by kernel_rfl) (fun _ _ _ h => h) (Or.inl ⟨by rfl, ?tyq16⟩) hSa3 ?trq16
            case tyq16 => (intro w' hw'; obtain ⟨y0, y1, y2, y3, y4⟩ := HFS.out w' hw'; go_simp; try with_reducible rfl)
            try simp only [Act.put, List.setIfInBounds_toArray, List.set_cons_zero, List.set_cons_succ]
            try simp only [List.getElem_toArray, List.getElem_cons_zero, List.getElem_cons_succ]
            refine wpAnyH_ready (rs := [8]) (by kernel_rfl) (by simp) ?_
            refine AllReadyH.cons rfl (fun K hK => ?_) AllReadyH.nil
            rw [if_pos (by rfl)]
            go_simp
            refine (next_any f _ _ _ _ i _ (lhid (HUS.out.below hSa3))).mono ?_
            rintro e wxb ⟨v1, rfl, hn1, hb⟩
            have hSa3b1 : Below wr.heap.size wr wxb := hSa3.trans (hb.mono hSa3.size)
            have h01 : OwN wxb wr.heap.size v1 (nextL f i) := own_base hn1 hSa3.size
            dsimp only
            refine hK.out _ _ hSa3b1 (fun _ => ?_)
            clear hK K hb
            try simp only [Act.put, List.setIfInBounds_toArray, List.set_cons_zero, List.set_cons_succ]
            try simp only [List.getElem_toArray, List.getElem_cons_zero, List.getElem_cons_succ]
            refine wpAnyH_ready (rs := [11]) (by kernel_rfl) (by simp) ?_
            refine AllReadyH.cons rfl (fun K hK => ?_) AllReadyH.nil
            rw [if_pos (by rfl)]
            go_simp
            refine (rnext_any f _ _ _ _ i _ (lhid (HUS.out.below hSa3b1))).mono ?_
            rintro e wyb ⟨v2, rfl, hn2, hb⟩
            have hSa3b2 : Below wr.heap.size wr wyb := hSa3b1.trans (hb.mono hSa3b1.size)
            have h02 : OwN wyb wr.heap.size v2 (nextL f i) := own_base hn2 hSa3b1.size
            have h03 : OwN wyb wr.heap.size v1 (nextL f i) := own_below h01 hb
            clear hn1 hn2 h01
            dsimp only
            refine hK.out _ _ hSa3b2 (fun _ => ?_)
            clear hK K hb
            try simp only [Act.put, List.setIfInBounds_toArray, List.set_cons_zero, List.set_cons_succ]
            try simp only [List.getElem_toArray, List.getElem_cons_zero, List.getElem_cons_succ]
            refine wpAnyH_ready (rs := [12]) (by kernel_rfl) (by simp) ?_
            refine AllReadyH.cons rfl (fun K hK => ?_) AllReadyH.nil
            rw [if_pos (by rfl)]
            go_simp
            refine (rints_same v1 v2 (nextL f i) _ (lhid (OwN.rd h03 (by have := nextL_two f i; omega))) (lhid (OwN.rd h02 (by have := nextL_two f i; omega)))).mono ?_
            rintro e wzb ⟨rfl, hb⟩
            have hSa3b3 : Below wr.heap.size wr wzb := hSa3b2.trans (hb.mono hSa3b2.size)
            clear h02 h03
            dsimp only
            refine hK.out _ _ hSa3b3 (fun _ => ?_)
            clear hK K hb
            try simp only [Act.put, List.setIfInBounds_toArray, List.set_cons_zero, List.set_cons_succ]
            try simp only [List.getElem_toArray, List.getElem_cons_zero, List.getElem_cons_succ]
            refine wpAnyH_take (i := 13) (v := ?tvq17) rfl (by kernel_rfl) (by kernel_rfl) (by kernel_rfl) (fun _ _ _ h => h) (Or.inl ⟨by rfl, ?tyq17⟩) hSa3b3 ?trq17
            case tyq17 => (intro w' hw'; go_simp; try with_reducible rfl)
            try simp only [Act.put, List.setIfInBounds_toArray, List.set_cons_zero, List.set_cons_succ]
            try simp only [List.getElem_toArray, List.getElem_cons_zero, List.getElem_cons_succ]
            refine wpAnyH_take (i := 14) (v := ?tvq18) rfl (by kernel_rfl) (by kernel_rfl) (by kernel_rfl) (fun _ _ _ h => h) (Or.inl ⟨by rfl, ?tyq18⟩) hSa3b3 ?trq18
            case tyq18 => (intro w' hw'; go_simp; try with_reducible rfl)
            try simp only [Act.put, List.setIfInBounds_toArray, List.set_cons_zero, List.set_cons_succ]
            try simp only [List.getElem_toArray, List.getElem_cons_zero, List.getElem_cons_succ]
            refine wpAnyH_done (by kernel_rfl) ?_ _
            have HBZ : Hid (Below w.heap.size w wzb) := lhid (HBS.out.trans (hSa3b3.mono HBS.out.size))
            clear hSa3b3
            go_wp2_with fail
            go_ret
            exact ⟨rfl, HBZ.out⟩
end Go.Proofs.Ytcfgeojimjihaaa
