/- FlowSets: the law walked. -/
import Derived.Test.YtifgkpfieapdjaaJFlwRSet
import Derived.Test.YtifgkpfieapdjaaM10
import Derived.Test.YtifgkpfieapdjaaQuietT
namespace Go.Proofs.Ytifgkpfieapdjaa
open Go.RowKit Go
set_option linter.unusedVariables false
set_option linter.unusedSimpArgs false

theorem set_n {P : Nat → Prop} (f : FuI) (n : Nat) (hn : f.code.length = n) (fa fb fd fe : Value) (w : World) (h : Hid (FuV P w f fa fb fd fe)) (hq : Hid (FuQ f)) (hcap : Hid (∀ A n cap, fb = .slice A n cap → n ≤ cap ∧ cap ≤ maxLen)) (hcl : Hid ((f.code.length + 1) * 1024 ≤ 140737488355328)) (hrn : Hid (RwN f.rows)) (hrl : Hid (f.rows.length * 8 ≤ 140737488355328)) (hI : Hid (∀ x ∈ f.code, I64 (defI x) ∧ (∀ u ∈ usesI x, I64 u) ∧ x.args.length * 8 ≤ 140737488355328 ∧ (usesI x).length * 8 ≤ 140737488355328)) :
    Calls Try.prog 10 #[fuL fa fb f.ret fd fe] w fun e w' => SetOut f w e w' := set_any f fa fb fd fe w h hq hcap hcl hrn hrl hI
theorem rset_n {P : Nat → Prop} (f : FuI) (n : Nat) (hn : f.code.length = n) (fa fb fd fe : Value) (w : World) (h : Hid (FuV P w f fa fb fd fe)) (hq : Hid (FuQ f)) (hcap : Hid (∀ A n cap, fb = .slice A n cap → n ≤ cap ∧ cap ≤ maxLen)) (hrl : Hid (f.rows.length ≤ 1048576)) (hnr : Hid (f.code.length * (f.rows.length + 3) ≤ 1048576)) (ha : Hid (∀ x ∈ f.code, x.args.length * 8 ≤ 140737488355328 ∧ (usesI x).length * 8 ≤ 140737488355328)) :
    Calls Try.prog 11 #[fuL fa fb f.ret fd fe] w fun e w' => SetOut f w e w' := rset_any f fa fb fd fe w h hq hcap hrl hnr ha
set_option maxHeartbeats 32000000 in
set_option maxRecDepth 100000 in
theorem FlowSets_walk {P : Nat → Prop} (f : FuI) (fa fb fd fe : Value) (w : World) (h : Hid (FuV P w f fa fb fd fe)) (hq : Hid (FuQ f)) (hcap : Hid (∀ A n cap, fb = .slice A n cap → n ≤ cap ∧ cap ≤ maxLen)) (hrn : Hid (RwN f.rows)) (hI : Hid (∀ x ∈ f.code, I64 (defI x) ∧ (∀ u ∈ usesI x, I64 u) ∧ x.args.length * 8 ≤ 140737488355328 ∧ (usesI x).length * 8 ≤ 140737488355328)) :
    Calls Try.prog 3 #[fuL fa fb f.ret fd fe] w fun e w' => e = .returned (.bool true) ∧ Below w.heap.size w w' := by
  obtain ⟨FA, ac, hFA⟩ := h.out.a.shape
  subst hFA
  obtain ⟨FB, bc, hFB⟩ := h.out.b.shape
  subst hFB
  obtain ⟨D, dcap, hD⟩ := h.out.d.shape
  subst hD
  obtain ⟨E, ecap, hE⟩ := h.out.e.shape
  subst hE
  obtain ⟨n, hn⟩ : ∃ n, f.code.length = n := ⟨_, rfl⟩
  have HN := lhid hn
  have hf2 := h.out
  rw [hn] at hf2 ⊢
  have HFU := lhid hf2
  clear hn hf2 h
  obtain ⟨z, hz⟩ : ∃ z, lightB f = z := ⟨_, rfl⟩
  have HZ := lhid hz
  clear hz
  go_enter Try.func3, Try.ntmps3
  go_wp2_with fail
  generalize hW : World.alloc _ _ = w0
  have hb0 : Below w.heap.size w w0 := by rw [← hW]; exact (Below.refl _ _).alloc (Nat.le_refl _) _
  have hF0 : FBox w0 w.heap.size (.slice FA f.regs.length ac) (.slice FB f.params.length bc) f.ret (.slice D n dcap) (.slice E f.rows.length ecap) := by rw [← hW]; exact heap_alloc_new w _
  have HF0 := lhid hF0
  have HB0 := lhid hb0
  clear hW hb0 hF0
  with_reducible refine (holds11_any w0).mono ?_
  rintro e w1 ⟨rfl, hb⟩
  have hF1 : FBox w1 w.heap.size (.slice FA f.regs.length ac) (.slice FB f.params.length bc) f.ret (.slice D n dcap) (.slice E f.rows.length ecap) := heap_keep HF0.out hb
  have HB1 : Hid (Below w.heap.size w w1) := lhid (HB0.out.trans (hb.mono HB0.out.size))
  have HU1 := lhid (HFU.out.below HB1.out)
  have HG : Hid (∀ w' : World, Below w1.heap.size w1 w' → w'.cell? ⟨w.heap.size, 0, none⟩ = some (.slice FA f.regs.length ac) ∧ w'.cell? ⟨w.heap.size, 1, none⟩ = some (.slice FB f.params.length bc) ∧ w'.cell? ⟨w.heap.size, 2, none⟩ = some (.int .i64 f.ret) ∧ w'.cell? ⟨w.heap.size, 3, none⟩ = some (.slice D n dcap) ∧ w'.cell? ⟨w.heap.size, 4, none⟩ = some (.slice E f.rows.length ecap)) := lhid (fun w' hw' => by
    have k1 : FBox w' w.heap.size (.slice FA f.regs.length ac) (.slice FB f.params.length bc) f.ret (.slice D n dcap) (.slice E f.rows.length ecap) := heap_keep hF1 hw'
    exact k1.cells)
  clear hb hF1 HF0 HB0
  cases z with
  | false =>
    go_wp2_with fail
    refine wp_region_held_drew (S := fun w' => Below w1.heap.size w1 w') (by kernel_rfl) (Below.drew' (Below.refl _ _)) ?_
    intro hS0
    refine wpAnyH_take (i := 0) (v := ?tv1) rfl (by kernel_rfl) (by kernel_rfl) (by kernel_rfl) (fun _ _ _ h => h) (Or.inl ⟨by rfl, ?ty1⟩) hS0 ?tr1
    case ty1 => (intro w' hw'; obtain ⟨p0, p1, p2, p3, p4⟩ := HG.out w' hw'; go_simp; try with_reducible rfl)
    try simp only [List.getElem_toArray, List.getElem_cons_zero, List.getElem_cons_succ]
    try simp only [Act.put, List.setIfInBounds_toArray, List.set_cons_zero, List.set_cons_succ]
    refine wpAnyH_ready (rs := [1]) (by kernel_rfl) (by simp) ?_
    refine AllReadyH.cons rfl (fun K hK => ?_) AllReadyH.nil
    go_simp
    refine (light11_r f _ _ _ _ false _ (lhid (HU1.out.below hS0)) HZ).mono ?_
    rintro e wahS1 ⟨rfl, hb⟩
    have hS1 : Below w1.heap.size w1 wahS1 := hS0.trans (hb.mono hS0.size)
    clear hb
    dsimp only
    refine hK.out _ _ hS1 (fun _ => ?_)
    clear hK K
    try simp only [Act.put, List.setIfInBounds_toArray, List.set_cons_zero, List.set_cons_succ]
    refine wpAnyH_quiet_tail 2 (by rfl) (by kernel_rfl) (by kernel_rfl) hS1 ?_
    simp only [List.drop_succ_cons, List.drop_zero]
    repeat (first
      | go_big_quiet_skip
      | (go_big_quiet_want
         refine quiet_of_run (v := ?_) (fun w' hw' => ?_) ?_
         rotate_left
         · (go_simp; try with_reducible rfl)
         go_big_quiet_on
         try simp only [Act.put, List.setIfInBounds_toArray, List.set_cons_zero, List.set_cons_succ]))
    refine wpQuiet_nil ?_
    intro wx hwx
    have HW := lhid (HB1.out.trans (hwx.mono HB1.out.size))
    clear hwx
    go_wp2_with fail
    go_ret
    exact ⟨rfl, HW.out⟩
  | true =>
    have HL : Hid (Hid ((f.code.length + 1) * 1024 ≤ 140737488355328) ∧ Hid (f.rows.length * 8 ≤ 140737488355328) ∧ Hid (f.rows.length ≤ 1048576) ∧ Hid (f.code.length * (f.rows.length + 3) ≤ 1048576)) := lhid (by
      have h1 := HZ.out
      unfold lightB at h1
      simp only [Bool.and_eq_true, decide_eq_true_eq] at h1
      have h2 := Nat.mul_le_mul h1.1.1 (show f.rows.length + 3 ≤ 103 by omega)
      exact ⟨lhid (by omega), lhid (by omega), lhid (by omega), lhid (by omega)⟩)
    have ha : Hid (∀ x ∈ f.code, x.args.length * 8 ≤ 140737488355328 ∧ (usesI x).length * 8 ≤ 140737488355328) := lhid (fun x hx => (hI.out x hx).2.2)
    go_wp2_with fail
    refine wp_region_held_drew (S := fun w' => Below w1.heap.size w1 w') (by kernel_rfl) (Below.drew' (Below.refl _ _)) ?_
    intro hS0
    refine wpAnyH_take (i := 0) (v := ?tv2) rfl (by kernel_rfl) (by kernel_rfl) (by kernel_rfl) (fun _ _ _ h => h) (Or.inl ⟨by rfl, ?ty2⟩) hS0 ?tr2
    case ty2 => (intro w' hw'; obtain ⟨p0, p1, p2, p3, p4⟩ := HG.out w' hw'; go_simp; try with_reducible rfl)
    try simp only [List.getElem_toArray, List.getElem_cons_zero, List.getElem_cons_succ]
    try simp only [Act.put, List.setIfInBounds_toArray, List.set_cons_zero, List.set_cons_succ]
    refine wpAnyH_ready (rs := [1]) (by kernel_rfl) (by simp) ?_
    refine AllReadyH.cons rfl (fun K hK => ?_) AllReadyH.nil
    go_simp
    refine (light11_r f _ _ _ _ true _ (lhid (HU1.out.below hS0)) HZ).mono ?_
    rintro e wahS1 ⟨rfl, hb⟩
    have hS1 : Below w1.heap.size w1 wahS1 := hS0.trans (hb.mono hS0.size)
    clear hb
    dsimp only
    refine hK.out _ _ hS1 (fun _ => ?_)
    clear hK K
    try simp only [Act.put, List.setIfInBounds_toArray, List.set_cons_zero, List.set_cons_succ]
    refine wpAnyH_take (i := 2) (v := ?tv3) rfl (by kernel_rfl) (by kernel_rfl) (by kernel_rfl) (fun _ _ _ h => h) (Or.inl ⟨by rfl, ?ty3⟩) hS1 ?tr3
    case ty3 => (intro w' hw'; go_simp; try with_reducible rfl)
    try simp only [List.getElem_toArray, List.getElem_cons_zero, List.getElem_cons_succ]
    try simp only [Act.put, List.setIfInBounds_toArray, List.set_cons_zero, List.set_cons_succ]
    refine wpAnyH_take (i := 3) (v := ?tv4) rfl (by kernel_rfl) (by kernel_rfl) (by kernel_rfl) (fun _ _ _ h => h) (Or.inl ⟨by rfl, ?ty4⟩) hS1 ?tr4
    case ty4 => (intro w' hw'; go_simp; try with_reducible rfl)
    try simp only [List.getElem_toArray, List.getElem_cons_zero, List.getElem_cons_succ]
    try simp only [Act.put, List.setIfInBounds_toArray, List.set_cons_zero, List.set_cons_succ]
    refine wpAnyH_take (i := 4) (v := ?tv5) rfl (by kernel_rfl) (by kernel_rfl) (by kernel_rfl) (fun _ _ _ h => h) (Or.inl ⟨by rfl, ?ty5⟩) hS1 ?tr5
    case ty5 => (intro w' hw'; obtain ⟨p0, p1, p2, p3, p4⟩ := HG.out w' hw'; go_simp; try with_reducible rfl)
    try simp only [List.getElem_toArray, List.getElem_cons_zero, List.getElem_cons_succ]
    try simp only [Act.put, List.setIfInBounds_toArray, List.set_cons_zero, List.set_cons_succ]
    refine wpAnyH_take (i := 6) (v := ?tv6) rfl (by kernel_rfl) (by kernel_rfl) (by kernel_rfl) (fun _ _ _ h => h) (Or.inl ⟨by rfl, ?ty6⟩) hS1 ?tr6
    case ty6 => (intro w' hw'; obtain ⟨p0, p1, p2, p3, p4⟩ := HG.out w' hw'; go_simp; try with_reducible rfl)
    try simp only [List.getElem_toArray, List.getElem_cons_zero, List.getElem_cons_succ]
    try simp only [Act.put, List.setIfInBounds_toArray, List.set_cons_zero, List.set_cons_succ]
    refine wpAnyH_ready (rs := [5]) (by kernel_rfl) (by simp) ?_
    refine AllReadyH.cons rfl (fun K hK => ?_) AllReadyH.nil
    rw [if_pos (by rfl)]
    go_simp
    refine (set_n f n HN.out _ _ _ _ _ (lhid (HU1.out.below hS1)) hq hcap HL.out.1 hrn HL.out.2.1 hI).mono ?_
    rintro e wahS2 ⟨z1, rfl, hz1, hb⟩
    have hS2 : Below w1.heap.size w1 wahS2 := hS1.trans (hb.mono hS1.size)
    have HZ1 := lhid hz1
    clear hz1
    clear hb
    dsimp only
    refine hK.out _ _ hS2 (fun _ => ?_)
    clear hK K
    try simp only [Act.put, List.setIfInBounds_toArray, List.set_cons_zero, List.set_cons_succ]
    refine wpAnyH_ready (rs := [7]) (by kernel_rfl) (by simp) ?_
    refine AllReadyH.cons rfl (fun K hK => ?_) AllReadyH.nil
    rw [if_pos (by rfl)]
    go_simp
    refine (rset_n f n HN.out _ _ _ _ _ (lhid (HU1.out.below hS2)) hq hcap HL.out.2.2.1 HL.out.2.2.2 ha).mono ?_
    rintro e wahS3 ⟨z2, rfl, hz2, hb⟩
    have hS3 : Below w1.heap.size w1 wahS3 := hS2.trans (hb.mono hS2.size)
    have hzz : z2 = z1 := by rw [Bool.eq_iff_iff]; exact hz2.trans HZ1.out.symm
    subst hzz
    clear hz2
    have hbq : (z2 == z2) = true := by simp
    clear hb
    dsimp only
    refine hK.out _ _ hS3 (fun _ => ?_)
    clear hK K
    try simp only [Act.put, List.setIfInBounds_toArray, List.set_cons_zero, List.set_cons_succ]
    refine wpAnyH_quiet_tail 8 (by rfl) (by kernel_rfl) (by kernel_rfl) hS3 ?_
    simp only [List.drop_succ_cons, List.drop_zero]
    repeat (first
      | go_big_quiet_skip
      | (go_big_quiet_want
         refine quiet_of_run (v := ?_) (fun w' hw' => ?_) ?_
         rotate_left
         · (go_simp; try with_reducible rfl)
         go_big_quiet_on
         try simp only [Act.put, List.setIfInBounds_toArray, List.set_cons_zero, List.set_cons_succ]))
    refine wpQuiet_nil ?_
    intro wx hwx
    have HW := lhid (HB1.out.trans (hwx.mono HB1.out.size))
    clear hwx
    go_wp2_with fail
    go_ret
    exact ⟨rfl, HW.out⟩
end Go.Proofs.Ytifgkpfieapdjaa
