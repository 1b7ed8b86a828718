/- The walk of law 10's InsTells. -/
import Derived.Test.YthaijdcgmcfpiaaInsChk8
import Derived.Test.YthaijdcgmcfpiaaQuietT
namespace Go.Proofs.Ythaijdcgmcfpiaa
open Go.RowKit Go
set_option linter.unusedVariables false
set_option linter.unusedSimpArgs false

theorem rints_b {P Q : Nat → Prop} (v u : Value) (l : List Int) (w : World) (h1 : Hid (RdX P 1 NuE w v l)) (h2 : Hid (RdX Q 1 NuE w u l)) :
    Calls Try.prog 13 #[v, u] w fun e w' => e = .returned (.bool true) ∧ Below w.heap.size w w' := by
  refine (rints_any v u l l w h1 h2).mono ?_
  rintro e w1 ⟨rfl, n, rfl⟩
  exact ⟨ret_bool (by simp), Below.drewN' (Below.refl _ _) n⟩
theorem usesI_len (x : InI) : (usesI x).length ≤ x.args.length + 3 := by
  unfold usesI
  split <;> first | (simp; done) | (split <;> simp; done) | omega | (simp only [List.length_cons, List.length_nil]; omega) | (split <;> simp only [List.length_cons, List.length_nil] <;> omega)
set_option maxHeartbeats 8000000 in
set_option maxRecDepth 100000 in
theorem InsTells_walk {P : Nat → Prop} (x : InI) (v : Value) (w : World) (h : Hid (RdX P 1 NuE w v x.args)) (hby : Hid (x.args.length * 8 ≤ 140737488355328)) :
    Calls Try.prog 3 #[inA x v] w fun e w' => e = .returned (.bool true) ∧ Below w.heap.size w w' := by
  obtain ⟨A, cap, rfl⟩ := h.out.shape
  obtain ⟨v, hv⟩ : ∃ v, v = Value.slice A x.args.length cap := ⟨_, rfl⟩
  by_cases hl : 10000 < x.args.length
  · have q0 : (10000 : Int) < x.args.length := by omega
    clear hl
    go_enter Try.func3, Try.ntmps3
    go_wp2_with fail
    with_reducible refine (holds_any _).mono ?_
    rintro e w1 ⟨rfl, hb⟩
    have hx : w1.cell? ⟨w.heap.size, 8, none⟩ = some (.slice A x.args.length cap) := heap_cell (heap_keep (heap_alloc_new w _) hb) rfl
    have HB1 := lhid (((Below.refl w.heap.size w).alloc (Nat.le_refl _) _).trans (hb.mono (by simp)))
    clear hb
    go_wp2_with fail
    go_ret
    exact ⟨rfl, HB1.out⟩
  have q0 : ¬ (10000 : Int) < x.args.length := by omega
  have HUL := lhid (usesI_len x)
  have HLN := lhid hl
  clear hl
  go_enter Try.func3, Try.ntmps3
  go_wp2_with fail
  with_reducible refine (holds_any _).mono ?_
  rintro e w1 ⟨rfl, hb⟩
  have hX : XBox w1 w.heap.size x.op x.dst x.a x.b x.c x.num x.too x.ref (.slice A x.args.length cap) := heap_keep (heap_alloc_new w _) hb
  have hb1 := ((Below.refl w.heap.size w).alloc (Nat.le_refl _) _).trans (hb.mono (by simp))
  have HV1 := lhid (h.out.below (keptX_nu _) hb1)
  have HB1 := lhid hb1
  obtain ⟨y0, y1, y2, y3, y4, y5, y6, y7, y8⟩ := hX.cells
  have HX1 := lhid hX
  clear hb hb1 hX
  go_upto_region 5 with fail
  clear y0 y1 y2 y3 y4 y5 y6 y7 y8
  rw [← hv] at h HX1 HV1
  have HG : Hid (∀ w' : World, Below w1.heap.size w1 w' → w'.cell? ⟨w.heap.size, 0, none⟩ = some (.int .i64 x.op) ∧ w'.cell? ⟨w.heap.size, 1, none⟩ = some (.int .i64 x.dst) ∧ w'.cell? ⟨w.heap.size, 2, none⟩ = some (.int .i64 x.a) ∧ w'.cell? ⟨w.heap.size, 3, none⟩ = some (.int .i64 x.b) ∧ w'.cell? ⟨w.heap.size, 4, none⟩ = some (.int .i64 x.c) ∧ w'.cell? ⟨w.heap.size, 5, none⟩ = some (.int .i64 x.num) ∧ w'.cell? ⟨w.heap.size, 6, none⟩ = some (.int .i64 x.too) ∧ w'.cell? ⟨w.heap.size, 7, none⟩ = some (.string (tx x.ref)) ∧ w'.cell? ⟨w.heap.size, 8, none⟩ = some v) := lhid (fun w' hw' => by
    have hX' : XBox w' w.heap.size x.op x.dst x.a x.b x.c x.num x.too x.ref v := heap_keep HX1.out hw'
    exact hX'.cells)
  have HVG : Hid (∀ w' : World, Below w1.heap.size w1 w' → RdX P 1 NuE w' v x.args) := lhid (fun w' hw' => HV1.out.below (keptX_nu _) hw')
  clear hv
  refine wp_region_held_drew (S := fun w' => Below w1.heap.size w1 w') (by kernel_rfl) (Below.drew' (Below.refl _ _)) ?_
  intro hS0
  refine wpAnyH_take (i := 0) (v := ?tv0) rfl (by kernel_rfl) (by kernel_rfl) (by kernel_rfl) (fun _ _ _ h => h) (Or.inl ⟨by rfl, ?ty0⟩) hS0 ?tr0
  case ty0 => (intro w' hw'; obtain ⟨y0, y1, y2, y3, y4, y5, y6, y7, y8⟩ := HG.out w' hw'; go_simp; try with_reducible rfl)
  try simp only [Act.put, List.setIfInBounds_toArray, List.set_cons_zero, List.set_cons_succ]
  refine wpAnyH_take (i := 2) (v := ?tv1) rfl (by kernel_rfl) (by kernel_rfl) (by kernel_rfl) (fun _ _ _ h => h) (Or.inl ⟨by rfl, ?ty1⟩) hS0 ?tr1
  case ty1 => (intro w' hw'; obtain ⟨y0, y1, y2, y3, y4, y5, y6, y7, y8⟩ := HG.out w' hw'; go_simp; try with_reducible rfl)
  try simp only [Act.put, List.setIfInBounds_toArray, List.set_cons_zero, List.set_cons_succ]
  refine wpAnyH_ready (rs := [1]) (by kernel_rfl) (by simp) ?_
  refine AllReadyH.cons rfl (fun K hK => ?_) AllReadyH.nil
  ·
    go_simp
    refine (uses_any x v _ (lhid (HVG.out _ hS0)) hby).mono ?_
    rintro e w2 ⟨va, rfl, ho, hb⟩
    have hS1 : Below w1.heap.size w1 w2 := hS0.trans (hb.mono hS0.size)
    have HO := lhid (own_base ho hS0.size)
    clear ho hb
    dsimp only
    refine hK.out _ _ hS1 (fun _ => ?_)
    clear hK K
    try simp only [Act.put, List.setIfInBounds_toArray, List.set_cons_zero, List.set_cons_succ]
    refine wpAnyH_ready (rs := [3]) (by kernel_rfl) (by simp) ?_
    refine AllReadyH.cons rfl (fun K hK => ?_) AllReadyH.nil
    go_simp
    refine (ruses_any x v _ (lhid (HVG.out _ hS1)) hby).mono ?_
    rintro e w3 ⟨vb, rfl, ho, hb⟩
    have hS2 : Below w1.heap.size w1 w3 := hS1.trans (hb.mono hS1.size)
    have HO1 := lhid (own_below HO.out hb)
    have HO2 := lhid (own_base ho hS1.size)
    clear ho hb HO
    dsimp only
    refine hK.out _ _ hS2 (fun _ => ?_)
    clear hK K
    try simp only [Act.put, List.setIfInBounds_toArray, List.set_cons_zero, List.set_cons_succ]
    refine wpAnyH_ready (rs := [4]) (by kernel_rfl) (by simp) ?_
    refine AllReadyH.cons rfl (fun K hK => ?_) AllReadyH.nil
    go_simp
    refine (rints_b _ _ (usesI x) _ (lhid (OwN.rd HO1.out (by have := HUL.out; have := HLN.out; omega))) (lhid (OwN.rd HO2.out (by have := HUL.out; have := HLN.out; omega)))).mono ?_
    rintro e w4 ⟨rfl, hb⟩
    have hS3 : Below w1.heap.size w1 w4 := hS2.trans (hb.mono hS2.size)
    clear hb HO1 HO2
    dsimp only
    refine hK.out _ _ hS3 (fun _ => ?_)
    clear hK K
    try simp only [Act.put, List.setIfInBounds_toArray, List.set_cons_zero, List.set_cons_succ]
    refine wpAnyH_quiet_tail 5 (by rfl) (by kernel_rfl) (by kernel_rfl) hS3 ?_
    simp only [List.drop_succ_cons, List.drop_zero]
    repeat (first
      | go_big_quiet_skip
      | (go_big_quiet_want
         first
           | (refine quiet_of_run (v := ?_) (fun w' hw' => ?_) ?_
              rotate_left
              · (obtain ⟨y0, y1, y2, y3, y4, y5, y6, y7, y8⟩ := HG.out w' hw'; go_simp; try with_reducible rfl)
              go_big_quiet_on
              try simp only [Act.put, List.setIfInBounds_toArray, List.set_cons_zero, List.set_cons_succ])
           | (refine quiet_of_call (v := .int .i64 (defI x)) (f := 16) (args := #[inA x v]) (fun w' hw' => ?_) (fun w' hw' => ?_) ?_
              · (obtain ⟨y0, y1, y2, y3, y4, y5, y6, y7, y8⟩ := HG.out w' hw'; go_simp; done)
              · (refine (def_any x v w').mono ?_
                 rintro e w9 ⟨rfl, hb9⟩
                 exact ⟨rfl, hw'.trans (Below.less hb9 hw'.size)⟩)
              go_big_quiet_on
              try simp only [Act.put, List.setIfInBounds_toArray, List.set_cons_zero, List.set_cons_succ])
           | (refine quiet_of_call (v := .int .i64 (defI x)) (f := 17) (args := #[inA x v]) (fun w' hw' => ?_) (fun w' hw' => ?_) ?_
              · (obtain ⟨y0, y1, y2, y3, y4, y5, y6, y7, y8⟩ := HG.out w' hw'; go_simp; done)
              · (refine (rdef_any x v w').mono ?_
                 rintro e w9 ⟨rfl, hb9⟩
                 exact ⟨rfl, hw'.trans (Below.less hb9 hw'.size)⟩)
              go_big_quiet_on
              try simp only [Act.put, List.setIfInBounds_toArray, List.set_cons_zero, List.set_cons_succ])
           | (refine quiet_of_call (v := .bool (callsB x.op)) (f := 18) (args := #[inA x v]) (fun w' hw' => ?_) (fun w' hw' => ?_) ?_
              · (obtain ⟨y0, y1, y2, y3, y4, y5, y6, y7, y8⟩ := HG.out w' hw'; go_simp; done)
              · (refine (calls_any x v w').mono ?_
                 rintro e w9 ⟨rfl, hb9⟩
                 exact ⟨rfl, hw'.trans (Below.less hb9 hw'.size)⟩)
              go_big_quiet_on
              try simp only [Act.put, List.setIfInBounds_toArray, List.set_cons_zero, List.set_cons_succ])
           | (refine quiet_of_call (v := .bool (callsB x.op)) (f := 19) (args := #[.int .i64 x.op]) (fun w' hw' => ?_) (fun w' hw' => ?_) ?_
              · (obtain ⟨y0, y1, y2, y3, y4, y5, y6, y7, y8⟩ := HG.out w' hw'; go_simp; done)
              · (refine (rcalls_any x.op w').mono ?_
                 rintro e w9 ⟨rfl, hb9⟩
                 subst hb9
                 exact ⟨rfl, hw'⟩)
              go_big_quiet_on
              try simp only [Act.put, List.setIfInBounds_toArray, List.set_cons_zero, List.set_cons_succ])
           | (refine quiet_of_call (v := .bool (throwsB x.op)) (f := 20) (args := #[inA x v]) (fun w' hw' => ?_) (fun w' hw' => ?_) ?_
              · (obtain ⟨y0, y1, y2, y3, y4, y5, y6, y7, y8⟩ := HG.out w' hw'; go_simp; done)
              · (refine (throws_any x v w').mono ?_
                 rintro e w9 ⟨rfl, hb9⟩
                 exact ⟨rfl, hw'.trans (Below.less hb9 hw'.size)⟩)
              go_big_quiet_on
              try simp only [Act.put, List.setIfInBounds_toArray, List.set_cons_zero, List.set_cons_succ])
           | (refine quiet_of_call (v := .bool (throwsB x.op)) (f := 21) (args := #[.int .i64 x.op]) (fun w' hw' => ?_) (fun w' hw' => ?_) ?_
              · (obtain ⟨y0, y1, y2, y3, y4, y5, y6, y7, y8⟩ := HG.out w' hw'; go_simp; done)
              · (refine (rthrows_any x.op w').mono ?_
                 rintro e w9 ⟨rfl, hb9⟩
                 exact ⟨rfl, hw'.trans (Below.less hb9 hw'.size)⟩)
              go_big_quiet_on
              try simp only [Act.put, List.setIfInBounds_toArray, List.set_cons_zero, List.set_cons_succ])
           | (refine quiet_of_call (v := .bool (pureB x.op)) (f := 22) (args := #[inA x v]) (fun w' hw' => ?_) (fun w' hw' => ?_) ?_
              · (obtain ⟨y0, y1, y2, y3, y4, y5, y6, y7, y8⟩ := HG.out w' hw'; go_simp; done)
              · (refine (pure_any x v w').mono ?_
                 rintro e w9 ⟨rfl, hb9⟩
                 exact ⟨rfl, hw'.trans (Below.less hb9 hw'.size)⟩)
              go_big_quiet_on
              try simp only [Act.put, List.setIfInBounds_toArray, List.set_cons_zero, List.set_cons_succ])
           | (refine quiet_of_call (v := .bool (pureB x.op)) (f := 23) (args := #[.int .i64 x.op]) (fun w' hw' => ?_) (fun w' hw' => ?_) ?_
              · (obtain ⟨y0, y1, y2, y3, y4, y5, y6, y7, y8⟩ := HG.out w' hw'; go_simp; done)
              · (refine (rpure_any x.op w').mono ?_
                 rintro e w9 ⟨rfl, hb9⟩
                 exact ⟨rfl, hw'.trans (Below.less hb9 hw'.size)⟩)
              go_big_quiet_on
              try simp only [Act.put, List.setIfInBounds_toArray, List.set_cons_zero, List.set_cons_succ])
           | (refine quiet_of_call (v := .bool (leadsB x.op)) (f := 24) (args := #[inA x v]) (fun w' hw' => ?_) (fun w' hw' => ?_) ?_
              · (obtain ⟨y0, y1, y2, y3, y4, y5, y6, y7, y8⟩ := HG.out w' hw'; go_simp; done)
              · (refine (leads_any x v w').mono ?_
                 rintro e w9 ⟨rfl, hb9⟩
                 exact ⟨rfl, hw'.trans (Below.less hb9 hw'.size)⟩)
              go_big_quiet_on
              try simp only [Act.put, List.setIfInBounds_toArray, List.set_cons_zero, List.set_cons_succ])
           | (refine quiet_of_call (v := .bool (leadsB x.op)) (f := 25) (args := #[.int .i64 x.op]) (fun w' hw' => ?_) (fun w' hw' => ?_) ?_
              · (obtain ⟨y0, y1, y2, y3, y4, y5, y6, y7, y8⟩ := HG.out w' hw'; go_simp; done)
              · (refine (rleads_any x.op w').mono ?_
                 rintro e w9 ⟨rfl, hb9⟩
                 exact ⟨rfl, hw'.trans (Below.less hb9 hw'.size)⟩)
              go_big_quiet_on
              try simp only [Act.put, List.setIfInBounds_toArray, List.set_cons_zero, List.set_cons_succ])
           | (refine quiet_of_call (v := .bool (endsB x.op)) (f := 26) (args := #[inA x v]) (fun w' hw' => ?_) (fun w' hw' => ?_) ?_
              · (obtain ⟨y0, y1, y2, y3, y4, y5, y6, y7, y8⟩ := HG.out w' hw'; go_simp; done)
              · (refine (ends_any x v w').mono ?_
                 rintro e w9 ⟨rfl, hb9⟩
                 exact ⟨rfl, hw'.trans (Below.less hb9 hw'.size)⟩)
              go_big_quiet_on
              try simp only [Act.put, List.setIfInBounds_toArray, List.set_cons_zero, List.set_cons_succ])
           | (refine quiet_of_call (v := .bool (endsB x.op)) (f := 27) (args := #[.int .i64 x.op]) (fun w' hw' => ?_) (fun w' hw' => ?_) ?_
              · (obtain ⟨y0, y1, y2, y3, y4, y5, y6, y7, y8⟩ := HG.out w' hw'; go_simp; done)
              · (refine (rends_any x.op w').mono ?_
                 rintro e w9 ⟨rfl, hb9⟩
                 exact ⟨rfl, hw'.trans (Below.less hb9 hw'.size)⟩)
              go_big_quiet_on
              try simp only [Act.put, List.setIfInBounds_toArray, List.set_cons_zero, List.set_cons_succ])))
    refine wpQuiet_nil ?_
    intro wx hwx
    have HW := lhid (HB1.out.trans (hwx.mono HB1.out.size))
    clear hwx
    go_wp2_with fail
    go_ret
    exact ⟨rfl, HW.out⟩
end Go.Proofs.Ythaijdcgmcfpiaa
