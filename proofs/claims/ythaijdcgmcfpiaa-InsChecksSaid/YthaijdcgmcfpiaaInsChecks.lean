/- The walk of law 10's InsChecks. -/
import Derived.Test.YthaijdcgmcfpiaaInsRChk5
import Derived.Test.YthaijdcgmcfpiaaInsChk8
import Derived.Deep.Cut
namespace Go.Proofs.Ythaijdcgmcfpiaa
open Go.RowKit Go
set_option linter.unusedVariables false
set_option linter.unusedSimpArgs false

theorem rcheck_r {P : Nat → Prop} (f : FuI) (fa fb fd fe : Value) (c : Int) (w : World) (h : Hid (FuV P w f fa fb fd fe)) (hq : Hid (FuQ f)) (hcap : Hid (∀ A n cap, fb = .slice A n cap → n ≤ cap ∧ cap ≤ maxLen)) (hc : Hid (chkN f = c)) :
    Calls Try.prog 29 #[fuL fa fb f.ret fd fe] w fun e w' => e = .returned (.int .i64 c) ∧ Below w.heap.size w w' := by
  have := rcheck_any f fa fb fd fe w h hq hcap
  rwa [hc.out] at this
set_option maxHeartbeats 4000000 in
set_option maxRecDepth 100000 in
theorem InsChecks_walk {P : Nat → Prop} (f : FuI) (fa fb fd fe : Value) (w : World) (h : Hid (FuV P w f fa fb fd fe)) (hq : Hid (FuQ f)) (hcap : Hid (∀ A n cap, fb = .slice A n cap → n ≤ cap ∧ cap ≤ maxLen)) :
    Calls Try.prog 4 #[fuL fa fb f.ret fd fe] w fun e w' => e = .returned (.bool true) ∧ Below w.heap.size w w' := by
  obtain ⟨R, rcap, hR⟩ := h.out.a.shape
  subst hR
  obtain ⟨S, scap, hS⟩ := h.out.b.shape
  subst hS
  obtain ⟨D, dcap, hD⟩ := h.out.d.shape
  subst hD
  obtain ⟨E, ecap, hE⟩ := h.out.e.shape
  subst hE
  by_cases q0 : (30000 : Int) < f.code.length
  ·
    go_enter Try.func4, Try.ntmps4
    go_wp2_with fail
    with_reducible refine (holds_any _).mono ?_
    rintro e w1 ⟨rfl, hb⟩
    have hF : FBox w1 w.heap.size (.slice R f.regs.length rcap) (.slice S f.params.length scap) f.ret (.slice D f.code.length dcap) (.slice E f.rows.length ecap) := heap_keep (heap_alloc_new w _) hb
    have HB := lhid (((Below.refl w.heap.size w).alloc (Nat.le_refl _) _).trans (hb.mono (by simp)))
    obtain ⟨p0, p1, p2, p3, p4⟩ := hF.cells
    have HF := lhid hF
    clear hb hF
    go_wp2_with fail
    go_ret
    exact ⟨rfl, HB.out⟩
  by_cases q1 : (30000 : Int) < f.regs.length
  ·
    go_enter Try.func4, Try.ntmps4
    go_wp2_with fail
    with_reducible refine (holds_any _).mono ?_
    rintro e w1 ⟨rfl, hb⟩
    have hF : FBox w1 w.heap.size (.slice R f.regs.length rcap) (.slice S f.params.length scap) f.ret (.slice D f.code.length dcap) (.slice E f.rows.length ecap) := heap_keep (heap_alloc_new w _) hb
    have HB := lhid (((Below.refl w.heap.size w).alloc (Nat.le_refl _) _).trans (hb.mono (by simp)))
    obtain ⟨p0, p1, p2, p3, p4⟩ := hF.cells
    have HF := lhid hF
    clear hb hF
    go_wp2_with fail
    go_ret
    exact ⟨rfl, HB.out⟩
  by_cases q2 : (1000 : Int) < f.params.length
  ·
    go_enter Try.func4, Try.ntmps4
    go_wp2_with fail
    with_reducible refine (holds_any _).mono ?_
    rintro e w1 ⟨rfl, hb⟩
    have hF : FBox w1 w.heap.size (.slice R f.regs.length rcap) (.slice S f.params.length scap) f.ret (.slice D f.code.length dcap) (.slice E f.rows.length ecap) := heap_keep (heap_alloc_new w _) hb
    have HB := lhid (((Below.refl w.heap.size w).alloc (Nat.le_refl _) _).trans (hb.mono (by simp)))
    obtain ⟨p0, p1, p2, p3, p4⟩ := hF.cells
    have HF := lhid hF
    clear hb hF
    go_wp2_with fail
    go_ret
    exact ⟨rfl, HB.out⟩
  by_cases q3 : (10000 : Int) < f.rows.length
  ·
    go_enter Try.func4, Try.ntmps4
    go_wp2_with fail
    with_reducible refine (holds_any _).mono ?_
    rintro e w1 ⟨rfl, hb⟩
    have hF : FBox w1 w.heap.size (.slice R f.regs.length rcap) (.slice S f.params.length scap) f.ret (.slice D f.code.length dcap) (.slice E f.rows.length ecap) := heap_keep (heap_alloc_new w _) hb
    have HB := lhid (((Below.refl w.heap.size w).alloc (Nat.le_refl _) _).trans (hb.mono (by simp)))
    obtain ⟨p0, p1, p2, p3, p4⟩ := hF.cells
    have HF := lhid hF
    clear hb hF
    go_wp2_with fail
    go_ret
    exact ⟨rfl, HB.out⟩
  obtain ⟨c, hc⟩ : ∃ c, chkN f = c := ⟨_, rfl⟩
  have HC := lhid hc
  clear hc
  go_enter Try.func4, Try.ntmps4
  go_wp2_with fail
  with_reducible refine (holds_any _).mono ?_
  rintro e w1 ⟨rfl, hb⟩
  have hF : FBox w1 w.heap.size (.slice R f.regs.length rcap) (.slice S f.params.length scap) f.ret (.slice D f.code.length dcap) (.slice E f.rows.length ecap) := heap_keep (heap_alloc_new w _) hb
  have HB := lhid (((Below.refl w.heap.size w).alloc (Nat.le_refl _) _).trans (hb.mono (by simp)))
  obtain ⟨p0, p1, p2, p3, p4⟩ := hF.cells
  have HF := lhid hF
  clear hb hF
  have HV := lhid (h.out.below HB.out)
  have HG : Hid (∀ w' : World, Below w1.heap.size w1 w' → w'.cell? ⟨w.heap.size, 0, none⟩ = some ((.slice R f.regs.length rcap)) ∧ w'.cell? ⟨w.heap.size, 1, none⟩ = some ((.slice S f.params.length scap)) ∧ w'.cell? ⟨w.heap.size, 2, none⟩ = some (.int .i64 f.ret) ∧ w'.cell? ⟨w.heap.size, 3, none⟩ = some ((.slice D f.code.length dcap)) ∧ w'.cell? ⟨w.heap.size, 4, none⟩ = some ((.slice E f.rows.length ecap))) := lhid (fun w' hw' => by
    have hF' : FBox w' w.heap.size (.slice R f.regs.length rcap) (.slice S f.params.length scap) f.ret (.slice D f.code.length dcap) (.slice E f.rows.length ecap) := heap_keep HF.out hw'
    exact hF'.cells)
  go_upto_region 5 with fail
  clear p0 p1 p2 p3 p4
  refine wp_region_quiet_c (C := fun w' => Below w1.heap.size w1 w') (by kernel_rfl) (by kernel_rfl) (Below.drew' (Below.refl _ _)) ?_
  repeat (first
    | go_big_quiet_skip
    | (go_big_quiet_want
       first
         | (refine quiet_of_run (v := ?_) (fun w' hw' => ?_) ?_
            rotate_left
            · (obtain ⟨p0, p1, p2, p3, p4⟩ := HG.out w' hw'; go_simp; try with_reducible rfl)
            go_big_quiet_on
            try simp only [Act.put, List.setIfInBounds_toArray, List.set_cons_zero, List.set_cons_succ])
         | (refine quiet_of_call (v := .int .i64 c) (f := 28) (args := #[fuL (.slice R f.regs.length rcap) (.slice S f.params.length scap) f.ret (.slice D f.code.length dcap) (.slice E f.rows.length ecap)]) (fun w' hw' => ?_) (fun w' hw' => ?_) ?_
            · (obtain ⟨p0, p1, p2, p3, p4⟩ := HG.out w' hw'; go_simp; done)
            · (refine (check_r f (.slice R f.regs.length rcap) (.slice S f.params.length scap) (.slice D f.code.length dcap) (.slice E f.rows.length ecap) c w' (lhid (HV.out.below hw')) hq hcap HC).mono ?_
               rintro e w9 ⟨rfl, hb9⟩
               exact ⟨rfl, hw'.trans (Below.less hb9 hw'.size)⟩)
            go_big_quiet_on
            try simp only [Act.put, List.setIfInBounds_toArray, List.set_cons_zero, List.set_cons_succ])
         | (refine quiet_of_call (v := .int .i64 c) (f := 29) (args := #[fuL (.slice R f.regs.length rcap) (.slice S f.params.length scap) f.ret (.slice D f.code.length dcap) (.slice E f.rows.length ecap)]) (fun w' hw' => ?_) (fun w' hw' => ?_) ?_
            · (obtain ⟨p0, p1, p2, p3, p4⟩ := HG.out w' hw'; go_simp; done)
            · (refine (rcheck_r f (.slice R f.regs.length rcap) (.slice S f.params.length scap) (.slice D f.code.length dcap) (.slice E f.rows.length ecap) c w' (lhid (HV.out.below hw')) hq hcap HC).mono ?_
               rintro e w9 ⟨rfl, hb9⟩
               exact ⟨rfl, hw'.trans (Below.less hb9 hw'.size)⟩)
            go_big_quiet_on
            try simp only [Act.put, List.setIfInBounds_toArray, List.set_cons_zero, List.set_cons_succ])))
  refine wpQuiet_nil ?_
  intro wx hwx
  have HW := lhid (HB.out.trans (hwx.mono HB.out.size))
  clear hwx
  go_wp2_with fail
  go_ret
  exact ⟨rfl, HW.out⟩
end Go.Proofs.Ythaijdcgmcfpiaa
