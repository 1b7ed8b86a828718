/- The document's Same at two functions that are alike. -/
import Derived.Test.YthaijdcgmcfpiaaInsCopy
import Derived.Test.YthaijdcgmcfpiaaInsTells
import Derived.Deep.Cut
import Derived.Deep.CutRange
import Derived.Deep.CutBlock
namespace Go.Proofs.Ythaijdcgmcfpiaa
open Go.RowKit Go
set_option linter.unusedVariables false
set_option linter.unusedSimpArgs false

set_option maxHeartbeats 8000000 in
set_option maxRecDepth 100000 in
theorem rsame_t {P Q : Nat → Prop} (f : FuI) (fa fb fd fe ga gb gd ge : Value) (w : World) (h : Hid (FuV P w f fa fb fd fe)) (h2 : Hid (FuV Q w f ga gb gd ge)) :
    Calls Try.prog 33 #[fuL fa fb f.ret fd fe, fuL ga gb f.ret gd ge] w fun e w' => e = .returned (.bool true) ∧ Below w.heap.size w w' := by
  obtain ⟨R, rcap, hR⟩ := h.out.a.shape
  subst hR
  obtain ⟨S, scap, hS⟩ := h.out.b.shape
  subst hS
  obtain ⟨D, dcap, hD⟩ := h.out.d.shape
  subst hD
  obtain ⟨E, ecap, hE⟩ := h.out.e.shape
  subst hE
  obtain ⟨R2, rcap2, hR⟩ := h2.out.a.shape
  subst hR
  obtain ⟨S2, scap2, hS⟩ := h2.out.b.shape
  subst hS
  obtain ⟨D2, dcap2, hD⟩ := h2.out.d.shape
  subst hD
  obtain ⟨E2, ecap2, hE⟩ := h2.out.e.shape
  subst hE
  have hdl := h.out.d.len
  have hel := h.out.e.len
  obtain ⟨n, hn⟩ : ∃ n, f.code.length = n := ⟨_, rfl⟩
  have HN := lhid hn
  obtain ⟨m, hm⟩ : ∃ m, f.rows.length = m := ⟨_, rfl⟩
  have HM := lhid hm
  rw [hn] at hdl h h2 ⊢
  rw [hm] at hel h h2 ⊢
  clear hn hm
  go_enter Try.func33, Try.ntmps33
  go_upto_region 1 with fail
  generalize hW : World.alloc _ _ = wr
  have HB : Hid (Below w.heap.size w wr) := lhid (by rw [← hW]; exact ((Below.refl w.heap.size w).alloc (Nat.le_refl _) _).alloc (by simp) _)
  have HF : Hid (FBox wr w.heap.size (.slice R f.regs.length rcap) (.slice S f.params.length scap) f.ret (.slice D n dcap) (.slice E m ecap)) := lhid (by rw [← hW]; exact (Below.heap_alloc _ _ _ (by simp)).trans (heap_alloc_new w _))
  have HG : Hid (FBox wr (w.heap.size + 1) (.slice R2 f.regs.length rcap2) (.slice S2 f.params.length scap2) f.ret (.slice D2 n dcap2) (.slice E2 m ecap2)) := lhid (by rw [← hW]; exact heap_new2 w _ _)
  clear hW
  obtain ⟨p0, p1, p2, p3, p4⟩ := HF.out.cells
  obtain ⟨q0, q1, q2, q3, q4⟩ := HG.out.cells
  go_wp2_with fail
  with_reducible refine (rints_b (.slice R f.regs.length rcap) (.slice R2 f.regs.length rcap2) f.regs _ (lhid (h.out.a.below (keptX_nu _) HB.out)) (lhid (h2.out.a.below (keptX_nu _) HB.out))).mono ?_
  rintro e w1 ⟨rfl, hb⟩
  have HB1 := lhid (HB.out.trans (hb.mono HB.out.size))
  have HF1 : Hid (FBox w1 w.heap.size (.slice R f.regs.length rcap) (.slice S f.params.length scap) f.ret (.slice D n dcap) (.slice E m ecap)) := lhid (heap_keep HF.out hb)
  have HG1 : Hid (FBox w1 (w.heap.size + 1) (.slice R2 f.regs.length rcap2) (.slice S2 f.params.length scap2) f.ret (.slice D2 n dcap2) (.slice E2 m ecap2)) := lhid (heap_keep HG.out hb)
  clear hb p0 p1 p2 p3 p4 q0 q1 q2 q3 q4
  obtain ⟨p0, p1, p2, p3, p4⟩ := HF1.out.cells
  obtain ⟨q0, q1, q2, q3, q4⟩ := HG1.out.cells
  go_wp2_with fail
  with_reducible refine (rints_b (.slice S f.params.length scap) (.slice S2 f.params.length scap2) f.params _ (lhid (h.out.b.below (keptX_nu _) HB1.out)) (lhid (h2.out.b.below (keptX_nu _) HB1.out))).mono ?_
  rintro e w2 ⟨rfl, hb⟩
  have HB2 := lhid (HB1.out.trans (hb.mono HB1.out.size))
  have HF2 : Hid (FBox w2 w.heap.size (.slice R f.regs.length rcap) (.slice S f.params.length scap) f.ret (.slice D n dcap) (.slice E m ecap)) := lhid (heap_keep HF1.out hb)
  have HG2 : Hid (FBox w2 (w.heap.size + 1) (.slice R2 f.regs.length rcap2) (.slice S2 f.params.length scap2) f.ret (.slice D2 n dcap2) (.slice E2 m ecap2)) := lhid (heap_keep HG1.out hb)
  clear hb p0 p1 p2 p3 p4 q0 q1 q2 q3 q4
  obtain ⟨p0, p1, p2, p3, p4⟩ := HF2.out.cells
  obtain ⟨q0, q1, q2, q3, q4⟩ := HG2.out.cells
  clear HB HF HG HB1 HF1 HG1
  have e1 : ((n : Int) != (n : Int)) = false := by simp
  have e2 : ((m : Int) != (m : Int)) = false := by simp
  have e3 : (f.ret != f.ret) = false := by simp
  go_upto_block 0 with fail
  go_cut [] from 46 (fun wc => Hid (Below w.heap.size w wc) ∧ Hid (FBox wc w.heap.size (.slice R f.regs.length rcap) (.slice S f.params.length scap) f.ret (.slice D n dcap) (.slice E m ecap)) ∧ Hid (FBox wc (w.heap.size + 1) (.slice R2 f.regs.length rcap2) (.slice S2 f.params.length scap2) f.ret (.slice D2 n dcap2) (.slice E2 m ecap2)))
  case first =>
    go_wp2_with fail
    go_loopw [5] (fun i wr => ∃ k : Nat, i = .int .i64 k ∧ k ≤ n ∧ Hid (Below w.heap.size w wr) ∧ Hid (FBox wr w.heap.size (.slice R f.regs.length rcap) (.slice S f.params.length scap) f.ret (.slice D n dcap) (.slice E m ecap)) ∧ Hid (FBox wr (w.heap.size + 1) (.slice R2 f.regs.length rcap2) (.slice S2 f.params.length scap2) f.ret (.slice D2 n dcap2) (.slice E2 m ecap2))) (fun i _ => n - (intOf i).toNat)
    case atStart => exact ⟨0, rfl, Nat.zero_le _, HB2, HF2, HG2⟩
    case round =>
      clear HB2 HF2 HG2 p0 p1 p2 p3 p4 q0 q1 q2 q3 q4
      obtain ⟨k, rfl, hk, HB, HF, HG⟩ := hrel
      obtain ⟨p0, p1, p2, p3, p4⟩ := HF.out.cells
      obtain ⟨q0, q1, q2, q3, q4⟩ := HG.out.cells
      by_cases hlt : k < n
      · obtain ⟨x, hx⟩ : ∃ x, f.code[k]? = some x := ⟨_, List.getElem?_eq_getElem (by have := HN.out; omega)⟩
        obtain ⟨g, o, v, hD, _, hv, c0, c1, c2, c3, c4, c5, c6, c7, c8⟩ := in_cells (h.out.d.below (keptX_in _) HB.out) hx
        obtain ⟨g2, o2, v2, hD2, _, hv2, d0, d1, d2, d3, d4, d5, d6, d7, d8⟩ := in_cells (h2.out.d.below (keptX_in _) HB.out) hx
        subst hD hD2
        have k3 : (k : Int) < n := by omega
        have HV := lhid hv
        have HV2 := lhid hv2
        have HGG : Hid (∀ w' : World, Below wr.heap.size wr w' → (w'.cell? ⟨w.heap.size, 3, none⟩ = some (.slice (some ⟨g, o, none⟩) n dcap) ∧ w'.cell? ⟨w.heap.size + 1, 3, none⟩ = some (.slice (some ⟨g2, o2, none⟩) n dcap2)) ∧ (w'.cell? ⟨g, o + k * 9, none⟩ = some (.int .i64 x.op) ∧ w'.cell? ⟨g, o + k * 9 + 1, none⟩ = some (.int .i64 x.dst) ∧ w'.cell? ⟨g, o + k * 9 + 2, none⟩ = some (.int .i64 x.a) ∧ w'.cell? ⟨g, o + k * 9 + 3, none⟩ = some (.int .i64 x.b) ∧ w'.cell? ⟨g, o + k * 9 + 4, none⟩ = some (.int .i64 x.c) ∧ w'.cell? ⟨g, o + k * 9 + 5, none⟩ = some (.int .i64 x.num) ∧ w'.cell? ⟨g, o + k * 9 + 6, none⟩ = some (.int .i64 x.too) ∧ w'.cell? ⟨g, o + k * 9 + 7, none⟩ = some (.string (tx x.ref)) ∧ w'.cell? ⟨g, o + k * 9 + 8, none⟩ = some (v)) ∧ (w'.cell? ⟨g2, o2 + k * 9, none⟩ = some (.int .i64 x.op) ∧ w'.cell? ⟨g2, o2 + k * 9 + 1, none⟩ = some (.int .i64 x.dst) ∧ w'.cell? ⟨g2, o2 + k * 9 + 2, none⟩ = some (.int .i64 x.a) ∧ w'.cell? ⟨g2, o2 + k * 9 + 3, none⟩ = some (.int .i64 x.b) ∧ w'.cell? ⟨g2, o2 + k * 9 + 4, none⟩ = some (.int .i64 x.c) ∧ w'.cell? ⟨g2, o2 + k * 9 + 5, none⟩ = some (.int .i64 x.num) ∧ w'.cell? ⟨g2, o2 + k * 9 + 6, none⟩ = some (.int .i64 x.too) ∧ w'.cell? ⟨g2, o2 + k * 9 + 7, none⟩ = some (.string (tx x.ref)) ∧ w'.cell? ⟨g2, o2 + k * 9 + 8, none⟩ = some (v2))) := lhid (fun w' hw' => by
          have kc : ∀ {p : Addr} {u : Value}, wr.cell? p = some u → w'.cell? p = some u := fun {p u} hp => (hw'.cell (p := p) (cell_lt hp)).trans hp
          exact ⟨⟨kc p3, kc q3⟩, ⟨kc c0, kc c1, kc c2, kc c3, kc c4, kc c5, kc c6, kc c7, kc c8⟩, ⟨kc d0, kc d1, kc d2, kc d3, kc d4, kc d5, kc d6, kc d7, kc d8⟩⟩)
        clear hv hv2 c0 c1 c2 c3 c4 c5 c6 c7 c8 d0 d1 d2 d3 d4 d5 d6 d7 d8 hx
        go_upto_region 6 with fail
        clear p0 p1 p2 p3 p4 q0 q1 q2 q3 q4
        go_cut [64] from 53 to 64 (fun t64 wc => t64 = .bool false ∧ Hid (Below wr.heap.size wr wc))
        case first =>
          refine wp_region_quiet_c (C := fun w' => Below wr.heap.size wr w') (by kernel_rfl) (by kernel_rfl) (Below.drew' (Below.refl _ _)) ?_
          repeat (first
            | go_big_quiet_skip
            | (go_big_quiet_want
               first
                 | (refine quiet_of_run (v := ?_) (fun w' hw' => ?_) ?_
                    rotate_left
                    · (obtain ⟨⟨p3, q3⟩, ⟨c0, c1, c2, c3, c4, c5, c6, c7, c8⟩, d0, d1, d2, d3, d4, d5, d6, d7, d8⟩ := HGG.out w' hw'; go_simp; try with_reducible rfl)
                    go_big_quiet_on
                    try simp only [Act.put, List.setIfInBounds_toArray, List.set_cons_zero, List.set_cons_succ])
                 | (refine quiet_of_call (v := .bool true) (f := 30) (args := #[inA x v, inA x v2]) (fun w' hw' => ?_) (fun w' hw' => ?_) ?_
                    · (obtain ⟨⟨p3, q3⟩, ⟨c0, c1, c2, c3, c4, c5, c6, c7, c8⟩, d0, d1, d2, d3, d4, d5, d6, d7, d8⟩ := HGG.out w' hw'; go_simp; done)
                    · (refine (sameIns_t x v v2 w' (lhid (HV.out.below (keptX_nu _) hw')) (lhid (HV2.out.below (keptX_nu _) hw'))).mono ?_
                       rintro e w9 ⟨rfl, hb9⟩
                       exact ⟨rfl, hw'.trans (Below.less hb9 hw'.size)⟩)
                    go_big_quiet_on
                    try simp only [Act.put, List.setIfInBounds_toArray, List.set_cons_zero, List.set_cons_succ])))
          refine wpQuiet_nil ?_
          intro wx hwx
          have HWX := lhid hwx
          clear hwx
          go_wp2_with fail
          go_meet
          case rel => exact ⟨rfl, HWX⟩
        obtain ⟨rfl, HWC⟩ := hcut
        have HB3 := lhid (HB.out.trans (HWC.out.mono HB.out.size))
        have HF3 : Hid (FBox wc w.heap.size (.slice R f.regs.length rcap) (.slice S f.params.length scap) f.ret (.slice (some ⟨g, o, none⟩) n dcap) (.slice E m ecap)) := lhid (heap_keep HF.out HWC.out)
        have HG3 : Hid (FBox wc (w.heap.size + 1) (.slice R2 f.regs.length rcap2) (.slice S2 f.params.length scap2) f.ret (.slice (some ⟨g2, o2, none⟩) n dcap2) (.slice E2 m ecap2)) := lhid (heap_keep HG.out HWC.out)
        clear HGG
        go_wp2_with fail
        go_roundw
        case rel => exact ⟨k + 1, by go_num, by omega, HB3, HF3, HG3⟩
        case measure => simp [intOf]; omega
      · have k3 : ¬ (k : Int) < n := by omega
        go_wp2_with fail
        go_meet
        case rel => exact ⟨HB, HF, HG⟩
  clear HB2 HF2 HG2 p0 p1 p2 p3 p4 q0 q1 q2 q3 q4
  obtain ⟨HB2, HF2, HG2⟩ := hcut
  obtain ⟨p0, p1, p2, p3, p4⟩ := HF2.out.cells
  obtain ⟨q0, q1, q2, q3, q4⟩ := HG2.out.cells
  go_wp2_with fail
  go_loopw [6] (fun i wr => ∃ k : Nat, i = .int .i64 k ∧ k ≤ m ∧ Hid (Below w.heap.size w wr) ∧ Hid (FBox wr w.heap.size (.slice R f.regs.length rcap) (.slice S f.params.length scap) f.ret (.slice D n dcap) (.slice E m ecap)) ∧ Hid (FBox wr (w.heap.size + 1) (.slice R2 f.regs.length rcap2) (.slice S2 f.params.length scap2) f.ret (.slice D2 n dcap2) (.slice E2 m ecap2))) (fun i _ => m - (intOf i).toNat)
  case atStart => exact ⟨0, rfl, Nat.zero_le _, HB2, HF2, HG2⟩
  case round =>
    clear HB2 HF2 HG2 p0 p1 p2 p3 p4 q0 q1 q2 q3 q4
    obtain ⟨k, rfl, hk, HB, HF, HG⟩ := hrel
    obtain ⟨p0, p1, p2, p3, p4⟩ := HF.out.cells
    obtain ⟨q0, q1, q2, q3, q4⟩ := HG.out.cells
    by_cases hlt : k < m
    · obtain ⟨x, hx⟩ : ∃ x, f.rows[k]? = some x := ⟨_, List.getElem?_eq_getElem (by have := HM.out; omega)⟩
      obtain ⟨g, o, hE, c0, c1, c2, c3⟩ := rw_cells (h.out.e.below (keptX_rw _) HB.out) hx
      obtain ⟨g2, o2, hE2, d0, d1, d2, d3⟩ := rw_cells (h2.out.e.below (keptX_rw _) HB.out) hx
      subst hE hE2
      have k3 : (k : Int) < m := by omega
      clear hx
      go_upto_region 11 with fail
      go_cut [82] from 72 to 82 (fun t82 wc => t82 = .bool false ∧ Hid (Below wr.heap.size wr wc))
      case first =>
        go_quiet (fail)
        go_wp2_with fail
        go_meet
        case rel => exact ⟨rfl, lhid (Below.drewN' (Below.refl _ _) _)⟩
      obtain ⟨rfl, HWC⟩ := hcut
      have HB3 := lhid (HB.out.trans (HWC.out.mono HB.out.size))
      have HF3 : Hid (FBox wc w.heap.size (.slice R f.regs.length rcap) (.slice S f.params.length scap) f.ret (.slice D n dcap) (.slice (some ⟨g, o, none⟩) m ecap)) := lhid (heap_keep HF.out HWC.out)
      have HG3 : Hid (FBox wc (w.heap.size + 1) (.slice R2 f.regs.length rcap2) (.slice S2 f.params.length scap2) f.ret (.slice D2 n dcap2) (.slice (some ⟨g2, o2, none⟩) m ecap2)) := lhid (heap_keep HG.out HWC.out)
      go_wp2_with fail
      go_roundw
      case rel => exact ⟨k + 1, by go_num, by omega, HB3, HF3, HG3⟩
      case measure => simp [intOf]; omega
    · have k3 : ¬ (k : Int) < m := by omega
      go_wp2_with fail
      go_ret
      exact ⟨rfl, HB.out⟩
end Go.Proofs.Ythaijdcgmcfpiaa
