/- The walk of law 10's InsCopies. -/
import Derived.Test.YthaijdcgmcfpiaaInsMu
import Derived.Test.YthaijdcgmcfpiaaInsSame
import Derived.Test.YthaijdcgmcfpiaaInsChk8
namespace Go.Proofs.Ythaijdcgmcfpiaa
open Go.RowKit Go
set_option linter.unusedVariables false
set_option linter.unusedSimpArgs false

theorem FuV.kept {P : Nat → Prop} {w w' : World} {f : FuI} {fa fb fd fe : Value} (h : FuV P w f fa fb fd fe) (hb : ∀ g, P g → g < w.heap.size → w'.heap[g]? = w.heap[g]?) : FuV P w' f fa fb fd fe :=
  ⟨h.a.kept (keptX_nu _) hb, h.b.kept (keptX_nu _) hb, h.d.kept (keptX_in _) hb, h.e.kept (keptX_rw _) hb⟩
theorem CodeO.shape {B : Nat} {w : World} {v : Value} {l : List InI} (h : CodeO B w v l) : ∃ A c, v = .slice A l.length c := by
  rcases h with ⟨rfl, rfl⟩ | ⟨g, cap, rfl, _⟩
  · exact ⟨_, _, rfl⟩
  · exact ⟨_, _, rfl⟩
theorem own_cap {w : World} {B e size n : Nat} {v : Value} {xs : List Value} (h : w.ownsRow B e size v n xs) : ∀ A m cap, v = .slice A m cap → m ≤ cap ∧ cap ≤ maxLen := by
  intro A m cap hv
  rcases h.2 with ⟨h1, h2⟩ | ⟨g, cap', cur, h1, _, _, h5, h6, _⟩
  · rw [h1] at hv
    injection hv with _ e2 e3
    subst e2 e3
    exact ⟨Nat.le_refl _, by decide⟩
  · rw [h1] at hv
    injection hv with _ e2 e3
    subst e2 e3
    exact ⟨h5, h6⟩
theorem copy_r {P : Nat → Prop} (f : FuI) (fa fb fd fe : Value) (w : World) (h : Hid (FuV P w f fa fb fd fe)) (hq : Hid (CpQ f)) :
    Calls Try.prog 32 #[fuL fa fb f.ret fd fe] w fun e w' => ∃ A a B b D d E c, e = .returned (fuL (.slice A f.regs.length a) (.slice B f.params.length b) f.ret (.slice D f.code.length d) (.slice E f.rows.length c)) ∧ CpV w.heap.size w' f (.slice A f.regs.length a) (.slice B f.params.length b) (.slice D f.code.length d) (.slice E f.rows.length c) ∧ Below w.heap.size w w' := by
  refine (copy_any f fa fb fd fe w h hq).mono ?_
  rintro e w1 ⟨a, b, d, c, rfl, hc, hb⟩
  obtain ⟨A, ca, rfl⟩ := own_shape hc.a
  obtain ⟨B, cb, rfl⟩ := own_shape hc.b
  obtain ⟨D, cd, rfl⟩ := hc.d.shape
  obtain ⟨xs, h1, _⟩ := hc.e
  obtain ⟨E, ce, rfl⟩ := own_shape h1
  exact ⟨_, _, _, _, _, _, _, _, rfl, hc, hb⟩
set_option maxHeartbeats 16000000 in
set_option maxRecDepth 100000 in
theorem InsCopies_walk {P : Nat → Prop} (f : FuI) (fa fb fd fe : Value) (w : World) (h : Hid (FuV P w f fa fb fd fe)) (hq : Hid (FuQ f)) (hcq : Hid (CpQ f)) (hcap : Hid (∀ A n cap, fb = .slice A n cap → n ≤ cap ∧ cap ≤ maxLen)) :
    Calls Try.prog 6 #[fuL fa fb f.ret fd fe] w fun e w' => e = .returned (.bool true) ∧ Below w.heap.size w w' := by
  obtain ⟨R, rcap, hR⟩ := h.out.a.shape
  subst hR
  obtain ⟨S, scap, hS⟩ := h.out.b.shape
  subst hS
  obtain ⟨D, dcap, hD⟩ := h.out.d.shape
  subst hD
  obtain ⟨E, ecap, hE⟩ := h.out.e.shape
  subst hE
  by_cases q0 : (30000 : Int) < f.code.length
  ·
    go_enter Try.func6, Try.ntmps6
    go_wp2_with fail
    with_reducible refine (holds_any _).mono ?_
    rintro e w1 ⟨rfl, hb⟩
    have hF : FBox w1 w.heap.size (.slice R f.regs.length rcap) (.slice S f.params.length scap) f.ret (.slice D f.code.length dcap) (.slice E f.rows.length ecap) := heap_keep (heap_alloc_new w _) hb
    have HB1 := lhid (((Below.refl w.heap.size w).alloc (Nat.le_refl _) _).trans (hb.mono (by simp)))
    have hs01 : w.heap.size < w1.heap.size := heap_lt hF
    obtain ⟨p0, p1, p2, p3, p4⟩ := hF.cells
    have HF1 := lhid hF
    clear hb hF
    go_wp2_with fail
    go_ret
    exact ⟨rfl, HB1.out⟩
  by_cases q1 : (30000 : Int) < f.regs.length
  ·
    go_enter Try.func6, Try.ntmps6
    go_wp2_with fail
    with_reducible refine (holds_any _).mono ?_
    rintro e w1 ⟨rfl, hb⟩
    have hF : FBox w1 w.heap.size (.slice R f.regs.length rcap) (.slice S f.params.length scap) f.ret (.slice D f.code.length dcap) (.slice E f.rows.length ecap) := heap_keep (heap_alloc_new w _) hb
    have HB1 := lhid (((Below.refl w.heap.size w).alloc (Nat.le_refl _) _).trans (hb.mono (by simp)))
    have hs01 : w.heap.size < w1.heap.size := heap_lt hF
    obtain ⟨p0, p1, p2, p3, p4⟩ := hF.cells
    have HF1 := lhid hF
    clear hb hF
    go_wp2_with fail
    go_ret
    exact ⟨rfl, HB1.out⟩
  have HL : Hid (f.regs.length ≤ 140737488355328 ∧ f.params.length ≤ 140737488355328 ∧ f.code.length ≤ 140737488355328 ∧ f.rows.length ≤ 140737488355328 ∧ ∀ x ∈ f.code, x.args.length ≤ 140737488355328) := lhid (by
    have h1 := hcq.out.regs
    have h2 := hcq.out.params
    have h3 := hcq.out.code
    have h4 := hcq.out.rows
    exact ⟨by omega, by omega, by omega, by omega, fun x hx => by have := hcq.out.args x hx; omega⟩)
  obtain ⟨c, hc⟩ : ∃ c, chkN f = c := ⟨_, rfl⟩
  have HC := lhid hc
  clear hc
  go_enter Try.func6, Try.ntmps6
  go_wp2_with fail
  with_reducible refine (holds_any _).mono ?_
  rintro e w1 ⟨rfl, hb⟩
  have hF : FBox w1 w.heap.size (.slice R f.regs.length rcap) (.slice S f.params.length scap) f.ret (.slice D f.code.length dcap) (.slice E f.rows.length ecap) := heap_keep (heap_alloc_new w _) hb
  have HB1 := lhid (((Below.refl w.heap.size w).alloc (Nat.le_refl _) _).trans (hb.mono (by simp)))
  have hs01 : w.heap.size < w1.heap.size := heap_lt hF
  obtain ⟨p0, p1, p2, p3, p4⟩ := hF.cells
  have HF1 := lhid hF
  clear hb hF
  have HV1 : Hid (FuV (fun b => b < w.heap.size) w1 f (.slice R f.regs.length rcap) (.slice S f.params.length scap) (.slice D f.code.length dcap) (.slice E f.rows.length ecap)) := lhid (h.out.lt.below HB1.out)
  go_wp2_with fail
  with_reducible refine (copy_r f (.slice R f.regs.length rcap) (.slice S f.params.length scap) (.slice D f.code.length dcap) (.slice E f.rows.length ecap) _ HV1 hcq).mono ?_
  rintro e w2 ⟨GR, grc, GS, gsc, GD, gdc, GE, gec, rfl, hcp, hb⟩
  have HCP := lhid hcp
  have HB2 := lhid (HB1.out.trans (hb.mono HB1.out.size))
  have HF2 : Hid (FBox w2 w.heap.size (.slice R f.regs.length rcap) (.slice S f.params.length scap) f.ret (.slice D f.code.length dcap) (.slice E f.rows.length ecap)) := lhid (heap_keep HF1.out hb)
  have HV2 := lhid (HV1.out.below hb)
  have hs12 : w1.heap.size ≤ w2.heap.size := hb.size
  clear hcp hb p0 p1 p2 p3 p4 HB1 HF1 HV1
  go_upto_region 6 with fail
  generalize hW : World.alloc _ _ = w3
  obtain ⟨B2, hB2⟩ : ∃ B, B = w2.heap.size := ⟨_, rfl⟩
  have h23 : Below w2.heap.size w2 w3 := by rw [← hW]; exact (Below.refl _ _).alloc (Nat.le_refl _) _
  have HG3 : Hid (FBox w3 B2 (.slice GR f.regs.length grc) (.slice GS f.params.length gsc) f.ret (.slice GD f.code.length gdc) (.slice GE f.rows.length gec)) := lhid (by rw [← hW, hB2]; exact heap_alloc_new w2 _)
  rw [← hB2]
  have HBB := lhid hB2
  have HB3 := lhid (HB2.out.trans (h23.mono HB2.out.size))
  have HF3 : Hid (FBox w3 w.heap.size (.slice R f.regs.length rcap) (.slice S f.params.length scap) f.ret (.slice D f.code.length dcap) (.slice E f.rows.length ecap)) := lhid (heap_keep HF2.out h23)
  have HV3 := lhid (HV2.out.below h23)
  have H23 := lhid h23
  have HCP3 : Hid (FuV (fun b => w1.heap.size ≤ b) w3 f (.slice GR f.regs.length grc) (.slice GS f.params.length gsc) (.slice GD f.code.length gdc) (.slice GE f.rows.length gec)) := lhid ((HCP.out.below h23).fu HL.out.1 HL.out.2.1 HL.out.2.2.1 HL.out.2.2.2.1 HL.out.2.2.2.2)
  have HCAPG : Hid (∀ A n cap, (Value.slice GS f.params.length gsc) = .slice A n cap → n ≤ cap ∧ cap ≤ maxLen) := lhid (own_cap HCP.out.b)
  clear hW h23 HB2 HF2 HV2 hB2
  obtain ⟨q0', q1', q2', q3', q4'⟩ := HG3.out.cells
  go_wp2_with fail
  with_reducible refine (copy_r f (.slice GR f.regs.length grc) (.slice GS f.params.length gsc) (.slice GD f.code.length gdc) (.slice GE f.rows.length gec) _ HCP3 hcq).mono ?_
  rintro e w4 ⟨HR, hrc, HS, hsc, HD, hdc, HE, hec, rfl, hcp, hb⟩
  have HCH := lhid hcp
  have HB4 := lhid (HB3.out.trans (hb.mono HB3.out.size))
  have HF4 : Hid (FBox w4 w.heap.size (.slice R f.regs.length rcap) (.slice S f.params.length scap) f.ret (.slice D f.code.length dcap) (.slice E f.rows.length ecap)) := lhid (heap_keep HF3.out hb)
  have HG4 : Hid (FBox w4 B2 (.slice GR f.regs.length grc) (.slice GS f.params.length gsc) f.ret (.slice GD f.code.length gdc) (.slice GE f.rows.length gec)) := lhid (heap_keep HG3.out hb)
  have HV4 := lhid (HV3.out.below hb)
  have HVG4 := lhid (HCP3.out.below hb)
  have H24 := lhid (H23.out.trans (hb.mono H23.out.size))
  have hs34 : w3.heap.size ≤ w4.heap.size := hb.size
  have hs23 : w2.heap.size < w3.heap.size := by have := heap_lt HG3.out; rw [HBB.out] at this; exact this
  clear hcp hb q0' q1' q2' q3' q4' HB3 HF3 HG3 HV3 HCP3 H23
  go_upto_region 7 with fail
  generalize hW : World.alloc _ _ = w5
  obtain ⟨B4, hB4⟩ : ∃ B, B = w4.heap.size := ⟨_, rfl⟩
  have h45 : Below w4.heap.size w4 w5 := by rw [← hW]; exact (Below.refl _ _).alloc (Nat.le_refl _) _
  have HH5 : Hid (FBox w5 B4 (.slice HR f.regs.length hrc) (.slice HS f.params.length hsc) f.ret (.slice HD f.code.length hdc) (.slice HE f.rows.length hec)) := lhid (by rw [← hW, hB4]; exact heap_alloc_new w4 _)
  rw [← hB4]
  have HBH := lhid hB4
  have HB5 := lhid (HB4.out.trans (h45.mono HB4.out.size))
  have HF5 : Hid (FBox w5 w.heap.size (.slice R f.regs.length rcap) (.slice S f.params.length scap) f.ret (.slice D f.code.length dcap) (.slice E f.rows.length ecap)) := lhid (heap_keep HF4.out h45)
  have HG5 : Hid (FBox w5 B2 (.slice GR f.regs.length grc) (.slice GS f.params.length gsc) f.ret (.slice GD f.code.length gdc) (.slice GE f.rows.length gec)) := lhid (heap_keep HG4.out h45)
  have HV5 := lhid (HV4.out.below h45)
  have HVG5 := lhid (HVG4.out.below h45)
  have H25 := lhid (H24.out.trans (h45.mono H24.out.size))
  have HVH5 : Hid (FuV (fun b => w3.heap.size ≤ b) w5 f (.slice HR f.regs.length hrc) (.slice HS f.params.length hsc) (.slice HD f.code.length hdc) (.slice HE f.rows.length hec)) := lhid ((HCH.out.below h45).fu HL.out.1 HL.out.2.1 HL.out.2.2.1 HL.out.2.2.2.1 HL.out.2.2.2.2)
  clear hW h45 HB4 HF4 HG4 HV4 HVG4 H24 hB4 HCH
  have HGG : Hid (∀ w' : World, Below w5.heap.size w5 w' → (w'.cell? ⟨w.heap.size, 0, none⟩ = some ((.slice R f.regs.length rcap)) ∧ w'.cell? ⟨w.heap.size, 1, none⟩ = some ((.slice S f.params.length scap)) ∧ w'.cell? ⟨w.heap.size, 2, none⟩ = some (.int .i64 f.ret) ∧ w'.cell? ⟨w.heap.size, 3, none⟩ = some ((.slice D f.code.length dcap)) ∧ w'.cell? ⟨w.heap.size, 4, none⟩ = some ((.slice E f.rows.length ecap))) ∧ (w'.cell? ⟨B2, 0, none⟩ = some ((.slice GR f.regs.length grc)) ∧ w'.cell? ⟨B2, 1, none⟩ = some ((.slice GS f.params.length gsc)) ∧ w'.cell? ⟨B2, 2, none⟩ = some (.int .i64 f.ret) ∧ w'.cell? ⟨B2, 3, none⟩ = some ((.slice GD f.code.length gdc)) ∧ w'.cell? ⟨B2, 4, none⟩ = some ((.slice GE f.rows.length gec)))) := lhid (fun w' hw' => by
    have h1 : FBox w' w.heap.size (.slice R f.regs.length rcap) (.slice S f.params.length scap) f.ret (.slice D f.code.length dcap) (.slice E f.rows.length ecap) := heap_keep HF5.out hw'
    have h2 : FBox w' B2 (.slice GR f.regs.length grc) (.slice GS f.params.length gsc) f.ret (.slice GD f.code.length gdc) (.slice GE f.rows.length gec) := heap_keep HG5.out hw'
    exact ⟨h1.cells, h2.cells⟩)
  go_cut [36] from 26 (fun t36 wc => t36 = .bool false ∧ Hid (Below w5.heap.size w5 wc))
  case first =>
    refine wp_region_quiet_c (C := fun w' => Below w5.heap.size w5 w') (by kernel_rfl) (by kernel_rfl) (Below.drew' (Below.refl _ _)) ?_
    repeat (first
      | go_big_quiet_skip
      | (go_big_quiet_want
         first
           | (refine quiet_of_run (v := ?_) (fun w' hw' => ?_) ?_
              rotate_left
              · (obtain ⟨⟨p0, p1, p2, p3, p4⟩, g0, g1, g2, g3, g4⟩ := HGG.out w' hw'; go_simp; try with_reducible rfl)
              go_big_quiet_on
              try simp only [Act.put, List.setIfInBounds_toArray, List.set_cons_zero, List.set_cons_succ])
           | (refine quiet_of_call (v := .bool true) (f := 33) (args := #[fuL (.slice R f.regs.length rcap) (.slice S f.params.length scap) f.ret (.slice D f.code.length dcap) (.slice E f.rows.length ecap), fuL (.slice GR f.regs.length grc) (.slice GS f.params.length gsc) f.ret (.slice GD f.code.length gdc) (.slice GE f.rows.length gec)]) (fun w' hw' => ?_) (fun w' hw' => ?_) ?_
              · (obtain ⟨⟨p0, p1, p2, p3, p4⟩, g0, g1, g2, g3, g4⟩ := HGG.out w' hw'; go_simp; done)
              · (refine (rsame_t f (.slice R f.regs.length rcap) (.slice S f.params.length scap) (.slice D f.code.length dcap) (.slice E f.rows.length ecap) (.slice GR f.regs.length grc) (.slice GS f.params.length gsc) (.slice GD f.code.length gdc) (.slice GE f.rows.length gec) w' (lhid (HV5.out.below hw')) (lhid (HVG5.out.below hw'))).mono ?_
                 rintro e w9 ⟨rfl, hb9⟩
                 exact ⟨rfl, hw'.trans (Below.less hb9 hw'.size)⟩)
              go_big_quiet_on
              try simp only [Act.put, List.setIfInBounds_toArray, List.set_cons_zero, List.set_cons_succ])
           | (refine quiet_of_call (v := .int .i64 c) (f := 28) (args := #[fuL (.slice R f.regs.length rcap) (.slice S f.params.length scap) f.ret (.slice D f.code.length dcap) (.slice E f.rows.length ecap)]) (fun w' hw' => ?_) (fun w' hw' => ?_) ?_
              · (obtain ⟨⟨p0, p1, p2, p3, p4⟩, g0, g1, g2, g3, g4⟩ := HGG.out w' hw'; go_simp; done)
              · (refine (check_r f (.slice R f.regs.length rcap) (.slice S f.params.length scap) (.slice D f.code.length dcap) (.slice E f.rows.length ecap) c w' (lhid (HV5.out.below hw')) hq hcap HC).mono ?_
                 rintro e w9 ⟨rfl, hb9⟩
                 exact ⟨rfl, hw'.trans (Below.less hb9 hw'.size)⟩)
              go_big_quiet_on
              try simp only [Act.put, List.setIfInBounds_toArray, List.set_cons_zero, List.set_cons_succ])
           | (refine quiet_of_call (v := .int .i64 c) (f := 28) (args := #[fuL (.slice GR f.regs.length grc) (.slice GS f.params.length gsc) f.ret (.slice GD f.code.length gdc) (.slice GE f.rows.length gec)]) (fun w' hw' => ?_) (fun w' hw' => ?_) ?_
              · (obtain ⟨⟨p0, p1, p2, p3, p4⟩, g0, g1, g2, g3, g4⟩ := HGG.out w' hw'; go_simp; done)
              · (refine (check_r f (.slice GR f.regs.length grc) (.slice GS f.params.length gsc) (.slice GD f.code.length gdc) (.slice GE f.rows.length gec) c w' (lhid (HVG5.out.below hw')) hq HCAPG HC).mono ?_
                 rintro e w9 ⟨rfl, hb9⟩
                 exact ⟨rfl, hw'.trans (Below.less hb9 hw'.size)⟩)
              go_big_quiet_on
              try simp only [Act.put, List.setIfInBounds_toArray, List.set_cons_zero, List.set_cons_succ])))
    refine wpQuiet_nil ?_
    intro wx hwx
    have HWX := lhid hwx
    clear hwx
    go_wp2_with fail
    go_meet
    case rel => exact ⟨rfl, HWX⟩
  obtain ⟨rfl, hcut⟩ := hcut
  obtain ⟨w7, hw7⟩ : ∃ w7, w7 = wc := ⟨_, rfl⟩
  subst hw7
  have HB7 := lhid (HB5.out.trans (hcut.out.mono HB5.out.size))
  have HF7 : Hid (FBox w7 w.heap.size (.slice R f.regs.length rcap) (.slice S f.params.length scap) f.ret (.slice D f.code.length dcap) (.slice E f.rows.length ecap)) := lhid (heap_keep HF5.out hcut.out)
  have HG7 : Hid (FBox w7 B2 (.slice GR f.regs.length grc) (.slice GS f.params.length gsc) f.ret (.slice GD f.code.length gdc) (.slice GE f.rows.length gec)) := lhid (heap_keep HG5.out hcut.out)
  have HH7 : Hid (FBox w7 B4 (.slice HR f.regs.length hrc) (.slice HS f.params.length hsc) f.ret (.slice HD f.code.length hdc) (.slice HE f.rows.length hec)) := lhid (heap_keep HH5.out hcut.out)
  have HV7 := lhid (HV5.out.below hcut.out)
  have HVH7 := lhid (HVH5.out.below hcut.out)
  have HM7 : Hid (MuS w.heap.size w1.heap.size B2 w w7 (.slice GR f.regs.length grc) (.slice GS f.params.length gsc) (.slice GD f.code.length gdc) (.slice GE f.rows.length gec) f.regs.length f.params.length f.code.length f.rows.length w7) := lhid (MuS.start HCP.out HBB.out.symm (H25.out.trans (hcut.out.mono H25.out.size)) HB7.out)
  have hs72 : B2 < w7.heap.size := heap_lt HG7.out
  have hs74 : B4 < w7.heap.size := heap_lt HH7.out
  have hs24 : B2 ≤ B4 := by have h1 := HBB.out; have h2 := HBH.out; omega
  have hs70 : w.heap.size < w7.heap.size := heap_lt HF7.out
  have hsb1 : w.heap.size < w1.heap.size := hs01
  have hsb2 : w1.heap.size ≤ B2 := by have h1 := HBB.out; omega
  have HKF : Hid (∀ wr, MuS w.heap.size w1.heap.size B2 w w7 (.slice GR f.regs.length grc) (.slice GS f.params.length gsc) (.slice GD f.code.length gdc) (.slice GE f.rows.length gec) f.regs.length f.params.length f.code.length f.rows.length wr → FBox wr w.heap.size (.slice R f.regs.length rcap) (.slice S f.params.length scap) f.ret (.slice D f.code.length dcap) (.slice E f.rows.length ecap) ∧ FBox wr B2 (.slice GR f.regs.length grc) (.slice GS f.params.length gsc) f.ret (.slice GD f.code.length gdc) (.slice GE f.rows.length gec) ∧ FBox wr B4 (.slice HR f.regs.length hrc) (.slice HS f.params.length hsc) f.ret (.slice HD f.code.length hdc) (.slice HE f.rows.length hec)) := lhid (fun wr hm => ⟨(hm.keep _ (.inl hsb1) hs70).trans HF7.out, (hm.keep _ (.inr (Nat.le_refl _)) hs72).trans HG7.out, (hm.keep _ (.inr hs24) hs74).trans HH7.out⟩)
  clear HGG hcut HB5 HF5 HG5 HH5 HV5 HVG5 HVH5 H25 HCP
  obtain ⟨hf_, hg_, hh_⟩ := HKF.out w7 HM7.out
  obtain ⟨g0, g1, g2, g3, g4⟩ := hg_.cells
  clear hf_ hg_ hh_
  go_upto_block 0 with fail
  go_cut [] from 40 (fun wc => Hid (MuS w.heap.size w1.heap.size B2 w w7 (.slice GR f.regs.length grc) (.slice GS f.params.length gsc) (.slice GD f.code.length gdc) (.slice GE f.rows.length gec) f.regs.length f.params.length f.code.length f.rows.length wc))
  case first =>
    go_wp2_with fail
    go_loopw [40] (fun i wr => ∃ k : Nat, i = .int .i64 k ∧ k ≤ f.code.length ∧ Hid (MuS w.heap.size w1.heap.size B2 w w7 (.slice GR f.regs.length grc) (.slice GS f.params.length gsc) (.slice GD f.code.length gdc) (.slice GE f.rows.length gec) f.regs.length f.params.length f.code.length f.rows.length wr)) (fun i _ => f.code.length - (intOf i).toNat)
    case atStart => exact ⟨0, rfl, Nat.zero_le _, HM7⟩
    case round =>
      clear g0 g1 g2 g3 g4
      obtain ⟨k, rfl, hk, HM⟩ := hrel
      by_cases hlt : k < f.code.length
      ·
        obtain ⟨hf_, hg_, hh_⟩ := HKF.out wr HM.out
        obtain ⟨g0, g1, g2, g3, g4⟩ := hg_.cells
        clear hf_ hg_ hh_
        obtain ⟨gc, u, m0, hGD, hc1, hc2, ⟨u0, e0⟩, ⟨u5, e5⟩, _, _, hfz, hs1, hs2, hs3, hs4⟩ := MuS.code HM.out.d hlt
        have k3 : (k : Int) < f.code.length := by omega
        have HGD := lhid hGD
        have z0 := hfz (k * 9)
        have z5 := hfz (k * 9 + 5)
        have HS1 := lhid hs1
        have HS2 := lhid hs2
        have HS3 := lhid hs3
        have HS4 := lhid hs4
        clear hfz hs1 hs2 hs3 hs4
        rw [hGD] at g3
        go_upto_region 12 with fail
        go_cut [] from 42 to 72 (fun wc => Hid (MuS w.heap.size w1.heap.size B2 w w7 (.slice GR f.regs.length grc) (.slice GS f.params.length gsc) (.slice GD f.code.length gdc) (.slice GE f.rows.length gec) f.regs.length f.params.length f.code.length f.rows.length wc))
        case first =>
          go_region
          all_goals
            go_wp2_with fail
            go_meet
            case rel => exact lhid (by first
              | exact ((HM.out.set gc (k * 9) _ (by omega) hc1 hc2 HS1.out).set gc (k * 9 + 5) _ (by omega) hc1 hc2 (HS2.out _)).drew
              | exact ((HM.out.set gc (k * 9 + 5) _ (by omega) hc1 hc2 HS3.out).set gc (k * 9) _ (by omega) hc1 hc2 (HS4.out _)).drew
              | exact (HM.out.drew.set gc (k * 9) _ (by omega) hc1 hc2 HS1.out).set gc (k * 9 + 5) _ (by omega) hc1 hc2 (HS2.out _)
              | exact (HM.out.drew.set gc (k * 9 + 5) _ (by omega) hc1 hc2 HS3.out).set gc (k * 9) _ (by omega) hc1 hc2 (HS4.out _))
        clear g0 g1 g2 g3 g4 e0 e5 z0 z5 HS1 HS2 HS3 HS4 HM
        have HM := hcut
        clear hcut
        obtain ⟨hf_, hg_, hh_⟩ := HKF.out wc HM.out
        obtain ⟨g0, g1, g2, g3, g4⟩ := hg_.cells
        clear hf_ hg_ hh_
        obtain ⟨gc2, u2, m2, hGD2, _, _, _, _, e8, hnu, hfz, _⟩ := MuS.code HM.out.d hlt
        have hgg : gc2 = gc := by
          rw [hGD] at hGD2
          injection hGD2 with hGD2
          injection hGD2 with e
          exact e.symm
        subst hgg
        obtain ⟨UA, uc, hu, _⟩ := hnu
        subst hu
        rw [hGD] at g3
        go_wp2_with fail
        go_loopw [60] (fun i wr => ∃ j : Nat, i = .int .i64 j ∧ j ≤ m2 ∧ Hid (wr.cell? ⟨gc2, k * 9 + 8, none⟩ = some (.slice UA m2 uc)) ∧ Hid (MuS w.heap.size w1.heap.size B2 w w7 (.slice GR f.regs.length grc) (.slice GS f.params.length gsc) (.slice GD f.code.length gdc) (.slice GE f.rows.length gec) f.regs.length f.params.length f.code.length f.rows.length wr)) (fun i _ => m2 - (intOf i).toNat)
        case atStart => exact ⟨0, rfl, Nat.zero_le _, lhid e8, HM⟩
        case round =>
          clear g0 g1 g2 g3 g4 e8 HM
          obtain ⟨j, rfl, hj, HE8, HM⟩ := hrel
          obtain ⟨hf_, hg_, hh_⟩ := HKF.out wr HM.out
          obtain ⟨g0, g1, g2, g3, g4⟩ := hg_.cells
          clear hf_ hg_ hh_
          rw [hGD] at g3
          have e8 := HE8.out
          by_cases hjl : j < m2
          · have k4 : (j : Int) < m2 := by omega
            obtain ⟨gc3, u3, m3, hGD3, _, _, _, _, e83, hnu3, _⟩ := MuS.code HM.out.d hlt
            have hg3 : gc3 = gc2 := by
              rw [hGD] at hGD3
              injection hGD3 with hGD3
              injection hGD3 with e
              exact e.symm
            subst hg3
            rw [e8] at e83
            injection e83 with e83
            subst e83
            have hm3 : m3 = m2 := by
              obtain ⟨_, _, h1, _⟩ := hnu3
              injection h1 with _ h1 _
              exact h1.symm
            subst hm3
            obtain ⟨ga, hUA, ha1, ha2, ⟨u, ea⟩, za, hsp, hmx⟩ := MuS.num hnu3 hjl
            unfold maxLen at hmx
            subst hUA
            have HAP : Hid (gc3 = ga → False) := lhid (fun e => by
              subst e
              obtain ⟨_, _, h1, h2⟩ := hnu3
              obtain ⟨g', cur, h3, _, _, h4, _⟩ := h2 (by omega)
              injection h1 with h1 _ _
              rw [← h1] at h3
              injection h3 with h3
              injection h3 with h3
              obtain ⟨_, _, h5, h6⟩ := HM.out.d
              obtain ⟨g'', cur2, h7, _, _, h8, _⟩ := h6 (by omega)
              injection h5 with h5 _ _
              rw [← h5, hGD] at h7
              injection h7 with h7
              injection h7 with h7
              rw [← h3] at h4
              rw [← h7] at h8
              rw [h4] at h8
              injection h8 with h8
              injection h8 with _ h8
              exact absurd h8 (by decide))
            have HSP := lhid hsp
            clear hsp hnu3 hGD3
            go_wp2_with fail
            go_roundw
            case rel => exact ⟨j + 1, by go_num, by omega, lhid ((World.cell?_setCell_other _ _ _ _ (by intro e; injection e with e; first | exact HAP.out e | exact HAP.out e.symm)).trans HE8.out), lhid (HM.out.set ga j _ (by omega) ha1 ha2 HSP.out)⟩
            case measure => simp [intOf]; omega
          · have k4 : ¬ (j : Int) < m2 := by omega
            go_wp2_with fail
            go_roundw
            case rel => exact ⟨k + 1, by go_num, by omega, HM⟩
            case measure => simp [intOf]; omega
      · have k3 : ¬ (k : Int) < f.code.length := by omega
        go_wp2_with fail
        go_meet
        case rel => exact HM
  clear g0 g1 g2 g3 g4 HM7
  have HM7 := hcut
  clear hcut
  obtain ⟨hf_, hg_, hh_⟩ := HKF.out wc HM7.out
  obtain ⟨g0, g1, g2, g3, g4⟩ := hg_.cells
  clear hf_ hg_ hh_
  go_upto_block 4 with fail
  go_cut [] from 76 (fun wc => Hid (MuS w.heap.size w1.heap.size B2 w w7 (.slice GR f.regs.length grc) (.slice GS f.params.length gsc) (.slice GD f.code.length gdc) (.slice GE f.rows.length gec) f.regs.length f.params.length f.code.length f.rows.length wc))
  case first =>
    go_wp2_with fail
    go_loopw [76] (fun i wr => ∃ k : Nat, i = .int .i64 k ∧ k ≤ f.regs.length ∧ Hid (MuS w.heap.size w1.heap.size B2 w w7 (.slice GR f.regs.length grc) (.slice GS f.params.length gsc) (.slice GD f.code.length gdc) (.slice GE f.rows.length gec) f.regs.length f.params.length f.code.length f.rows.length wr)) (fun i _ => f.regs.length - (intOf i).toNat)
    case atStart => exact ⟨0, rfl, Nat.zero_le _, HM7⟩
    case round =>
      clear g0 g1 g2 g3 g4
      obtain ⟨k, rfl, hk, HM⟩ := hrel
      by_cases hlt : k < f.regs.length
      ·
        obtain ⟨hf_, hg_, hh_⟩ := HKF.out wr HM.out
        obtain ⟨g0, g1, g2, g3, g4⟩ := hg_.cells
        clear hf_ hg_ hh_
        obtain ⟨gn, hGN, ha1, ha2, ⟨u, ea⟩, za, hsp, _⟩ := MuS.num HM.out.a hlt
        have hlp := HL.out.2.1
        have hlr := HL.out.2.2.2.1
        have k3 : (k : Int) < f.regs.length := by omega
        have HSP := lhid hsp
        rw [hGN] at g0
        clear hsp
        go_wp2_with fail
        go_roundw
        case rel => exact ⟨k + 1, by go_num, by omega, lhid (HM.out.set gn k _ (by omega) ha1 ha2 HSP.out)⟩
        case measure => simp [intOf]; omega
      · have k3 : ¬ (k : Int) < f.regs.length := by omega
        go_wp2_with fail
        go_meet
        case rel => exact HM
  clear g0 g1 g2 g3 g4 HM7
  have HM7 := hcut
  clear hcut
  obtain ⟨hf_, hg_, hh_⟩ := HKF.out wc HM7.out
  obtain ⟨g0, g1, g2, g3, g4⟩ := hg_.cells
  clear hf_ hg_ hh_
  go_upto_block 6 with fail
  go_cut [] from 87 (fun wc => Hid (MuS w.heap.size w1.heap.size B2 w w7 (.slice GR f.regs.length grc) (.slice GS f.params.length gsc) (.slice GD f.code.length gdc) (.slice GE f.rows.length gec) f.regs.length f.params.length f.code.length f.rows.length wc))
  case first =>
    go_wp2_with fail
    go_loopw [87] (fun i wr => ∃ k : Nat, i = .int .i64 k ∧ k ≤ f.rows.length ∧ Hid (MuS w.heap.size w1.heap.size B2 w w7 (.slice GR f.regs.length grc) (.slice GS f.params.length gsc) (.slice GD f.code.length gdc) (.slice GE f.rows.length gec) f.regs.length f.params.length f.code.length f.rows.length wr)) (fun i _ => f.rows.length - (intOf i).toNat)
    case atStart => exact ⟨0, rfl, Nat.zero_le _, HM7⟩
    case round =>
      clear g0 g1 g2 g3 g4
      obtain ⟨k, rfl, hk, HM⟩ := hrel
      by_cases hlt : k < f.rows.length
      ·
        obtain ⟨hf_, hg_, hh_⟩ := HKF.out wr HM.out
        obtain ⟨g0, g1, g2, g3, g4⟩ := hg_.cells
        clear hf_ hg_ hh_
        obtain ⟨gn, hGN, ha1, ha2, ⟨u, ea⟩, za, hsp⟩ := MuS.row HM.out.e hlt
        have hlp := HL.out.2.1
        have hlr := HL.out.2.2.2.1
        have k3 : (k : Int) < f.rows.length := by omega
        have HSP := lhid hsp
        rw [hGN] at g4
        clear hsp
        go_wp2_with fail
        go_roundw
        case rel => exact ⟨k + 1, by go_num, by omega, lhid (HM.out.set gn (k * 4 + 2) _ (by omega) ha1 ha2 HSP.out)⟩
        case measure => simp [intOf]; omega
      · have k3 : ¬ (k : Int) < f.rows.length := by omega
        go_wp2_with fail
        go_meet
        case rel => exact HM
  clear g0 g1 g2 g3 g4 HM7
  have HM7 := hcut
  clear hcut
  obtain ⟨hf_, hg_, hh_⟩ := HKF.out wc HM7.out
  obtain ⟨g0, g1, g2, g3, g4⟩ := hg_.cells
  clear hf_ hg_ hh_
  go_upto_block 8 with fail
  go_cut [] from 99 (fun wc => Hid (MuS w.heap.size w1.heap.size B2 w w7 (.slice GR f.regs.length grc) (.slice GS f.params.length gsc) (.slice GD f.code.length gdc) (.slice GE f.rows.length gec) f.regs.length f.params.length f.code.length f.rows.length wc))
  case first =>
    go_wp2_with fail
    go_loopw [99] (fun i wr => ∃ k : Nat, i = .int .i64 k ∧ k ≤ f.params.length ∧ Hid (MuS w.heap.size w1.heap.size B2 w w7 (.slice GR f.regs.length grc) (.slice GS f.params.length gsc) (.slice GD f.code.length gdc) (.slice GE f.rows.length gec) f.regs.length f.params.length f.code.length f.rows.length wr)) (fun i _ => f.params.length - (intOf i).toNat)
    case atStart => exact ⟨0, rfl, Nat.zero_le _, HM7⟩
    case round =>
      clear g0 g1 g2 g3 g4
      obtain ⟨k, rfl, hk, HM⟩ := hrel
      by_cases hlt : k < f.params.length
      ·
        obtain ⟨hf_, hg_, hh_⟩ := HKF.out wr HM.out
        obtain ⟨g0, g1, g2, g3, g4⟩ := hg_.cells
        clear hf_ hg_ hh_
        obtain ⟨gn, hGN, ha1, ha2, ⟨u, ea⟩, za, hsp, _⟩ := MuS.num HM.out.b hlt
        have hlp := HL.out.2.1
        have hlr := HL.out.2.2.2.1
        have k3 : (k : Int) < f.params.length := by omega
        have HSP := lhid hsp
        rw [hGN] at g1
        clear hsp
        go_wp2_with fail
        go_roundw
        case rel => exact ⟨k + 1, by go_num, by omega, lhid (HM.out.set gn k _ (by omega) ha1 ha2 HSP.out)⟩
        case measure => simp [intOf]; omega
      · have k3 : ¬ (k : Int) < f.params.length := by omega
        go_wp2_with fail
        go_meet
        case rel => exact HM
  clear g0 g1 g2 g3 g4 HM7
  have HM7 := hcut
  clear hcut
  obtain ⟨hf_, hg_, hh_⟩ := HKF.out wc HM7.out
  obtain ⟨p0, p1, p2, p3, p4⟩ := hf_.cells
  obtain ⟨r0, r1, r2, r3, r4⟩ := hh_.cells
  clear hf_ hg_ hh_
  have HVF : Hid (FuV (fun b => b < w.heap.size) wc f (.slice R f.regs.length rcap) (.slice S f.params.length scap) (.slice D f.code.length dcap) (.slice E f.rows.length ecap)) := lhid (HV7.out.kept fun b hb hl => HM7.out.keep b (.inl (by omega)) hl)
  have HVH : Hid (FuV (fun b => w3.heap.size ≤ b) wc f (.slice HR f.regs.length hrc) (.slice HS f.params.length hsc) (.slice HD f.code.length hdc) (.slice HE f.rows.length hec)) := lhid (HVH7.out.kept fun b hb hl => HM7.out.keep b (.inr (by have h1 := HBB.out; omega)) hl)
  go_wp2_with fail
  with_reducible refine (rsame_t f (.slice R f.regs.length rcap) (.slice S f.params.length scap) (.slice D f.code.length dcap) (.slice E f.rows.length ecap) (.slice HR f.regs.length hrc) (.slice HS f.params.length hsc) (.slice HD f.code.length hdc) (.slice HE f.rows.length hec) _ HVF HVH).mono ?_
  rintro e w9 ⟨rfl, hb⟩
  have HB9 := lhid (HM7.out.below.trans (hb.mono HM7.out.below.size))
  clear hb
  go_wp2_with fail
  go_ret
  exact ⟨rfl, HB9.out⟩
end Go.Proofs.Ythaijdcgmcfpiaa
