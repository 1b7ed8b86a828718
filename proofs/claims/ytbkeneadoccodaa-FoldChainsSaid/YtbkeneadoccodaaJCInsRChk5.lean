/- Contract of the document's Check: it answers as the program's. -/
import Derived.Test.YtbkeneadoccodaaJCInsRChk4
import Derived.Test.YtbkeneadoccodaaM8
import Derived.Deep.Cut
import Derived.Deep.CutRange
import Derived.Deep.CutBlock
namespace Go.Proofs.Ytbkeneadoccodaa
open Go.RowKit Go
set_option linter.unusedVariables false
set_option linter.unusedSimpArgs false
theorem rone_r {P Q : Nat → Prop} (rs : List Int) (fa fb : Value) (ret : Int) (D : Option Addr) (n dcap : Nat) (fe : Value) (x : InI) (v : Value) (z : Bool) (w : World) (h : Hid (RdX P 1 NuE w fa rs)) (hv : Hid (RdX Q 1 NuE w v x.args)) (hr : Hid (x.ref.length ≤ maxLen)) (hz : Hid (oneD rs ret n x = z)) :
  Calls Try.prog 24 #[fuL fa fb ret (.slice D n dcap) fe, inA x v] w fun e w' => e = .returned (.bool z) ∧ Below w.heap.size w w' := by
 have := rone_any rs fa fb ret D n dcap fe x v w h hv hr
 rwa [hz.out] at this
theorem rends_r (c : Int) (z : Bool) (w : World) (hz : Hid (endsB c = z)) : Calls Try.prog 21 #[.int .i64 c] w fun e w' => e = .returned (.bool z) ∧ Below w.heap.size w w' := by
 have := rends_any c w
 rwa [hz.out] at this
theorem rleads_r (c : Int) (z : Bool) (w : World) (hz : Hid (leadsB c = z)) : Calls Try.prog 25 #[.int .i64 c] w fun e w' => e = .returned (.bool z) ∧ Below w.heap.size w w' := by
 have := rleads_any c w
 rwa [hz.out] at this
theorem chk80 {f : FuI} (h : checkB f = false) : chkN f = 80 := by unfold chkN; rw [h]; rfl
theorem chk0 {f : FuI} (h : checkB f = true) : chkN f = 0 := by unfold chkN; rw [h]; rfl
theorem chk_regs {f : FuI} (h : regsB f = false) : chkN f = 80 := chk80 (by unfold checkB; rw [h]; rfl)
theorem chk_code {f : FuI} (h : codeB f = false) : chkN f = 80 := chk80 (by unfold checkB; rw [h]; simp)
theorem chk_rows {f : FuI} (h : rowsB f = false) : chkN f = 80 := chk80 (by unfold checkB; rw [h]; simp)
theorem oneB_eq {f : FuI} (hk : KR f.regs) (hret : 0 ≤ f.ret) (i : Nat) (x : InI) : oneB f i x = (oneD f.regs f.ret f.code.length x && (!leadsB x.op || !(opAt f.code x.too == 32)) && (!(x.op == 32) || (!(i == 0) && endsB (opAt f.code ((i : Int) - 1))))) := by
 rw [one_eq hk hret]
 unfold oneB oneP placeB
 cases leadsB x.op <;> cases (decide (1 ≤ x.op) && decide (x.op ≤ 33) && kindsB f.regs x && restB f.regs f.ret x) <;> simp [Bool.and_assoc]
set_option maxHeartbeats 16000000 in
set_option maxRecDepth 100000 in
theorem rcheck_any {P : Nat → Prop} (f : FuI) (fa fb fd fe : Value) (w : World) (h : Hid (FuV P w f fa fb fd fe)) (hq : Hid (FuQ f)) (hcap : Hid (∀ A n cap, fb = .slice A n cap → n ≤ cap ∧ cap ≤ maxLen)) :
    Calls Try.prog 9 #[fuL fa fb f.ret fd fe] w fun e w' => e = .returned (.int .i64 (chkN f)) ∧ Below w.heap.size w w' := by
  obtain ⟨R, rcap, hR⟩ := h.out.a.shape
  subst hR
  obtain ⟨S, scap, hS⟩ := h.out.b.shape
  subst hS
  obtain ⟨D, dcap, hD⟩ := h.out.d.shape
  subst hD
  obtain ⟨E, ecap, hE⟩ := h.out.e.shape
  subst hE
  have hrl := h.out.a.len
  have hsl := h.out.b.len
  have hdl := h.out.d.len
  have hel := h.out.e.len
  obtain ⟨hc1, hc2⟩ := hcap.out _ _ _ rfl
  unfold maxLen at hc2
  clear hcap
  obtain ⟨n, hn⟩ : ∃ n, f.code.length = n := ⟨_, rfl⟩
  have HN := lhid hn
  rw [hn] at hdl h ⊢
  clear hn
  obtain ⟨z, hz⟩ : ∃ z, chkN f = z := ⟨_, rfl⟩
  have HC := lhid hz
  rw [hz]
  clear hz
  by_cases b1 : n = 0
  ·
    have hz : z = 80 := by rw [← HC.out]; exact chk_code (by unfold codeB; rw [HN.out, decide_eq_false (show ¬ 1 ≤ n by omega)]; rfl)
    subst hz
    clear HC
    subst b1
    go_enter Try.func9, Try.ntmps9
    go_wp2_with fail
    go_ret
    exact ⟨rfl, (Below.refl w.heap.size w).alloc (Nat.le_refl _) _⟩
  have b1i : ((n : Int) == 0) = false := by rw [beq_eq_false_iff_ne]; omega
  by_cases b2 : 20000 < n
  ·
    have hz : z = 80 := by rw [← HC.out]; exact chk_code (by unfold codeB; rw [HN.out, decide_eq_false (show ¬ n ≤ 20000 by omega)]; simp)
    subst hz
    clear HC
    have b2i : (20000 : Int) < n := by omega
    clear b2 b1
    go_enter Try.func9, Try.ntmps9
    go_wp2_with fail
    go_ret
    exact ⟨rfl, (Below.refl w.heap.size w).alloc (Nat.le_refl _) _⟩
  have b2i : ¬ (20000 : Int) < n := by omega
  by_cases b3 : 20000 < f.regs.length
  ·
    have hz : z = 80 := by rw [← HC.out]; exact chk_regs (by unfold regsB; rw [decide_eq_false (show ¬ f.regs.length ≤ 20000 by omega)]; simp)
    subst hz
    clear HC
    have b3i : (20000 : Int) < f.regs.length := by omega
    clear b3 b2 b1
    go_enter Try.func9, Try.ntmps9
    go_wp2_with fail
    go_ret
    exact ⟨rfl, (Below.refl w.heap.size w).alloc (Nat.le_refl _) _⟩
  have b3i : ¬ (20000 : Int) < f.regs.length := by omega
  by_cases b4 : 21 < f.params.length
  ·
    have hz : z = 80 := by rw [← HC.out]; exact chk_regs (by unfold regsB; rw [decide_eq_false (show ¬ f.params.length ≤ 21 by omega)]; simp)
    subst hz
    clear HC
    have b4i : (21 : Int) < f.params.length := by omega
    clear b4 b3 b2 b1
    go_enter Try.func9, Try.ntmps9
    go_wp2_with fail
    go_ret
    exact ⟨rfl, (Below.refl w.heap.size w).alloc (Nat.le_refl _) _⟩
  have b4i : ¬ (21 : Int) < f.params.length := by omega
  by_cases b5 : f.ret < 0
  ·
    have hz : z = 80 := by rw [← HC.out]; exact chk_regs (by unfold regsB isKindB; rw [show ((decide (1 ≤ f.ret) && decide (f.ret ≤ 3)) || f.ret == 0) = false from by rw [decide_eq_false (show ¬ 1 ≤ f.ret by omega), beq_eq_false_iff_ne.2 (show ¬ f.ret = 0 by omega)]; rfl]; simp)
    subst hz
    clear HC
    clear b4 b3 b2 b1
    go_enter Try.func9, Try.ntmps9
    go_wp2_with fail
    go_ret
    exact ⟨rfl, (Below.refl w.heap.size w).alloc (Nat.le_refl _) _⟩
  by_cases b6 : 3 < f.ret
  ·
    have hz : z = 80 := by rw [← HC.out]; exact chk_regs (by unfold regsB isKindB; rw [show ((decide (1 ≤ f.ret) && decide (f.ret ≤ 3)) || f.ret == 0) = false from by rw [decide_eq_false (show ¬ f.ret ≤ 3 by omega), beq_eq_false_iff_ne.2 (show ¬ f.ret = 0 by omega)]; simp]; simp)
    subst hz
    clear HC
    clear b4 b3 b2 b1
    go_enter Try.func9, Try.ntmps9
    go_wp2_with fail
    go_ret
    exact ⟨rfl, (Below.refl w.heap.size w).alloc (Nat.le_refl _) _⟩
  have HRET : Hid ((isKindB f.ret || f.ret == 0) = true) := lhid (by
    unfold isKindB
    by_cases e : f.ret = 0
    · rw [e]; rfl
    · rw [decide_eq_true (show 1 ≤ f.ret by omega), decide_eq_true (show f.ret ≤ 3 by omega)]; rfl)
  have HR0 : Hid (0 ≤ f.ret) := lhid (by omega)
  have HLN : Hid (f.regs.length ≤ 20000 ∧ f.params.length ≤ 21 ∧ 1 ≤ n ∧ n ≤ 20000) := lhid (by omega)
  have hd := h.out.d
  obtain ⟨xl, hxl⟩ : ∃ x, f.code[n - 1]? = some x := ⟨_, List.getElem?_eq_getElem (by have := HN.out; omega)⟩
  have hlast : opAt f.code ((f.code.length : Int) - 1) = xl.op := by rw [HN.out, show (n : Int) - 1 = ((n - 1 : Nat) : Int) by omega]; exact opAt_some hxl
  obtain ⟨g, o, v, hD, _, _, c0, _⟩ := in_cells hd hxl
  subst hD
  have hg : g < w.heap.size := cell_lt c0
  have hg2 : ¬ g = w.heap.size := by omega
  have n1 : 1 ≤ n := by omega
  obtain ⟨ze, hze⟩ : ∃ z, endsB xl.op = z := ⟨_, rfl⟩
  have HZE := lhid hze
  have HLST := lhid (hlast ▸ hze : endsB (opAt f.code ((f.code.length : Int) - 1)) = ze)
  clear hxl hlast hze hd b1 b2 b3 b4
  cases ze with
  | false =>
    have hz : z = 80 := by rw [← HC.out]; exact chk_code (by unfold codeB; rw [HLST.out]; simp)
    subst hz
    clear HC
    go_enter Try.func9, Try.ntmps9
    go_wp2_with fail
    with_reducible refine (rends_r xl.op false _ HZE).mono ?_
    rintro e w1 ⟨rfl, hb⟩
    have HB1 := lhid (((Below.refl w.heap.size w).alloc (Nat.le_refl _) _).trans (hb.mono (by simp)))
    clear hb
    go_wp2_with fail
    go_ret
    exact ⟨rfl, HB1.out⟩
  | true =>
    go_enter Try.func9, Try.ntmps9
    go_wp2_with fail
    with_reducible refine (rends_r xl.op true _ HZE).mono ?_
    rintro e w1 ⟨rfl, hb⟩
    have hF : FBox w1 w.heap.size (.slice R f.regs.length rcap) (.slice S f.params.length scap) f.ret (.slice (some ⟨g, o, none⟩) n dcap) (.slice E f.rows.length ecap) := heap_keep (heap_alloc_new w _) hb
    obtain ⟨p0, p1, p2, p3, p4⟩ := hF.cells
    have HF := lhid hF
    have HB := lhid (((Below.refl w.heap.size w).alloc (Nat.le_refl _) _).trans (hb.mono (by simp)))
    clear hb hF c0
    go_upto_block 0 with fail
    go_cut [] from 52 (fun wc => Hid (f.regs.all isKindB = true) ∧ Hid (Below w.heap.size w wc) ∧ Hid (FBox wc w.heap.size (.slice R f.regs.length rcap) (.slice S f.params.length scap) f.ret (.slice (some ⟨g, o, none⟩) n dcap) (.slice E f.rows.length ecap)))
    case first =>
      go_wp2_with fail
      go_loopw [4] (fun i wr => ∃ k : Nat, i = .int .i64 k ∧ k ≤ f.regs.length ∧ Hid (∀ (i : Nat) z, i < k → f.regs[i]? = some z → isKindB z = true) ∧ wr = w1) (fun i _ => f.regs.length - (intOf i).toNat)
      case atStart => exact ⟨0, rfl, Nat.zero_le _, lhid (fun i z hi => absurd hi (by omega)), rfl⟩
      case round =>
        obtain ⟨k, rfl, hk, HP, rfl⟩ := hrel
        by_cases hlt : k < f.regs.length
        · obtain ⟨x, hx⟩ : ∃ x, f.regs[k]? = some x := ⟨_, List.getElem?_eq_getElem hlt⟩
          obtain ⟨gr, og, hRR, _, c0⟩ := rd_cell (h.out.a.below (keptX_nu _) HB.out) hx
          subst hRR
          have k3 : (k : Int) < f.regs.length := by omega
          have HX := lhid hx
          clear hx
          by_cases x1 : x < 1
          · have hz : z = 80 := by
              rw [← HC.out]
              refine chk_regs ?_
              unfold regsB
              rw [all_bad HX.out (by unfold isKindB; rw [decide_eq_false (show ¬ 1 ≤ x by omega)]; rfl)]
              simp
            subst hz
            go_wp2_with fail
            go_ret
            exact ⟨rfl, HB.out⟩
          by_cases x2 : 3 < x
          · have hz : z = 80 := by
              rw [← HC.out]
              refine chk_regs ?_
              unfold regsB
              rw [all_bad HX.out (by unfold isKindB; rw [decide_eq_false (show ¬ x ≤ 3 by omega)]; simp)]
              simp
            subst hz
            go_wp2_with fail
            go_ret
            exact ⟨rfl, HB.out⟩
          have HM2 : Hid (∀ (i : Nat) z, i < k + 1 → f.regs[i]? = some z → isKindB z = true) := lhid (fun i z hi hz => by
            rcases Nat.lt_or_ge i k with h | h
            · exact HP.out i z h hz
            · have e : i = k := by omega
              subst e
              rw [HX.out] at hz
              rw [← Option.some.inj hz]
              unfold isKindB
              rw [decide_eq_true (show 1 ≤ x by omega), decide_eq_true (show x ≤ 3 by omega)]
              rfl)
          go_wp2_with fail
          go_roundw
          case rel => exact ⟨k + 1, by go_num, by omega, HM2, trivial⟩
          case measure => simp [intOf]; omega
        · have k3 : ¬ (k : Int) < f.regs.length := by omega
          have HAL := lhid (all_of (p := isKindB) (l := f.regs) (fun i z hi hz => HP.out i z (by omega) hz))
          go_wp2_with fail
          go_meet
          case rel => exact ⟨HAL, HB, HF⟩
    clear HB HF p0 p1 p2 p3 p4
    obtain ⟨HAL, HB, HF⟩ := hcut
    have HKR : Hid (KR f.regs) := lhid (kr_of fun i z hi hz => List.all_eq_true.1 HAL.out z (List.mem_of_getElem? hz))
    obtain ⟨p0, p1, p2, p3, p4⟩ := HF.out.cells
    go_upto_block 2 with fail
    go_cut [] from 73 (fun wc => Hid ((List.range f.params.length).all (parB f.regs f.params) = true) ∧ Hid (Below w.heap.size w wc) ∧ Hid (FBox wc w.heap.size (.slice R f.regs.length rcap) (.slice S f.params.length scap) f.ret (.slice (some ⟨g, o, none⟩) n dcap) (.slice E f.rows.length ecap)))
    case first =>
      go_wp2_with fail
      go_loopw [5] (fun i wr => ∃ k : Nat, i = .int .i64 k ∧ k ≤ f.params.length ∧ Hid (∀ (i : Nat), i < k → parB f.regs f.params i = true) ∧ Hid (Below w.heap.size w wr) ∧ Hid (FBox wr w.heap.size (.slice R f.regs.length rcap) (.slice S f.params.length scap) f.ret (.slice (some ⟨g, o, none⟩) n dcap) (.slice E f.rows.length ecap))) (fun i _ => f.params.length - (intOf i).toNat)
      case atStart => exact ⟨0, rfl, Nat.zero_le _, lhid (fun i hi => absurd hi (by omega)), HB, HF⟩
      case round =>
        clear HB HF p0 p1 p2 p3 p4
        obtain ⟨k, rfl, hk, HP, HB, HF⟩ := hrel
        obtain ⟨p0, p1, p2, p3, p4⟩ := HF.out.cells
        by_cases hlt : k < f.params.length
        · obtain ⟨r, hr⟩ : ∃ x, f.params[k]? = some x := ⟨_, List.getElem?_eq_getElem hlt⟩
          have hSb := h.out.b.below (keptX_nu _) HB.out
          have HTK := lhid (take_rd hSb hk)
          obtain ⟨gs, os, hSS, _, c0⟩ := rd_cell hSb hr
          subst hSS
          have HR := lhid (h.out.a.below (keptX_nu _) HB.out)
          have k3 : (k : Int) < f.params.length := by omega
          have k4 : (0 : Int) ≤ k := by omega
          have k5 : (k : Int) ≤ scap := by omega
          have k6 : k ≤ scap := by omega
          have k7 : k < f.params.length := hlt
          have HX := lhid hr
          obtain ⟨kz, hkz⟩ : ∃ y, kd f.regs r = y := ⟨_, rfl⟩
          obtain ⟨u, hu⟩ : ∃ u, decide (r ∈ f.params.take k) = u := ⟨_, rfl⟩
          have HPK : Hid (parB f.regs f.params k = (!(kz == 0) && !u)) := lhid (by unfold parB; rw [hr, ← hkz, ← hu]; dsimp only; rw [inB_kd HKR.out])
          have HKZ := lhid hkz
          have HU := lhid hu
          have HG : Hid (∀ w' : World, Below wr.heap.size wr w' → (w'.cell? ⟨w.heap.size, 0, none⟩ = some ((.slice R f.regs.length rcap)) ∧ w'.cell? ⟨w.heap.size, 1, none⟩ = some ((.slice (some ⟨gs, os, none⟩) f.params.length scap)) ∧ w'.cell? ⟨w.heap.size, 2, none⟩ = some (.int .i64 f.ret) ∧ w'.cell? ⟨w.heap.size, 3, none⟩ = some ((.slice (some ⟨g, o, none⟩) n dcap)) ∧ w'.cell? ⟨w.heap.size, 4, none⟩ = some ((.slice E f.rows.length ecap))) ∧ w'.cell? ⟨gs, os + k, none⟩ = some (.int .i64 r)) := lhid (fun w' hw' => by
            have hF' : FBox w' w.heap.size (.slice R f.regs.length rcap) (.slice (some ⟨gs, os, none⟩) f.params.length scap) f.ret (.slice (some ⟨g, o, none⟩) n dcap) (.slice E f.rows.length ecap) := heap_keep HF.out hw'
            exact ⟨hF'.cells, (hw'.cell (p := ⟨gs, os + k, none⟩) (cell_lt c0)).trans c0⟩)
          clear hr hkz hu hSb c0
          go_upto_region 12 with fail
          clear p0 p1 p2 p3 p4
          go_cut [99] from 80 to 99 (fun t99 wc => t99 = .bool ((kz == 0) || u) ∧ Hid (Below wr.heap.size wr wc))
          case first =>
            by_cases q0 : kz = 0
            · subst q0
              refine wp_region_quiet_c (C := fun w' => Below wr.heap.size wr w') (by kernel_rfl) (by kernel_rfl) (Below.drew' (Below.refl _ _)) ?_
              repeat (first
                | go_big_quiet_skip
                | (go_big_quiet_want
                   first
                     | (refine quiet_of_run (v := ?_) (fun w' hw' => ?_) ?_
                        rotate_left
                        · (obtain ⟨⟨p0, p1, p2, p3, p4⟩, k9⟩ := HG.out w' hw'; go_simp; try with_reducible rfl)
                        go_big_quiet_on
                        try simp only [Act.put, List.setIfInBounds_toArray, List.set_cons_zero, List.set_cons_succ])
                     | (refine quiet_of_call (v := .int .i64 0) (f := 22) (args := #[fuL (.slice R f.regs.length rcap) (.slice (some ⟨gs, os, none⟩) f.params.length scap) f.ret (.slice (some ⟨g, o, none⟩) n dcap) (.slice E f.rows.length ecap), .int .i64 r]) (fun w' hw' => ?_) (fun w' hw' => ?_) ?_
                        · (obtain ⟨⟨p0, p1, p2, p3, p4⟩, k9⟩ := HG.out w' hw'; go_simp; done)
                        · (refine (rkind_r f.regs (.slice R f.regs.length rcap) (.slice (some ⟨gs, os, none⟩) f.params.length scap) f.ret (.slice (some ⟨g, o, none⟩) n dcap) (.slice E f.rows.length ecap) r 0 w' (lhid (HR.out.below (keptX_nu _) hw')) HKZ).mono ?_
                           rintro e w9 ⟨rfl, hb9⟩
                           exact ⟨rfl, hw'.trans (Below.less hb9 hw'.size)⟩)
                        go_big_quiet_on
                        try simp only [Act.put, List.setIfInBounds_toArray, List.set_cons_zero, List.set_cons_succ])))
              refine wpQuiet_nil ?_
              intro wx hwx
              have HWX := lhid hwx
              clear hwx
              go_wp2_with fail
              go_meet
              case rel => exact ⟨rfl, HWX⟩
            · have q1 := beq_eq_false_iff_ne.2 q0
              clear q0
              refine wp_region_quiet_c (C := fun w' => Below wr.heap.size wr w') (by kernel_rfl) (by kernel_rfl) (Below.drew' (Below.refl _ _)) ?_
              repeat (first
                | go_big_quiet_skip
                | (go_big_quiet_want
                   first
                     | (refine quiet_of_run (v := ?_) (fun w' hw' => ?_) ?_
                        rotate_left
                        · (obtain ⟨⟨p0, p1, p2, p3, p4⟩, k9⟩ := HG.out w' hw'; go_simp; try with_reducible rfl)
                        go_big_quiet_on
                        try simp only [Act.put, List.setIfInBounds_toArray, List.set_cons_zero, List.set_cons_succ])
                     | (refine quiet_of_call (v := .int .i64 kz) (f := 22) (args := #[fuL (.slice R f.regs.length rcap) (.slice (some ⟨gs, os, none⟩) f.params.length scap) f.ret (.slice (some ⟨g, o, none⟩) n dcap) (.slice E f.rows.length ecap), .int .i64 r]) (fun w' hw' => ?_) (fun w' hw' => ?_) ?_
                        · (obtain ⟨⟨p0, p1, p2, p3, p4⟩, k9⟩ := HG.out w' hw'; go_simp; done)
                        · (refine (rkind_r f.regs (.slice R f.regs.length rcap) (.slice (some ⟨gs, os, none⟩) f.params.length scap) f.ret (.slice (some ⟨g, o, none⟩) n dcap) (.slice E f.rows.length ecap) r kz w' (lhid (HR.out.below (keptX_nu _) hw')) HKZ).mono ?_
                           rintro e w9 ⟨rfl, hb9⟩
                           exact ⟨rfl, hw'.trans (Below.less hb9 hw'.size)⟩)
                        go_big_quiet_on
                        try simp only [Act.put, List.setIfInBounds_toArray, List.set_cons_zero, List.set_cons_succ])
                     | (refine quiet_of_call (v := .bool u) (f := 23) (args := #[.int .i64 r, .slice (some ⟨gs, os, none⟩) k scap]) (fun w' hw' => ?_) (fun w' hw' => ?_) ?_
                        · (obtain ⟨⟨p0, p1, p2, p3, p4⟩, k9⟩ := HG.out w' hw'; go_simp; done)
                        · (refine (rin_r r (.slice (some ⟨gs, os, none⟩) k scap) (f.params.take k) u w' (HTK.out.below (keptX_nu _) hw') HU).mono ?_
                           rintro e w9 ⟨rfl, rfl⟩
                           exact ⟨rfl, hw'⟩)
                        go_big_quiet_on
                        try simp only [Act.put, List.setIfInBounds_toArray, List.set_cons_zero, List.set_cons_succ])))
              refine wpQuiet_nil ?_
              intro wx hwx
              have HWX := lhid hwx
              clear hwx
              go_wp2_with fail
              go_meet
              case rel => exact ⟨by rw [q1]; rfl, HWX⟩
          obtain ⟨rfl, HWC⟩ := hcut
          have HB2 := lhid (HB.out.trans (HWC.out.mono HB.out.size))
          have HF2 : Hid (FBox wc w.heap.size (.slice R f.regs.length rcap) (.slice (some ⟨gs, os, none⟩) f.params.length scap) f.ret (.slice (some ⟨g, o, none⟩) n dcap) (.slice E f.rows.length ecap)) := lhid (heap_keep HF.out HWC.out)
          clear HG HR HTK
          obtain ⟨bb, hbb⟩ : ∃ b, ((kz == 0) || u) = b := ⟨_, rfl⟩
          rw [hbb]
          have HPK2 : Hid (parB f.regs f.params k = !bb) := lhid (by rw [HPK.out, ← hbb]; cases (kz == 0) <;> cases u <;> rfl)
          clear hbb
          cases bb with
          | true =>
            have hz : z = 80 := by
              rw [← HC.out]
              refine chk_regs ?_
              unfold regsB
              rw [all_bad (range_get hlt) (by rw [HPK2.out]; rfl)]
              simp
            subst hz
            go_wp2_with fail
            go_ret
            exact ⟨rfl, HB2.out⟩
          | false =>
            have HM2 : Hid (∀ (i : Nat), i < k + 1 → parB f.regs f.params i = true) := lhid (fun i hi => by
              rcases Nat.lt_or_ge i k with h | h
              · exact HP.out i h
              · have e : i = k := by omega
                subst e
                rw [HPK2.out]
                rfl)
            go_wp2_with fail
            go_roundw
            case rel => exact ⟨k + 1, by go_num, by omega, HM2, HB2, HF2⟩
            case measure => simp [intOf]; omega
        · have k3 : ¬ (k : Int) < f.params.length := by omega
          have HAP := lhid (all_of (p := parB f.regs f.params) (l := List.range f.params.length) (fun i z hi hz => by
            rw [List.length_range] at hi
            rw [range_get hi] at hz
            rw [← Option.some.inj hz]
            exact HP.out i (by omega)))
          go_wp2_with fail
          go_meet
          case rel => exact ⟨HAP, HB, HF⟩
    clear HB HF p0 p1 p2 p3 p4
    obtain ⟨HAP, HB, HF⟩ := hcut
    have HRB : Hid (regsB f = true) := lhid (by unfold regsB; rw [HAL.out, HAP.out, HRET.out, decide_eq_true HLN.out.1, decide_eq_true HLN.out.2.1]; rfl)
    clear HAL HAP HRET
    obtain ⟨p0, p1, p2, p3, p4⟩ := HF.out.cells
    go_upto_block 4 with fail
    go_cut [] from 100 (fun wc => Hid (codeB f = true) ∧ Hid (Below w.heap.size w wc) ∧ Hid (FBox wc w.heap.size (.slice R f.regs.length rcap) (.slice S f.params.length scap) f.ret (.slice (some ⟨g, o, none⟩) n dcap) (.slice E f.rows.length ecap)))
    case first =>
      go_wp2_with fail
      go_loopw [6] (fun i wr => ∃ k : Nat, i = .int .i64 k ∧ k ≤ n ∧ Hid (∀ (i : Nat) x, i < k → f.code[i]? = some x → oneB f i x = true) ∧ Hid (Below w.heap.size w wr) ∧ Hid (FBox wr w.heap.size (.slice R f.regs.length rcap) (.slice S f.params.length scap) f.ret (.slice (some ⟨g, o, none⟩) n dcap) (.slice E f.rows.length ecap))) (fun i _ => n - (intOf i).toNat)
      case atStart => exact ⟨0, rfl, Nat.zero_le _, lhid (fun i z hi => absurd hi (by omega)), HB, HF⟩
      case round =>
        clear HB HF p0 p1 p2 p3 p4
        obtain ⟨k, rfl, hk', HP, HB, HF⟩ := hrel
        obtain ⟨p0, p1, p2, p3, p4⟩ := HF.out.cells
        by_cases hlt : k < n
        ·
          obtain ⟨x, hx⟩ : ∃ x, f.code[k]? = some x := ⟨_, List.getElem?_eq_getElem (by have := HN.out; omega)⟩
          have hd := h.out.d.below (keptX_in _) HB.out
          obtain ⟨v, _, hv1, c0, c1, c2, c3, c4, c5, c6, c7, c8⟩ := in_cells2 hd hx
          obtain ⟨VA, vc, rfl⟩ := hv1.shape
          obtain ⟨v, hvv⟩ : ∃ v, v = Value.slice VA x.args.length vc := ⟨_, rfl⟩
          have k3 : (k : Int) < n := by omega
          have HXX := lhid hx
          have HV0 := lhid hv1
          have HQR := lhid (hq.out.ref x (List.mem_of_getElem? hx))
          have hlw : w.heap.size < wr.heap.size := by have := heap_lt HF.out; omega
          clear hx hd hv1
          go_upto_region 18 with fail
          generalize hW : World.alloc _ _ = w2
          rw [← hvv] at hW c8 HV0 ⊢
          clear hvv
          have hb2 : Below w.heap.size w w2 := by rw [← hW]; exact HB.out.alloc HB.out.size _
          have hF : FBox w2 w.heap.size (.slice R f.regs.length rcap) (.slice S f.params.length scap) f.ret (.slice (some ⟨g, o, none⟩) n dcap) (.slice E f.rows.length ecap) := by rw [← hW]; exact (Below.heap_alloc _ _ _ (heap_lt HF.out)).trans HF.out
          have hX : IBox w2 wr.heap.size x v := by rw [← hW]; exact heap_alloc_new wr _
          have HV : Hid (RdX P 1 NuE w2 v x.args) := lhid (HV0.out.below (keptX_nu _) (by rw [← hW]; exact (Below.refl _ _).alloc (Nat.le_refl _) _))
          have HB2 := lhid hb2
          have HF2 := lhid hF
          have HX2 := lhid hX
          clear c0 c1 c2 c3 c4 c5 c6 c7 c8 p0 p1 p2 p3 p4 hW hb2
          obtain ⟨p0, p1, p2, p3, p4⟩ := hF.cells
          obtain ⟨y0, y1, y2, y3, y4, y5, y6, y7, y8⟩ := hX.cells
          clear hF hX
          obtain ⟨zd, hzd⟩ : ∃ q, oneD f.regs f.ret n x = q := ⟨_, rfl⟩
          have HOD := lhid hzd
          clear hzd
          have HONE : Hid (oneB f k x = (zd && (!leadsB x.op || !(opAt f.code x.too == 32)) && (!(x.op == 32) || (!(k == 0) && endsB (opAt f.code ((k : Int) - 1)))))) := lhid (by rw [oneB_eq HKR.out HR0.out, HN.out, HOD.out])
          cases zd with
          | false =>
            have hz : z = 80 := by
              rw [← HC.out]
              exact chk_code (codeB_bad HXX.out (by rw [HONE.out]; rfl))
            subst hz
            go_wp2_with fail
            with_reducible refine (rone_r f.regs (.slice R f.regs.length rcap) (.slice S f.params.length scap) f.ret (some ⟨g, o, none⟩) n dcap (.slice E f.rows.length ecap) x v false _ (lhid (h.out.a.below (keptX_nu _) HB2.out)) HV HQR HOD).mono ?_
            rintro e w3 ⟨rfl, hb⟩
            have HB3 := lhid (HB2.out.trans (hb.mono HB2.out.size))
            have hF : FBox w3 w.heap.size (.slice R f.regs.length rcap) (.slice S f.params.length scap) f.ret (.slice (some ⟨g, o, none⟩) n dcap) (.slice E f.rows.length ecap) := heap_keep HF2.out hb
            have hX : IBox w3 wr.heap.size x v := heap_keep HX2.out hb
            clear p0 p1 p2 p3 p4 y0 y1 y2 y3 y4 y5 y6 y7 y8
            obtain ⟨p0, p1, p2, p3, p4⟩ := hF.cells
            obtain ⟨y0, y1, y2, y3, y4, y5, y6, y7, y8⟩ := hX.cells
            have HF3 := lhid hF
            have HX3 := lhid hX
            clear hb hF hX
            go_wp2_with fail
            go_ret
            exact ⟨rfl, HB3.out⟩
          | true =>
            by_cases oc : x.op = 32
            ·
              have HLD : Hid (leadsB x.op = false) := lhid (by rw [oc]; decide)
              have OC := lhid oc
              have oc2 : (x.op == 32) = true := by rw [oc]; rfl
              clear oc
              by_cases k0 : k = 0
              ·
                have hz : z = 80 := by
                  rw [← HC.out]
                  exact chk_code (codeB_bad HXX.out (by rw [HONE.out, OC.out, k0]; simp))
                subst hz
                subst k0
                go_wp2_with fail
                with_reducible refine (rone_r f.regs (.slice R f.regs.length rcap) (.slice S f.params.length scap) f.ret (some ⟨g, o, none⟩) n dcap (.slice E f.rows.length ecap) x v true _ (lhid (h.out.a.below (keptX_nu _) HB2.out)) HV HQR HOD).mono ?_
                rintro e w3 ⟨rfl, hb⟩
                have HB3 := lhid (HB2.out.trans (hb.mono HB2.out.size))
                have hF : FBox w3 w.heap.size (.slice R f.regs.length rcap) (.slice S f.params.length scap) f.ret (.slice (some ⟨g, o, none⟩) n dcap) (.slice E f.rows.length ecap) := heap_keep HF2.out hb
                have hX : IBox w3 wr.heap.size x v := heap_keep HX2.out hb
                clear p0 p1 p2 p3 p4 y0 y1 y2 y3 y4 y5 y6 y7 y8
                obtain ⟨p0, p1, p2, p3, p4⟩ := hF.cells
                obtain ⟨y0, y1, y2, y3, y4, y5, y6, y7, y8⟩ := hX.cells
                have HF3 := lhid hF
                have HX3 := lhid hX
                clear hb hF hX
                go_wp2_with fail
                go_ret
                exact ⟨rfl, HB3.out⟩
              obtain ⟨y, hy⟩ : ∃ y, f.code[k - 1]? = some y := ⟨_, List.getElem?_eq_getElem (by have := HN.out; omega)⟩
              have hoy : opAt f.code ((k : Int) - 1) = y.op := by rw [show (k : Int) - 1 = ((k - 1 : Nat) : Int) by omega]; exact opAt_some hy
              obtain ⟨ze, hze⟩ : ∃ z, endsB y.op = z := ⟨_, rfl⟩
              have HE := lhid hze
              have HOY := lhid hoy
              have HYY := lhid hy
              have kk1 : 1 ≤ k := by omega
              have kk2 : ((k : Int) == 0) = false := by rw [beq_eq_false_iff_ne]; omega
              clear hy hoy hze
              cases ze with
              | false =>
                have hz : z = 80 := by
                  rw [← HC.out]
                  exact chk_code (codeB_bad HXX.out (by rw [HONE.out, HOY.out, HE.out, OC.out]; simp))
                subst hz
                go_wp2_with fail
                with_reducible refine (rone_r f.regs (.slice R f.regs.length rcap) (.slice S f.params.length scap) f.ret (some ⟨g, o, none⟩) n dcap (.slice E f.rows.length ecap) x v true _ (lhid (h.out.a.below (keptX_nu _) HB2.out)) HV HQR HOD).mono ?_
                rintro e w3 ⟨rfl, hb⟩
                have HB3 := lhid (HB2.out.trans (hb.mono HB2.out.size))
                have hF : FBox w3 w.heap.size (.slice R f.regs.length rcap) (.slice S f.params.length scap) f.ret (.slice (some ⟨g, o, none⟩) n dcap) (.slice E f.rows.length ecap) := heap_keep HF2.out hb
                have hX : IBox w3 wr.heap.size x v := heap_keep HX2.out hb
                clear p0 p1 p2 p3 p4 y0 y1 y2 y3 y4 y5 y6 y7 y8
                obtain ⟨p0, p1, p2, p3, p4⟩ := hF.cells
                obtain ⟨y0, y1, y2, y3, y4, y5, y6, y7, y8⟩ := hX.cells
                have HF3 := lhid hF
                have HX3 := lhid hX
                clear hb hF hX
                have hd := h.out.d.below (keptX_in _) HB3.out
                obtain ⟨_, _, _, e0, _⟩ := in_cells2 hd HYY.out
                clear hd
                go_wp2_with fail
                with_reducible refine (rends_r y.op false _ HE).mono ?_
                rintro e w4 ⟨rfl, hb⟩
                have HB4 := lhid (HB3.out.trans (hb.mono HB3.out.size))
                have hF : FBox w4 w.heap.size (.slice R f.regs.length rcap) (.slice S f.params.length scap) f.ret (.slice (some ⟨g, o, none⟩) n dcap) (.slice E f.rows.length ecap) := heap_keep HF3.out hb
                have hX : IBox w4 wr.heap.size x v := heap_keep HX3.out hb
                clear p0 p1 p2 p3 p4 y0 y1 y2 y3 y4 y5 y6 y7 y8
                obtain ⟨p0, p1, p2, p3, p4⟩ := hF.cells
                obtain ⟨y0, y1, y2, y3, y4, y5, y6, y7, y8⟩ := hX.cells
                have HF4 := lhid hF
                have HX4 := lhid hX
                clear hb hF hX
                clear e0
                go_wp2_with fail
                go_ret
                exact ⟨rfl, HB4.out⟩
              | true =>
                have HM2 : Hid (∀ (i : Nat) x, i < k + 1 → f.code[i]? = some x → oneB f i x = true) := lhid (fun i z hi hz => by
                  rcases Nat.lt_or_ge i k with h | h
                  · exact HP.out i z h hz
                  · have e : i = k := by omega
                    subst e
                    have e2 : x = z := Option.some.inj (HXX.out.symm.trans hz)
                    subst e2
                    rw [HONE.out, HOY.out, HE.out, HLD.out]; simp [k0])
                go_wp2_with fail
                with_reducible refine (rone_r f.regs (.slice R f.regs.length rcap) (.slice S f.params.length scap) f.ret (some ⟨g, o, none⟩) n dcap (.slice E f.rows.length ecap) x v true _ (lhid (h.out.a.below (keptX_nu _) HB2.out)) HV HQR HOD).mono ?_
                rintro e w3 ⟨rfl, hb⟩
                have HB3 := lhid (HB2.out.trans (hb.mono HB2.out.size))
                have hF : FBox w3 w.heap.size (.slice R f.regs.length rcap) (.slice S f.params.length scap) f.ret (.slice (some ⟨g, o, none⟩) n dcap) (.slice E f.rows.length ecap) := heap_keep HF2.out hb
                have hX : IBox w3 wr.heap.size x v := heap_keep HX2.out hb
                clear p0 p1 p2 p3 p4 y0 y1 y2 y3 y4 y5 y6 y7 y8
                obtain ⟨p0, p1, p2, p3, p4⟩ := hF.cells
                obtain ⟨y0, y1, y2, y3, y4, y5, y6, y7, y8⟩ := hX.cells
                have HF3 := lhid hF
                have HX3 := lhid hX
                clear hb hF hX
                have hd := h.out.d.below (keptX_in _) HB3.out
                obtain ⟨_, _, _, e0, _⟩ := in_cells2 hd HYY.out
                clear hd
                go_wp2_with fail
                with_reducible refine (rends_r y.op true _ HE).mono ?_
                rintro e w4 ⟨rfl, hb⟩
                have HB4 := lhid (HB3.out.trans (hb.mono HB3.out.size))
                have hF : FBox w4 w.heap.size (.slice R f.regs.length rcap) (.slice S f.params.length scap) f.ret (.slice (some ⟨g, o, none⟩) n dcap) (.slice E f.rows.length ecap) := heap_keep HF3.out hb
                have hX : IBox w4 wr.heap.size x v := heap_keep HX3.out hb
                clear p0 p1 p2 p3 p4 y0 y1 y2 y3 y4 y5 y6 y7 y8
                obtain ⟨p0, p1, p2, p3, p4⟩ := hF.cells
                obtain ⟨y0, y1, y2, y3, y4, y5, y6, y7, y8⟩ := hX.cells
                have HF4 := lhid hF
                have HX4 := lhid hX
                clear hb hF hX
                clear e0
                go_wp2_with fail
                with_reducible refine (rleads_r x.op false _ HLD).mono ?_
                rintro e w5 ⟨rfl, hb⟩
                have HB5 := lhid (HB4.out.trans (hb.mono HB4.out.size))
                have hF : FBox w5 w.heap.size (.slice R f.regs.length rcap) (.slice S f.params.length scap) f.ret (.slice (some ⟨g, o, none⟩) n dcap) (.slice E f.rows.length ecap) := heap_keep HF4.out hb
                have hX : IBox w5 wr.heap.size x v := heap_keep HX4.out hb
                clear p0 p1 p2 p3 p4 y0 y1 y2 y3 y4 y5 y6 y7 y8
                obtain ⟨p0, p1, p2, p3, p4⟩ := hF.cells
                obtain ⟨y0, y1, y2, y3, y4, y5, y6, y7, y8⟩ := hX.cells
                have HF5 := lhid hF
                have HX5 := lhid hX
                clear hb hF hX
                go_wp2_with fail
                go_roundw
                case rel => exact ⟨k + 1, by go_num, by omega, HM2, HB5, HF5⟩
                case measure => simp [intOf]; omega
            ·
              have oc2 : (x.op == 32) = false := by rw [beq_eq_false_iff_ne]; exact oc
              have OC2 := lhid oc2
              obtain ⟨zl, hzl⟩ : ∃ z, leadsB x.op = z := ⟨_, rfl⟩
              have HL := lhid hzl
              clear hzl oc
              cases zl with
              | false =>
                have HM2 : Hid (∀ (i : Nat) x, i < k + 1 → f.code[i]? = some x → oneB f i x = true) := lhid (fun i z hi hz => by
                  rcases Nat.lt_or_ge i k with h | h
                  · exact HP.out i z h hz
                  · have e : i = k := by omega
                    subst e
                    have e2 : x = z := Option.some.inj (HXX.out.symm.trans hz)
                    subst e2
                    rw [HONE.out, HL.out, OC2.out]; rfl)
                go_wp2_with fail
                with_reducible refine (rone_r f.regs (.slice R f.regs.length rcap) (.slice S f.params.length scap) f.ret (some ⟨g, o, none⟩) n dcap (.slice E f.rows.length ecap) x v true _ (lhid (h.out.a.below (keptX_nu _) HB2.out)) HV HQR HOD).mono ?_
                rintro e w3 ⟨rfl, hb⟩
                have HB3 := lhid (HB2.out.trans (hb.mono HB2.out.size))
                have hF : FBox w3 w.heap.size (.slice R f.regs.length rcap) (.slice S f.params.length scap) f.ret (.slice (some ⟨g, o, none⟩) n dcap) (.slice E f.rows.length ecap) := heap_keep HF2.out hb
                have hX : IBox w3 wr.heap.size x v := heap_keep HX2.out hb
                clear p0 p1 p2 p3 p4 y0 y1 y2 y3 y4 y5 y6 y7 y8
                obtain ⟨p0, p1, p2, p3, p4⟩ := hF.cells
                obtain ⟨y0, y1, y2, y3, y4, y5, y6, y7, y8⟩ := hX.cells
                have HF3 := lhid hF
                have HX3 := lhid hX
                clear hb hF hX
                go_wp2_with fail
                with_reducible refine (rleads_r x.op false _ HL).mono ?_
                rintro e w4 ⟨rfl, hb⟩
                have HB4 := lhid (HB3.out.trans (hb.mono HB3.out.size))
                have hF : FBox w4 w.heap.size (.slice R f.regs.length rcap) (.slice S f.params.length scap) f.ret (.slice (some ⟨g, o, none⟩) n dcap) (.slice E f.rows.length ecap) := heap_keep HF3.out hb
                have hX : IBox w4 wr.heap.size x v := heap_keep HX3.out hb
                clear p0 p1 p2 p3 p4 y0 y1 y2 y3 y4 y5 y6 y7 y8
                obtain ⟨p0, p1, p2, p3, p4⟩ := hF.cells
                obtain ⟨y0, y1, y2, y3, y4, y5, y6, y7, y8⟩ := hX.cells
                have HF4 := lhid hF
                have HX4 := lhid hX
                clear hb hF hX
                go_wp2_with fail
                go_roundw
                case rel => exact ⟨k + 1, by go_num, by omega, HM2, HB4, HF4⟩
                case measure => simp [intOf]; omega
              | true =>
                have HPL : Hid (0 ≤ x.too ∧ x.too < n) := lhid (by
                  have h1 := HOD.out
                  rw [one_eq HKR.out HR0.out] at h1
                  unfold oneP at h1
                  rw [HL.out] at h1
                  simp only [Bool.and_eq_true, Bool.or_eq_true, Bool.not_true] at h1
                  have h2 := h1.2
                  unfold placeB at h2
                  simp at h2
                  exact h2)
                obtain ⟨tn, htn⟩ : ∃ tn : Nat, x.too = tn := ⟨x.too.toNat, by have := HPL.out; omega⟩
                have tb : (tn : Int) < n := by have := HPL.out; omega
                have tb2 : tn < n := by omega
                obtain ⟨q, hq2⟩ : ∃ q, f.code[tn]? = some q := ⟨_, List.getElem?_eq_getElem (by have := HN.out; omega)⟩
                have HTO : Hid (opAt f.code x.too = q.op) := lhid (by rw [htn]; exact opAt_some hq2)
                have HTN := lhid htn
                have HYY := lhid hq2
                clear htn hq2
                by_cases to32 : q.op = 32
                ·
                  have to2 : (q.op == 32) = true := by rw [beq_iff_eq]; exact to32
                  have hz : z = 80 := by
                    rw [← HC.out]
                    exact chk_code (codeB_bad HXX.out (by rw [HONE.out, HL.out, HTO.out, to2]; simp))
                  subst hz
                  clear to32
                  go_wp2_with fail
                  with_reducible refine (rone_r f.regs (.slice R f.regs.length rcap) (.slice S f.params.length scap) f.ret (some ⟨g, o, none⟩) n dcap (.slice E f.rows.length ecap) x v true _ (lhid (h.out.a.below (keptX_nu _) HB2.out)) HV HQR HOD).mono ?_
                  rintro e w3 ⟨rfl, hb⟩
                  have HB3 := lhid (HB2.out.trans (hb.mono HB2.out.size))
                  have hF : FBox w3 w.heap.size (.slice R f.regs.length rcap) (.slice S f.params.length scap) f.ret (.slice (some ⟨g, o, none⟩) n dcap) (.slice E f.rows.length ecap) := heap_keep HF2.out hb
                  have hX : IBox w3 wr.heap.size x v := heap_keep HX2.out hb
                  clear p0 p1 p2 p3 p4 y0 y1 y2 y3 y4 y5 y6 y7 y8
                  obtain ⟨p0, p1, p2, p3, p4⟩ := hF.cells
                  obtain ⟨y0, y1, y2, y3, y4, y5, y6, y7, y8⟩ := hX.cells
                  have HF3 := lhid hF
                  have HX3 := lhid hX
                  clear hb hF hX
                  go_wp2_with fail
                  with_reducible refine (rleads_r x.op true _ HL).mono ?_
                  rintro e w4 ⟨rfl, hb⟩
                  have HB4 := lhid (HB3.out.trans (hb.mono HB3.out.size))
                  have hF : FBox w4 w.heap.size (.slice R f.regs.length rcap) (.slice S f.params.length scap) f.ret (.slice (some ⟨g, o, none⟩) n dcap) (.slice E f.rows.length ecap) := heap_keep HF3.out hb
                  have hX : IBox w4 wr.heap.size x v := heap_keep HX3.out hb
                  clear p0 p1 p2 p3 p4 y0 y1 y2 y3 y4 y5 y6 y7 y8
                  obtain ⟨p0, p1, p2, p3, p4⟩ := hF.cells
                  obtain ⟨y0, y1, y2, y3, y4, y5, y6, y7, y8⟩ := hX.cells
                  have HF4 := lhid hF
                  have HX4 := lhid hX
                  clear hb hF hX
                  have hd := h.out.d.below (keptX_in _) HB4.out
                  obtain ⟨_, _, _, e0, _⟩ := in_cells2 hd HYY.out
                  clear hd
                  rw [HTN.out] at y6
                  go_wp2_with fail
                  go_ret
                  exact ⟨rfl, HB4.out⟩
                ·
                  have to2 : (q.op == 32) = false := by rw [beq_eq_false_iff_ne]; exact to32
                  clear to32
                  have HM2 : Hid (∀ (i : Nat) x, i < k + 1 → f.code[i]? = some x → oneB f i x = true) := lhid (fun i z hi hz => by
                    rcases Nat.lt_or_ge i k with h | h
                    · exact HP.out i z h hz
                    · have e : i = k := by omega
                      subst e
                      have e2 : x = z := Option.some.inj (HXX.out.symm.trans hz)
                      subst e2
                      rw [HONE.out, HL.out, HTO.out, to2, OC2.out]; rfl)
                  go_wp2_with fail
                  with_reducible refine (rone_r f.regs (.slice R f.regs.length rcap) (.slice S f.params.length scap) f.ret (some ⟨g, o, none⟩) n dcap (.slice E f.rows.length ecap) x v true _ (lhid (h.out.a.below (keptX_nu _) HB2.out)) HV HQR HOD).mono ?_
                  rintro e w3 ⟨rfl, hb⟩
                  have HB3 := lhid (HB2.out.trans (hb.mono HB2.out.size))
                  have hF : FBox w3 w.heap.size (.slice R f.regs.length rcap) (.slice S f.params.length scap) f.ret (.slice (some ⟨g, o, none⟩) n dcap) (.slice E f.rows.length ecap) := heap_keep HF2.out hb
                  have hX : IBox w3 wr.heap.size x v := heap_keep HX2.out hb
                  clear p0 p1 p2 p3 p4 y0 y1 y2 y3 y4 y5 y6 y7 y8
                  obtain ⟨p0, p1, p2, p3, p4⟩ := hF.cells
                  obtain ⟨y0, y1, y2, y3, y4, y5, y6, y7, y8⟩ := hX.cells
                  have HF3 := lhid hF
                  have HX3 := lhid hX
                  clear hb hF hX
                  go_wp2_with fail
                  with_reducible refine (rleads_r x.op true _ HL).mono ?_
                  rintro e w4 ⟨rfl, hb⟩
                  have HB4 := lhid (HB3.out.trans (hb.mono HB3.out.size))
                  have hF : FBox w4 w.heap.size (.slice R f.regs.length rcap) (.slice S f.params.length scap) f.ret (.slice (some ⟨g, o, none⟩) n dcap) (.slice E f.rows.length ecap) := heap_keep HF3.out hb
                  have hX : IBox w4 wr.heap.size x v := heap_keep HX3.out hb
                  clear p0 p1 p2 p3 p4 y0 y1 y2 y3 y4 y5 y6 y7 y8
                  obtain ⟨p0, p1, p2, p3, p4⟩ := hF.cells
                  obtain ⟨y0, y1, y2, y3, y4, y5, y6, y7, y8⟩ := hX.cells
                  have HF4 := lhid hF
                  have HX4 := lhid hX
                  clear hb hF hX
                  have hd := h.out.d.below (keptX_in _) HB4.out
                  obtain ⟨_, _, _, e0, _⟩ := in_cells2 hd HYY.out
                  clear hd
                  rw [HTN.out] at y6
                  go_wp2_with fail
                  clear e0
                  go_roundw
                  case rel => exact ⟨k + 1, by go_num, by omega, HM2, HB4, HF4⟩
                  case measure => simp [intOf]; omega
        · have k3 : ¬ (k : Int) < n := by omega
          have HCB : Hid (codeB f = true) := lhid (codeB_ok (by rw [HN.out]; exact HLN.out.2.2.1) (by rw [HN.out]; exact HLN.out.2.2.2) HLST.out (fun i x hi hx => HP.out i x (by rw [HN.out] at hi; omega) hx))
          go_wp2_with fail
          go_meet
          case rel => exact ⟨HCB, HB, HF⟩
    clear HB HF p0 p1 p2 p3 p4
    obtain ⟨HCB, HB, HF⟩ := hcut
    obtain ⟨p0, p1, p2, p3, p4⟩ := HF.out.cells
    go_wp2_with fail
    go_loopw [8] (fun i wr => ∃ k : Nat, i = .int .i64 k ∧ k ≤ f.rows.length ∧ Hid (∀ (i : Nat) r, i < k → f.rows[i]? = some r → rowB f r = true) ∧ Hid (Below w.heap.size w wr) ∧ Hid (FBox wr w.heap.size (.slice R f.regs.length rcap) (.slice S f.params.length scap) f.ret (.slice (some ⟨g, o, none⟩) n dcap) (.slice E f.rows.length ecap))) (fun i _ => f.rows.length - (intOf i).toNat)
    case atStart => exact ⟨0, rfl, Nat.zero_le _, lhid (fun i z hi => absurd hi (by omega)), HB, HF⟩
    case round =>
      clear HB HF p0 p1 p2 p3 p4
      obtain ⟨k, rfl, hk', HP, HB, HF⟩ := hrel
      obtain ⟨p0, p1, p2, p3, p4⟩ := HF.out.cells
      by_cases hlt : k < f.rows.length
      · obtain ⟨x, hx⟩ : ∃ x, f.rows[k]? = some x := ⟨_, List.getElem?_eq_getElem hlt⟩
        obtain ⟨gw, ow, hEE, c0, c1, c2, c3⟩ := rw_cells (h.out.e.below (keptX_rw _) HB.out) hx
        subst hEE
        have k3 : (k : Int) < f.rows.length := by omega
        have HBAD : rowB f x = false → chkN f = 80 := fun e => chk_rows (all_bad hx e)
        have HXX := lhid hx
        have HM : rowB f x = true → Hid (∀ (i : Nat) r, i < k + 1 → f.rows[i]? = some r → rowB f r = true) := fun ht => lhid (fun i z hi hz => by
          rcases Nat.lt_or_ge i k with h | h
          · exact HP.out i z h hz
          · have e : i = k := by omega
            subst e
            rw [← Option.some.inj (HXX.out.symm.trans hz)]
            exact ht)
        have hlw : w.heap.size < wr.heap.size := heap_lt HF.out
        clear hx
        obtain ⟨y0, y1, y2, y3⟩ := x
        dsimp only at c0 c1 c2 c3
        have HRW : Hid (rowB f ⟨y0, y1, y2, y3⟩ = (decide (0 ≤ y0) && decide (y0 < y1) && decide (y1 ≤ n) && decide (0 ≤ y2) && decide (y2 < n) && opAt f.code y2 == 32)) := lhid (by unfold rowB; rw [HN.out])
        go_upto_region 24 with fail
        generalize hW : World.alloc _ _ = w2
        have hb2 : Below w.heap.size w w2 := by rw [← hW]; exact HB.out.alloc HB.out.size _
        have hF : FBox w2 w.heap.size (.slice R f.regs.length rcap) (.slice S f.params.length scap) f.ret (.slice (some ⟨g, o, none⟩) n dcap) (.slice (some ⟨gw, ow, none⟩) f.rows.length ecap) := by rw [← hW]; exact (Below.heap_alloc _ _ _ (heap_lt HF.out)).trans HF.out
        have hX : w2.heap[wr.heap.size]? = some (.cells #[.int .i64 y0, .int .i64 y1, .int .i64 y2, .string (tx y3)] 52 (0, 0)) := by rw [← hW]; exact heap_alloc_new wr _
        have HB2 := lhid hb2
        have HF2 := lhid hF
        have HX2 := lhid hX
        clear c0 c1 c2 c3 p0 p1 p2 p3 p4 hW hb2
        obtain ⟨p0, p1, p2, p3, p4⟩ := hF.cells
        have r0 := heap_cell (i := 0) hX rfl
        have r1 := heap_cell (i := 1) hX rfl
        have r2 := heap_cell (i := 2) hX rfl
        clear hF hX
        by_cases t0 : y0 < 0
        · have hz : z = 80 := by rw [← HC.out]; exact HBAD (by rw [HRW.out, decide_eq_false (show ¬ 0 ≤ y0 by omega)]; rfl)
          subst hz
          clear HM HBAD
          go_wp2_with fail
          go_ret
          exact ⟨rfl, HB2.out⟩
        by_cases t1 : y1 ≤ y0
        · have hz : z = 80 := by rw [← HC.out]; exact HBAD (by rw [HRW.out, decide_eq_false (show ¬ y0 < y1 by omega)]; simp)
          subst hz
          clear HM HBAD
          go_wp2_with fail
          go_ret
          exact ⟨rfl, HB2.out⟩
        by_cases t2 : (n : Int) < y1
        · have hz : z = 80 := by rw [← HC.out]; exact HBAD (by rw [HRW.out, decide_eq_false (show ¬ y1 ≤ n by omega)]; simp)
          subst hz
          clear HM HBAD
          go_wp2_with fail
          go_ret
          exact ⟨rfl, HB2.out⟩
        by_cases t3 : 0 ≤ y2 ∧ y2 < n
        · obtain ⟨m, hm⟩ : ∃ m : Nat, y2 = m := ⟨y2.toNat, by omega⟩
          subst hm
          obtain ⟨q, hq2⟩ : ∃ q, f.code[m]? = some q := ⟨_, List.getElem?_eq_getElem (by have := HN.out; omega)⟩
          have HYY := lhid hq2
          have HAT : Hid ((decide ((0 : Int) ≤ m) && decide ((m : Int) < (n : Int))) = true) := lhid (by simp [t3.2])
          have hop : opAt f.code (m : Int) = q.op := opAt_some hq2
          have m1 : (m : Int) < n := t3.2
          have m2 : m < n := by omega
          have hv : decide (0 ≤ y0) = true ∧ decide (y0 < y1) = true ∧ decide (y1 ≤ (n : Int)) = true ∧ decide ((0 : Int) ≤ m) = true ∧ decide ((m : Int) < (n : Int)) = true := by simp; omega
          have HRW2 : Hid (rowB f ⟨y0, y1, m, y3⟩ = (q.op == 32)) := lhid (by rw [HRW.out, hv.1, hv.2.1, hv.2.2.1, hv.2.2.2.1, hv.2.2.2.2, hop]; rfl)
          clear HRW hop hv hq2 t3
          go_wp2_with fail
          with_reducible refine (place_r (.slice R f.regs.length rcap) (.slice S f.params.length scap) f.ret (some ⟨g, o, none⟩) n dcap (.slice (some ⟨gw, ow, none⟩) f.rows.length ecap) (m : Int) true _ HAT).mono ?_
          rintro e w3 ⟨rfl, hb⟩
          have HB3 := lhid (HB2.out.trans (hb.mono HB2.out.size))
          have hF : FBox w3 w.heap.size (.slice R f.regs.length rcap) (.slice S f.params.length scap) f.ret (.slice (some ⟨g, o, none⟩) n dcap) (.slice (some ⟨gw, ow, none⟩) f.rows.length ecap) := heap_keep HF2.out hb
          have hX := heap_keep HX2.out hb
          clear p0 p1 p2 p3 p4 r0 r1 r2 hb
          obtain ⟨p0, p1, p2, p3, p4⟩ := hF.cells
          have r0 := heap_cell (i := 0) hX rfl
          have r1 := heap_cell (i := 1) hX rfl
          have r2 := heap_cell (i := 2) hX rfl
          have hd := h.out.d.below (keptX_in _) HB3.out
          obtain ⟨_, _, _, e0, _⟩ := in_cells2 hd HYY.out
          have HF3 := lhid hF
          clear hF hX hd
          by_cases q32 : q.op = 32
          · have q2 : (q.op == 32) = true := by rw [beq_iff_eq]; exact q32
            have q3 : (q.op != 32) = false := by rw [bne, q2]; rfl
            have HM2 := HM (by rw [HRW2.out, q2])
            clear HM HBAD q32
            go_wp2_with fail
            go_roundw
            case rel => exact ⟨k + 1, by go_num, by omega, HM2, HB3, HF3⟩
            case measure => simp [intOf]; omega
          · have q2 : (q.op == 32) = false := by rw [beq_eq_false_iff_ne]; exact q32
            have q3 : (q.op != 32) = true := by rw [bne, q2]; rfl
            have hz : z = 80 := by rw [← HC.out]; exact HBAD (by rw [HRW2.out, q2])
            subst hz
            clear HM HBAD q32
            go_wp2_with fail
            go_ret
            exact ⟨rfl, HB3.out⟩
        · have HAT : Hid ((decide (0 ≤ y2) && decide (y2 < (n : Int))) = false) := lhid (by rw [Bool.and_eq_false_iff, decide_eq_false_iff_not, decide_eq_false_iff_not]; omega)
          have hz : z = 80 := by
            rw [← HC.out]
            refine HBAD ?_
            rw [HRW.out]
            rcases Bool.and_eq_false_iff.1 HAT.out with e | e <;> rw [e] <;> simp
          subst hz
          clear HM HBAD t3
          go_wp2_with fail
          with_reducible refine (place_r (.slice R f.regs.length rcap) (.slice S f.params.length scap) f.ret (some ⟨g, o, none⟩) n dcap (.slice (some ⟨gw, ow, none⟩) f.rows.length ecap) y2 false _ HAT).mono ?_
          rintro e w3 ⟨rfl, hb⟩
          have HB3 := lhid (HB2.out.trans (hb.mono HB2.out.size))
          clear hb
          go_wp2_with fail
          go_ret
          exact ⟨rfl, HB3.out⟩
      · have k3 : ¬ (k : Int) < f.rows.length := by omega
        have hz : z = 0 := by
          rw [← HC.out]
          refine chk0 ?_
          unfold checkB rowsB
          rw [HRB.out, HCB.out, all_of (p := rowB f) (l := f.rows) (fun i r hi hr => HP.out i r (by omega) hr)]
          rfl
        subst hz
        go_wp2_with fail
        go_ret
        exact ⟨rfl, HB.out⟩
end Go.Proofs.Ytbkeneadoccodaa
