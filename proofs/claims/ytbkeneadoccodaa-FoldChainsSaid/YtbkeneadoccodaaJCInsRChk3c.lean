/- Contract of the document's one: Ops of group c. -/
import Derived.Test.YtbkeneadoccodaaM9
namespace Go.Proofs.Ytbkeneadoccodaa
open Go.RowKit Go
set_option linter.unusedVariables false
set_option linter.unusedSimpArgs false
set_option maxHeartbeats 16000000 in
set_option maxRecDepth 100000 in
theorem rone_c {P Q : Nat → Prop} (rs : List Int) (fa fb : Value) (ret : Int) (D : Option Addr) (n dcap : Nat) (fe : Value) (c d a b k num t : Int) (r : Bs) (l : List Int) (v : Value) (w : World) (h : Hid (RdX P 1 NuE w fa rs)) (hv : Hid (RdX Q 1 NuE w v l)) (hr : Hid (r.length ≤ maxLen)) (sv : ByteArray) (b0 : 0 < sv.size) (b1 : 1 < sv.size) (b2 : 2 < sv.size) (b3 : 3 < sv.size) (HSV : Hid (tx (rowT c) = sv)) (HSG : Hid (sv[0] = sg c 0 ∧ sv[1] = sg c 1 ∧ sv[2] = sg c 2 ∧ sv[3] = sg c 3)) (HIN : Hid (sv[0] ∈ signs ∧ sv[1] ∈ signs ∧ sv[2] ∈ signs ∧ sv[3] ∈ signs)) (HNE : Hid ((rowT c == []) = false)) (q1 : (sv.toList == ([] : Bs)) = false) (q2 : sv.toList.isEmpty = false) (q4 : ¬ sv.toList = []) (hc : ¬ c = 1 ∧ ¬ c = 4 ∧ ¬ c = 5 ∧ ¬ c = 6 ∧ ¬ c = 12 ∧ ¬ c = 21 ∧ ¬ c = 22 ∧ ¬ c = 16 ∧ ¬ c = 17 ∧ ¬ c = 23 ∧ ¬ c = 24 ∧ ¬ c = 25 ∧ ¬ c = 26) :
    Calls Try.prog 24 #[fuL fa fb ret (.slice D n dcap) fe, inL c d a b k num t r v] w fun e w' => e = .returned (.bool (oneD rs ret n ⟨c, d, a, b, k, num, t, r, l⟩)) ∧ Below w.heap.size w w' := by
  have HCC := lhid hc
  clear hc
  have HRow : ∀ w, Hid (Calls Try.prog 50 #[.int .i64 c] w fun e w' => e = .returned (.string sv) ∧ Below w.heap.size w w') := fun w => lhid (by have := rrow_any c w; rwa [HSV.out] at this)
  obtain ⟨z, hz⟩ : ∃ z, oneD rs ret n ⟨c, d, a, b, k, num, t, r, l⟩ = z := ⟨_, rfl⟩
  have HZ := lhid hz
  rw [hz]
  clear hz
  obtain ⟨z0, hz0⟩ : ∃ z, wantB (kd rs d) sv[0] = z := ⟨_, rfl⟩
  obtain ⟨z1, hz1⟩ : ∃ z, wantB (kd rs a) sv[1] = z := ⟨_, rfl⟩
  obtain ⟨z2, hz2⟩ : ∃ z, wantB (kd rs b) sv[2] = z := ⟨_, rfl⟩
  obtain ⟨z3, hz3⟩ : ∃ z, wantB (kd rs k) sv[3] = z := ⟨_, rfl⟩
  have i1 : (1 : Int) < sv.size := by omega
  have i2 : (2 : Int) < sv.size := by omega
  have i3 : (3 : Int) < sv.size := by omega
  have HONE : Hid (z = ((z0 && z1 && z2 && z3) && restD rs ret n ⟨c, d, a, b, k, num, t, r, l⟩)) := lhid (by
    rw [← HZ.out, ← hz0, ← hz1, ← hz2, ← hz3, HSG.out.1, HSG.out.2.1, HSG.out.2.2.1, HSG.out.2.2.2]
    unfold oneD wantsD
    dsimp only
    rw [HNE.out]
    rfl)
  have H0 := lhid hz0
  have H1 := lhid hz1
  have H2 := lhid hz2
  have H3 := lhid hz3
  clear hz0 hz1 hz2 hz3 HZ
  go_enter Try.func24, Try.ntmps24
  go_wp2_with fail
  with_reducible refine (HRow _).out.mono ?_
  rintro e w1 ⟨rfl, hb⟩
  have hF : FBox w1 w.heap.size fa fb ret (.slice D n dcap) fe := heap_keep ((Below.heap_alloc _ _ _ (by simp)).trans (heap_alloc_new w _)) hb
  have hX : XBox w1 (w.heap.size + 1) c d a b k num t r v := heap_keep (heap_new2 w _ _) hb
  have hb1 := (((Below.refl w.heap.size w).alloc (Nat.le_refl _) _).alloc (by simp) _).trans (hb.mono (by simp; omega))
  have HB1 := lhid hb1
  obtain ⟨p0, p1, p2, p3, p4⟩ := hF.cells
  obtain ⟨y0, y1, y2, y3, y4, y5, y6, y7, y8⟩ := hX.cells
  have HF1 := lhid hF
  have HX1 := lhid hX
  clear hb hF hX hb1
  go_upto_block 0 with fail
  generalize hW : World.alloc _ _ = w2
  obtain ⟨G, hG⟩ : ∃ G, G = w1.heap.size := ⟨_, rfl⟩
  have h12 : Below w1.heap.size w1 w2 := by rw [← hW]; exact (Below.refl _ _).alloc (Nat.le_refl _) _
  have hL : w2.heap[G]? = some (.cells #[vI d, vI a, vI b, vI k] 3 (0, 0)) := by rw [← hW, hG]; exact heap_alloc_new w1 _
  rw [← hG]
  have HB := lhid (HB1.out.trans (h12.mono HB1.out.size))
  have HF : Hid (FBox w2 w.heap.size fa fb ret (.slice D n dcap) fe) := lhid (heap_keep HF1.out h12)
  have HX : Hid (XBox w2 (w.heap.size + 1) c d a b k num t r v) := lhid (heap_keep HX1.out h12)
  have HL := lhid hL
  clear hW h12 HB1 HF1 HX1 hG hL p0 p1 p2 p3 p4 y0 y1 y2 y3 y4 y5 y6 y7 y8
  go_cut [] from 25 (fun wc => Hid ((z0 && z1 && z2 && z3) = true) ∧ Hid (Below w.heap.size w wc) ∧ Hid (FBox wc w.heap.size fa fb ret (.slice D n dcap) fe) ∧ Hid (XBox wc (w.heap.size + 1) c d a b k num t r v))
  case first =>
    go_wp2_with fail
    go_loopw [7] (fun i wr => ∃ j : Nat, (j = 0 ∧ i = .int .i64 0 ∨ j = 1 ∧ i = .int .i64 1 ∨ j = 2 ∧ i = .int .i64 2 ∨ j = 3 ∧ i = .int .i64 3 ∨ j = 4 ∧ i = .int .i64 4) ∧ Hid (TT z0 z1 z2 z3 j) ∧ Hid (Below w.heap.size w wr) ∧ Hid (FBox wr w.heap.size fa fb ret (.slice D n dcap) fe) ∧ Hid (XBox wr (w.heap.size + 1) c d a b k num t r v) ∧ Hid (wr.heap[G]? = some (.cells #[vI d, vI a, vI b, vI k] 3 (0, 0)))) (fun i _ => 4 - (intOf i).toNat)
    case atStart => exact ⟨0, .inl ⟨rfl, rfl⟩, lhid ⟨fun h => absurd h (by decide), fun h => absurd h (by decide), fun h => absurd h (by decide), fun h => absurd h (by decide)⟩, HB, HF, HX, HL⟩
    case round =>
      clear HB HF HX HL
      obtain ⟨j, hj4, HT, HB, HF, HX, HL⟩ := hrel
      have HR := lhid (h.out.below (keptX_nu _) HB.out)
      obtain ⟨p0, p1, p2, p3, p4⟩ := HF.out.cells
      have l0 := heap_cell (i := 0) HL.out rfl
      have l1 := heap_cell (i := 1) HL.out rfl
      have l2 := heap_cell (i := 2) HL.out rfl
      have l3 := heap_cell (i := 3) HL.out rfl
      have HG : Hid (∀ w' : World, Below wr.heap.size wr w' → (w'.cell? ⟨w.heap.size, 0, none⟩ = some (fa) ∧ w'.cell? ⟨w.heap.size, 1, none⟩ = some (fb) ∧ w'.cell? ⟨w.heap.size, 2, none⟩ = some (.int .i64 ret) ∧ w'.cell? ⟨w.heap.size, 3, none⟩ = some ((.slice D n dcap)) ∧ w'.cell? ⟨w.heap.size, 4, none⟩ = some (fe)) ∧ (w'.cell? ⟨G, 0, none⟩ = some (vI d) ∧ w'.cell? ⟨G, 1, none⟩ = some (vI a) ∧ w'.cell? ⟨G, 2, none⟩ = some (vI b) ∧ w'.cell? ⟨G, 3, none⟩ = some (vI k))) := lhid (fun w' hw' => by
        have hF' : FBox w' w.heap.size fa fb ret (.slice D n dcap) fe := heap_keep HF.out hw'
        have hL' := heap_keep HL.out hw'
        exact ⟨hF'.cells, heap_cell hL' rfl, heap_cell hL' rfl, heap_cell hL' rfl, heap_cell hL' rfl⟩)
      rcases hj4 with ⟨rfl, rfl⟩ | ⟨rfl, rfl⟩ | ⟨rfl, rfl⟩ | ⟨rfl, rfl⟩ | ⟨rfl, rfl⟩
      ·
        go_upto_region 8 with fail
        clear p0 p1 p2 p3 p4 l0 l1 l2 l3
        go_cut [38] from 29 to 38 (fun t38 wc => t38 = .bool (!z0) ∧ Hid (Below wr.heap.size wr wc))
        case first =>
          refine wp_region_quiet_c (C := fun w' => Below wr.heap.size wr w') (by kernel_rfl) (by kernel_rfl) (Below.drew' (Below.refl _ _)) ?_
          repeat (first
            | go_big_quiet_skip
            | (go_big_quiet_want
               first
                 | (refine quiet_of_run (v := ?_) (fun w' hw' => ?_) ?_
                    rotate_left
                    · (obtain ⟨⟨p0, p1, p2, p3, p4⟩, l0, l1, l2, l3⟩ := HG.out w' hw'; go_simp; try with_reducible rfl)
                    go_big_quiet_on
                    try simp only [Act.put, List.setIfInBounds_toArray, List.set_cons_zero, List.set_cons_succ])
                 | (refine quiet_of_call (v := .bool z0) (f := 51) (args := #[fuL fa fb ret (.slice D n dcap) fe, .int .i64 d, .int .u8 (sv[0].toNat : Int)]) (fun w' hw' => ?_) (fun w' hw' => ?_) ?_
                    · (obtain ⟨⟨p0, p1, p2, p3, p4⟩, l0, l1, l2, l3⟩ := HG.out w' hw'; go_simp; done)
                    · (refine (wanted_r rs fa fb ret (.slice D n dcap) fe d sv[0] z0 w' (lhid (HR.out.below (keptX_nu _) hw')) (lhid HIN.out.1) H0).mono ?_
                       rintro e w9 ⟨rfl, hb9⟩
                       exact ⟨rfl, hw'.trans (Below.less hb9 hw'.size)⟩)
                    go_big_quiet_on
                    try simp only [Act.put, List.setIfInBounds_toArray, List.set_cons_zero, List.set_cons_succ])))
          refine wpQuiet_nil ?_
          intro wx hwx
          have HWX := lhid hwx
          clear hwx
          go_wp2_with fail
          go_meet
          case rel => exact ⟨rfl, HWX⟩
        obtain ⟨rfl, HWC⟩ := hcut
        have HB2 := lhid (HB.out.trans (HWC.out.mono HB.out.size))
        have HF2 : Hid (FBox wc w.heap.size fa fb ret (.slice D n dcap) fe) := lhid (heap_keep HF.out HWC.out)
        have HX2 : Hid (XBox wc (w.heap.size + 1) c d a b k num t r v) := lhid (heap_keep HX.out HWC.out)
        have HL2 : Hid (wc.heap[G]? = some (.cells #[vI d, vI a, vI b, vI k] 3 (0, 0))) := lhid (heap_keep HL.out HWC.out)
        clear HG HR
        cases z0 with
        | false =>
          have hz : z = false := by rw [HONE.out]; simp
          subst hz
          go_wp2_with fail
          go_ret
          exact ⟨rfl, HB2.out⟩
        | true =>
          go_wp2_with fail
          go_roundw
          case rel => exact ⟨1, by simp, lhid ⟨fun _ => rfl, fun h => absurd h (by omega), fun h => absurd h (by omega), fun h => absurd h (by omega)⟩, HB2, HF2, HX2, HL2⟩
          case measure => simp [intOf]
      ·
        go_upto_region 8 with fail
        clear p0 p1 p2 p3 p4 l0 l1 l2 l3
        go_cut [38] from 29 to 38 (fun t38 wc => t38 = .bool (!z1) ∧ Hid (Below wr.heap.size wr wc))
        case first =>
          refine wp_region_quiet_c (C := fun w' => Below wr.heap.size wr w') (by kernel_rfl) (by kernel_rfl) (Below.drew' (Below.refl _ _)) ?_
          repeat (first
            | go_big_quiet_skip
            | (go_big_quiet_want
               first
                 | (refine quiet_of_run (v := ?_) (fun w' hw' => ?_) ?_
                    rotate_left
                    · (obtain ⟨⟨p0, p1, p2, p3, p4⟩, l0, l1, l2, l3⟩ := HG.out w' hw'; go_simp; try with_reducible rfl)
                    go_big_quiet_on
                    try simp only [Act.put, List.setIfInBounds_toArray, List.set_cons_zero, List.set_cons_succ])
                 | (refine quiet_of_call (v := .bool z1) (f := 51) (args := #[fuL fa fb ret (.slice D n dcap) fe, .int .i64 a, .int .u8 (sv[1].toNat : Int)]) (fun w' hw' => ?_) (fun w' hw' => ?_) ?_
                    · (obtain ⟨⟨p0, p1, p2, p3, p4⟩, l0, l1, l2, l3⟩ := HG.out w' hw'; go_simp; done)
                    · (refine (wanted_r rs fa fb ret (.slice D n dcap) fe a sv[1] z1 w' (lhid (HR.out.below (keptX_nu _) hw')) (lhid HIN.out.2.1) H1).mono ?_
                       rintro e w9 ⟨rfl, hb9⟩
                       exact ⟨rfl, hw'.trans (Below.less hb9 hw'.size)⟩)
                    go_big_quiet_on
                    try simp only [Act.put, List.setIfInBounds_toArray, List.set_cons_zero, List.set_cons_succ])))
          refine wpQuiet_nil ?_
          intro wx hwx
          have HWX := lhid hwx
          clear hwx
          go_wp2_with fail
          go_meet
          case rel => exact ⟨rfl, HWX⟩
        obtain ⟨rfl, HWC⟩ := hcut
        have HB2 := lhid (HB.out.trans (HWC.out.mono HB.out.size))
        have HF2 : Hid (FBox wc w.heap.size fa fb ret (.slice D n dcap) fe) := lhid (heap_keep HF.out HWC.out)
        have HX2 : Hid (XBox wc (w.heap.size + 1) c d a b k num t r v) := lhid (heap_keep HX.out HWC.out)
        have HL2 : Hid (wc.heap[G]? = some (.cells #[vI d, vI a, vI b, vI k] 3 (0, 0))) := lhid (heap_keep HL.out HWC.out)
        clear HG HR
        cases z1 with
        | false =>
          have hz : z = false := by rw [HONE.out]; simp
          subst hz
          go_wp2_with fail
          go_ret
          exact ⟨rfl, HB2.out⟩
        | true =>
          go_wp2_with fail
          go_roundw
          case rel => exact ⟨2, by simp, lhid ⟨fun _ => HT.out.1 (by omega), fun _ => rfl, fun h => absurd h (by omega), fun h => absurd h (by omega)⟩, HB2, HF2, HX2, HL2⟩
          case measure => simp [intOf]
      ·
        go_upto_region 8 with fail
        clear p0 p1 p2 p3 p4 l0 l1 l2 l3
        go_cut [38] from 29 to 38 (fun t38 wc => t38 = .bool (!z2) ∧ Hid (Below wr.heap.size wr wc))
        case first =>
          refine wp_region_quiet_c (C := fun w' => Below wr.heap.size wr w') (by kernel_rfl) (by kernel_rfl) (Below.drew' (Below.refl _ _)) ?_
          repeat (first
            | go_big_quiet_skip
            | (go_big_quiet_want
               first
                 | (refine quiet_of_run (v := ?_) (fun w' hw' => ?_) ?_
                    rotate_left
                    · (obtain ⟨⟨p0, p1, p2, p3, p4⟩, l0, l1, l2, l3⟩ := HG.out w' hw'; go_simp; try with_reducible rfl)
                    go_big_quiet_on
                    try simp only [Act.put, List.setIfInBounds_toArray, List.set_cons_zero, List.set_cons_succ])
                 | (refine quiet_of_call (v := .bool z2) (f := 51) (args := #[fuL fa fb ret (.slice D n dcap) fe, .int .i64 b, .int .u8 (sv[2].toNat : Int)]) (fun w' hw' => ?_) (fun w' hw' => ?_) ?_
                    · (obtain ⟨⟨p0, p1, p2, p3, p4⟩, l0, l1, l2, l3⟩ := HG.out w' hw'; go_simp; done)
                    · (refine (wanted_r rs fa fb ret (.slice D n dcap) fe b sv[2] z2 w' (lhid (HR.out.below (keptX_nu _) hw')) (lhid HIN.out.2.2.1) H2).mono ?_
                       rintro e w9 ⟨rfl, hb9⟩
                       exact ⟨rfl, hw'.trans (Below.less hb9 hw'.size)⟩)
                    go_big_quiet_on
                    try simp only [Act.put, List.setIfInBounds_toArray, List.set_cons_zero, List.set_cons_succ])))
          refine wpQuiet_nil ?_
          intro wx hwx
          have HWX := lhid hwx
          clear hwx
          go_wp2_with fail
          go_meet
          case rel => exact ⟨rfl, HWX⟩
        obtain ⟨rfl, HWC⟩ := hcut
        have HB2 := lhid (HB.out.trans (HWC.out.mono HB.out.size))
        have HF2 : Hid (FBox wc w.heap.size fa fb ret (.slice D n dcap) fe) := lhid (heap_keep HF.out HWC.out)
        have HX2 : Hid (XBox wc (w.heap.size + 1) c d a b k num t r v) := lhid (heap_keep HX.out HWC.out)
        have HL2 : Hid (wc.heap[G]? = some (.cells #[vI d, vI a, vI b, vI k] 3 (0, 0))) := lhid (heap_keep HL.out HWC.out)
        clear HG HR
        cases z2 with
        | false =>
          have hz : z = false := by rw [HONE.out]; simp
          subst hz
          go_wp2_with fail
          go_ret
          exact ⟨rfl, HB2.out⟩
        | true =>
          go_wp2_with fail
          go_roundw
          case rel => exact ⟨3, by simp, lhid ⟨fun _ => HT.out.1 (by omega), fun _ => HT.out.2.1 (by omega), fun _ => rfl, fun h => absurd h (by omega)⟩, HB2, HF2, HX2, HL2⟩
          case measure => simp [intOf]
      ·
        go_upto_region 8 with fail
        clear p0 p1 p2 p3 p4 l0 l1 l2 l3
        go_cut [38] from 29 to 38 (fun t38 wc => t38 = .bool (!z3) ∧ Hid (Below wr.heap.size wr wc))
        case first =>
          refine wp_region_quiet_c (C := fun w' => Below wr.heap.size wr w') (by kernel_rfl) (by kernel_rfl) (Below.drew' (Below.refl _ _)) ?_
          repeat (first
            | go_big_quiet_skip
            | (go_big_quiet_want
               first
                 | (refine quiet_of_run (v := ?_) (fun w' hw' => ?_) ?_
                    rotate_left
                    · (obtain ⟨⟨p0, p1, p2, p3, p4⟩, l0, l1, l2, l3⟩ := HG.out w' hw'; go_simp; try with_reducible rfl)
                    go_big_quiet_on
                    try simp only [Act.put, List.setIfInBounds_toArray, List.set_cons_zero, List.set_cons_succ])
                 | (refine quiet_of_call (v := .bool z3) (f := 51) (args := #[fuL fa fb ret (.slice D n dcap) fe, .int .i64 k, .int .u8 (sv[3].toNat : Int)]) (fun w' hw' => ?_) (fun w' hw' => ?_) ?_
                    · (obtain ⟨⟨p0, p1, p2, p3, p4⟩, l0, l1, l2, l3⟩ := HG.out w' hw'; go_simp; done)
                    · (refine (wanted_r rs fa fb ret (.slice D n dcap) fe k sv[3] z3 w' (lhid (HR.out.below (keptX_nu _) hw')) (lhid HIN.out.2.2.2) H3).mono ?_
                       rintro e w9 ⟨rfl, hb9⟩
                       exact ⟨rfl, hw'.trans (Below.less hb9 hw'.size)⟩)
                    go_big_quiet_on
                    try simp only [Act.put, List.setIfInBounds_toArray, List.set_cons_zero, List.set_cons_succ])))
          refine wpQuiet_nil ?_
          intro wx hwx
          have HWX := lhid hwx
          clear hwx
          go_wp2_with fail
          go_meet
          case rel => exact ⟨rfl, HWX⟩
        obtain ⟨rfl, HWC⟩ := hcut
        have HB2 := lhid (HB.out.trans (HWC.out.mono HB.out.size))
        have HF2 : Hid (FBox wc w.heap.size fa fb ret (.slice D n dcap) fe) := lhid (heap_keep HF.out HWC.out)
        have HX2 : Hid (XBox wc (w.heap.size + 1) c d a b k num t r v) := lhid (heap_keep HX.out HWC.out)
        have HL2 : Hid (wc.heap[G]? = some (.cells #[vI d, vI a, vI b, vI k] 3 (0, 0))) := lhid (heap_keep HL.out HWC.out)
        clear HG HR
        cases z3 with
        | false =>
          have hz : z = false := by rw [HONE.out]; simp
          subst hz
          go_wp2_with fail
          go_ret
          exact ⟨rfl, HB2.out⟩
        | true =>
          go_wp2_with fail
          go_roundw
          case rel => exact ⟨4, by simp, lhid ⟨fun _ => HT.out.1 (by omega), fun _ => HT.out.2.1 (by omega), fun _ => HT.out.2.2.1 (by omega), fun _ => rfl⟩, HB2, HF2, HX2, HL2⟩
          case measure => simp [intOf]
      ·
        have HALL : Hid ((z0 && z1 && z2 && z3) = true) := lhid (by rw [HT.out.1 (by omega), HT.out.2.1 (by omega), HT.out.2.2.1 (by omega), HT.out.2.2.2 (by omega)]; rfl)
        clear HG HR p0 p1 p2 p3 p4 l0 l1 l2 l3
        go_wp2_with fail
        go_meet
        case rel => exact ⟨HALL, HB, HF, HX⟩
  clear HB HF HX HL
  obtain ⟨HALL, HB, HF, HX⟩ := hcut
  have HZ : Hid (z = restD rs ret n ⟨c, d, a, b, k, num, t, r, l⟩) := lhid (by rw [HONE.out, HALL.out]; simp only [Bool.true_and])
  clear HONE HALL H0 H1 H2 H3
  obtain ⟨wr, hwr⟩ : ∃ wr, wr = wc := ⟨_, rfl⟩
  subst hwr
  obtain ⟨p0, p1, p2, p3, p4⟩ := HF.out.cells
  obtain ⟨y0, y1, y2, y3, y4, y5, y6, y7, y8⟩ := HX.out.cells
  obtain ⟨⟨ka, kb, ks⟩, hK⟩ : ∃ K, Nu.knd num = K := ⟨_, rfl⟩
  have HK := lhid hK
  clear hK
  go_upto_region 11 with fail
  go_cut [46] from 39 (fun t46 wc => t46 = .bool (decide (0 ≤ num) && decide (num < 1000)) ∧ wr = wc)
  case first =>
    by_cases n0 : 0 ≤ num
    · by_cases n1 : num < 1000
      · have e1 : (decide (0 ≤ num) && decide (num < 1000)) = true := by simp [n0, n1]
        go_wp2_with fail
        go_meet
        case rel => exact ⟨by rw [e1], rfl⟩
      · have e1 : (decide (0 ≤ num) && decide (num < 1000)) = false := by rw [decide_eq_false n1]; simp
        go_wp2_with fail
        go_meet
        case rel => exact ⟨by rw [e1], rfl⟩
    · have e1 : (decide (0 ≤ num) && decide (num < 1000)) = false := by rw [decide_eq_false n0]; rfl
      go_wp2_with fail
      go_meet
      case rel => exact ⟨by rw [e1], rfl⟩
  obtain ⟨rfl, hwr⟩ := hcut
  subst hwr
  go_upto_if 46 with fail
  go_cut [8, 9, 10] from 46 (fun u8 u9 u10 wc => u8 = .int .i64 ka ∧ u9 = .int .i64 kb ∧ u10 = .int .i64 ks ∧ wr = wc)
  case first =>
    by_cases n0 : 0 ≤ num ∧ num < 1000
    · have e1 : (decide (0 ≤ num) && decide (num < 1000)) = true := by simp [n0.1, n0.2]
      have e2 : wrap64 num = num := IntWalk.wrap64_in _ (by omega)
      have HN := lhid n0
      clear n0
      rw [e1]
      go_wp2_with fail
      with_reducible refine (rkinds_r num ka kb ks _ (lhid (by have := HN.out; omega)) HK).mono ?_
      rintro e w9 ⟨rfl, rfl⟩
      go_wp2_with fail
      go_meet
      case rel => exact ⟨rfl, rfl, rfl, rfl⟩
    · have e1 : (decide (0 ≤ num) && decide (num < 1000)) = false := by rw [Bool.and_eq_false_iff, decide_eq_false_iff_not, decide_eq_false_iff_not]; omega
      have hk0 : ((0, 0, 0) : Int × Int × Int) = (ka, kb, ks) := by rw [← HK.out]; exact (knd_far num n0).symm
      have HN := lhid n0
      clear n0
      injection hk0 with g1 g2
      injection g2 with g2 g3
      subst g1 g2 g3
      rw [e1]
      go_wp2_with fail
      go_meet
      case rel => exact ⟨rfl, rfl, rfl, rfl⟩
  obtain ⟨rfl, rfl, rfl, hwr⟩ := hcut
  subst hwr
  have HR := lhid (h.out.below (keptX_nu _) HB.out)
  clear HSG HIN HNE HSV HRow q1 q2 q4
  have hc := HCC.out
  clear HCC
  obtain ⟨o1, o4, o5, o6, o12, o21, o22, o16, o17, o23, o24, o25, o26⟩ := hc
  by_cases o28 : c = 28
  ·
    clear o1 o4 o5 o6 o12 o21 o22 o16 o17 o23 o24 o25 o26
    subst o28
    have HG : Hid (∀ w' : World, Below wr.heap.size wr w' → (w'.cell? ⟨w.heap.size, 0, none⟩ = some (fa) ∧ w'.cell? ⟨w.heap.size, 1, none⟩ = some (fb) ∧ w'.cell? ⟨w.heap.size, 2, none⟩ = some (.int .i64 ret) ∧ w'.cell? ⟨w.heap.size, 3, none⟩ = some ((.slice D n dcap)) ∧ w'.cell? ⟨w.heap.size, 4, none⟩ = some (fe)) ∧ (w'.cell? ⟨w.heap.size + 1, 0, none⟩ = some (.int .i64 28) ∧ w'.cell? ⟨w.heap.size + 1, 1, none⟩ = some (.int .i64 d) ∧ w'.cell? ⟨w.heap.size + 1, 2, none⟩ = some (.int .i64 a) ∧ w'.cell? ⟨w.heap.size + 1, 3, none⟩ = some (.int .i64 b) ∧ w'.cell? ⟨w.heap.size + 1, 4, none⟩ = some (.int .i64 k) ∧ w'.cell? ⟨w.heap.size + 1, 5, none⟩ = some (.int .i64 num) ∧ w'.cell? ⟨w.heap.size + 1, 6, none⟩ = some (.int .i64 t) ∧ w'.cell? ⟨w.heap.size + 1, 7, none⟩ = some (.string (tx r)) ∧ w'.cell? ⟨w.heap.size + 1, 8, none⟩ = some (v))) := lhid (fun w' hw' => by
      have hF' : FBox w' w.heap.size fa fb ret (.slice D n dcap) fe := heap_keep HF.out hw'
      have hX' : XBox w' (w.heap.size + 1) 28 d a b k num t r v := heap_keep HX.out hw'
      exact ⟨hF'.cells, hX'.cells⟩)
    obtain ⟨zp, hzp⟩ : ∃ z, placeB n t = z := ⟨_, rfl⟩
    have HP : Hid ((decide (0 ≤ t) && decide (t < (n : Int))) = zp) := lhid hzp
    have HPP := lhid hzp
    clear hzp
    by_cases g0 : 0 ≤ num
    ·
      by_cases g1 : num ≤ 5
      ·
        have hz : z = zp := by rw [HZ.out]; show (decide (0 ≤ num) && decide (num ≤ 5) && placeB n t) = _; rw [decide_eq_true g0, decide_eq_true g1, HPP.out]; simp only [Bool.true_and]
        subst hz
        clear HZ
        go_wp2_with fail
        with_reducible refine (place_r fa fb ret D n dcap fe t _ _ HP).mono ?_
        rintro e w01 ⟨rfl, hb⟩
        have HB1 := lhid (HB.out.trans (hb.mono HB.out.size))
        clear hb
        go_wp2_with fail
        go_ret
        exact ⟨rfl, HB1.out⟩
      ·
        have hz : z = false := by rw [HZ.out]; show (decide (0 ≤ num) && decide (num ≤ 5) && placeB n t) = _; rw [decide_eq_false g1]; simp
        subst hz
        clear HZ
        go_wp2_with fail
        go_ret
        exact ⟨rfl, HB.out⟩
    ·
      have hz : z = false := by rw [HZ.out]; show (decide (0 ≤ num) && decide (num ≤ 5) && placeB n t) = _; rw [decide_eq_false g0]; rfl
      subst hz
      clear HZ
      go_wp2_with fail
      go_ret
      exact ⟨rfl, HB.out⟩
  by_cases o27 : c = 27
  ·
    clear o1 o4 o5 o6 o12 o21 o22 o16 o17 o23 o24 o25 o26 o28
    subst o27
    have HG : Hid (∀ w' : World, Below wr.heap.size wr w' → (w'.cell? ⟨w.heap.size, 0, none⟩ = some (fa) ∧ w'.cell? ⟨w.heap.size, 1, none⟩ = some (fb) ∧ w'.cell? ⟨w.heap.size, 2, none⟩ = some (.int .i64 ret) ∧ w'.cell? ⟨w.heap.size, 3, none⟩ = some ((.slice D n dcap)) ∧ w'.cell? ⟨w.heap.size, 4, none⟩ = some (fe)) ∧ (w'.cell? ⟨w.heap.size + 1, 0, none⟩ = some (.int .i64 27) ∧ w'.cell? ⟨w.heap.size + 1, 1, none⟩ = some (.int .i64 d) ∧ w'.cell? ⟨w.heap.size + 1, 2, none⟩ = some (.int .i64 a) ∧ w'.cell? ⟨w.heap.size + 1, 3, none⟩ = some (.int .i64 b) ∧ w'.cell? ⟨w.heap.size + 1, 4, none⟩ = some (.int .i64 k) ∧ w'.cell? ⟨w.heap.size + 1, 5, none⟩ = some (.int .i64 num) ∧ w'.cell? ⟨w.heap.size + 1, 6, none⟩ = some (.int .i64 t) ∧ w'.cell? ⟨w.heap.size + 1, 7, none⟩ = some (.string (tx r)) ∧ w'.cell? ⟨w.heap.size + 1, 8, none⟩ = some (v))) := lhid (fun w' hw' => by
      have hF' : FBox w' w.heap.size fa fb ret (.slice D n dcap) fe := heap_keep HF.out hw'
      have hX' : XBox w' (w.heap.size + 1) 27 d a b k num t r v := heap_keep HX.out hw'
      exact ⟨hF'.cells, hX'.cells⟩)
    obtain ⟨zp, hzp⟩ : ∃ z, placeB n t = z := ⟨_, rfl⟩
    have HP : Hid ((decide (0 ≤ t) && decide (t < (n : Int))) = zp) := lhid hzp
    have HPP := lhid hzp
    clear hzp
    have hz : z = zp := by rw [HZ.out]; exact HPP.out
    subst hz
    clear HZ
    go_wp2_with fail
    with_reducible refine (place_r fa fb ret D n dcap fe t _ _ HP).mono ?_
    rintro e w01 ⟨rfl, hb⟩
    have HB1 := lhid (HB.out.trans (hb.mono HB.out.size))
    clear hb
    go_wp2_with fail
    go_ret
    exact ⟨rfl, HB1.out⟩
  by_cases o29 : c = 29
  ·
    clear o1 o4 o5 o6 o12 o21 o22 o16 o17 o23 o24 o25 o26 o28 o27
    subst o29
    have HG : Hid (∀ w' : World, Below wr.heap.size wr w' → (w'.cell? ⟨w.heap.size, 0, none⟩ = some (fa) ∧ w'.cell? ⟨w.heap.size, 1, none⟩ = some (fb) ∧ w'.cell? ⟨w.heap.size, 2, none⟩ = some (.int .i64 ret) ∧ w'.cell? ⟨w.heap.size, 3, none⟩ = some ((.slice D n dcap)) ∧ w'.cell? ⟨w.heap.size, 4, none⟩ = some (fe)) ∧ (w'.cell? ⟨w.heap.size + 1, 0, none⟩ = some (.int .i64 29) ∧ w'.cell? ⟨w.heap.size + 1, 1, none⟩ = some (.int .i64 d) ∧ w'.cell? ⟨w.heap.size + 1, 2, none⟩ = some (.int .i64 a) ∧ w'.cell? ⟨w.heap.size + 1, 3, none⟩ = some (.int .i64 b) ∧ w'.cell? ⟨w.heap.size + 1, 4, none⟩ = some (.int .i64 k) ∧ w'.cell? ⟨w.heap.size + 1, 5, none⟩ = some (.int .i64 num) ∧ w'.cell? ⟨w.heap.size + 1, 6, none⟩ = some (.int .i64 t) ∧ w'.cell? ⟨w.heap.size + 1, 7, none⟩ = some (.string (tx r)) ∧ w'.cell? ⟨w.heap.size + 1, 8, none⟩ = some (v))) := lhid (fun w' hw' => by
      have hF' : FBox w' w.heap.size fa fb ret (.slice D n dcap) fe := heap_keep HF.out hw'
      have hX' : XBox w' (w.heap.size + 1) 29 d a b k num t r v := heap_keep HX.out hw'
      exact ⟨hF'.cells, hX'.cells⟩)
    obtain ⟨zp, hzp⟩ : ∃ z, placeB n t = z := ⟨_, rfl⟩
    have HP : Hid ((decide (0 ≤ t) && decide (t < (n : Int))) = zp) := lhid hzp
    have HPP := lhid hzp
    clear hzp
    obtain ⟨kx, hkk⟩ : ∃ z, kd rs b = z := ⟨_, rfl⟩
    have HKb := lhid hkk
    clear hkk
    have HRR : Hid (z = (((num == 0) || (num == 1)) && ((b == -1) || (kx == 3)) && zp)) := lhid (by rw [HZ.out]; show (((num == 0) || (num == 1)) && ((b == -1) || (kd rs b == 3)) && placeB n t) = _; rw [HKb.out, HPP.out])
    clear HZ
    by_cases g0 : num = 0
    ·
      have n0 := beq_iff_eq.2 g0
      clear g0
      by_cases g1 : b = -1
      ·
        have b1 := beq_iff_eq.2 g1
        have hz : z = zp := by rw [HRR.out]; rw [n0, b1]; simp
        subst hz
        clear HRR
        clear g1
        go_wp2_with fail
        with_reducible refine (place_r fa fb ret D n dcap fe t _ _ HP).mono ?_
        rintro e w01 ⟨rfl, hb⟩
        have HB1 := lhid (HB.out.trans (hb.mono HB.out.size))
        clear hb
        go_wp2_with fail
        go_ret
        exact ⟨rfl, HB1.out⟩
      have b1 := beq_eq_false_iff_ne.2 g1
      clear g1
      by_cases g2 : kx = 3
      ·
        have b2 := beq_iff_eq.2 g2
        have hz : z = zp := by rw [HRR.out]; rw [n0, b2]; simp
        subst hz
        clear HRR
        subst g2
        go_wp2_with fail
        with_reducible refine (rkind_r rs fa fb ret (.slice D n dcap) fe b 3 _ HR HKb).mono ?_
        rintro e w10 ⟨rfl, hb⟩
        have HB1 := lhid (HB.out.trans (hb.mono HB.out.size))
        have HF1 : Hid (FBox w10 w.heap.size fa fb ret (.slice D n dcap) fe) := lhid (heap_keep HF.out hb)
        have HX1 : Hid (XBox w10 (w.heap.size + 1) 29 d a b k num t r v) := lhid (heap_keep HX.out hb)
        have HR1 := lhid (HR.out.below (keptX_nu _) hb)
        clear hb p0 p1 p2 p3 p4 y0 y1 y2 y3 y4 y5 y6 y7 y8
        obtain ⟨p0, p1, p2, p3, p4⟩ := HF1.out.cells
        obtain ⟨y0, y1, y2, y3, y4, y5, y6, y7, y8⟩ := HX1.out.cells
        go_wp2_with fail
        with_reducible refine (place_r fa fb ret D n dcap fe t _ _ HP).mono ?_
        rintro e w11 ⟨rfl, hb⟩
        have HB2 := lhid (HB1.out.trans (hb.mono HB1.out.size))
        clear hb
        go_wp2_with fail
        go_ret
        exact ⟨rfl, HB2.out⟩
      ·
        have b2 := beq_eq_false_iff_ne.2 g2
        have hz : z = false := by rw [HRR.out]; rw [b1, b2]; simp
        subst hz
        clear HRR
        clear g2
        go_wp2_with fail
        with_reducible refine (rkind_r rs fa fb ret (.slice D n dcap) fe b kx _ HR HKb).mono ?_
        rintro e w10 ⟨rfl, hb⟩
        have HB1 := lhid (HB.out.trans (hb.mono HB.out.size))
        have HF1 : Hid (FBox w10 w.heap.size fa fb ret (.slice D n dcap) fe) := lhid (heap_keep HF.out hb)
        have HX1 : Hid (XBox w10 (w.heap.size + 1) 29 d a b k num t r v) := lhid (heap_keep HX.out hb)
        have HR1 := lhid (HR.out.below (keptX_nu _) hb)
        clear hb p0 p1 p2 p3 p4 y0 y1 y2 y3 y4 y5 y6 y7 y8
        obtain ⟨p0, p1, p2, p3, p4⟩ := HF1.out.cells
        obtain ⟨y0, y1, y2, y3, y4, y5, y6, y7, y8⟩ := HX1.out.cells
        go_wp2_with fail
        go_ret
        exact ⟨rfl, HB1.out⟩
    have n0 := beq_eq_false_iff_ne.2 g0
    clear g0
    by_cases g5 : num = 1
    ·
      have n1 := beq_iff_eq.2 g5
      clear g5
      by_cases g1 : b = -1
      ·
        have b1 := beq_iff_eq.2 g1
        have hz : z = zp := by rw [HRR.out]; rw [n0, n1, b1]; simp
        subst hz
        clear HRR
        clear g1
        go_wp2_with fail
        with_reducible refine (place_r fa fb ret D n dcap fe t _ _ HP).mono ?_
        rintro e w01 ⟨rfl, hb⟩
        have HB1 := lhid (HB.out.trans (hb.mono HB.out.size))
        clear hb
        go_wp2_with fail
        go_ret
        exact ⟨rfl, HB1.out⟩
      have b1 := beq_eq_false_iff_ne.2 g1
      clear g1
      by_cases g2 : kx = 3
      ·
        have b2 := beq_iff_eq.2 g2
        have hz : z = zp := by rw [HRR.out]; rw [n0, n1, b2]; simp
        subst hz
        clear HRR
        subst g2
        go_wp2_with fail
        with_reducible refine (rkind_r rs fa fb ret (.slice D n dcap) fe b 3 _ HR HKb).mono ?_
        rintro e w10 ⟨rfl, hb⟩
        have HB1 := lhid (HB.out.trans (hb.mono HB.out.size))
        have HF1 : Hid (FBox w10 w.heap.size fa fb ret (.slice D n dcap) fe) := lhid (heap_keep HF.out hb)
        have HX1 : Hid (XBox w10 (w.heap.size + 1) 29 d a b k num t r v) := lhid (heap_keep HX.out hb)
        have HR1 := lhid (HR.out.below (keptX_nu _) hb)
        clear hb p0 p1 p2 p3 p4 y0 y1 y2 y3 y4 y5 y6 y7 y8
        obtain ⟨p0, p1, p2, p3, p4⟩ := HF1.out.cells
        obtain ⟨y0, y1, y2, y3, y4, y5, y6, y7, y8⟩ := HX1.out.cells
        go_wp2_with fail
        with_reducible refine (place_r fa fb ret D n dcap fe t _ _ HP).mono ?_
        rintro e w11 ⟨rfl, hb⟩
        have HB2 := lhid (HB1.out.trans (hb.mono HB1.out.size))
        clear hb
        go_wp2_with fail
        go_ret
        exact ⟨rfl, HB2.out⟩
      ·
        have b2 := beq_eq_false_iff_ne.2 g2
        have hz : z = false := by rw [HRR.out]; rw [b1, b2]; simp
        subst hz
        clear HRR
        clear g2
        go_wp2_with fail
        with_reducible refine (rkind_r rs fa fb ret (.slice D n dcap) fe b kx _ HR HKb).mono ?_
        rintro e w10 ⟨rfl, hb⟩
        have HB1 := lhid (HB.out.trans (hb.mono HB.out.size))
        have HF1 : Hid (FBox w10 w.heap.size fa fb ret (.slice D n dcap) fe) := lhid (heap_keep HF.out hb)
        have HX1 : Hid (XBox w10 (w.heap.size + 1) 29 d a b k num t r v) := lhid (heap_keep HX.out hb)
        have HR1 := lhid (HR.out.below (keptX_nu _) hb)
        clear hb p0 p1 p2 p3 p4 y0 y1 y2 y3 y4 y5 y6 y7 y8
        obtain ⟨p0, p1, p2, p3, p4⟩ := HF1.out.cells
        obtain ⟨y0, y1, y2, y3, y4, y5, y6, y7, y8⟩ := HX1.out.cells
        go_wp2_with fail
        go_ret
        exact ⟨rfl, HB1.out⟩
    ·
      have n1 := beq_eq_false_iff_ne.2 g5
      clear g5
      have hz : z = false := by rw [HRR.out]; rw [n0, n1]; rfl
      subst hz
      clear HRR
      go_wp2_with fail
      go_ret
      exact ⟨rfl, HB.out⟩
  by_cases o30 : c = 30
  ·
    clear o1 o4 o5 o6 o12 o21 o22 o16 o17 o23 o24 o25 o26 o28 o27 o29
    subst o30
    have HG : Hid (∀ w' : World, Below wr.heap.size wr w' → (w'.cell? ⟨w.heap.size, 0, none⟩ = some (fa) ∧ w'.cell? ⟨w.heap.size, 1, none⟩ = some (fb) ∧ w'.cell? ⟨w.heap.size, 2, none⟩ = some (.int .i64 ret) ∧ w'.cell? ⟨w.heap.size, 3, none⟩ = some ((.slice D n dcap)) ∧ w'.cell? ⟨w.heap.size, 4, none⟩ = some (fe)) ∧ (w'.cell? ⟨w.heap.size + 1, 0, none⟩ = some (.int .i64 30) ∧ w'.cell? ⟨w.heap.size + 1, 1, none⟩ = some (.int .i64 d) ∧ w'.cell? ⟨w.heap.size + 1, 2, none⟩ = some (.int .i64 a) ∧ w'.cell? ⟨w.heap.size + 1, 3, none⟩ = some (.int .i64 b) ∧ w'.cell? ⟨w.heap.size + 1, 4, none⟩ = some (.int .i64 k) ∧ w'.cell? ⟨w.heap.size + 1, 5, none⟩ = some (.int .i64 num) ∧ w'.cell? ⟨w.heap.size + 1, 6, none⟩ = some (.int .i64 t) ∧ w'.cell? ⟨w.heap.size + 1, 7, none⟩ = some (.string (tx r)) ∧ w'.cell? ⟨w.heap.size + 1, 8, none⟩ = some (v))) := lhid (fun w' hw' => by
      have hF' : FBox w' w.heap.size fa fb ret (.slice D n dcap) fe := heap_keep HF.out hw'
      have hX' : XBox w' (w.heap.size + 1) 30 d a b k num t r v := heap_keep HX.out hw'
      exact ⟨hF'.cells, hX'.cells⟩)
    by_cases g0 : ret = 0
    ·
      have hz : z = (a == -1) := by rw [HZ.out]; show (if ret = 0 then a == -1 else !(a == -1) && (kd rs a == ret)) = _; rw [if_pos g0]
      subst hz
      clear HZ
      have b0 := beq_iff_eq.2 g0
      subst g0
      go_wp2_with fail
      go_ret
      exact ⟨rfl, HB.out⟩
    have b0 := beq_eq_false_iff_ne.2 g0
    obtain ⟨ky, hkk⟩ : ∃ z, kd rs a = z := ⟨_, rfl⟩
    have HKa := lhid hkk
    clear hkk
    by_cases g1 : a = -1
    ·
      have hz : z = false := by rw [HZ.out]; show (if ret = 0 then a == -1 else !(a == -1) && (kd rs a == ret)) = _; rw [if_neg g0, g1]; rfl
      subst hz
      clear HZ
      have b1 := beq_iff_eq.2 g1
      have b2 : (a != -1) = false := by rw [bne, b1]; rfl
      clear g0 g1
      go_upto_region 43 with fail
      clear p0 p1 p2 p3 p4 y0 y1 y2 y3 y4 y5 y6 y7 y8
      refine wp_region_quiet_c (C := fun w' => Below wr.heap.size wr w') (by kernel_rfl) (by kernel_rfl) (Below.drew' (Below.refl _ _)) ?_
      repeat (first
        | go_big_quiet_skip
        | (go_big_quiet_want
           first
             | (refine quiet_of_run (v := ?_) (fun w' hw' => ?_) ?_
                rotate_left
                · (obtain ⟨⟨p0, p1, p2, p3, p4⟩, y0, y1, y2, y3, y4, y5, y6, y7, y8⟩ := HG.out w' hw'; go_simp; try with_reducible rfl)
                go_big_quiet_on
                try simp only [Act.put, List.setIfInBounds_toArray, List.set_cons_zero, List.set_cons_succ])))
      refine wpQuiet_nil ?_
      intro wx hwx
      have HW := lhid (HB.out.trans (hwx.mono HB.out.size))
      clear hwx
      go_wp2_with fail
      go_ret
      exact ⟨rfl, HW.out⟩
    ·
      have b1 := beq_eq_false_iff_ne.2 g1
      have b2 : (a != -1) = true := by rw [bne, b1]; rfl
      have hz : z = (ky == ret) := by rw [HZ.out]; show (if ret = 0 then a == -1 else !(a == -1) && (kd rs a == ret)) = _; rw [if_neg g0, b1, HKa.out]; rfl
      subst hz
      clear HZ
      clear g0 g1
      go_upto_region 43 with fail
      clear p0 p1 p2 p3 p4 y0 y1 y2 y3 y4 y5 y6 y7 y8
      refine wp_region_quiet_c (C := fun w' => Below wr.heap.size wr w') (by kernel_rfl) (by kernel_rfl) (Below.drew' (Below.refl _ _)) ?_
      repeat (first
        | go_big_quiet_skip
        | (go_big_quiet_want
           first
             | (refine quiet_of_run (v := ?_) (fun w' hw' => ?_) ?_
                rotate_left
                · (obtain ⟨⟨p0, p1, p2, p3, p4⟩, y0, y1, y2, y3, y4, y5, y6, y7, y8⟩ := HG.out w' hw'; go_simp; try with_reducible rfl)
                go_big_quiet_on
                try simp only [Act.put, List.setIfInBounds_toArray, List.set_cons_zero, List.set_cons_succ])
             | (refine quiet_of_call (v := .int .i64 ky) (f := 22) (args := #[fuL fa fb ret (.slice D n dcap) fe, .int .i64 a]) (fun w' hw' => ?_) (fun w' hw' => ?_) ?_
                · (obtain ⟨⟨p0, p1, p2, p3, p4⟩, y0, y1, y2, y3, y4, y5, y6, y7, y8⟩ := HG.out w' hw'; go_simp; done)
                · (refine (rkind_r rs fa fb ret (.slice D n dcap) fe a ky w' (lhid (HR.out.below (keptX_nu _) hw')) HKa).mono ?_
                   rintro e w9 ⟨rfl, hb9⟩
                   exact ⟨rfl, hw'.trans (Below.less hb9 hw'.size)⟩)
                go_big_quiet_on
                try simp only [Act.put, List.setIfInBounds_toArray, List.set_cons_zero, List.set_cons_succ])))
      refine wpQuiet_nil ?_
      intro wx hwx
      have HW := lhid (HB.out.trans (hwx.mono HB.out.size))
      clear hwx
      go_wp2_with fail
      go_ret
      exact ⟨rfl, HW.out⟩
  have q1 : (c == 1) = false := beq_eq_false_iff_ne.2 o1
  have q4 : (c == 4) = false := beq_eq_false_iff_ne.2 o4
  have q5 : (c == 5) = false := beq_eq_false_iff_ne.2 o5
  have q6 : (c == 6) = false := beq_eq_false_iff_ne.2 o6
  have q12 : (c == 12) = false := beq_eq_false_iff_ne.2 o12
  have q21 : (c == 21) = false := beq_eq_false_iff_ne.2 o21
  have q22 : (c == 22) = false := beq_eq_false_iff_ne.2 o22
  have q16 : (c == 16) = false := beq_eq_false_iff_ne.2 o16
  have q17 : (c == 17) = false := beq_eq_false_iff_ne.2 o17
  have q23 : (c == 23) = false := beq_eq_false_iff_ne.2 o23
  have q24 : (c == 24) = false := beq_eq_false_iff_ne.2 o24
  have q25 : (c == 25) = false := beq_eq_false_iff_ne.2 o25
  have q26 : (c == 26) = false := beq_eq_false_iff_ne.2 o26
  have q28 : (c == 28) = false := beq_eq_false_iff_ne.2 o28
  have q27 : (c == 27) = false := beq_eq_false_iff_ne.2 o27
  have q29 : (c == 29) = false := beq_eq_false_iff_ne.2 o29
  have q30 : (c == 30) = false := beq_eq_false_iff_ne.2 o30
  have hz : z = true := by
    rw [HZ.out]
    unfold restD
    dsimp only
    rw [if_neg o1, if_neg o4, if_neg o5, if_neg o6, if_neg (by simp; omega), if_neg (by simp; omega), if_neg (by simp; omega), if_neg o28, if_neg o27, if_neg o29, if_neg o30]
  subst hz
  clear HZ o1 o4 o5 o6 o12 o21 o22 o16 o17 o23 o24 o25 o26 o28 o27 o29 o30
  go_wp2_with fail
  go_ret
  exact ⟨rfl, HB.out⟩
end Go.Proofs.Ytbkeneadoccodaa
