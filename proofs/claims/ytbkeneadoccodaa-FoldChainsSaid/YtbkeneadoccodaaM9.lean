/- Texts of this claim, joined: CInsRChk2, CInsRChk3. -/
import Derived.Test.YtbkeneadoccodaaJCInsRChk1
import Derived.Deep.Cut
import Derived.Deep.CutRange
import Derived.Test.YtbkeneadoccodaaJCRefType
import Derived.Deep.CutBlock
/- Contract of the document's call. -/
namespace Go.Proofs.Ytbkeneadoccodaa
open Go.RowKit Go
set_option linter.unusedVariables false
set_option linter.unusedSimpArgs false
set_option maxHeartbeats 8000000 in
set_option maxRecDepth 100000 in
theorem rcall_any {P Q : Nat → Prop} (rs : List Int) (fa fb : Value) (ret : Int) (fd fe : Value) (x : InI) (v : Value) (w : World) (h : Hid (RdX P 1 NuE w fa rs)) (hv : Hid (RdX Q 1 NuE w v x.args)) :
    Calls Try.prog 54 #[fuL fa fb ret fd fe, inA x v] w fun e w' => e = .returned (.bool (callD rs x)) ∧ Below w.heap.size w w' := by
  obtain ⟨A, cap, rfl⟩ := hv.out.shape
  have hll := hv.out.len
  obtain ⟨z, hz⟩ : ∃ z, callD rs x = z := ⟨_, rfl⟩
  have HC := lhid hz
  rw [hz]
  clear hz
  by_cases n0 : x.num < 0 ∧ ¬ x.op = 25
  ·
    have HZ : Hid (z = false) := lhid (by rw [← HC.out]; unfold callD; rw [decide_eq_true n0.1, beq_eq_false_iff_ne.2 n0.2]; rfl)
    have hz := HZ.out
    subst hz
    have n1 := n0.1
    have n2 : (x.op == 25) = false := beq_eq_false_iff_ne.2 n0.2
    have n3 : (x.op != 25) = true := by rw [bne, n2]; rfl
    clear n0
    go_enter Try.func54, Try.ntmps54
    go_upto_region 1 with fail
    generalize hW : World.alloc _ _ = wr
    have hB : Below w.heap.size w wr := by rw [← hW]; exact ((Below.refl w.heap.size w).alloc (Nat.le_refl _) _).alloc (by simp) _
    have hF : FBox wr w.heap.size fa fb ret fd fe := by rw [← hW]; exact (Below.heap_alloc _ _ _ (by simp)).trans (heap_alloc_new w _)
    have hX : XBox wr (w.heap.size + 1) x.op x.dst x.a x.b x.c x.num x.too x.ref (.slice A x.args.length cap) := by
      rw [← hW]
      exact heap_new2 w _ _
    have HR := lhid (h.out.below (keptX_nu _) hB)
    have HV := lhid (hv.out.below (keptX_nu _) hB)
    have HF := lhid hF
    have HX := lhid hX
    have HB := lhid hB
    obtain ⟨p0, p1, p2, p3, p4⟩ := hF.cells
    obtain ⟨y0, y1, y2, y3, y4, y5, y6, y7, y8⟩ := hX.cells
    clear hB hF hX hW
    go_wp2_with fail
    go_ret
    exact ⟨rfl, HB.out⟩
  have HN : Hid ((!(decide (x.num < 0) && !(x.op == 25))) = true) := lhid (by
    by_cases a1 : x.num < 0
    · have a2 : x.op = 25 := by
        by_cases a3 : x.op = 25
        · exact a3
        · exact absurd ⟨a1, a3⟩ n0
      rw [a2]; simp
    · rw [decide_eq_false a1]; rfl)
  have hway : (x.num < 0 ∧ x.op = 25) ∨ ¬ x.num < 0 := by
    by_cases a1 : x.num < 0
    · refine .inl ⟨a1, ?_⟩
      by_cases a3 : x.op = 25
      · exact a3
      · exact absurd ⟨a1, a3⟩ n0
    · exact .inr a1
  clear n0
  by_cases l0 : 21 < x.args.length
  ·
    have HZ : Hid (z = false) := lhid (by rw [← HC.out]; unfold callD; rw [decide_eq_false (show ¬ x.args.length ≤ 21 by omega)]; simp)
    have hz := HZ.out
    subst hz
    have l1 : (21 : Int) < x.args.length := by omega
    clear l0
    rcases hway with ⟨n1, n2⟩ | n1
    ·
      have n3 : (x.op == 25) = true := by rw [n2]; rfl
      have n4 : (x.op != 25) = false := by rw [bne, n3]; rfl
      clear n2
      go_enter Try.func54, Try.ntmps54
      go_upto_region 1 with fail
      generalize hW : World.alloc _ _ = wr
      have hB : Below w.heap.size w wr := by rw [← hW]; exact ((Below.refl w.heap.size w).alloc (Nat.le_refl _) _).alloc (by simp) _
      have hF : FBox wr w.heap.size fa fb ret fd fe := by rw [← hW]; exact (Below.heap_alloc _ _ _ (by simp)).trans (heap_alloc_new w _)
      have hX : XBox wr (w.heap.size + 1) x.op x.dst x.a x.b x.c x.num x.too x.ref (.slice A x.args.length cap) := by
        rw [← hW]
        exact heap_new2 w _ _
      have HR := lhid (h.out.below (keptX_nu _) hB)
      have HV := lhid (hv.out.below (keptX_nu _) hB)
      have HF := lhid hF
      have HX := lhid hX
      have HB := lhid hB
      obtain ⟨p0, p1, p2, p3, p4⟩ := hF.cells
      obtain ⟨y0, y1, y2, y3, y4, y5, y6, y7, y8⟩ := hX.cells
      clear hB hF hX hW
      go_wp2_with fail
      go_ret
      exact ⟨rfl, HB.out⟩
    ·
      go_enter Try.func54, Try.ntmps54
      go_upto_region 1 with fail
      generalize hW : World.alloc _ _ = wr
      have hB : Below w.heap.size w wr := by rw [← hW]; exact ((Below.refl w.heap.size w).alloc (Nat.le_refl _) _).alloc (by simp) _
      have hF : FBox wr w.heap.size fa fb ret fd fe := by rw [← hW]; exact (Below.heap_alloc _ _ _ (by simp)).trans (heap_alloc_new w _)
      have hX : XBox wr (w.heap.size + 1) x.op x.dst x.a x.b x.c x.num x.too x.ref (.slice A x.args.length cap) := by
        rw [← hW]
        exact heap_new2 w _ _
      have HR := lhid (h.out.below (keptX_nu _) hB)
      have HV := lhid (hv.out.below (keptX_nu _) hB)
      have HF := lhid hF
      have HX := lhid hX
      have HB := lhid hB
      obtain ⟨p0, p1, p2, p3, p4⟩ := hF.cells
      obtain ⟨y0, y1, y2, y3, y4, y5, y6, y7, y8⟩ := hX.cells
      clear hB hF hX hW
      go_wp2_with fail
      go_ret
      exact ⟨rfl, HB.out⟩
  have l1 : ¬ (21 : Int) < x.args.length := by omega
  have HL : Hid (decide (x.args.length ≤ 21) = true) := lhid (decide_eq_true (by omega))
  have HLN : Hid (x.args.length ≤ 21) := lhid (by omega)
  clear l0
  obtain ⟨kz, hkz⟩ : ∃ k, kd rs x.dst = k := ⟨_, rfl⟩
  have HKD := lhid hkz
  clear hkz
  by_cases d0 : ¬ x.dst = -1 ∧ kz = 0
  ·
    have HZ : Hid (z = false) := lhid (by rw [← HC.out]; unfold callD; rw [HKD.out, beq_eq_false_iff_ne.2 d0.1, d0.2]; simp)
    have hz := HZ.out
    subst hz
    have d1 : (x.dst == -1) = false := beq_eq_false_iff_ne.2 d0.1
    have d2 : (x.dst != -1) = true := by rw [bne, d1]; rfl
    have hk0 := d0.2
    subst hk0
    clear d0
    rcases hway with ⟨n1, n2⟩ | n1
    ·
      have n3 : (x.op == 25) = true := by rw [n2]; rfl
      have n4 : (x.op != 25) = false := by rw [bne, n3]; rfl
      clear n2
      go_enter Try.func54, Try.ntmps54
      go_upto_region 1 with fail
      generalize hW : World.alloc _ _ = wr
      have hB : Below w.heap.size w wr := by rw [← hW]; exact ((Below.refl w.heap.size w).alloc (Nat.le_refl _) _).alloc (by simp) _
      have hF : FBox wr w.heap.size fa fb ret fd fe := by rw [← hW]; exact (Below.heap_alloc _ _ _ (by simp)).trans (heap_alloc_new w _)
      have hX : XBox wr (w.heap.size + 1) x.op x.dst x.a x.b x.c x.num x.too x.ref (.slice A x.args.length cap) := by
        rw [← hW]
        exact heap_new2 w _ _
      have HR := lhid (h.out.below (keptX_nu _) hB)
      have HV := lhid (hv.out.below (keptX_nu _) hB)
      have HF := lhid hF
      have HX := lhid hX
      have HB := lhid hB
      obtain ⟨p0, p1, p2, p3, p4⟩ := hF.cells
      obtain ⟨y0, y1, y2, y3, y4, y5, y6, y7, y8⟩ := hX.cells
      clear hB hF hX hW
      go_wp2_with fail
      with_reducible refine (rkind_r rs fa fb ret fd fe x.dst 0 _ HR HKD).mono ?_
      rintro e w1 ⟨rfl, hb⟩
      have HB1 := lhid (HB.out.trans (hb.mono HB.out.size))
      have hF : FBox w1 w.heap.size fa fb ret fd fe := heap_keep HF.out hb
      have hX : XBox w1 (w.heap.size + 1) x.op x.dst x.a x.b x.c x.num x.too x.ref (.slice A x.args.length cap) := heap_keep HX.out hb
      have HR1 := lhid (HR.out.below (keptX_nu _) hb)
      have HV1 := lhid (HV.out.below (keptX_nu _) hb)
      clear p0 p1 p2 p3 p4 y0 y1 y2 y3 y4 y5 y6 y7 y8 hb
      obtain ⟨p0, p1, p2, p3, p4⟩ := hF.cells
      obtain ⟨y0, y1, y2, y3, y4, y5, y6, y7, y8⟩ := hX.cells
      have HF1 := lhid hF
      have HX1 := lhid hX
      clear hF hX
      go_wp2_with fail
      go_ret
      exact ⟨rfl, HB1.out⟩
    ·
      go_enter Try.func54, Try.ntmps54
      go_upto_region 1 with fail
      generalize hW : World.alloc _ _ = wr
      have hB : Below w.heap.size w wr := by rw [← hW]; exact ((Below.refl w.heap.size w).alloc (Nat.le_refl _) _).alloc (by simp) _
      have hF : FBox wr w.heap.size fa fb ret fd fe := by rw [← hW]; exact (Below.heap_alloc _ _ _ (by simp)).trans (heap_alloc_new w _)
      have hX : XBox wr (w.heap.size + 1) x.op x.dst x.a x.b x.c x.num x.too x.ref (.slice A x.args.length cap) := by
        rw [← hW]
        exact heap_new2 w _ _
      have HR := lhid (h.out.below (keptX_nu _) hB)
      have HV := lhid (hv.out.below (keptX_nu _) hB)
      have HF := lhid hF
      have HX := lhid hX
      have HB := lhid hB
      obtain ⟨p0, p1, p2, p3, p4⟩ := hF.cells
      obtain ⟨y0, y1, y2, y3, y4, y5, y6, y7, y8⟩ := hX.cells
      clear hB hF hX hW
      go_wp2_with fail
      with_reducible refine (rkind_r rs fa fb ret fd fe x.dst 0 _ HR HKD).mono ?_
      rintro e w1 ⟨rfl, hb⟩
      have HB1 := lhid (HB.out.trans (hb.mono HB.out.size))
      have hF : FBox w1 w.heap.size fa fb ret fd fe := heap_keep HF.out hb
      have hX : XBox w1 (w.heap.size + 1) x.op x.dst x.a x.b x.c x.num x.too x.ref (.slice A x.args.length cap) := heap_keep HX.out hb
      have HR1 := lhid (HR.out.below (keptX_nu _) hb)
      have HV1 := lhid (HV.out.below (keptX_nu _) hb)
      clear p0 p1 p2 p3 p4 y0 y1 y2 y3 y4 y5 y6 y7 y8 hb
      obtain ⟨p0, p1, p2, p3, p4⟩ := hF.cells
      obtain ⟨y0, y1, y2, y3, y4, y5, y6, y7, y8⟩ := hX.cells
      have HF1 := lhid hF
      have HX1 := lhid hX
      clear hF hX
      go_wp2_with fail
      go_ret
      exact ⟨rfl, HB1.out⟩
  have HD : Hid ((!(!(x.dst == -1) && kd rs x.dst == 0)) = true) := lhid (by
    rw [HKD.out]
    by_cases a1 : x.dst = -1
    · rw [a1]; rfl
    · have : ¬ kz = 0 := fun e => d0 ⟨a1, e⟩
      rw [beq_eq_false_iff_ne.2 this]; simp)
  have HCC : Hid (z = (x.args.all (fun r => !(kd rs r == 0)) && ((!(x.op == 24) && !(x.op == 25)) || objB rs x.args))) := lhid (by rw [← HC.out]; unfold callD; rw [HN.out, HL.out, HD.out]; simp only [Bool.true_and])
  clear HN HL HD HC
  have hdw : (x.dst == -1) = true ∧ (x.dst != -1) = false ∨ (x.dst == -1) = false ∧ (x.dst != -1) = true ∧ (kz == 0) = false := by
    by_cases a1 : x.dst = -1
    · exact .inl (by rw [a1]; decide)
    · have : ¬ kz = 0 := fun e => d0 ⟨a1, e⟩
      exact .inr ⟨beq_eq_false_iff_ne.2 a1, by rw [bne, beq_eq_false_iff_ne.2 a1]; rfl, beq_eq_false_iff_ne.2 this⟩
  clear d0
  go_enter Try.func54, Try.ntmps54
  go_upto_region 1 with fail
  generalize hW : World.alloc _ _ = wr
  have hB : Below w.heap.size w wr := by rw [← hW]; exact ((Below.refl w.heap.size w).alloc (Nat.le_refl _) _).alloc (by simp) _
  have hF : FBox wr w.heap.size fa fb ret fd fe := by rw [← hW]; exact (Below.heap_alloc _ _ _ (by simp)).trans (heap_alloc_new w _)
  have hX : XBox wr (w.heap.size + 1) x.op x.dst x.a x.b x.c x.num x.too x.ref (.slice A x.args.length cap) := by
    rw [← hW]
    exact heap_new2 w _ _
  have HR := lhid (h.out.below (keptX_nu _) hB)
  have HV := lhid (hv.out.below (keptX_nu _) hB)
  have HF := lhid hF
  have HX := lhid hX
  have HB := lhid hB
  obtain ⟨p0, p1, p2, p3, p4⟩ := hF.cells
  obtain ⟨y0, y1, y2, y3, y4, y5, y6, y7, y8⟩ := hX.cells
  clear hB hF hX hW
  go_cut [31] from 6 to 31 (fun t31 wc => t31 = .bool false ∧ Hid (Below w.heap.size w wc) ∧ Hid (FBox wc w.heap.size fa fb ret fd fe) ∧ Hid (XBox wc (w.heap.size + 1) x.op x.dst x.a x.b x.c x.num x.too x.ref (.slice A x.args.length cap)))
  case first =>
    rcases hdw with ⟨d1, d2⟩ | ⟨d1, d2, d3⟩
    ·
      rcases hway with ⟨n1, n2⟩ | n1
      ·
        have n3 : (x.op == 25) = true := by rw [n2]; rfl
        have n4 : (x.op != 25) = false := by rw [bne, n3]; rfl
        clear n2
        go_wp2_with fail
        go_meet
        case rel => exact ⟨rfl, HB, HF, HX⟩
      ·
        go_wp2_with fail
        go_meet
        case rel => exact ⟨rfl, HB, HF, HX⟩
    ·
      rcases hway with ⟨n1, n2⟩ | n1
      ·
        have n3 : (x.op == 25) = true := by rw [n2]; rfl
        have n4 : (x.op != 25) = false := by rw [bne, n3]; rfl
        clear n2
        go_wp2_with fail
        with_reducible refine (rkind_r rs fa fb ret fd fe x.dst kz _ HR HKD).mono ?_
        rintro e w1 ⟨rfl, hb⟩
        have HB1 := lhid (HB.out.trans (hb.mono HB.out.size))
        have hF : FBox w1 w.heap.size fa fb ret fd fe := heap_keep HF.out hb
        have hX : XBox w1 (w.heap.size + 1) x.op x.dst x.a x.b x.c x.num x.too x.ref (.slice A x.args.length cap) := heap_keep HX.out hb
        have HR1 := lhid (HR.out.below (keptX_nu _) hb)
        have HV1 := lhid (HV.out.below (keptX_nu _) hb)
        clear p0 p1 p2 p3 p4 y0 y1 y2 y3 y4 y5 y6 y7 y8 hb
        obtain ⟨p0, p1, p2, p3, p4⟩ := hF.cells
        obtain ⟨y0, y1, y2, y3, y4, y5, y6, y7, y8⟩ := hX.cells
        have HF1 := lhid hF
        have HX1 := lhid hX
        clear hF hX
        go_wp2_with fail
        go_meet
        case rel => exact ⟨rfl, HB1, HF1, HX1⟩
      ·
        go_wp2_with fail
        with_reducible refine (rkind_r rs fa fb ret fd fe x.dst kz _ HR HKD).mono ?_
        rintro e w1 ⟨rfl, hb⟩
        have HB1 := lhid (HB.out.trans (hb.mono HB.out.size))
        have hF : FBox w1 w.heap.size fa fb ret fd fe := heap_keep HF.out hb
        have hX : XBox w1 (w.heap.size + 1) x.op x.dst x.a x.b x.c x.num x.too x.ref (.slice A x.args.length cap) := heap_keep HX.out hb
        have HR1 := lhid (HR.out.below (keptX_nu _) hb)
        have HV1 := lhid (HV.out.below (keptX_nu _) hb)
        clear p0 p1 p2 p3 p4 y0 y1 y2 y3 y4 y5 y6 y7 y8 hb
        obtain ⟨p0, p1, p2, p3, p4⟩ := hF.cells
        obtain ⟨y0, y1, y2, y3, y4, y5, y6, y7, y8⟩ := hX.cells
        have HF1 := lhid hF
        have HX1 := lhid hX
        clear hF hX
        go_wp2_with fail
        go_meet
        case rel => exact ⟨rfl, HB1, HF1, HX1⟩
  obtain ⟨rfl, HB1, HF1, HX1⟩ := hcut
  have HR1 := HR
  have HV1 := HV
  go_wp2_with fail
  go_loopw [5] (fun i wr => ∃ k : Nat, i = .int .i64 k ∧ k ≤ x.args.length ∧ Hid ((x.args.take k).all (fun r => !(kd rs r == 0)) = true) ∧ Hid (Below w.heap.size w wr) ∧ Hid (FBox wr w.heap.size fa fb ret fd fe) ∧ Hid (XBox wr (w.heap.size + 1) x.op x.dst x.a x.b x.c x.num x.too x.ref (.slice A x.args.length cap))) (fun i _ => x.args.length - (intOf i).toNat)
  case atStart => exact ⟨0, rfl, Nat.zero_le _, lhid (by simp), HB1, HF1, HX1⟩
  case round =>
    clear HB1 HF1 HX1 HR1 HV1 HB HF HX HR HV p0 p1 p2 p3 p4 y0 y1 y2 y3 y4 y5 y6 y7 y8
    obtain ⟨k, rfl, hk, HN, HB, HF, HX⟩ := hrel
    obtain ⟨p0, p1, p2, p3, p4⟩ := HF.out.cells
    obtain ⟨y0, y1, y2, y3, y4, y5, y6, y7, y8⟩ := HX.out.cells
    have HR := lhid (h.out.below (keptX_nu _) HB.out)
    have HV := lhid (hv.out.below (keptX_nu _) HB.out)
    by_cases hlt : k < x.args.length
    ·
      obtain ⟨r, hr⟩ : ∃ r, x.args[k]? = some r := ⟨_, List.getElem?_eq_getElem hlt⟩
      obtain ⟨g, o, hA, _, c0⟩ := rd_cell HV.out hr
      have k3 : (k : Int) < x.args.length := by omega
      have k4 : k < x.args.length := hlt
      have HRR := lhid hr
      obtain ⟨kr, hkr⟩ : ∃ q, kd rs r = q := ⟨_, rfl⟩
      have HKR := lhid hkr
      have HC0 : Hid (∀ w' : World, Below wr.heap.size wr w' → w'.cell? ⟨g, o + k, none⟩ = some (.int .i64 r)) := lhid (fun w' hw' => (hw'.cell (p := ⟨g, o + k, none⟩) (cell_lt c0)).trans c0)
      clear hr hkr c0
      have HG : Hid (∀ w' : World, Below wr.heap.size wr w' → (w'.cell? ⟨w.heap.size, 0, none⟩ = some (fa) ∧ w'.cell? ⟨w.heap.size, 1, none⟩ = some (fb) ∧ w'.cell? ⟨w.heap.size, 2, none⟩ = some (.int .i64 ret) ∧ w'.cell? ⟨w.heap.size, 3, none⟩ = some (fd) ∧ w'.cell? ⟨w.heap.size, 4, none⟩ = some (fe)) ∧ (w'.cell? ⟨w.heap.size + 1, 0, none⟩ = some (.int .i64 x.op) ∧ w'.cell? ⟨w.heap.size + 1, 1, none⟩ = some (.int .i64 x.dst) ∧ w'.cell? ⟨w.heap.size + 1, 2, none⟩ = some (.int .i64 x.a) ∧ w'.cell? ⟨w.heap.size + 1, 3, none⟩ = some (.int .i64 x.b) ∧ w'.cell? ⟨w.heap.size + 1, 4, none⟩ = some (.int .i64 x.c) ∧ w'.cell? ⟨w.heap.size + 1, 5, none⟩ = some (.int .i64 x.num) ∧ w'.cell? ⟨w.heap.size + 1, 6, none⟩ = some (.int .i64 x.too) ∧ w'.cell? ⟨w.heap.size + 1, 7, none⟩ = some (.string (tx x.ref)) ∧ w'.cell? ⟨w.heap.size + 1, 8, none⟩ = some ((.slice A x.args.length cap)))) := lhid (fun w' hw' => by
        have hF' : FBox w' w.heap.size fa fb ret fd fe := heap_keep HF.out hw'
        have hX' : XBox w' (w.heap.size + 1) x.op x.dst x.a x.b x.c x.num x.too x.ref (.slice A x.args.length cap) := heap_keep HX.out hw'
        exact ⟨hF'.cells, hX'.cells⟩)
      subst hA
      go_upto_region 6 with fail
      go_cut [46] from 32 to 46 (fun t46 wc => t46 = .bool (kr == 0) ∧ Hid (Below wr.heap.size wr wc))
      case first =>
        refine wp_region_quiet_c (C := fun w' => Below wr.heap.size wr w') (by kernel_rfl) (by kernel_rfl) (Below.drew' (Below.refl _ _)) ?_
        repeat (first
          | go_big_quiet_skip
          | (go_big_quiet_want
             first
               | (refine quiet_of_run (v := ?_) (fun w' hw' => ?_) ?_
                  rotate_left
                  · (obtain ⟨⟨p0, p1, p2, p3, p4⟩, y0, y1, y2, y3, y4, y5, y6, y7, y8⟩ := HG.out w' hw'; have k9 := HC0.out w' hw'; go_simp; try with_reducible rfl)
                  go_big_quiet_on
                  try simp only [Act.put, List.setIfInBounds_toArray, List.set_cons_zero, List.set_cons_succ])
               | (refine quiet_of_call (v := .int .i64 kr) (f := 22) (args := #[fuL fa fb ret fd fe, .int .i64 r]) (fun w' hw' => ?_) (fun w' hw' => ?_) ?_
                  · (obtain ⟨⟨p0, p1, p2, p3, p4⟩, y0, y1, y2, y3, y4, y5, y6, y7, y8⟩ := HG.out w' hw'; have k9 := HC0.out w' hw'; go_simp; done)
                  · (refine (rkind_r rs fa fb ret fd fe r kr w' (lhid (HR.out.below (keptX_nu _) hw')) HKR).mono ?_
                     rintro e w9 ⟨rfl, hb9⟩
                     exact ⟨rfl, hw'.trans (Below.less hb9 hw'.size)⟩)
                  go_big_quiet_on
                  try simp only [Act.put, List.setIfInBounds_toArray, List.set_cons_zero, List.set_cons_succ])))
        refine wpQuiet_nil ?_
        intro wx hwx
        have HWX := lhid hwx
        clear hwx
        go_wp2_with fail
        go_meet
        case rel => exact ⟨rfl, HWX⟩
      obtain ⟨rfl, HWC⟩ := hcut
      have HB2 := lhid (HB.out.trans (HWC.out.mono HB.out.size))
      have HF2 : Hid (FBox wc w.heap.size fa fb ret fd fe) := lhid (heap_keep HF.out HWC.out)
      have HX2 : Hid (XBox wc (w.heap.size + 1) x.op x.dst x.a x.b x.c x.num x.too x.ref (.slice (some ⟨g, o, none⟩) x.args.length cap)) := lhid (heap_keep HX.out HWC.out)
      clear HG HC0 p0 p1 p2 p3 p4 y0 y1 y2 y3 y4 y5 y6 y7 y8
      by_cases q : kr = 0
      ·
        have HM := lhid (all_bad (p := fun r => !(kd rs r == 0)) HRR.out (by rw [HKR.out, q]; rfl))
        have HZ : Hid (z = false) := lhid (by rw [HCC.out, HM.out]; rfl)
        have hz := HZ.out
        subst hz
        subst q
        go_wp2_with fail
        go_ret
        exact ⟨rfl, HB2.out⟩
      ·
        have q0 : (kr == 0) = false := beq_eq_false_iff_ne.2 q
        have HM2 : Hid ((x.args.take (k + 1)).all (fun r => !(kd rs r == 0)) = true) := lhid (by rw [all_step (p := fun r => !(kd rs r == 0)) HRR.out HN.out, HKR.out, q0]; rfl)
        clear q
        go_wp2_with fail
        go_roundw
        case rel => exact ⟨k + 1, by go_num, by omega, HM2, HB2, HF2, HX2⟩
        case measure => simp [intOf]; omega
    ·
      have k3 : ¬ (k : Int) < x.args.length := by omega
      have HA : Hid (x.args.all (fun r => !(kd rs r == 0)) = true) := lhid (by
        have hn := HN.out
        rw [List.take_of_length_le (by omega)] at hn
        exact hn)
      have HZ : Hid (z = ((!(x.op == 24) && !(x.op == 25)) || objB rs x.args)) := lhid (by rw [HCC.out, HA.out]; simp only [Bool.true_and])
      clear HN HCC HA hlt
      have HG : Hid (∀ w' : World, Below wr.heap.size wr w' → (w'.cell? ⟨w.heap.size, 0, none⟩ = some (fa) ∧ w'.cell? ⟨w.heap.size, 1, none⟩ = some (fb) ∧ w'.cell? ⟨w.heap.size, 2, none⟩ = some (.int .i64 ret) ∧ w'.cell? ⟨w.heap.size, 3, none⟩ = some (fd) ∧ w'.cell? ⟨w.heap.size, 4, none⟩ = some (fe)) ∧ (w'.cell? ⟨w.heap.size + 1, 0, none⟩ = some (.int .i64 x.op) ∧ w'.cell? ⟨w.heap.size + 1, 1, none⟩ = some (.int .i64 x.dst) ∧ w'.cell? ⟨w.heap.size + 1, 2, none⟩ = some (.int .i64 x.a) ∧ w'.cell? ⟨w.heap.size + 1, 3, none⟩ = some (.int .i64 x.b) ∧ w'.cell? ⟨w.heap.size + 1, 4, none⟩ = some (.int .i64 x.c) ∧ w'.cell? ⟨w.heap.size + 1, 5, none⟩ = some (.int .i64 x.num) ∧ w'.cell? ⟨w.heap.size + 1, 6, none⟩ = some (.int .i64 x.too) ∧ w'.cell? ⟨w.heap.size + 1, 7, none⟩ = some (.string (tx x.ref)) ∧ w'.cell? ⟨w.heap.size + 1, 8, none⟩ = some ((.slice A x.args.length cap)))) := lhid (fun w' hw' => by
        have hF' : FBox w' w.heap.size fa fb ret fd fe := heap_keep HF.out hw'
        have hX' : XBox w' (w.heap.size + 1) x.op x.dst x.a x.b x.c x.num x.too x.ref (.slice A x.args.length cap) := heap_keep HX.out hw'
        exact ⟨hF'.cells, hX'.cells⟩)
      have hop : (x.op = 24 ∨ x.op = 25) ∨ (¬ x.op = 24 ∧ ¬ x.op = 25) := by omega
      have hret : ∀ b : Bool, (x.op = 24 ∨ x.op = 25) → ((!(x.op == 24) && !(x.op == 25)) || b) = b := fun b e => by
        rcases e with e | e <;> rw [e] <;> cases b <;> rfl
      have HRET := lhid hret
      clear hret
      rcases hop with hop | ⟨o1, o2⟩
      ·
        have HZ2 : Hid (z = objB rs x.args) := lhid (by rw [HZ.out, HRET.out _ hop])
        clear HRET HZ
        obtain ⟨bo, hbo⟩ : ∃ b, ((x.op != 24) && (x.op != 25)) = b := ⟨_, rfl⟩
        have hb0 : bo = false := by rcases hop with e | e <;> rw [e] at hbo <;> exact hbo.symm
        subst hb0
        have hq : (x.op == 24) = true ∧ (x.op != 24) = false ∨ ((x.op == 24) = false ∧ (x.op != 24) = true ∧ (x.op == 25) = true ∧ (x.op != 25) = false) := by
          rcases hop with e | e <;> rw [e] <;> decide
        clear hop hbo
        cases hL : x.args with
        | nil =>
          have e0 : x.args.length = 0 := by rw [hL]; rfl
          have e1 : decide (((x.args.length : Nat) : Int) > 0) = false := by rw [e0]; rfl
          have e2 : ¬ (0 : Int) < x.args.length := by rw [e0]; decide
          have e3 : decide ((0 : Int) < (x.args.length : Int)) = false := by rw [e0]; rfl
          have e4 : decide (0 < x.args.length) = false := by rw [e0]; rfl
          have e5 : ¬ 0 < x.args.length := by omega
          have hz : z = false := by rw [HZ2.out, hL]; rfl
          subst hz
          clear e0 hL HZ2
          rcases hq with ⟨m1, m2⟩ | ⟨m1, m2, m3, m4⟩
          all_goals
            go_wp2_with fail
            refine wp_region_quiet_c (C := fun w' => Below wr.heap.size wr w') (by kernel_rfl) (by kernel_rfl) (Below.drew' (Below.refl _ _)) ?_
            repeat (first
              | go_big_quiet_skip
              | (go_big_quiet_want
                 first
                   | (refine quiet_of_run (v := ?_) (fun w' hw' => ?_) ?_
                      rotate_left
                      · (obtain ⟨⟨p0, p1, p2, p3, p4⟩, y0, y1, y2, y3, y4, y5, y6, y7, y8⟩ := HG.out w' hw'; go_simp; try with_reducible rfl)
                      go_big_quiet_on
                      try simp only [Act.put, List.setIfInBounds_toArray, List.set_cons_zero, List.set_cons_succ])))
            refine wpQuiet_nil ?_
            intro wx hwx
            have HW := lhid (HB.out.trans (hwx.mono HB.out.size))
            clear hwx
            go_wp2_with fail
            go_ret
            exact ⟨rfl, HW.out⟩
        | cons r q =>
          have hr0 : x.args[0]? = some r := by rw [hL]; rfl
          obtain ⟨g, o, hA, _, c0⟩ := rd_cell HV.out hr0
          have c0 : wr.cell? ⟨g, o, none⟩ = some (.int .i64 r) := c0
          have HC0 : Hid (∀ w' : World, Below wr.heap.size wr w' → w'.cell? ⟨g, o, none⟩ = some (.int .i64 r)) := lhid (fun w' hw' => (hw'.cell (p := ⟨g, o, none⟩) (cell_lt c0)).trans c0)
          have e0 : 0 < x.args.length := by rw [hL]; simp
          have e2 : (0 : Int) < x.args.length := by omega
          have e1 : decide ((0 : Int) < (x.args.length : Int)) = true := decide_eq_true e2
          have e4 : decide (0 < x.args.length) = true := decide_eq_true e0
          have HO : Hid (objB rs (r :: q) = (kd rs r == 3)) := lhid rfl
          obtain ⟨kr, hkr⟩ : ∃ q, kd rs r = q := ⟨_, rfl⟩
          have HKR := lhid hkr
          rw [hkr] at HO
          have hz : z = (kr == 3) := by rw [HZ2.out, hL, HO.out]
          subst hz
          clear hr0 c0 hL hkr HO HZ2
          subst hA
          rcases hq with ⟨m1, m2⟩ | ⟨m1, m2, m3, m4⟩
          all_goals
            go_wp2_with fail
            refine wp_region_quiet_c (C := fun w' => Below wr.heap.size wr w') (by kernel_rfl) (by kernel_rfl) (Below.drew' (Below.refl _ _)) ?_
            repeat (first
              | go_big_quiet_skip
              | (go_big_quiet_want
                 first
                   | (refine quiet_of_run (v := ?_) (fun w' hw' => ?_) ?_
                      rotate_left
                      · (obtain ⟨⟨p0, p1, p2, p3, p4⟩, y0, y1, y2, y3, y4, y5, y6, y7, y8⟩ := HG.out w' hw'; have k9 := HC0.out w' hw'; go_simp; try with_reducible rfl)
                      go_big_quiet_on
                      try simp only [Act.put, List.setIfInBounds_toArray, List.set_cons_zero, List.set_cons_succ])
                   | (refine quiet_of_call (v := .int .i64 kr) (f := 22) (args := #[fuL fa fb ret fd fe, .int .i64 r]) (fun w' hw' => ?_) (fun w' hw' => ?_) ?_
                      · (obtain ⟨⟨p0, p1, p2, p3, p4⟩, y0, y1, y2, y3, y4, y5, y6, y7, y8⟩ := HG.out w' hw'; have k9 := HC0.out w' hw'; go_simp; done)
                      · (refine (rkind_r rs fa fb ret fd fe r kr w' (lhid (HR.out.below (keptX_nu _) hw')) HKR).mono ?_
                         rintro e w9 ⟨rfl, hb9⟩
                         exact ⟨rfl, hw'.trans (Below.less hb9 hw'.size)⟩)
                      go_big_quiet_on
                      try simp only [Act.put, List.setIfInBounds_toArray, List.set_cons_zero, List.set_cons_succ])))
            refine wpQuiet_nil ?_
            intro wx hwx
            have HW := lhid (HB.out.trans (hwx.mono HB.out.size))
            clear hwx
            go_wp2_with fail
            go_ret
            exact ⟨rfl, HW.out⟩
      ·
        have m1 : (x.op == 24) = false := beq_eq_false_iff_ne.2 o1
        have m2 : (x.op == 25) = false := beq_eq_false_iff_ne.2 o2
        have m3 : (x.op != 24) = true := by rw [bne, m1]; rfl
        have m4 : (x.op != 25) = true := by rw [bne, m2]; rfl
        have hz : z = true := by rw [HZ.out, m1, m2]; rfl
        subst hz
        clear o1 o2 HRET HZ
        go_wp2_with fail
        refine wp_region_quiet_c (C := fun w' => Below wr.heap.size wr w') (by kernel_rfl) (by kernel_rfl) (Below.drew' (Below.refl _ _)) ?_
        repeat (first
          | go_big_quiet_skip
          | (go_big_quiet_want
             first
               | (refine quiet_of_run (v := ?_) (fun w' hw' => ?_) ?_
                  rotate_left
                  · (obtain ⟨⟨p0, p1, p2, p3, p4⟩, y0, y1, y2, y3, y4, y5, y6, y7, y8⟩ := HG.out w' hw'; go_simp; try with_reducible rfl)
                  go_big_quiet_on
                  try simp only [Act.put, List.setIfInBounds_toArray, List.set_cons_zero, List.set_cons_succ])))
        refine wpQuiet_nil ?_
        intro wx hwx
        have HW := lhid (HB.out.trans (hwx.mono HB.out.size))
        clear hwx
        go_wp2_with fail
        go_ret
        exact ⟨rfl, HW.out⟩
end Go.Proofs.Ytbkeneadoccodaa
/- Contract of the document's one. -/
namespace Go.Proofs.Ytbkeneadoccodaa
open Go.RowKit Go
set_option linter.unusedVariables false
set_option linter.unusedSimpArgs false
theorem rtype_r (x : Bs) (z : Bool) (w : World) (hz : Hid (typeB x = z)) (hs : Hid (x.length ≤ maxLen)) : Calls Try.prog 53 #[.string (tx x)] w fun e w' => e = .returned (.bool z) ∧ w = w' := by
 have hs2 := hs.out
 have := refType_any (tx x) w (by rw [tx_size]; exact hs2)
 rwa [tx_list, hz.out] at this
theorem rcall_r {P Q : Nat → Prop} (rs : List Int) (fa fb : Value) (ret : Int) (fd fe : Value) (x : InI) (v : Value) (z : Bool) (w : World) (h : Hid (RdX P 1 NuE w fa rs)) (hv : Hid (RdX Q 1 NuE w v x.args)) (hz : Hid (callD rs x = z)) :
  Calls Try.prog 54 #[fuL fa fb ret fd fe, inA x v] w fun e w' => e = .returned (.bool z) ∧ Below w.heap.size w w' := by
 have := rcall_any rs fa fb ret fd fe x v w h hv
 rwa [hz.out] at this
def TT (z0 z1 z2 z3 : Bool) (j : Nat) : Prop := (0 < j → z0 = true) ∧ (1 < j → z1 = true) ∧ (2 < j → z2 = true) ∧ (3 < j → z3 = true)
set_option maxHeartbeats 16000000 in
set_option maxRecDepth 100000 in
theorem rone_none {P Q : Nat → Prop} (rs : List Int) (fa fb : Value) (ret : Int) (D : Option Addr) (n dcap : Nat) (fe : Value) (c d a b k num t : Int) (r : Bs) (l : List Int) (v : Value) (w : World) (h : Hid (RdX P 1 NuE w fa rs)) (hv : Hid (RdX Q 1 NuE w v l)) (hr : Hid (r.length ≤ maxLen)) (he : rowT c = []) :
  Calls Try.prog 24 #[fuL fa fb ret (.slice D n dcap) fe, inL c d a b k num t r v] w fun e w' => e = .returned (.bool false) ∧ Below w.heap.size w w' := by
 have HRow : ∀ w, Hid (Calls Try.prog 50 #[.int .i64 c] w fun e w' => e = .returned (.string (tx [])) ∧ Below w.heap.size w w') := fun w => lhid (by have := rrow_any c w; rwa [he] at this)
 have q0 := tx_nil
 go_enter Try.func24, Try.ntmps24
 go_wp2_with fail
 with_reducible refine (HRow _).out.mono ?_
 rintro e w1 ⟨rfl, hb⟩
 have hF : FBox w1 w.heap.size fa fb ret (.slice D n dcap) fe := heap_keep ((Below.heap_alloc _ _ _ (by simp)).trans (heap_alloc_new w _)) hb
 have hX : XBox w1 (w.heap.size + 1) c d a b k num t r v := heap_keep (heap_new2 w _ _) hb
 have hb1 := (((Below.refl w.heap.size w).alloc (Nat.le_refl _) _).alloc (by simp) _).trans (hb.mono (by simp; omega))
 have HB1 := lhid hb1
 obtain ⟨p0, p1, p2, p3, p4⟩ := hF.cells
 obtain ⟨y0, y1, y2, y3, y4, y5, y6, y7, y8⟩ := hX.cells
 have HF1 := lhid hF
 have HX1 := lhid hX
 clear hb hF hX hb1
 go_wp2_with fail
 go_ret
 exact ⟨rfl, HB1.out⟩
theorem knd_far (c : Int) (h : ¬ (0 ≤ c ∧ c < 1000)) : Nu.knd c = (0, 0, 0) := Nu.knd_none c (by omega)
theorem rkinds_r (c a b s : Int) (w : World) (hc : Hid (0 ≤ c ∧ c < 1000)) (hk : Hid (Nu.knd c = (a, b, s))) : Calls Try.prog 52 #[.int .i64 c] w fun e w' => e = .returned (.tuple #[.int .i64 a, .int .i64 b, .int .i64 s]) ∧ w = w' := by
 have := Nu.refKinds_any c (by have := hc.out; omega) w
 rwa [hk.out] at this
end Go.Proofs.Ytbkeneadoccodaa
