/- Package check: field. -/
import Derived.Test.YtpdnonlelocfbaaGreatDoorM4
namespace Go.Proofs.YtpdnonlelocfbaaGreatDoor
open Go.RowKit Go Go.Maps
set_option linter.unusedVariables false
def fieldP (s1 : Cs) (E : Chk) (t : Bs) (fl : Int) (d : Bs) (th st wr : Bool) : Cs :=
  let s2 := (s1.refuse (!th || bStat fl != st) 70).know E d
  let s3 := if wr then s2.pop E d else s2
  let s4 := if st then s3 else s3.pop E (E.of t)
  if wr then s4 else s4.push E d
theorem field_eq (s : Cs) (E : Chk) (o : Int) (a : Nat) : s.field E o a = fieldP (s.pooled E a [9]).2 E (s.pooled E a [9]).1.text ((E.field (s.pooled E a [9]).1.text (s.pooled E a [9]).1.name (s.pooled E a [9]).1.desc).getD (0, [])).1 ((E.field (s.pooled E a [9]).1.text (s.pooled E a [9]).1.name (s.pooled E a [9]).1.desc).getD (0, [])).2 (E.field (s.pooled E a [9]).1.text (s.pooled E a [9]).1.name (s.pooled E a [9]).1.desc).isSome (decide (o = 178 ∨ o = 179)) (decide (o = 179 ∨ o = 181)) := by
  unfold Cs.field fieldP
  dsimp only
  rw [show ∀ q : Option (Int × Bs), q.isNone = !q.isSome from fun q => by cases q <;> rfl]
section
variable {E : Chk} {Z : Nat → Prop} {wT : World} {c : Nat} {F : Fx} {N : Nat} {s : Cs} {kn : Bool} {st : Value} {w : World}
set_option maxHeartbeats 4000000 in
set_option maxRecDepth 100000 in
theorem field_c (HE : Hid (Env E F.tb wT)) (HF : Hid (Fit E F wT)) (HC : Hid (Ck E Z wT c F N s kn st w)) (p o : Int) (a : Nat) (q : Int) (ha : a ≤ 4294967296) :
    Calls Tryz.prog 170 #[.pointer (some ⟨c, 0, none⟩), .agg #[.int .i64 p, .int .i64 o, .int .i64 a, .int .i64 q]] w (CkOut E Z wT c F N (s.field E o a) kn st w (.returned (.tuple #[]))) := by
  have hb0 : Below w.heap.size w (w.alloc (.cells #[.int .i64 p, .int .i64 o, .int .i64 a, .int .i64 q] 187)) := (Below.refl _ _).alloc (Nat.le_refl _) _
  have hz0 := heap_alloc_new w (.cells #[.int .i64 p, .int .i64 o, .int .i64 a, .int .i64 q] 187)
  have HB0 := lhid hb0
  have HZ0 := lhid hz0
  have HK0 := lhid (HC.out.box hb0 (Nat.le_refl _) (by simp))
  have HC0 := lhid (Ch.refl (fun k => Z k ∧ k ≠ w.heap.size) (w.alloc (.cells #[.int .i64 p, .int .i64 o, .int .i64 a, .int .i64 q] 187)))
  have b1 : (w.alloc (.cells #[.int .i64 p, .int .i64 o, .int .i64 a, .int .i64 q] 187)).cell? ⟨w.heap.size, 1, none⟩ = some (.int .i64 o) := heap_cell hz0 rfl
  have b2 : (w.alloc (.cells #[.int .i64 p, .int .i64 o, .int .i64 a, .int .i64 q] 187)).cell? ⟨w.heap.size, 2, none⟩ = some (.int .i64 a) := heap_cell hz0 rfl
  clear hb0 hz0
  have hFE := field_eq s E o a
  go_enter Tryz.func170, Tryz.ntmps170
  by_cases h0 : o = 178
  · subst h0
    have hQ1 : decide ((178 : Int) = 178 ∨ (178 : Int) = 179) = true := by decide
    have hQ2 : decide ((178 : Int) = 179 ∨ (178 : Int) = 181) = false := by decide
    rw [hQ1, hQ2] at hFE
    clear hQ1 hQ2
    go_upto_region 3 with fail
    generalize w.alloc (.cells #[.int .i64 p, .int .i64 178, .int .i64 a, .int .i64 q] 187) = w0 at *
    go_wp2_with fail
    with_reducible refine (pooled1_c HE HF HK0 a ha 9).mono ?_
    rintro e w1 ⟨rfl, hk, hc⟩
    obtain ⟨x, hx⟩ : ∃ x, (s.pooled E a [9]).1 = x := ⟨_, rfl⟩
    obtain ⟨s1, hs1⟩ : ∃ x, (s.pooled E a [9]).2 = x := ⟨_, rfl⟩
    have HSM := lhid (pooled_small HE.out s a [9])
    rw [hx] at HSM hFE ⊢
    rw [hs1] at hk hFE
    unfold coV
    have HKb := lhid (hk.box ((Below.refl w1.heap.size w1).alloc (Nat.le_refl _) (.cells #[.int .i64 x.kind, .int .i64 x.num, .string (tx x.text), .string (tx x.name), .string (tx x.desc)] 213)) (Nat.le_refl _) (by simp))
    have HZ1 := lhid (heap_alloc_new w1 (.cells #[.int .i64 x.kind, .int .i64 x.num, .string (tx x.text), .string (tx x.name), .string (tx x.desc)] 213))
    have HW1 := lhid ((Below.refl w1.heap.size w1).alloc (Nat.le_refl _) (.cells #[.int .i64 x.kind, .int .i64 x.num, .string (tx x.text), .string (tx x.name), .string (tx x.desc)] 213))
    have HT2 := lhid (((Ch.of (X := Z) HB0.out).tr (hc.mono fun _ _ h => h.1)).tr (Ch.of HW1.out))
    have HXT : Hid (x.text.length ≤ ML) := lhid (Nat.le_trans HSM.out.1 (by decide))
    obtain ⟨fl, hfl⟩ : ∃ y, ((E.field x.text x.name x.desc).getD (0, [])).1 = y := ⟨_, rfl⟩
    obtain ⟨d, hd⟩ : ∃ y, ((E.field x.text x.name x.desc).getD (0, [])).2 = y := ⟨_, rfl⟩
    obtain ⟨th, hth⟩ : ∃ y, (E.field x.text x.name x.desc).isSome = y := ⟨_, rfl⟩
    have HDL : Hid (d.length ≤ ML) := lhid (by rw [← hd]; exact Nat.le_trans (HE.out.l_field _ _ _) (by decide))
    have HOL : Hid ((E.of x.text).length ≤ ML) := lhid (by have h2 := HE.out.l_of x.text; have h3 : (4294967296 : Nat) + 2 ≤ ML := (by decide); have := HSM.out.1; omega)
    rw [hfl, hd, hth] at hFE
    have HFT := lhid (And.intro hfl (And.intro hd hth))
    have HR := lhid hFE
    clear hx hs1 hk hc hFE hfl hd hth
    go_upto_region 4 with fail
    generalize w1.alloc (.cells #[.int .i64 x.kind, .int .i64 x.num, .string (tx x.text), .string (tx x.name), .string (tx x.desc)] 213) = w2 at *
    have x2 := heap_cell (i := 2) HZ1.out rfl
    have x3 := heap_cell (i := 3) HZ1.out rfl
    have x4 := heap_cell (i := 4) HZ1.out rfl
    have t0 := HKb.out.cell
    have hSS : ∀ w' : World, Below w2.heap.size w2 w' → (w'.cell? ⟨c, 0, none⟩ = some (.pointer (some ⟨F.tb, 0, none⟩)) ∧ w'.cell? ⟨w1.heap.size, 2, none⟩ = some (.string (tx x.text)) ∧ w'.cell? ⟨w1.heap.size, 3, none⟩ = some (.string (tx x.name)) ∧ w'.cell? ⟨w1.heap.size, 4, none⟩ = some (.string (tx x.desc))) := fun w' hb => ⟨(hb.cell (p := ⟨c, 0, none⟩) (cell_lt t0)).trans t0, (hb.cell (p := ⟨w1.heap.size, 2, none⟩) (cell_lt x2)).trans x2, (hb.cell (p := ⟨w1.heap.size, 3, none⟩) (cell_lt x3)).trans x3, (hb.cell (p := ⟨w1.heap.size, 4, none⟩) (cell_lt x4)).trans x4⟩
    have HSS := lhid hSS
    clear hSS
    go_region_held3 (fun w' => w'.cell? ⟨c, 0, none⟩ = some (.pointer (some ⟨F.tb, 0, none⟩)) ∧ w'.cell? ⟨w1.heap.size, 2, none⟩ = some (.string (tx x.text)) ∧ w'.cell? ⟨w1.heap.size, 3, none⟩ = some (.string (tx x.name)) ∧ w'.cell? ⟨w1.heap.size, 4, none⟩ = some (.string (tx x.desc))) (first | exact HSS.out _ (Below.drew' (Below.refl _ _)) | exact HSS.out _ (Below.drew' ((Below.refl _ _).alloc (Nat.le_refl _) _)) | exact HSS.out _ (Below.alloc (Below.drew' (Below.refl _ _)) (Nat.le_refl _) _) | exact HSS.out _ hb5 | exact HSS.out _ (Below.alloc hb5 hb5.size _) | exact HSS.out _ (((hb5.setCell (p := ⟨w2.heap.size, 0, none⟩) (Nat.le_refl _) _).setCell (p := ⟨w2.heap.size, 1, none⟩) (Nat.le_refl _) _).setCell (p := ⟨w2.heap.size, 2, none⟩) (Nat.le_refl _) _)) (first
      | ((with_reducible refine (HE.out.field x.text x.name x.desc _ HXT.out (HKb.out.below (Below.drew' (Below.refl _ _))).std).mono ?_); rintro e w5 ⟨⟨on, nm, rfl⟩, hb5'⟩; have hb5 : Below w2.heap.size w2 w5 := ⟨hb5'.os, hb5'.tape, hb5'.output, hb5'.size, hb5'.block⟩; rw [HFT.out.1, HFT.out.2.1, HFT.out.2.2])
      | ((with_reducible refine (HE.out.field x.text x.name x.desc _ HXT.out (HKb.out.below (Below.drew' ((Below.refl _ _).alloc (Nat.le_refl _) (.cells #[.int .i64 0, .string ⟨#[]⟩, .string ⟨#[]⟩] 91)))).std).mono ?_); rintro e w5 ⟨⟨on, nm, rfl⟩, hb5'⟩; have hb5 : Below w2.heap.size w2 w5 := (Below.drew' ((Below.refl w2.heap.size w2).alloc (Nat.le_refl _) (.cells #[.int .i64 0, .string ⟨#[]⟩, .string ⟨#[]⟩] 91))).trans (Below.less hb5' (by simp)); have hf5 : w5.heap[w2.heap.size]? = some (.cells #[.int .i64 0, .string ⟨#[]⟩, .string ⟨#[]⟩] 91 (0, 0)) := (hb5'.block _ (by simp)).trans (heap_alloc_new w2 (.cells #[.int .i64 0, .string ⟨#[]⟩, .string ⟨#[]⟩] 91)); have y0 := heap_cell (i := 0) hf5 rfl; have y1 := heap_cell (i := 1) hf5 rfl; have y2 := heap_cell (i := 2) hf5 rfl; have z0 := heap_thaw hf5 0; have z1 := heap_thaw hf5 1; have z2 := heap_thaw hf5 2; rw [HFT.out.1, HFT.out.2.1, HFT.out.2.2]))
    · have hbF : Below w2.heap.size w2 (w5.alloc (.cells #[.int .i64 fl, .string (tx nm), .string (tx d)] 91)) := Below.alloc hb5 hb5.size _
      have hfF : (w5.alloc (.cells #[.int .i64 fl, .string (tx nm), .string (tx d)] 91)).heap[w5.heap.size]? = some (.cells #[.int .i64 fl, .string (tx nm), .string (tx d)] 91 (0, 0)) := heap_alloc_new w5 _
      have hgF : w2.heap.size ≤ w5.heap.size := hb5.size
      have HKF := lhid (HKb.out.box hbF hgF (heap_lt hfF))
      have HFZ := lhid hfF
      have HBX := lhid ((hbF.block _ (heap_lt HZ1.out)).trans HZ1.out)
      have HTF := lhid (HT2.out.tr (Ch.of hbF))
      have f0 := heap_cell (i := 0) hfF rfl
      clear hbF hfF hgF hb5 hb5' t0 x2 x3 x4
      generalize (w5.alloc (.cells #[.int .i64 fl, .string (tx nm), .string (tx d)] 91)) = wF at *
      generalize w5.heap.size = FB at *
      cases th with
      | false =>
        go_wp2_with fail
        with_reducible refine (refuse_b HKF (b' := !false || bStat fl != true) ?hb 70).mono ?_
        case hb => cases bStat fl <;> rfl
        rintro e w6 ⟨rfl, hk, hc⟩
        have HK6 := lhid hk
        have HC6 := lhid hc
        clear hk hc
        have k6 := heap_cell (i := 2) (HC6.out.keep HFZ.out (fun h => h.2 rfl)) rfl
        go_wp2_with fail
        with_reducible refine (know_c HE HK6 d HDL.out).mono ?_
        rintro e w7 ⟨rfl, hk, hc⟩
        have HK7 := lhid hk
        have HC7 := lhid (HC6.out.tr hc)
        clear hk hc
        have m7 := heap_cell (i := 2) (HC7.out.keep HFZ.out (fun h => h.2 rfl)) rfl
        go_wp2_with fail
        with_reducible refine (push1_c HE HF HK7 (txb d) HDL.out).mono ?_
        rintro e w8 ⟨rfl, hk, hc⟩
        have HK8 := lhid hk
        have HC8 := lhid (HC7.out.tr hc)
        clear hk hc
        go_wp2_with fail
        go_end0
        rw [HR.out]
        exact ⟨rfl, HK8.out.unbox HC.out (fun _ h => h.1.1.1) (Nat.le_trans HTF.out.size HC8.out.size), HTF.out.tr (HC8.out.mono fun _ _ h => h.1.1.1)⟩
      | true =>
        go_wp2_with fail
        with_reducible refine (isStatic_c fl _).mono ?_
        rintro e w9 ⟨rfl, rfl⟩
        go_wp2_with fail
        with_reducible refine (refuse_b HKF (b' := !true || bStat fl != true) ?hb 70).mono ?_
        case hb => cases bStat fl <;> rfl
        rintro e w6 ⟨rfl, hk, hc⟩
        have HK6 := lhid hk
        have HC6 := lhid hc
        clear hk hc
        have k6 := heap_cell (i := 2) (HC6.out.keep HFZ.out (fun h => h.2 rfl)) rfl
        go_wp2_with fail
        with_reducible refine (know_c HE HK6 d HDL.out).mono ?_
        rintro e w7 ⟨rfl, hk, hc⟩
        have HK7 := lhid hk
        have HC7 := lhid (HC6.out.tr hc)
        clear hk hc
        have m7 := heap_cell (i := 2) (HC7.out.keep HFZ.out (fun h => h.2 rfl)) rfl
        go_wp2_with fail
        with_reducible refine (push1_c HE HF HK7 (txb d) HDL.out).mono ?_
        rintro e w8 ⟨rfl, hk, hc⟩
        have HK8 := lhid hk
        have HC8 := lhid (HC7.out.tr hc)
        clear hk hc
        go_wp2_with fail
        go_end0
        rw [HR.out]
        exact ⟨rfl, HK8.out.unbox HC.out (fun _ h => h.1.1.1) (Nat.le_trans HTF.out.size HC8.out.size), HTF.out.tr (HC8.out.mono fun _ _ h => h.1.1.1)⟩
    · have hbF : Below w2.heap.size w2 (((w5.setCell ⟨w2.heap.size, 0, none⟩ (.int .i64 fl)).setCell ⟨w2.heap.size, 1, none⟩ (.string (tx nm))).setCell ⟨w2.heap.size, 2, none⟩ (.string (tx d))) := ((hb5.setCell (p := ⟨w2.heap.size, 0, none⟩) (Nat.le_refl _) _).setCell (p := ⟨w2.heap.size, 1, none⟩) (Nat.le_refl _) _).setCell (p := ⟨w2.heap.size, 2, none⟩) (Nat.le_refl _) _
      have hfF : (((w5.setCell ⟨w2.heap.size, 0, none⟩ (.int .i64 fl)).setCell ⟨w2.heap.size, 1, none⟩ (.string (tx nm))).setCell ⟨w2.heap.size, 2, none⟩ (.string (tx d))).heap[w2.heap.size]? = some (.cells #[.int .i64 fl, .string (tx nm), .string (tx d)] 91 (0, 0)) := heap_set (heap_set (heap_set hf5 _) _) _
      have hgF : w2.heap.size ≤ w2.heap.size := Nat.le_refl _
      have HKF := lhid (HKb.out.box hbF hgF (heap_lt hfF))
      have HFZ := lhid hfF
      have HBX := lhid ((hbF.block _ (heap_lt HZ1.out)).trans HZ1.out)
      have HTF := lhid (HT2.out.tr (Ch.of hbF))
      have f0 := heap_cell (i := 0) hfF rfl
      clear hbF hfF hgF hb5 hb5' t0 x2 x3 x4 hf5 y0 y1 y2 z0 z1 z2
      generalize (((w5.setCell ⟨w2.heap.size, 0, none⟩ (.int .i64 fl)).setCell ⟨w2.heap.size, 1, none⟩ (.string (tx nm))).setCell ⟨w2.heap.size, 2, none⟩ (.string (tx d))) = wF at *
      cases th with
      | false =>
        go_wp2_with fail
        with_reducible refine (refuse_b HKF (b' := !false || bStat fl != true) ?hb 70).mono ?_
        case hb => cases bStat fl <;> rfl
        rintro e w6 ⟨rfl, hk, hc⟩
        have HK6 := lhid hk
        have HC6 := lhid hc
        clear hk hc
        have k6 := heap_cell (i := 2) (HC6.out.keep HFZ.out (fun h => h.2 rfl)) rfl
        go_wp2_with fail
        with_reducible refine (know_c HE HK6 d HDL.out).mono ?_
        rintro e w7 ⟨rfl, hk, hc⟩
        have HK7 := lhid hk
        have HC7 := lhid (HC6.out.tr hc)
        clear hk hc
        have m7 := heap_cell (i := 2) (HC7.out.keep HFZ.out (fun h => h.2 rfl)) rfl
        go_wp2_with fail
        with_reducible refine (push1_c HE HF HK7 (txb d) HDL.out).mono ?_
        rintro e w8 ⟨rfl, hk, hc⟩
        have HK8 := lhid hk
        have HC8 := lhid (HC7.out.tr hc)
        clear hk hc
        go_wp2_with fail
        go_end0
        rw [HR.out]
        exact ⟨rfl, HK8.out.unbox HC.out (fun _ h => h.1.1.1) (Nat.le_trans HTF.out.size HC8.out.size), HTF.out.tr (HC8.out.mono fun _ _ h => h.1.1.1)⟩
      | true =>
        go_wp2_with fail
        with_reducible refine (isStatic_c fl _).mono ?_
        rintro e w9 ⟨rfl, rfl⟩
        go_wp2_with fail
        with_reducible refine (refuse_b HKF (b' := !true || bStat fl != true) ?hb 70).mono ?_
        case hb => cases bStat fl <;> rfl
        rintro e w6 ⟨rfl, hk, hc⟩
        have HK6 := lhid hk
        have HC6 := lhid hc
        clear hk hc
        have k6 := heap_cell (i := 2) (HC6.out.keep HFZ.out (fun h => h.2 rfl)) rfl
        go_wp2_with fail
        with_reducible refine (know_c HE HK6 d HDL.out).mono ?_
        rintro e w7 ⟨rfl, hk, hc⟩
        have HK7 := lhid hk
        have HC7 := lhid (HC6.out.tr hc)
        clear hk hc
        have m7 := heap_cell (i := 2) (HC7.out.keep HFZ.out (fun h => h.2 rfl)) rfl
        go_wp2_with fail
        with_reducible refine (push1_c HE HF HK7 (txb d) HDL.out).mono ?_
        rintro e w8 ⟨rfl, hk, hc⟩
        have HK8 := lhid hk
        have HC8 := lhid (HC7.out.tr hc)
        clear hk hc
        go_wp2_with fail
        go_end0
        rw [HR.out]
        exact ⟨rfl, HK8.out.unbox HC.out (fun _ h => h.1.1.1) (Nat.le_trans HTF.out.size HC8.out.size), HTF.out.tr (HC8.out.mono fun _ _ h => h.1.1.1)⟩
  by_cases h1 : o = 179
  · subst h1
    have hQ1 : decide ((179 : Int) = 178 ∨ (179 : Int) = 179) = true := by decide
    have hQ2 : decide ((179 : Int) = 179 ∨ (179 : Int) = 181) = true := by decide
    rw [hQ1, hQ2] at hFE
    clear hQ1 hQ2
    go_upto_region 3 with fail
    generalize w.alloc (.cells #[.int .i64 p, .int .i64 179, .int .i64 a, .int .i64 q] 187) = w0 at *
    go_wp2_with fail
    with_reducible refine (pooled1_c HE HF HK0 a ha 9).mono ?_
    rintro e w1 ⟨rfl, hk, hc⟩
    obtain ⟨x, hx⟩ : ∃ x, (s.pooled E a [9]).1 = x := ⟨_, rfl⟩
    obtain ⟨s1, hs1⟩ : ∃ x, (s.pooled E a [9]).2 = x := ⟨_, rfl⟩
    have HSM := lhid (pooled_small HE.out s a [9])
    rw [hx] at HSM hFE ⊢
    rw [hs1] at hk hFE
    unfold coV
    have HKb := lhid (hk.box ((Below.refl w1.heap.size w1).alloc (Nat.le_refl _) (.cells #[.int .i64 x.kind, .int .i64 x.num, .string (tx x.text), .string (tx x.name), .string (tx x.desc)] 213)) (Nat.le_refl _) (by simp))
    have HZ1 := lhid (heap_alloc_new w1 (.cells #[.int .i64 x.kind, .int .i64 x.num, .string (tx x.text), .string (tx x.name), .string (tx x.desc)] 213))
    have HW1 := lhid ((Below.refl w1.heap.size w1).alloc (Nat.le_refl _) (.cells #[.int .i64 x.kind, .int .i64 x.num, .string (tx x.text), .string (tx x.name), .string (tx x.desc)] 213))
    have HT2 := lhid (((Ch.of (X := Z) HB0.out).tr (hc.mono fun _ _ h => h.1)).tr (Ch.of HW1.out))
    have HXT : Hid (x.text.length ≤ ML) := lhid (Nat.le_trans HSM.out.1 (by decide))
    obtain ⟨fl, hfl⟩ : ∃ y, ((E.field x.text x.name x.desc).getD (0, [])).1 = y := ⟨_, rfl⟩
    obtain ⟨d, hd⟩ : ∃ y, ((E.field x.text x.name x.desc).getD (0, [])).2 = y := ⟨_, rfl⟩
    obtain ⟨th, hth⟩ : ∃ y, (E.field x.text x.name x.desc).isSome = y := ⟨_, rfl⟩
    have HDL : Hid (d.length ≤ ML) := lhid (by rw [← hd]; exact Nat.le_trans (HE.out.l_field _ _ _) (by decide))
    have HOL : Hid ((E.of x.text).length ≤ ML) := lhid (by have h2 := HE.out.l_of x.text; have h3 : (4294967296 : Nat) + 2 ≤ ML := (by decide); have := HSM.out.1; omega)
    rw [hfl, hd, hth] at hFE
    have HFT := lhid (And.intro hfl (And.intro hd hth))
    have HR := lhid hFE
    clear hx hs1 hk hc hFE hfl hd hth
    go_upto_region 4 with fail
    generalize w1.alloc (.cells #[.int .i64 x.kind, .int .i64 x.num, .string (tx x.text), .string (tx x.name), .string (tx x.desc)] 213) = w2 at *
    have x2 := heap_cell (i := 2) HZ1.out rfl
    have x3 := heap_cell (i := 3) HZ1.out rfl
    have x4 := heap_cell (i := 4) HZ1.out rfl
    have t0 := HKb.out.cell
    have hSS : ∀ w' : World, Below w2.heap.size w2 w' → (w'.cell? ⟨c, 0, none⟩ = some (.pointer (some ⟨F.tb, 0, none⟩)) ∧ w'.cell? ⟨w1.heap.size, 2, none⟩ = some (.string (tx x.text)) ∧ w'.cell? ⟨w1.heap.size, 3, none⟩ = some (.string (tx x.name)) ∧ w'.cell? ⟨w1.heap.size, 4, none⟩ = some (.string (tx x.desc))) := fun w' hb => ⟨(hb.cell (p := ⟨c, 0, none⟩) (cell_lt t0)).trans t0, (hb.cell (p := ⟨w1.heap.size, 2, none⟩) (cell_lt x2)).trans x2, (hb.cell (p := ⟨w1.heap.size, 3, none⟩) (cell_lt x3)).trans x3, (hb.cell (p := ⟨w1.heap.size, 4, none⟩) (cell_lt x4)).trans x4⟩
    have HSS := lhid hSS
    clear hSS
    go_region_held3 (fun w' => w'.cell? ⟨c, 0, none⟩ = some (.pointer (some ⟨F.tb, 0, none⟩)) ∧ w'.cell? ⟨w1.heap.size, 2, none⟩ = some (.string (tx x.text)) ∧ w'.cell? ⟨w1.heap.size, 3, none⟩ = some (.string (tx x.name)) ∧ w'.cell? ⟨w1.heap.size, 4, none⟩ = some (.string (tx x.desc))) (first | exact HSS.out _ (Below.drew' (Below.refl _ _)) | exact HSS.out _ (Below.drew' ((Below.refl _ _).alloc (Nat.le_refl _) _)) | exact HSS.out _ (Below.alloc (Below.drew' (Below.refl _ _)) (Nat.le_refl _) _) | exact HSS.out _ hb5 | exact HSS.out _ (Below.alloc hb5 hb5.size _) | exact HSS.out _ (((hb5.setCell (p := ⟨w2.heap.size, 0, none⟩) (Nat.le_refl _) _).setCell (p := ⟨w2.heap.size, 1, none⟩) (Nat.le_refl _) _).setCell (p := ⟨w2.heap.size, 2, none⟩) (Nat.le_refl _) _)) (first
      | ((with_reducible refine (HE.out.field x.text x.name x.desc _ HXT.out (HKb.out.below (Below.drew' (Below.refl _ _))).std).mono ?_); rintro e w5 ⟨⟨on, nm, rfl⟩, hb5'⟩; have hb5 : Below w2.heap.size w2 w5 := ⟨hb5'.os, hb5'.tape, hb5'.output, hb5'.size, hb5'.block⟩; rw [HFT.out.1, HFT.out.2.1, HFT.out.2.2])
      | ((with_reducible refine (HE.out.field x.text x.name x.desc _ HXT.out (HKb.out.below (Below.drew' ((Below.refl _ _).alloc (Nat.le_refl _) (.cells #[.int .i64 0, .string ⟨#[]⟩, .string ⟨#[]⟩] 91)))).std).mono ?_); rintro e w5 ⟨⟨on, nm, rfl⟩, hb5'⟩; have hb5 : Below w2.heap.size w2 w5 := (Below.drew' ((Below.refl w2.heap.size w2).alloc (Nat.le_refl _) (.cells #[.int .i64 0, .string ⟨#[]⟩, .string ⟨#[]⟩] 91))).trans (Below.less hb5' (by simp)); have hf5 : w5.heap[w2.heap.size]? = some (.cells #[.int .i64 0, .string ⟨#[]⟩, .string ⟨#[]⟩] 91 (0, 0)) := (hb5'.block _ (by simp)).trans (heap_alloc_new w2 (.cells #[.int .i64 0, .string ⟨#[]⟩, .string ⟨#[]⟩] 91)); have y0 := heap_cell (i := 0) hf5 rfl; have y1 := heap_cell (i := 1) hf5 rfl; have y2 := heap_cell (i := 2) hf5 rfl; have z0 := heap_thaw hf5 0; have z1 := heap_thaw hf5 1; have z2 := heap_thaw hf5 2; rw [HFT.out.1, HFT.out.2.1, HFT.out.2.2]))
    · have hbF : Below w2.heap.size w2 (w5.alloc (.cells #[.int .i64 fl, .string (tx nm), .string (tx d)] 91)) := Below.alloc hb5 hb5.size _
      have hfF : (w5.alloc (.cells #[.int .i64 fl, .string (tx nm), .string (tx d)] 91)).heap[w5.heap.size]? = some (.cells #[.int .i64 fl, .string (tx nm), .string (tx d)] 91 (0, 0)) := heap_alloc_new w5 _
      have hgF : w2.heap.size ≤ w5.heap.size := hb5.size
      have HKF := lhid (HKb.out.box hbF hgF (heap_lt hfF))
      have HFZ := lhid hfF
      have HBX := lhid ((hbF.block _ (heap_lt HZ1.out)).trans HZ1.out)
      have HTF := lhid (HT2.out.tr (Ch.of hbF))
      have f0 := heap_cell (i := 0) hfF rfl
      clear hbF hfF hgF hb5 hb5' t0 x2 x3 x4
      generalize (w5.alloc (.cells #[.int .i64 fl, .string (tx nm), .string (tx d)] 91)) = wF at *
      generalize w5.heap.size = FB at *
      cases th with
      | false =>
        go_wp2_with fail
        with_reducible refine (refuse_b HKF (b' := !false || bStat fl != true) ?hb 70).mono ?_
        case hb => cases bStat fl <;> rfl
        rintro e w6 ⟨rfl, hk, hc⟩
        have HK6 := lhid hk
        have HC6 := lhid hc
        clear hk hc
        have k6 := heap_cell (i := 2) (HC6.out.keep HFZ.out (fun h => h.2 rfl)) rfl
        go_wp2_with fail
        with_reducible refine (know_c HE HK6 d HDL.out).mono ?_
        rintro e w7 ⟨rfl, hk, hc⟩
        have HK7 := lhid hk
        have HC7 := lhid (HC6.out.tr hc)
        clear hk hc
        have m7 := heap_cell (i := 2) (HC7.out.keep HFZ.out (fun h => h.2 rfl)) rfl
        go_wp2_with fail
        with_reducible refine (pop_c HE HK7 d HDL.out).mono ?_
        rintro e w8 ⟨rfl, hk, hc⟩
        have HK8 := lhid hk
        have HC8 := lhid (HC7.out.tr hc)
        clear hk hc
        go_wp2_with fail
        go_end0
        rw [HR.out]
        exact ⟨rfl, HK8.out.unbox HC.out (fun _ h => h.1.1.1) (Nat.le_trans HTF.out.size HC8.out.size), HTF.out.tr (HC8.out.mono fun _ _ h => h.1.1.1)⟩
      | true =>
        go_wp2_with fail
        with_reducible refine (isStatic_c fl _).mono ?_
        rintro e w9 ⟨rfl, rfl⟩
        go_wp2_with fail
        with_reducible refine (refuse_b HKF (b' := !true || bStat fl != true) ?hb 70).mono ?_
        case hb => cases bStat fl <;> rfl
        rintro e w6 ⟨rfl, hk, hc⟩
        have HK6 := lhid hk
        have HC6 := lhid hc
        clear hk hc
        have k6 := heap_cell (i := 2) (HC6.out.keep HFZ.out (fun h => h.2 rfl)) rfl
        go_wp2_with fail
        with_reducible refine (know_c HE HK6 d HDL.out).mono ?_
        rintro e w7 ⟨rfl, hk, hc⟩
        have HK7 := lhid hk
        have HC7 := lhid (HC6.out.tr hc)
        clear hk hc
        have m7 := heap_cell (i := 2) (HC7.out.keep HFZ.out (fun h => h.2 rfl)) rfl
        go_wp2_with fail
        with_reducible refine (pop_c HE HK7 d HDL.out).mono ?_
        rintro e w8 ⟨rfl, hk, hc⟩
        have HK8 := lhid hk
        have HC8 := lhid (HC7.out.tr hc)
        clear hk hc
        go_wp2_with fail
        go_end0
        rw [HR.out]
        exact ⟨rfl, HK8.out.unbox HC.out (fun _ h => h.1.1.1) (Nat.le_trans HTF.out.size HC8.out.size), HTF.out.tr (HC8.out.mono fun _ _ h => h.1.1.1)⟩
    · have hbF : Below w2.heap.size w2 (((w5.setCell ⟨w2.heap.size, 0, none⟩ (.int .i64 fl)).setCell ⟨w2.heap.size, 1, none⟩ (.string (tx nm))).setCell ⟨w2.heap.size, 2, none⟩ (.string (tx d))) := ((hb5.setCell (p := ⟨w2.heap.size, 0, none⟩) (Nat.le_refl _) _).setCell (p := ⟨w2.heap.size, 1, none⟩) (Nat.le_refl _) _).setCell (p := ⟨w2.heap.size, 2, none⟩) (Nat.le_refl _) _
      have hfF : (((w5.setCell ⟨w2.heap.size, 0, none⟩ (.int .i64 fl)).setCell ⟨w2.heap.size, 1, none⟩ (.string (tx nm))).setCell ⟨w2.heap.size, 2, none⟩ (.string (tx d))).heap[w2.heap.size]? = some (.cells #[.int .i64 fl, .string (tx nm), .string (tx d)] 91 (0, 0)) := heap_set (heap_set (heap_set hf5 _) _) _
      have hgF : w2.heap.size ≤ w2.heap.size := Nat.le_refl _
      have HKF := lhid (HKb.out.box hbF hgF (heap_lt hfF))
      have HFZ := lhid hfF
      have HBX := lhid ((hbF.block _ (heap_lt HZ1.out)).trans HZ1.out)
      have HTF := lhid (HT2.out.tr (Ch.of hbF))
      have f0 := heap_cell (i := 0) hfF rfl
      clear hbF hfF hgF hb5 hb5' t0 x2 x3 x4 hf5 y0 y1 y2 z0 z1 z2
      generalize (((w5.setCell ⟨w2.heap.size, 0, none⟩ (.int .i64 fl)).setCell ⟨w2.heap.size, 1, none⟩ (.string (tx nm))).setCell ⟨w2.heap.size, 2, none⟩ (.string (tx d))) = wF at *
      cases th with
      | false =>
        go_wp2_with fail
        with_reducible refine (refuse_b HKF (b' := !false || bStat fl != true) ?hb 70).mono ?_
        case hb => cases bStat fl <;> rfl
        rintro e w6 ⟨rfl, hk, hc⟩
        have HK6 := lhid hk
        have HC6 := lhid hc
        clear hk hc
        have k6 := heap_cell (i := 2) (HC6.out.keep HFZ.out (fun h => h.2 rfl)) rfl
        go_wp2_with fail
        with_reducible refine (know_c HE HK6 d HDL.out).mono ?_
        rintro e w7 ⟨rfl, hk, hc⟩
        have HK7 := lhid hk
        have HC7 := lhid (HC6.out.tr hc)
        clear hk hc
        have m7 := heap_cell (i := 2) (HC7.out.keep HFZ.out (fun h => h.2 rfl)) rfl
        go_wp2_with fail
        with_reducible refine (pop_c HE HK7 d HDL.out).mono ?_
        rintro e w8 ⟨rfl, hk, hc⟩
        have HK8 := lhid hk
        have HC8 := lhid (HC7.out.tr hc)
        clear hk hc
        go_wp2_with fail
        go_end0
        rw [HR.out]
        exact ⟨rfl, HK8.out.unbox HC.out (fun _ h => h.1.1.1) (Nat.le_trans HTF.out.size HC8.out.size), HTF.out.tr (HC8.out.mono fun _ _ h => h.1.1.1)⟩
      | true =>
        go_wp2_with fail
        with_reducible refine (isStatic_c fl _).mono ?_
        rintro e w9 ⟨rfl, rfl⟩
        go_wp2_with fail
        with_reducible refine (refuse_b HKF (b' := !true || bStat fl != true) ?hb 70).mono ?_
        case hb => cases bStat fl <;> rfl
        rintro e w6 ⟨rfl, hk, hc⟩
        have HK6 := lhid hk
        have HC6 := lhid hc
        clear hk hc
        have k6 := heap_cell (i := 2) (HC6.out.keep HFZ.out (fun h => h.2 rfl)) rfl
        go_wp2_with fail
        with_reducible refine (know_c HE HK6 d HDL.out).mono ?_
        rintro e w7 ⟨rfl, hk, hc⟩
        have HK7 := lhid hk
        have HC7 := lhid (HC6.out.tr hc)
        clear hk hc
        have m7 := heap_cell (i := 2) (HC7.out.keep HFZ.out (fun h => h.2 rfl)) rfl
        go_wp2_with fail
        with_reducible refine (pop_c HE HK7 d HDL.out).mono ?_
        rintro e w8 ⟨rfl, hk, hc⟩
        have HK8 := lhid hk
        have HC8 := lhid (HC7.out.tr hc)
        clear hk hc
        go_wp2_with fail
        go_end0
        rw [HR.out]
        exact ⟨rfl, HK8.out.unbox HC.out (fun _ h => h.1.1.1) (Nat.le_trans HTF.out.size HC8.out.size), HTF.out.tr (HC8.out.mono fun _ _ h => h.1.1.1)⟩
  by_cases h2 : o = 181
  · subst h2
    have hQ1 : decide ((181 : Int) = 178 ∨ (181 : Int) = 179) = false := by decide
    have hQ2 : decide ((181 : Int) = 179 ∨ (181 : Int) = 181) = true := by decide
    rw [hQ1, hQ2] at hFE
    clear hQ1 hQ2
    go_upto_region 3 with fail
    generalize w.alloc (.cells #[.int .i64 p, .int .i64 181, .int .i64 a, .int .i64 q] 187) = w0 at *
    go_wp2_with fail
    with_reducible refine (pooled1_c HE HF HK0 a ha 9).mono ?_
    rintro e w1 ⟨rfl, hk, hc⟩
    obtain ⟨x, hx⟩ : ∃ x, (s.pooled E a [9]).1 = x := ⟨_, rfl⟩
    obtain ⟨s1, hs1⟩ : ∃ x, (s.pooled E a [9]).2 = x := ⟨_, rfl⟩
    have HSM := lhid (pooled_small HE.out s a [9])
    rw [hx] at HSM hFE ⊢
    rw [hs1] at hk hFE
    unfold coV
    have HKb := lhid (hk.box ((Below.refl w1.heap.size w1).alloc (Nat.le_refl _) (.cells #[.int .i64 x.kind, .int .i64 x.num, .string (tx x.text), .string (tx x.name), .string (tx x.desc)] 213)) (Nat.le_refl _) (by simp))
    have HZ1 := lhid (heap_alloc_new w1 (.cells #[.int .i64 x.kind, .int .i64 x.num, .string (tx x.text), .string (tx x.name), .string (tx x.desc)] 213))
    have HW1 := lhid ((Below.refl w1.heap.size w1).alloc (Nat.le_refl _) (.cells #[.int .i64 x.kind, .int .i64 x.num, .string (tx x.text), .string (tx x.name), .string (tx x.desc)] 213))
    have HT2 := lhid (((Ch.of (X := Z) HB0.out).tr (hc.mono fun _ _ h => h.1)).tr (Ch.of HW1.out))
    have HXT : Hid (x.text.length ≤ ML) := lhid (Nat.le_trans HSM.out.1 (by decide))
    obtain ⟨fl, hfl⟩ : ∃ y, ((E.field x.text x.name x.desc).getD (0, [])).1 = y := ⟨_, rfl⟩
    obtain ⟨d, hd⟩ : ∃ y, ((E.field x.text x.name x.desc).getD (0, [])).2 = y := ⟨_, rfl⟩
    obtain ⟨th, hth⟩ : ∃ y, (E.field x.text x.name x.desc).isSome = y := ⟨_, rfl⟩
    have HDL : Hid (d.length ≤ ML) := lhid (by rw [← hd]; exact Nat.le_trans (HE.out.l_field _ _ _) (by decide))
    have HOL : Hid ((E.of x.text).length ≤ ML) := lhid (by have h2 := HE.out.l_of x.text; have h3 : (4294967296 : Nat) + 2 ≤ ML := (by decide); have := HSM.out.1; omega)
    rw [hfl, hd, hth] at hFE
    have HFT := lhid (And.intro hfl (And.intro hd hth))
    have HR := lhid hFE
    clear hx hs1 hk hc hFE hfl hd hth
    go_upto_region 4 with fail
    generalize w1.alloc (.cells #[.int .i64 x.kind, .int .i64 x.num, .string (tx x.text), .string (tx x.name), .string (tx x.desc)] 213) = w2 at *
    have x2 := heap_cell (i := 2) HZ1.out rfl
    have x3 := heap_cell (i := 3) HZ1.out rfl
    have x4 := heap_cell (i := 4) HZ1.out rfl
    have t0 := HKb.out.cell
    have hSS : ∀ w' : World, Below w2.heap.size w2 w' → (w'.cell? ⟨c, 0, none⟩ = some (.pointer (some ⟨F.tb, 0, none⟩)) ∧ w'.cell? ⟨w1.heap.size, 2, none⟩ = some (.string (tx x.text)) ∧ w'.cell? ⟨w1.heap.size, 3, none⟩ = some (.string (tx x.name)) ∧ w'.cell? ⟨w1.heap.size, 4, none⟩ = some (.string (tx x.desc))) := fun w' hb => ⟨(hb.cell (p := ⟨c, 0, none⟩) (cell_lt t0)).trans t0, (hb.cell (p := ⟨w1.heap.size, 2, none⟩) (cell_lt x2)).trans x2, (hb.cell (p := ⟨w1.heap.size, 3, none⟩) (cell_lt x3)).trans x3, (hb.cell (p := ⟨w1.heap.size, 4, none⟩) (cell_lt x4)).trans x4⟩
    have HSS := lhid hSS
    clear hSS
    go_region_held3 (fun w' => w'.cell? ⟨c, 0, none⟩ = some (.pointer (some ⟨F.tb, 0, none⟩)) ∧ w'.cell? ⟨w1.heap.size, 2, none⟩ = some (.string (tx x.text)) ∧ w'.cell? ⟨w1.heap.size, 3, none⟩ = some (.string (tx x.name)) ∧ w'.cell? ⟨w1.heap.size, 4, none⟩ = some (.string (tx x.desc))) (first | exact HSS.out _ (Below.drew' (Below.refl _ _)) | exact HSS.out _ (Below.drew' ((Below.refl _ _).alloc (Nat.le_refl _) _)) | exact HSS.out _ (Below.alloc (Below.drew' (Below.refl _ _)) (Nat.le_refl _) _) | exact HSS.out _ hb5 | exact HSS.out _ (Below.alloc hb5 hb5.size _) | exact HSS.out _ (((hb5.setCell (p := ⟨w2.heap.size, 0, none⟩) (Nat.le_refl _) _).setCell (p := ⟨w2.heap.size, 1, none⟩) (Nat.le_refl _) _).setCell (p := ⟨w2.heap.size, 2, none⟩) (Nat.le_refl _) _)) (first
      | ((with_reducible refine (HE.out.field x.text x.name x.desc _ HXT.out (HKb.out.below (Below.drew' (Below.refl _ _))).std).mono ?_); rintro e w5 ⟨⟨on, nm, rfl⟩, hb5'⟩; have hb5 : Below w2.heap.size w2 w5 := ⟨hb5'.os, hb5'.tape, hb5'.output, hb5'.size, hb5'.block⟩; rw [HFT.out.1, HFT.out.2.1, HFT.out.2.2])
      | ((with_reducible refine (HE.out.field x.text x.name x.desc _ HXT.out (HKb.out.below (Below.drew' ((Below.refl _ _).alloc (Nat.le_refl _) (.cells #[.int .i64 0, .string ⟨#[]⟩, .string ⟨#[]⟩] 91)))).std).mono ?_); rintro e w5 ⟨⟨on, nm, rfl⟩, hb5'⟩; have hb5 : Below w2.heap.size w2 w5 := (Below.drew' ((Below.refl w2.heap.size w2).alloc (Nat.le_refl _) (.cells #[.int .i64 0, .string ⟨#[]⟩, .string ⟨#[]⟩] 91))).trans (Below.less hb5' (by simp)); have hf5 : w5.heap[w2.heap.size]? = some (.cells #[.int .i64 0, .string ⟨#[]⟩, .string ⟨#[]⟩] 91 (0, 0)) := (hb5'.block _ (by simp)).trans (heap_alloc_new w2 (.cells #[.int .i64 0, .string ⟨#[]⟩, .string ⟨#[]⟩] 91)); have y0 := heap_cell (i := 0) hf5 rfl; have y1 := heap_cell (i := 1) hf5 rfl; have y2 := heap_cell (i := 2) hf5 rfl; have z0 := heap_thaw hf5 0; have z1 := heap_thaw hf5 1; have z2 := heap_thaw hf5 2; rw [HFT.out.1, HFT.out.2.1, HFT.out.2.2]))
    · have hbF : Below w2.heap.size w2 (w5.alloc (.cells #[.int .i64 fl, .string (tx nm), .string (tx d)] 91)) := Below.alloc hb5 hb5.size _
      have hfF : (w5.alloc (.cells #[.int .i64 fl, .string (tx nm), .string (tx d)] 91)).heap[w5.heap.size]? = some (.cells #[.int .i64 fl, .string (tx nm), .string (tx d)] 91 (0, 0)) := heap_alloc_new w5 _
      have hgF : w2.heap.size ≤ w5.heap.size := hb5.size
      have HKF := lhid (HKb.out.box hbF hgF (heap_lt hfF))
      have HFZ := lhid hfF
      have HBX := lhid ((hbF.block _ (heap_lt HZ1.out)).trans HZ1.out)
      have HTF := lhid (HT2.out.tr (Ch.of hbF))
      have f0 := heap_cell (i := 0) hfF rfl
      clear hbF hfF hgF hb5 hb5' t0 x2 x3 x4
      generalize (w5.alloc (.cells #[.int .i64 fl, .string (tx nm), .string (tx d)] 91)) = wF at *
      generalize w5.heap.size = FB at *
      cases th with
      | false =>
        go_wp2_with fail
        with_reducible refine (refuse_b HKF (b' := !false || bStat fl != false) ?hb 70).mono ?_
        case hb => cases bStat fl <;> rfl
        rintro e w6 ⟨rfl, hk, hc⟩
        have HK6 := lhid hk
        have HC6 := lhid hc
        clear hk hc
        have k6 := heap_cell (i := 2) (HC6.out.keep HFZ.out (fun h => h.2 rfl)) rfl
        go_wp2_with fail
        with_reducible refine (know_c HE HK6 d HDL.out).mono ?_
        rintro e w7 ⟨rfl, hk, hc⟩
        have HK7 := lhid hk
        have HC7 := lhid (HC6.out.tr hc)
        clear hk hc
        have m7 := heap_cell (i := 2) (HC7.out.keep HFZ.out (fun h => h.2 rfl)) rfl
        go_wp2_with fail
        with_reducible refine (pop_c HE HK7 d HDL.out).mono ?_
        rintro e w8 ⟨rfl, hk, hc⟩
        have HK8 := lhid hk
        have HC8 := lhid (HC7.out.tr hc)
        clear hk hc
        have p8 := heap_cell (i := 2) (HC8.out.keep HBX.out (fun h => h.1.2 rfl)) rfl
        go_wp2_with fail
        with_reducible refine (HE.out.of x.text _ HXT.out).mono ?_
        rintro e w9 ⟨rfl, rfl⟩
        go_wp2_with fail
        with_reducible refine (pop_c HE HK8 (E.of x.text) HOL.out).mono ?_
        rintro e w9 ⟨rfl, hk, hc⟩
        have HK9 := lhid hk
        have HC9 := lhid (HC8.out.tr hc)
        clear hk hc
        go_wp2_with fail
        go_end0
        rw [HR.out]
        exact ⟨rfl, HK9.out.unbox HC.out (fun _ h => h.1.1.1) (Nat.le_trans HTF.out.size HC9.out.size), HTF.out.tr (HC9.out.mono fun _ _ h => h.1.1.1)⟩
      | true =>
        go_wp2_with fail
        with_reducible refine (isStatic_c fl _).mono ?_
        rintro e w9 ⟨rfl, rfl⟩
        go_wp2_with fail
        with_reducible refine (refuse_b HKF (b' := !true || bStat fl != false) ?hb 70).mono ?_
        case hb => cases bStat fl <;> rfl
        rintro e w6 ⟨rfl, hk, hc⟩
        have HK6 := lhid hk
        have HC6 := lhid hc
        clear hk hc
        have k6 := heap_cell (i := 2) (HC6.out.keep HFZ.out (fun h => h.2 rfl)) rfl
        go_wp2_with fail
        with_reducible refine (know_c HE HK6 d HDL.out).mono ?_
        rintro e w7 ⟨rfl, hk, hc⟩
        have HK7 := lhid hk
        have HC7 := lhid (HC6.out.tr hc)
        clear hk hc
        have m7 := heap_cell (i := 2) (HC7.out.keep HFZ.out (fun h => h.2 rfl)) rfl
        go_wp2_with fail
        with_reducible refine (pop_c HE HK7 d HDL.out).mono ?_
        rintro e w8 ⟨rfl, hk, hc⟩
        have HK8 := lhid hk
        have HC8 := lhid (HC7.out.tr hc)
        clear hk hc
        have p8 := heap_cell (i := 2) (HC8.out.keep HBX.out (fun h => h.1.2 rfl)) rfl
        go_wp2_with fail
        with_reducible refine (HE.out.of x.text _ HXT.out).mono ?_
        rintro e w9 ⟨rfl, rfl⟩
        go_wp2_with fail
        with_reducible refine (pop_c HE HK8 (E.of x.text) HOL.out).mono ?_
        rintro e w9 ⟨rfl, hk, hc⟩
        have HK9 := lhid hk
        have HC9 := lhid (HC8.out.tr hc)
        clear hk hc
        go_wp2_with fail
        go_end0
        rw [HR.out]
        exact ⟨rfl, HK9.out.unbox HC.out (fun _ h => h.1.1.1) (Nat.le_trans HTF.out.size HC9.out.size), HTF.out.tr (HC9.out.mono fun _ _ h => h.1.1.1)⟩
    · have hbF : Below w2.heap.size w2 (((w5.setCell ⟨w2.heap.size, 0, none⟩ (.int .i64 fl)).setCell ⟨w2.heap.size, 1, none⟩ (.string (tx nm))).setCell ⟨w2.heap.size, 2, none⟩ (.string (tx d))) := ((hb5.setCell (p := ⟨w2.heap.size, 0, none⟩) (Nat.le_refl _) _).setCell (p := ⟨w2.heap.size, 1, none⟩) (Nat.le_refl _) _).setCell (p := ⟨w2.heap.size, 2, none⟩) (Nat.le_refl _) _
      have hfF : (((w5.setCell ⟨w2.heap.size, 0, none⟩ (.int .i64 fl)).setCell ⟨w2.heap.size, 1, none⟩ (.string (tx nm))).setCell ⟨w2.heap.size, 2, none⟩ (.string (tx d))).heap[w2.heap.size]? = some (.cells #[.int .i64 fl, .string (tx nm), .string (tx d)] 91 (0, 0)) := heap_set (heap_set (heap_set hf5 _) _) _
      have hgF : w2.heap.size ≤ w2.heap.size := Nat.le_refl _
      have HKF := lhid (HKb.out.box hbF hgF (heap_lt hfF))
      have HFZ := lhid hfF
      have HBX := lhid ((hbF.block _ (heap_lt HZ1.out)).trans HZ1.out)
      have HTF := lhid (HT2.out.tr (Ch.of hbF))
      have f0 := heap_cell (i := 0) hfF rfl
      clear hbF hfF hgF hb5 hb5' t0 x2 x3 x4 hf5 y0 y1 y2 z0 z1 z2
      generalize (((w5.setCell ⟨w2.heap.size, 0, none⟩ (.int .i64 fl)).setCell ⟨w2.heap.size, 1, none⟩ (.string (tx nm))).setCell ⟨w2.heap.size, 2, none⟩ (.string (tx d))) = wF at *
      cases th with
      | false =>
        go_wp2_with fail
        with_reducible refine (refuse_b HKF (b' := !false || bStat fl != false) ?hb 70).mono ?_
        case hb => cases bStat fl <;> rfl
        rintro e w6 ⟨rfl, hk, hc⟩
        have HK6 := lhid hk
        have HC6 := lhid hc
        clear hk hc
        have k6 := heap_cell (i := 2) (HC6.out.keep HFZ.out (fun h => h.2 rfl)) rfl
        go_wp2_with fail
        with_reducible refine (know_c HE HK6 d HDL.out).mono ?_
        rintro e w7 ⟨rfl, hk, hc⟩
        have HK7 := lhid hk
        have HC7 := lhid (HC6.out.tr hc)
        clear hk hc
        have m7 := heap_cell (i := 2) (HC7.out.keep HFZ.out (fun h => h.2 rfl)) rfl
        go_wp2_with fail
        with_reducible refine (pop_c HE HK7 d HDL.out).mono ?_
        rintro e w8 ⟨rfl, hk, hc⟩
        have HK8 := lhid hk
        have HC8 := lhid (HC7.out.tr hc)
        clear hk hc
        have p8 := heap_cell (i := 2) (HC8.out.keep HBX.out (fun h => h.1.2 rfl)) rfl
        go_wp2_with fail
        with_reducible refine (HE.out.of x.text _ HXT.out).mono ?_
        rintro e w9 ⟨rfl, rfl⟩
        go_wp2_with fail
        with_reducible refine (pop_c HE HK8 (E.of x.text) HOL.out).mono ?_
        rintro e w9 ⟨rfl, hk, hc⟩
        have HK9 := lhid hk
        have HC9 := lhid (HC8.out.tr hc)
        clear hk hc
        go_wp2_with fail
        go_end0
        rw [HR.out]
        exact ⟨rfl, HK9.out.unbox HC.out (fun _ h => h.1.1.1) (Nat.le_trans HTF.out.size HC9.out.size), HTF.out.tr (HC9.out.mono fun _ _ h => h.1.1.1)⟩
      | true =>
        go_wp2_with fail
        with_reducible refine (isStatic_c fl _).mono ?_
        rintro e w9 ⟨rfl, rfl⟩
        go_wp2_with fail
        with_reducible refine (refuse_b HKF (b' := !true || bStat fl != false) ?hb 70).mono ?_
        case hb => cases bStat fl <;> rfl
        rintro e w6 ⟨rfl, hk, hc⟩
        have HK6 := lhid hk
        have HC6 := lhid hc
        clear hk hc
        have k6 := heap_cell (i := 2) (HC6.out.keep HFZ.out (fun h => h.2 rfl)) rfl
        go_wp2_with fail
        with_reducible refine (know_c HE HK6 d HDL.out).mono ?_
        rintro e w7 ⟨rfl, hk, hc⟩
        have HK7 := lhid hk
        have HC7 := lhid (HC6.out.tr hc)
        clear hk hc
        have m7 := heap_cell (i := 2) (HC7.out.keep HFZ.out (fun h => h.2 rfl)) rfl
        go_wp2_with fail
        with_reducible refine (pop_c HE HK7 d HDL.out).mono ?_
        rintro e w8 ⟨rfl, hk, hc⟩
        have HK8 := lhid hk
        have HC8 := lhid (HC7.out.tr hc)
        clear hk hc
        have p8 := heap_cell (i := 2) (HC8.out.keep HBX.out (fun h => h.1.2 rfl)) rfl
        go_wp2_with fail
        with_reducible refine (HE.out.of x.text _ HXT.out).mono ?_
        rintro e w9 ⟨rfl, rfl⟩
        go_wp2_with fail
        with_reducible refine (pop_c HE HK8 (E.of x.text) HOL.out).mono ?_
        rintro e w9 ⟨rfl, hk, hc⟩
        have HK9 := lhid hk
        have HC9 := lhid (HC8.out.tr hc)
        clear hk hc
        go_wp2_with fail
        go_end0
        rw [HR.out]
        exact ⟨rfl, HK9.out.unbox HC.out (fun _ h => h.1.1.1) (Nat.le_trans HTF.out.size HC9.out.size), HTF.out.tr (HC9.out.mono fun _ _ h => h.1.1.1)⟩
  · have hQ1 : decide (o = 178 ∨ o = 179) = false := by simp [h0, h1]
    have hQ2 : decide (o = 179 ∨ o = 181) = false := by simp [h1, h2]
    rw [hQ1, hQ2] at hFE
    have d0 := ne_beq h0
    have d1 := ne_beq h1
    have d2 := ne_beq h2
    clear hQ1 hQ2 h0 h1 h2
    go_upto_region 3 with fail
    generalize w.alloc (.cells #[.int .i64 p, .int .i64 o, .int .i64 a, .int .i64 q] 187) = w0 at *
    go_wp2_with fail
    with_reducible refine (pooled1_c HE HF HK0 a ha 9).mono ?_
    rintro e w1 ⟨rfl, hk, hc⟩
    obtain ⟨x, hx⟩ : ∃ x, (s.pooled E a [9]).1 = x := ⟨_, rfl⟩
    obtain ⟨s1, hs1⟩ : ∃ x, (s.pooled E a [9]).2 = x := ⟨_, rfl⟩
    have HSM := lhid (pooled_small HE.out s a [9])
    rw [hx] at HSM hFE ⊢
    rw [hs1] at hk hFE
    unfold coV
    have HKb := lhid (hk.box ((Below.refl w1.heap.size w1).alloc (Nat.le_refl _) (.cells #[.int .i64 x.kind, .int .i64 x.num, .string (tx x.text), .string (tx x.name), .string (tx x.desc)] 213)) (Nat.le_refl _) (by simp))
    have HZ1 := lhid (heap_alloc_new w1 (.cells #[.int .i64 x.kind, .int .i64 x.num, .string (tx x.text), .string (tx x.name), .string (tx x.desc)] 213))
    have HW1 := lhid ((Below.refl w1.heap.size w1).alloc (Nat.le_refl _) (.cells #[.int .i64 x.kind, .int .i64 x.num, .string (tx x.text), .string (tx x.name), .string (tx x.desc)] 213))
    have HT2 := lhid (((Ch.of (X := Z) HB0.out).tr (hc.mono fun _ _ h => h.1)).tr (Ch.of HW1.out))
    have HXT : Hid (x.text.length ≤ ML) := lhid (Nat.le_trans HSM.out.1 (by decide))
    obtain ⟨fl, hfl⟩ : ∃ y, ((E.field x.text x.name x.desc).getD (0, [])).1 = y := ⟨_, rfl⟩
    obtain ⟨d, hd⟩ : ∃ y, ((E.field x.text x.name x.desc).getD (0, [])).2 = y := ⟨_, rfl⟩
    obtain ⟨th, hth⟩ : ∃ y, (E.field x.text x.name x.desc).isSome = y := ⟨_, rfl⟩
    have HDL : Hid (d.length ≤ ML) := lhid (by rw [← hd]; exact Nat.le_trans (HE.out.l_field _ _ _) (by decide))
    have HOL : Hid ((E.of x.text).length ≤ ML) := lhid (by have h2 := HE.out.l_of x.text; have h3 : (4294967296 : Nat) + 2 ≤ ML := (by decide); have := HSM.out.1; omega)
    rw [hfl, hd, hth] at hFE
    have HFT := lhid (And.intro hfl (And.intro hd hth))
    have HR := lhid hFE
    clear hx hs1 hk hc hFE hfl hd hth
    go_upto_region 4 with fail
    generalize w1.alloc (.cells #[.int .i64 x.kind, .int .i64 x.num, .string (tx x.text), .string (tx x.name), .string (tx x.desc)] 213) = w2 at *
    have x2 := heap_cell (i := 2) HZ1.out rfl
    have x3 := heap_cell (i := 3) HZ1.out rfl
    have x4 := heap_cell (i := 4) HZ1.out rfl
    have t0 := HKb.out.cell
    have hSS : ∀ w' : World, Below w2.heap.size w2 w' → (w'.cell? ⟨c, 0, none⟩ = some (.pointer (some ⟨F.tb, 0, none⟩)) ∧ w'.cell? ⟨w1.heap.size, 2, none⟩ = some (.string (tx x.text)) ∧ w'.cell? ⟨w1.heap.size, 3, none⟩ = some (.string (tx x.name)) ∧ w'.cell? ⟨w1.heap.size, 4, none⟩ = some (.string (tx x.desc))) := fun w' hb => ⟨(hb.cell (p := ⟨c, 0, none⟩) (cell_lt t0)).trans t0, (hb.cell (p := ⟨w1.heap.size, 2, none⟩) (cell_lt x2)).trans x2, (hb.cell (p := ⟨w1.heap.size, 3, none⟩) (cell_lt x3)).trans x3, (hb.cell (p := ⟨w1.heap.size, 4, none⟩) (cell_lt x4)).trans x4⟩
    have HSS := lhid hSS
    clear hSS
    go_region_held3 (fun w' => w'.cell? ⟨c, 0, none⟩ = some (.pointer (some ⟨F.tb, 0, none⟩)) ∧ w'.cell? ⟨w1.heap.size, 2, none⟩ = some (.string (tx x.text)) ∧ w'.cell? ⟨w1.heap.size, 3, none⟩ = some (.string (tx x.name)) ∧ w'.cell? ⟨w1.heap.size, 4, none⟩ = some (.string (tx x.desc))) (first | exact HSS.out _ (Below.drew' (Below.refl _ _)) | exact HSS.out _ (Below.drew' ((Below.refl _ _).alloc (Nat.le_refl _) _)) | exact HSS.out _ (Below.alloc (Below.drew' (Below.refl _ _)) (Nat.le_refl _) _) | exact HSS.out _ hb5 | exact HSS.out _ (Below.alloc hb5 hb5.size _) | exact HSS.out _ (((hb5.setCell (p := ⟨w2.heap.size, 0, none⟩) (Nat.le_refl _) _).setCell (p := ⟨w2.heap.size, 1, none⟩) (Nat.le_refl _) _).setCell (p := ⟨w2.heap.size, 2, none⟩) (Nat.le_refl _) _)) (first
      | ((with_reducible refine (HE.out.field x.text x.name x.desc _ HXT.out (HKb.out.below (Below.drew' (Below.refl _ _))).std).mono ?_); rintro e w5 ⟨⟨on, nm, rfl⟩, hb5'⟩; have hb5 : Below w2.heap.size w2 w5 := ⟨hb5'.os, hb5'.tape, hb5'.output, hb5'.size, hb5'.block⟩; rw [HFT.out.1, HFT.out.2.1, HFT.out.2.2])
      | ((with_reducible refine (HE.out.field x.text x.name x.desc _ HXT.out (HKb.out.below (Below.drew' ((Below.refl _ _).alloc (Nat.le_refl _) (.cells #[.int .i64 0, .string ⟨#[]⟩, .string ⟨#[]⟩] 91)))).std).mono ?_); rintro e w5 ⟨⟨on, nm, rfl⟩, hb5'⟩; have hb5 : Below w2.heap.size w2 w5 := (Below.drew' ((Below.refl w2.heap.size w2).alloc (Nat.le_refl _) (.cells #[.int .i64 0, .string ⟨#[]⟩, .string ⟨#[]⟩] 91))).trans (Below.less hb5' (by simp)); have hf5 : w5.heap[w2.heap.size]? = some (.cells #[.int .i64 0, .string ⟨#[]⟩, .string ⟨#[]⟩] 91 (0, 0)) := (hb5'.block _ (by simp)).trans (heap_alloc_new w2 (.cells #[.int .i64 0, .string ⟨#[]⟩, .string ⟨#[]⟩] 91)); have y0 := heap_cell (i := 0) hf5 rfl; have y1 := heap_cell (i := 1) hf5 rfl; have y2 := heap_cell (i := 2) hf5 rfl; have z0 := heap_thaw hf5 0; have z1 := heap_thaw hf5 1; have z2 := heap_thaw hf5 2; rw [HFT.out.1, HFT.out.2.1, HFT.out.2.2]))
    · have hbF : Below w2.heap.size w2 (w5.alloc (.cells #[.int .i64 fl, .string (tx nm), .string (tx d)] 91)) := Below.alloc hb5 hb5.size _
      have hfF : (w5.alloc (.cells #[.int .i64 fl, .string (tx nm), .string (tx d)] 91)).heap[w5.heap.size]? = some (.cells #[.int .i64 fl, .string (tx nm), .string (tx d)] 91 (0, 0)) := heap_alloc_new w5 _
      have hgF : w2.heap.size ≤ w5.heap.size := hb5.size
      have HKF := lhid (HKb.out.box hbF hgF (heap_lt hfF))
      have HFZ := lhid hfF
      have HBX := lhid ((hbF.block _ (heap_lt HZ1.out)).trans HZ1.out)
      have HTF := lhid (HT2.out.tr (Ch.of hbF))
      have f0 := heap_cell (i := 0) hfF rfl
      clear hbF hfF hgF hb5 hb5' t0 x2 x3 x4
      generalize (w5.alloc (.cells #[.int .i64 fl, .string (tx nm), .string (tx d)] 91)) = wF at *
      generalize w5.heap.size = FB at *
      cases th with
      | false =>
        go_wp2_with fail
        with_reducible refine (refuse_b HKF (b' := !false || bStat fl != false) ?hb 70).mono ?_
        case hb => cases bStat fl <;> rfl
        rintro e w6 ⟨rfl, hk, hc⟩
        have HK6 := lhid hk
        have HC6 := lhid hc
        clear hk hc
        have k6 := heap_cell (i := 2) (HC6.out.keep HFZ.out (fun h => h.2 rfl)) rfl
        go_wp2_with fail
        with_reducible refine (know_c HE HK6 d HDL.out).mono ?_
        rintro e w7 ⟨rfl, hk, hc⟩
        have HK7 := lhid hk
        have HC7 := lhid (HC6.out.tr hc)
        clear hk hc
        have p7 := heap_cell (i := 2) (HC7.out.keep HBX.out (fun h => h.1.2 rfl)) rfl
        go_wp2_with fail
        with_reducible refine (HE.out.of x.text _ HXT.out).mono ?_
        rintro e w9 ⟨rfl, rfl⟩
        go_wp2_with fail
        with_reducible refine (pop_c HE HK7 (E.of x.text) HOL.out).mono ?_
        rintro e w8 ⟨rfl, hk, hc⟩
        have HK8 := lhid hk
        have HC8 := lhid (HC7.out.tr hc)
        clear hk hc
        have m8 := heap_cell (i := 2) (HC8.out.keep HFZ.out (fun h => h.2 rfl)) rfl
        go_wp2_with fail
        with_reducible refine (push1_c HE HF HK8 (txb d) HDL.out).mono ?_
        rintro e w9 ⟨rfl, hk, hc⟩
        have HK9 := lhid hk
        have HC9 := lhid (HC8.out.tr hc)
        clear hk hc
        go_wp2_with fail
        go_end0
        rw [HR.out]
        exact ⟨rfl, HK9.out.unbox HC.out (fun _ h => h.1.1.1) (Nat.le_trans HTF.out.size HC9.out.size), HTF.out.tr (HC9.out.mono fun _ _ h => h.1.1.1)⟩
      | true =>
        go_wp2_with fail
        with_reducible refine (isStatic_c fl _).mono ?_
        rintro e w9 ⟨rfl, rfl⟩
        go_wp2_with fail
        with_reducible refine (refuse_b HKF (b' := !true || bStat fl != false) ?hb 70).mono ?_
        case hb => cases bStat fl <;> rfl
        rintro e w6 ⟨rfl, hk, hc⟩
        have HK6 := lhid hk
        have HC6 := lhid hc
        clear hk hc
        have k6 := heap_cell (i := 2) (HC6.out.keep HFZ.out (fun h => h.2 rfl)) rfl
        go_wp2_with fail
        with_reducible refine (know_c HE HK6 d HDL.out).mono ?_
        rintro e w7 ⟨rfl, hk, hc⟩
        have HK7 := lhid hk
        have HC7 := lhid (HC6.out.tr hc)
        clear hk hc
        have p7 := heap_cell (i := 2) (HC7.out.keep HBX.out (fun h => h.1.2 rfl)) rfl
        go_wp2_with fail
        with_reducible refine (HE.out.of x.text _ HXT.out).mono ?_
        rintro e w9 ⟨rfl, rfl⟩
        go_wp2_with fail
        with_reducible refine (pop_c HE HK7 (E.of x.text) HOL.out).mono ?_
        rintro e w8 ⟨rfl, hk, hc⟩
        have HK8 := lhid hk
        have HC8 := lhid (HC7.out.tr hc)
        clear hk hc
        have m8 := heap_cell (i := 2) (HC8.out.keep HFZ.out (fun h => h.2 rfl)) rfl
        go_wp2_with fail
        with_reducible refine (push1_c HE HF HK8 (txb d) HDL.out).mono ?_
        rintro e w9 ⟨rfl, hk, hc⟩
        have HK9 := lhid hk
        have HC9 := lhid (HC8.out.tr hc)
        clear hk hc
        go_wp2_with fail
        go_end0
        rw [HR.out]
        exact ⟨rfl, HK9.out.unbox HC.out (fun _ h => h.1.1.1) (Nat.le_trans HTF.out.size HC9.out.size), HTF.out.tr (HC9.out.mono fun _ _ h => h.1.1.1)⟩
    · have hbF : Below w2.heap.size w2 (((w5.setCell ⟨w2.heap.size, 0, none⟩ (.int .i64 fl)).setCell ⟨w2.heap.size, 1, none⟩ (.string (tx nm))).setCell ⟨w2.heap.size, 2, none⟩ (.string (tx d))) := ((hb5.setCell (p := ⟨w2.heap.size, 0, none⟩) (Nat.le_refl _) _).setCell (p := ⟨w2.heap.size, 1, none⟩) (Nat.le_refl _) _).setCell (p := ⟨w2.heap.size, 2, none⟩) (Nat.le_refl _) _
      have hfF : (((w5.setCell ⟨w2.heap.size, 0, none⟩ (.int .i64 fl)).setCell ⟨w2.heap.size, 1, none⟩ (.string (tx nm))).setCell ⟨w2.heap.size, 2, none⟩ (.string (tx d))).heap[w2.heap.size]? = some (.cells #[.int .i64 fl, .string (tx nm), .string (tx d)] 91 (0, 0)) := heap_set (heap_set (heap_set hf5 _) _) _
      have hgF : w2.heap.size ≤ w2.heap.size := Nat.le_refl _
      have HKF := lhid (HKb.out.box hbF hgF (heap_lt hfF))
      have HFZ := lhid hfF
      have HBX := lhid ((hbF.block _ (heap_lt HZ1.out)).trans HZ1.out)
      have HTF := lhid (HT2.out.tr (Ch.of hbF))
      have f0 := heap_cell (i := 0) hfF rfl
      clear hbF hfF hgF hb5 hb5' t0 x2 x3 x4 hf5 y0 y1 y2 z0 z1 z2
      generalize (((w5.setCell ⟨w2.heap.size, 0, none⟩ (.int .i64 fl)).setCell ⟨w2.heap.size, 1, none⟩ (.string (tx nm))).setCell ⟨w2.heap.size, 2, none⟩ (.string (tx d))) = wF at *
      cases th with
      | false =>
        go_wp2_with fail
        with_reducible refine (refuse_b HKF (b' := !false || bStat fl != false) ?hb 70).mono ?_
        case hb => cases bStat fl <;> rfl
        rintro e w6 ⟨rfl, hk, hc⟩
        have HK6 := lhid hk
        have HC6 := lhid hc
        clear hk hc
        have k6 := heap_cell (i := 2) (HC6.out.keep HFZ.out (fun h => h.2 rfl)) rfl
        go_wp2_with fail
        with_reducible refine (know_c HE HK6 d HDL.out).mono ?_
        rintro e w7 ⟨rfl, hk, hc⟩
        have HK7 := lhid hk
        have HC7 := lhid (HC6.out.tr hc)
        clear hk hc
        have p7 := heap_cell (i := 2) (HC7.out.keep HBX.out (fun h => h.1.2 rfl)) rfl
        go_wp2_with fail
        with_reducible refine (HE.out.of x.text _ HXT.out).mono ?_
        rintro e w9 ⟨rfl, rfl⟩
        go_wp2_with fail
        with_reducible refine (pop_c HE HK7 (E.of x.text) HOL.out).mono ?_
        rintro e w8 ⟨rfl, hk, hc⟩
        have HK8 := lhid hk
        have HC8 := lhid (HC7.out.tr hc)
        clear hk hc
        have m8 := heap_cell (i := 2) (HC8.out.keep HFZ.out (fun h => h.2 rfl)) rfl
        go_wp2_with fail
        with_reducible refine (push1_c HE HF HK8 (txb d) HDL.out).mono ?_
        rintro e w9 ⟨rfl, hk, hc⟩
        have HK9 := lhid hk
        have HC9 := lhid (HC8.out.tr hc)
        clear hk hc
        go_wp2_with fail
        go_end0
        rw [HR.out]
        exact ⟨rfl, HK9.out.unbox HC.out (fun _ h => h.1.1.1) (Nat.le_trans HTF.out.size HC9.out.size), HTF.out.tr (HC9.out.mono fun _ _ h => h.1.1.1)⟩
      | true =>
        go_wp2_with fail
        with_reducible refine (isStatic_c fl _).mono ?_
        rintro e w9 ⟨rfl, rfl⟩
        go_wp2_with fail
        with_reducible refine (refuse_b HKF (b' := !true || bStat fl != false) ?hb 70).mono ?_
        case hb => cases bStat fl <;> rfl
        rintro e w6 ⟨rfl, hk, hc⟩
        have HK6 := lhid hk
        have HC6 := lhid hc
        clear hk hc
        have k6 := heap_cell (i := 2) (HC6.out.keep HFZ.out (fun h => h.2 rfl)) rfl
        go_wp2_with fail
        with_reducible refine (know_c HE HK6 d HDL.out).mono ?_
        rintro e w7 ⟨rfl, hk, hc⟩
        have HK7 := lhid hk
        have HC7 := lhid (HC6.out.tr hc)
        clear hk hc
        have p7 := heap_cell (i := 2) (HC7.out.keep HBX.out (fun h => h.1.2 rfl)) rfl
        go_wp2_with fail
        with_reducible refine (HE.out.of x.text _ HXT.out).mono ?_
        rintro e w9 ⟨rfl, rfl⟩
        go_wp2_with fail
        with_reducible refine (pop_c HE HK7 (E.of x.text) HOL.out).mono ?_
        rintro e w8 ⟨rfl, hk, hc⟩
        have HK8 := lhid hk
        have HC8 := lhid (HC7.out.tr hc)
        clear hk hc
        have m8 := heap_cell (i := 2) (HC8.out.keep HFZ.out (fun h => h.2 rfl)) rfl
        go_wp2_with fail
        with_reducible refine (push1_c HE HF HK8 (txb d) HDL.out).mono ?_
        rintro e w9 ⟨rfl, hk, hc⟩
        have HK9 := lhid hk
        have HC9 := lhid (HC8.out.tr hc)
        clear hk hc
        go_wp2_with fail
        go_end0
        rw [HR.out]
        exact ⟨rfl, HK9.out.unbox HC.out (fun _ h => h.1.1.1) (Nat.le_trans HTF.out.size HC9.out.size), HTF.out.tr (HC9.out.mono fun _ _ h => h.1.1.1)⟩
end
end Go.Proofs.YtpdnonlelocfbaaGreatDoor
