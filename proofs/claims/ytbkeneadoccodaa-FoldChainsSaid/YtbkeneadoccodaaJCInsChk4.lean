/- Contract of restFits. -/
import Derived.Test.YtbkeneadoccodaaJCInsChk3
import Derived.Test.YtbkeneadoccodaaJCRefType
namespace Go.Proofs.Ytbkeneadoccodaa
open Go.RowKit Go
set_option linter.unusedVariables false
set_option linter.unusedSimpArgs false
theorem heap_new2 (w : World) (o1 o2 : Obj) : ((w.alloc o1).alloc o2).heap[w.heap.size + 1]? = some o2 := by
 have := heap_alloc_new (w.alloc o1) o2
 have e : (w.alloc o1).heap.size = w.heap.size + 1 := by simp
 rwa [e] at this
theorem mayB_ok {rs : List Int} {r f : Int} (h : mayB rs r f = true) (hf : (f == 0) = false) : r = -1 ∨ (0 ≤ r ∧ r < rs.length) := by
 unfold mayB at h
 rw [hf, Bool.false_or] at h
 split at h
 ·exact .inl (by assumption)
 ·simp only [Bool.and_eq_true, decide_eq_true_eq] at h
  exact .inr h.1
theorem type_tx (x : Bs) (r : Bool) (w : World) (hr : Hid (typeB x = r)) (hs : Hid (x.length ≤ maxLen)) : Calls Try.prog 112 #[.string (tx x)] w fun e w' => e = .returned (.bool r) ∧ Below w.heap.size w w' := by
 have hs2 := hs.out
 have := type_any (tx x) w (by rw [tx_size]; exact hs2)
 refine this.mono ?_
 rintro e w1 ⟨rfl, n, rfl⟩
 rw [tx_list, hr.out]
 exact ⟨rfl, Below.drewN' (Below.refl _ _) n⟩
section
variable {P Q : Nat → Prop}
set_option maxHeartbeats 2000000 in
set_option maxRecDepth 100000 in
theorem restFits_4 (rs : List Int) (fa fb : Value) (ret : Int) (fd fe : Value) (d a b k n t : Int) (r : Bs) (v : Value) (L : List Int) (w : World) (h : Hid (RdX P 1 NuE w fa rs)) (hv : Hid (RdX Q 1 NuE w v L)) (hn : Hid (I64 n)) (hr : Hid (r.length ≤ maxLen)) (od : Hid (d = -1 ∨ (0 ≤ d ∧ d < rs.length))) (oa : Hid (a = -1 ∨ (0 ≤ a ∧ a < rs.length))) :
    Calls Try.prog 82 #[fuL fa fb ret fd fe, inL 4 d a b k n t r v] w fun e w' => e = .returned (.bool (kd rs d == kd rs a)) ∧ Below w.heap.size w w' := by
  obtain ⟨kz, kze⟩ : ∃ z, kd rs d = z := ⟨_, rfl⟩
  have HKd := lhid kze
  rw [kze]
  clear kze
  obtain ⟨ky, kye⟩ : ∃ z, kd rs a = z := ⟨_, rfl⟩
  have HKa := lhid kye
  rw [kye]
  clear kye
  go_enter Try.func82, Try.ntmps82
  go_wp2_with fail
  generalize hW : World.alloc _ _ = wr
  have hB : Below w.heap.size w wr := by rw [← hW]; exact ((Below.refl w.heap.size w).alloc (Nat.le_refl _) _).alloc (by simp) _
  have hF : FBox wr w.heap.size fa fb ret fd fe := by rw [← hW]; exact (Below.heap_alloc _ _ _ (by simp)).trans (heap_alloc_new w _)
  have hX : XBox wr (w.heap.size + 1) 4 d a b k n t r v := by
    rw [← hW]
    exact heap_new2 w _ _
  have HG : Hid (∀ w' : World, Below wr.heap.size wr w' → (w'.cell? ⟨w.heap.size, 0, none⟩ = some fa ∧ w'.cell? ⟨w.heap.size, 1, none⟩ = some fb ∧ w'.cell? ⟨w.heap.size, 2, none⟩ = some (.int .i64 ret) ∧ w'.cell? ⟨w.heap.size, 3, none⟩ = some fd ∧ w'.cell? ⟨w.heap.size, 4, none⟩ = some fe) ∧ (w'.cell? ⟨w.heap.size + 1, 0, none⟩ = some (.int .i64 4) ∧ w'.cell? ⟨w.heap.size + 1, 1, none⟩ = some (.int .i64 d) ∧ w'.cell? ⟨w.heap.size + 1, 2, none⟩ = some (.int .i64 a) ∧ w'.cell? ⟨w.heap.size + 1, 3, none⟩ = some (.int .i64 b) ∧ w'.cell? ⟨w.heap.size + 1, 4, none⟩ = some (.int .i64 k) ∧ w'.cell? ⟨w.heap.size + 1, 5, none⟩ = some (.int .i64 n) ∧ w'.cell? ⟨w.heap.size + 1, 6, none⟩ = some (.int .i64 t) ∧ w'.cell? ⟨w.heap.size + 1, 7, none⟩ = some (.string (tx r)) ∧ w'.cell? ⟨w.heap.size + 1, 8, none⟩ = some v)) := lhid (fun w' hw' => by
    have hF' : FBox w' w.heap.size fa fb ret fd fe := heap_keep hF hw'
    have hX' : XBox w' (w.heap.size + 1) 4 d a b k n t r v := heap_keep hX hw'
    exact ⟨hF'.cells, hX'.cells⟩)
  have HR := lhid (h.out.below (keptX_nu _) hB)
  have HB := lhid hB
  clear hB hF hX hW
  refine wp_region_quiet_c (C := fun w' => Below wr.heap.size wr w') (by kernel_rfl) (by kernel_rfl) (Below.drew' (Below.refl _ _)) ?_
  repeat (first
      | go_big_quiet_skip
      | (go_big_quiet_want
         first
           | (refine quiet_of_run (v := ?_) (fun w' hw' => ?_) ?_
              rotate_left
              · (obtain ⟨⟨p0, p1, p2, p3, p4⟩, y0, y1, y2, y3, y4, y5, y6, y7, y8⟩ := HG.out w' hw'; go_simp; try with_reducible rfl)
              go_big_quiet_on
              try simp only [Act.put, List.setIfInBounds_toArray, List.set_cons_zero, List.set_cons_succ])
           | (refine quiet_of_call (v := .int .i64 kz) (f := 110) (args := #[fuL fa fb ret fd fe, .int .i64 d]) (fun w' hw' => ?_) (fun w' hw' => ?_) ?_
              · (go_simp; done)
              · (refine (kindOf_r rs fa fb ret fd fe d kz w' (lhid (HR.out.below (keptX_nu _) hw')) od.out HKd).mono ?_
                 rintro e w9 ⟨rfl, hb9⟩
                 exact ⟨rfl, hw'.trans (Below.less hb9 hw'.size)⟩)
              go_big_quiet_on
              try simp only [Act.put, List.setIfInBounds_toArray, List.set_cons_zero, List.set_cons_succ])
           | (refine quiet_of_call (v := .int .i64 ky) (f := 110) (args := #[fuL fa fb ret fd fe, .int .i64 a]) (fun w' hw' => ?_) (fun w' hw' => ?_) ?_
              · (go_simp; done)
              · (refine (kindOf_r rs fa fb ret fd fe a ky w' (lhid (HR.out.below (keptX_nu _) hw')) oa.out HKa).mono ?_
                 rintro e w9 ⟨rfl, hb9⟩
                 exact ⟨rfl, hw'.trans (Below.less hb9 hw'.size)⟩)
              go_big_quiet_on
              try simp only [Act.put, List.setIfInBounds_toArray, List.set_cons_zero, List.set_cons_succ])))
  refine wpQuiet_nil ?_
  intro wx hwx
  have HW := lhid (HB.out.trans (hwx.mono HB.out.size))
  clear hwx
  go_wp2_with fail
  go_ret
  exact ⟨rfl, HW.out⟩
set_option maxHeartbeats 2000000 in
set_option maxRecDepth 100000 in
theorem restFits_5 (rs : List Int) (fa fb : Value) (ret : Int) (fd fe : Value) (d a b k n t : Int) (r : Bs) (v : Value) (L : List Int) (w : World) (h : Hid (RdX P 1 NuE w fa rs)) (hv : Hid (RdX Q 1 NuE w v L)) (hn : Hid (I64 n)) (hr : Hid (r.length ≤ maxLen)) (od : Hid (d = -1 ∨ (0 ≤ d ∧ d < rs.length))) (oa : Hid (a = -1 ∨ (0 ≤ a ∧ a < rs.length))) (ob : Hid (b = -1 ∨ (0 ≤ b ∧ b < rs.length))) :
    Calls Try.prog 82 #[fuL fa fb ret fd fe, inL 5 d a b k n t r v] w fun e w' => e = .returned (.bool (decide (Nu.knd n = (kd rs a, kd rs b, kd rs d)))) ∧ Below w.heap.size w w' := by
  obtain ⟨kz, kze⟩ : ∃ z, kd rs d = z := ⟨_, rfl⟩
  have HKd := lhid kze
  rw [kze]
  clear kze
  obtain ⟨ky, kye⟩ : ∃ z, kd rs a = z := ⟨_, rfl⟩
  have HKa := lhid kye
  rw [kye]
  clear kye
  obtain ⟨kx, kxe⟩ : ∃ z, kd rs b = z := ⟨_, rfl⟩
  have HKb := lhid kxe
  rw [kxe]
  clear kxe
  go_enter Try.func82, Try.ntmps82
  go_wp2_with fail
  generalize hW : World.alloc _ _ = wr
  have hB : Below w.heap.size w wr := by rw [← hW]; exact ((Below.refl w.heap.size w).alloc (Nat.le_refl _) _).alloc (by simp) _
  have hF : FBox wr w.heap.size fa fb ret fd fe := by rw [← hW]; exact (Below.heap_alloc _ _ _ (by simp)).trans (heap_alloc_new w _)
  have hX : XBox wr (w.heap.size + 1) 5 d a b k n t r v := by
    rw [← hW]
    exact heap_new2 w _ _
  have HG : Hid (∀ w' : World, Below wr.heap.size wr w' → (w'.cell? ⟨w.heap.size, 0, none⟩ = some fa ∧ w'.cell? ⟨w.heap.size, 1, none⟩ = some fb ∧ w'.cell? ⟨w.heap.size, 2, none⟩ = some (.int .i64 ret) ∧ w'.cell? ⟨w.heap.size, 3, none⟩ = some fd ∧ w'.cell? ⟨w.heap.size, 4, none⟩ = some fe) ∧ (w'.cell? ⟨w.heap.size + 1, 0, none⟩ = some (.int .i64 5) ∧ w'.cell? ⟨w.heap.size + 1, 1, none⟩ = some (.int .i64 d) ∧ w'.cell? ⟨w.heap.size + 1, 2, none⟩ = some (.int .i64 a) ∧ w'.cell? ⟨w.heap.size + 1, 3, none⟩ = some (.int .i64 b) ∧ w'.cell? ⟨w.heap.size + 1, 4, none⟩ = some (.int .i64 k) ∧ w'.cell? ⟨w.heap.size + 1, 5, none⟩ = some (.int .i64 n) ∧ w'.cell? ⟨w.heap.size + 1, 6, none⟩ = some (.int .i64 t) ∧ w'.cell? ⟨w.heap.size + 1, 7, none⟩ = some (.string (tx r)) ∧ w'.cell? ⟨w.heap.size + 1, 8, none⟩ = some v)) := lhid (fun w' hw' => by
    have hF' : FBox w' w.heap.size fa fb ret fd fe := heap_keep hF hw'
    have hX' : XBox w' (w.heap.size + 1) 5 d a b k n t r v := heap_keep hX hw'
    exact ⟨hF'.cells, hX'.cells⟩)
  have HR := lhid (h.out.below (keptX_nu _) hB)
  have HB := lhid hB
  clear hB hF hX hW
  refine wp_region_quiet_c (C := fun w' => Below wr.heap.size wr w') (by kernel_rfl) (by kernel_rfl) (Below.drew' (Below.refl _ _)) ?_
  repeat (first
      | go_big_quiet_skip
      | (go_big_quiet_want
         first
           | (refine quiet_of_run (v := ?_) (fun w' hw' => ?_) ?_
              rotate_left
              · (obtain ⟨⟨p0, p1, p2, p3, p4⟩, y0, y1, y2, y3, y4, y5, y6, y7, y8⟩ := HG.out w' hw'; go_simp; try with_reducible rfl)
              go_big_quiet_on
              try simp only [Act.put, List.setIfInBounds_toArray, List.set_cons_zero, List.set_cons_succ])
           | (refine quiet_of_call (v := .int .i64 kz) (f := 110) (args := #[fuL fa fb ret fd fe, .int .i64 d]) (fun w' hw' => ?_) (fun w' hw' => ?_) ?_
              · (go_simp; done)
              · (refine (kindOf_r rs fa fb ret fd fe d kz w' (lhid (HR.out.below (keptX_nu _) hw')) od.out HKd).mono ?_
                 rintro e w9 ⟨rfl, hb9⟩
                 exact ⟨rfl, hw'.trans (Below.less hb9 hw'.size)⟩)
              go_big_quiet_on
              try simp only [Act.put, List.setIfInBounds_toArray, List.set_cons_zero, List.set_cons_succ])
           | (refine quiet_of_call (v := .int .i64 ky) (f := 110) (args := #[fuL fa fb ret fd fe, .int .i64 a]) (fun w' hw' => ?_) (fun w' hw' => ?_) ?_
              · (go_simp; done)
              · (refine (kindOf_r rs fa fb ret fd fe a ky w' (lhid (HR.out.below (keptX_nu _) hw')) oa.out HKa).mono ?_
                 rintro e w9 ⟨rfl, hb9⟩
                 exact ⟨rfl, hw'.trans (Below.less hb9 hw'.size)⟩)
              go_big_quiet_on
              try simp only [Act.put, List.setIfInBounds_toArray, List.set_cons_zero, List.set_cons_succ])
           | (refine quiet_of_call (v := .int .i64 kx) (f := 110) (args := #[fuL fa fb ret fd fe, .int .i64 b]) (fun w' hw' => ?_) (fun w' hw' => ?_) ?_
              · (go_simp; done)
              · (refine (kindOf_r rs fa fb ret fd fe b kx w' (lhid (HR.out.below (keptX_nu _) hw')) ob.out HKb).mono ?_
                 rintro e w9 ⟨rfl, hb9⟩
                 exact ⟨rfl, hw'.trans (Below.less hb9 hw'.size)⟩)
              go_big_quiet_on
              try simp only [Act.put, List.setIfInBounds_toArray, List.set_cons_zero, List.set_cons_succ])
           | (refine quiet_of_call (v := .bool (decide (Nu.knd n = (ky, kx, kz)))) (f := 111) (args := #[.int .i64 n, .int .i64 ky, .int .i64 kx, .int .i64 kz]) (fun w' hw' => ?_) (fun w' hw' => ?_) ?_
              · (go_simp; done)
              · (refine (computes_any n ky kx kz hn w').mono ?_
                 rintro e w9 ⟨rfl, rfl⟩
                 exact ⟨rfl, hw'⟩)
              go_big_quiet_on
              try simp only [Act.put, List.setIfInBounds_toArray, List.set_cons_zero, List.set_cons_succ])))
  refine wpQuiet_nil ?_
  intro wx hwx
  have HW := lhid (HB.out.trans (hwx.mono HB.out.size))
  clear hwx
  go_wp2_with fail
  go_ret
  exact ⟨rfl, HW.out⟩
set_option maxHeartbeats 2000000 in
set_option maxRecDepth 100000 in
theorem restFits_6 (rs : List Int) (fa fb : Value) (ret : Int) (fd fe : Value) (d a b k n t : Int) (r : Bs) (v : Value) (L : List Int) (w : World) (h : Hid (RdX P 1 NuE w fa rs)) (hv : Hid (RdX Q 1 NuE w v L)) (hn : Hid (I64 n)) (hr : Hid (r.length ≤ maxLen)) (od : Hid (d = -1 ∨ (0 ≤ d ∧ d < rs.length))) (oa : Hid (a = -1 ∨ (0 ≤ a ∧ a < rs.length))) :
    Calls Try.prog 82 #[fuL fa fb ret fd fe, inL 6 d a b k n t r v] w fun e w' => e = .returned (.bool (decide (Nu.knd n = (kd rs a, 0, kd rs d)))) ∧ Below w.heap.size w w' := by
  obtain ⟨kz, kze⟩ : ∃ z, kd rs d = z := ⟨_, rfl⟩
  have HKd := lhid kze
  rw [kze]
  clear kze
  obtain ⟨ky, kye⟩ : ∃ z, kd rs a = z := ⟨_, rfl⟩
  have HKa := lhid kye
  rw [kye]
  clear kye
  go_enter Try.func82, Try.ntmps82
  go_wp2_with fail
  generalize hW : World.alloc _ _ = wr
  have hB : Below w.heap.size w wr := by rw [← hW]; exact ((Below.refl w.heap.size w).alloc (Nat.le_refl _) _).alloc (by simp) _
  have hF : FBox wr w.heap.size fa fb ret fd fe := by rw [← hW]; exact (Below.heap_alloc _ _ _ (by simp)).trans (heap_alloc_new w _)
  have hX : XBox wr (w.heap.size + 1) 6 d a b k n t r v := by
    rw [← hW]
    exact heap_new2 w _ _
  have HG : Hid (∀ w' : World, Below wr.heap.size wr w' → (w'.cell? ⟨w.heap.size, 0, none⟩ = some fa ∧ w'.cell? ⟨w.heap.size, 1, none⟩ = some fb ∧ w'.cell? ⟨w.heap.size, 2, none⟩ = some (.int .i64 ret) ∧ w'.cell? ⟨w.heap.size, 3, none⟩ = some fd ∧ w'.cell? ⟨w.heap.size, 4, none⟩ = some fe) ∧ (w'.cell? ⟨w.heap.size + 1, 0, none⟩ = some (.int .i64 6) ∧ w'.cell? ⟨w.heap.size + 1, 1, none⟩ = some (.int .i64 d) ∧ w'.cell? ⟨w.heap.size + 1, 2, none⟩ = some (.int .i64 a) ∧ w'.cell? ⟨w.heap.size + 1, 3, none⟩ = some (.int .i64 b) ∧ w'.cell? ⟨w.heap.size + 1, 4, none⟩ = some (.int .i64 k) ∧ w'.cell? ⟨w.heap.size + 1, 5, none⟩ = some (.int .i64 n) ∧ w'.cell? ⟨w.heap.size + 1, 6, none⟩ = some (.int .i64 t) ∧ w'.cell? ⟨w.heap.size + 1, 7, none⟩ = some (.string (tx r)) ∧ w'.cell? ⟨w.heap.size + 1, 8, none⟩ = some v)) := lhid (fun w' hw' => by
    have hF' : FBox w' w.heap.size fa fb ret fd fe := heap_keep hF hw'
    have hX' : XBox w' (w.heap.size + 1) 6 d a b k n t r v := heap_keep hX hw'
    exact ⟨hF'.cells, hX'.cells⟩)
  have HR := lhid (h.out.below (keptX_nu _) hB)
  have HB := lhid hB
  clear hB hF hX hW
  refine wp_region_quiet_c (C := fun w' => Below wr.heap.size wr w') (by kernel_rfl) (by kernel_rfl) (Below.drew' (Below.refl _ _)) ?_
  repeat (first
      | go_big_quiet_skip
      | (go_big_quiet_want
         first
           | (refine quiet_of_run (v := ?_) (fun w' hw' => ?_) ?_
              rotate_left
              · (obtain ⟨⟨p0, p1, p2, p3, p4⟩, y0, y1, y2, y3, y4, y5, y6, y7, y8⟩ := HG.out w' hw'; go_simp; try with_reducible rfl)
              go_big_quiet_on
              try simp only [Act.put, List.setIfInBounds_toArray, List.set_cons_zero, List.set_cons_succ])
           | (refine quiet_of_call (v := .int .i64 kz) (f := 110) (args := #[fuL fa fb ret fd fe, .int .i64 d]) (fun w' hw' => ?_) (fun w' hw' => ?_) ?_
              · (go_simp; done)
              · (refine (kindOf_r rs fa fb ret fd fe d kz w' (lhid (HR.out.below (keptX_nu _) hw')) od.out HKd).mono ?_
                 rintro e w9 ⟨rfl, hb9⟩
                 exact ⟨rfl, hw'.trans (Below.less hb9 hw'.size)⟩)
              go_big_quiet_on
              try simp only [Act.put, List.setIfInBounds_toArray, List.set_cons_zero, List.set_cons_succ])
           | (refine quiet_of_call (v := .int .i64 ky) (f := 110) (args := #[fuL fa fb ret fd fe, .int .i64 a]) (fun w' hw' => ?_) (fun w' hw' => ?_) ?_
              · (go_simp; done)
              · (refine (kindOf_r rs fa fb ret fd fe a ky w' (lhid (HR.out.below (keptX_nu _) hw')) oa.out HKa).mono ?_
                 rintro e w9 ⟨rfl, hb9⟩
                 exact ⟨rfl, hw'.trans (Below.less hb9 hw'.size)⟩)
              go_big_quiet_on
              try simp only [Act.put, List.setIfInBounds_toArray, List.set_cons_zero, List.set_cons_succ])
           | (refine quiet_of_call (v := .bool (decide (Nu.knd n = (ky, 0, kz)))) (f := 111) (args := #[.int .i64 n, .int .i64 ky, .int .i64 0, .int .i64 kz]) (fun w' hw' => ?_) (fun w' hw' => ?_) ?_
              · (go_simp; done)
              · (refine (computes_any n ky 0 kz hn w').mono ?_
                 rintro e w9 ⟨rfl, rfl⟩
                 exact ⟨rfl, hw'⟩)
              go_big_quiet_on
              try simp only [Act.put, List.setIfInBounds_toArray, List.set_cons_zero, List.set_cons_succ])))
  refine wpQuiet_nil ?_
  intro wx hwx
  have HW := lhid (HB.out.trans (hwx.mono HB.out.size))
  clear hwx
  go_wp2_with fail
  go_ret
  exact ⟨rfl, HW.out⟩
set_option maxHeartbeats 2000000 in
set_option maxRecDepth 100000 in
theorem restFits_30 (rs : List Int) (fa fb : Value) (ret : Int) (fd fe : Value) (d a b k n t : Int) (r : Bs) (v : Value) (L : List Int) (w : World) (h : Hid (RdX P 1 NuE w fa rs)) (hv : Hid (RdX Q 1 NuE w v L)) (hn : Hid (I64 n)) (hr : Hid (r.length ≤ maxLen)) (oa : Hid (a = -1 ∨ (0 ≤ a ∧ a < rs.length))) :
    Calls Try.prog 82 #[fuL fa fb ret fd fe, inL 30 d a b k n t r v] w fun e w' => e = .returned (.bool (kd rs a == ret)) ∧ Below w.heap.size w w' := by
  obtain ⟨ky, kye⟩ : ∃ z, kd rs a = z := ⟨_, rfl⟩
  have HKa := lhid kye
  rw [kye]
  clear kye
  go_enter Try.func82, Try.ntmps82
  go_wp2_with fail
  generalize hW : World.alloc _ _ = wr
  have hB : Below w.heap.size w wr := by rw [← hW]; exact ((Below.refl w.heap.size w).alloc (Nat.le_refl _) _).alloc (by simp) _
  have hF : FBox wr w.heap.size fa fb ret fd fe := by rw [← hW]; exact (Below.heap_alloc _ _ _ (by simp)).trans (heap_alloc_new w _)
  have hX : XBox wr (w.heap.size + 1) 30 d a b k n t r v := by
    rw [← hW]
    exact heap_new2 w _ _
  have HG : Hid (∀ w' : World, Below wr.heap.size wr w' → (w'.cell? ⟨w.heap.size, 0, none⟩ = some fa ∧ w'.cell? ⟨w.heap.size, 1, none⟩ = some fb ∧ w'.cell? ⟨w.heap.size, 2, none⟩ = some (.int .i64 ret) ∧ w'.cell? ⟨w.heap.size, 3, none⟩ = some fd ∧ w'.cell? ⟨w.heap.size, 4, none⟩ = some fe) ∧ (w'.cell? ⟨w.heap.size + 1, 0, none⟩ = some (.int .i64 30) ∧ w'.cell? ⟨w.heap.size + 1, 1, none⟩ = some (.int .i64 d) ∧ w'.cell? ⟨w.heap.size + 1, 2, none⟩ = some (.int .i64 a) ∧ w'.cell? ⟨w.heap.size + 1, 3, none⟩ = some (.int .i64 b) ∧ w'.cell? ⟨w.heap.size + 1, 4, none⟩ = some (.int .i64 k) ∧ w'.cell? ⟨w.heap.size + 1, 5, none⟩ = some (.int .i64 n) ∧ w'.cell? ⟨w.heap.size + 1, 6, none⟩ = some (.int .i64 t) ∧ w'.cell? ⟨w.heap.size + 1, 7, none⟩ = some (.string (tx r)) ∧ w'.cell? ⟨w.heap.size + 1, 8, none⟩ = some v)) := lhid (fun w' hw' => by
    have hF' : FBox w' w.heap.size fa fb ret fd fe := heap_keep hF hw'
    have hX' : XBox w' (w.heap.size + 1) 30 d a b k n t r v := heap_keep hX hw'
    exact ⟨hF'.cells, hX'.cells⟩)
  have HR := lhid (h.out.below (keptX_nu _) hB)
  have HB := lhid hB
  clear hB hF hX hW
  refine wp_region_quiet_c (C := fun w' => Below wr.heap.size wr w') (by kernel_rfl) (by kernel_rfl) (Below.drew' (Below.refl _ _)) ?_
  repeat (first
      | go_big_quiet_skip
      | (go_big_quiet_want
         first
           | (refine quiet_of_run (v := ?_) (fun w' hw' => ?_) ?_
              rotate_left
              · (obtain ⟨⟨p0, p1, p2, p3, p4⟩, y0, y1, y2, y3, y4, y5, y6, y7, y8⟩ := HG.out w' hw'; go_simp; try with_reducible rfl)
              go_big_quiet_on
              try simp only [Act.put, List.setIfInBounds_toArray, List.set_cons_zero, List.set_cons_succ])
           | (refine quiet_of_call (v := .int .i64 ky) (f := 110) (args := #[fuL fa fb ret fd fe, .int .i64 a]) (fun w' hw' => ?_) (fun w' hw' => ?_) ?_
              · (go_simp; done)
              · (refine (kindOf_r rs fa fb ret fd fe a ky w' (lhid (HR.out.below (keptX_nu _) hw')) oa.out HKa).mono ?_
                 rintro e w9 ⟨rfl, hb9⟩
                 exact ⟨rfl, hw'.trans (Below.less hb9 hw'.size)⟩)
              go_big_quiet_on
              try simp only [Act.put, List.setIfInBounds_toArray, List.set_cons_zero, List.set_cons_succ])))
  refine wpQuiet_nil ?_
  intro wx hwx
  have HW := lhid (HB.out.trans (hwx.mono HB.out.size))
  clear hwx
  go_wp2_with fail
  go_ret
  exact ⟨rfl, HW.out⟩
set_option maxHeartbeats 2000000 in
set_option maxRecDepth 100000 in
theorem restFits_12 (rs : List Int) (fa fb : Value) (ret : Int) (fd fe : Value) (d a b k n t : Int) (r : Bs) (v : Value) (L : List Int) (w : World) (h : Hid (RdX P 1 NuE w fa rs)) (hv : Hid (RdX Q 1 NuE w v L)) (hn : Hid (I64 n)) (hr : Hid (r.length ≤ maxLen))  :
  Calls Try.prog 82 #[fuL fa fb ret fd fe, inL 12 d a b k n t r v] w fun e w' => e = .returned (.bool (typeB r)) ∧ Below w.heap.size w w' := by
 obtain ⟨z, hz⟩ : ∃ z, typeB r = z := ⟨_, rfl⟩
 have HZ := lhid hz
 rw [hz]
 clear hz
 go_enter Try.func82, Try.ntmps82
 go_wp2_with fail
 with_reducible refine (type_tx _ z _ HZ hr).mono ?_
 rintro e w1 ⟨rfl, hb⟩
 have HB := lhid ((((Below.refl w.heap.size w).alloc (Nat.le_refl _) _).alloc (by simp) _).trans (hb.mono (by simp; omega)))
 clear hb
 go_wp2_with fail
 go_ret
 exact ⟨rfl, HB.out⟩
set_option maxHeartbeats 2000000 in
set_option maxRecDepth 100000 in
theorem restFits_21 (rs : List Int) (fa fb : Value) (ret : Int) (fd fe : Value) (d a b k n t : Int) (r : Bs) (v : Value) (L : List Int) (w : World) (h : Hid (RdX P 1 NuE w fa rs)) (hv : Hid (RdX Q 1 NuE w v L)) (hn : Hid (I64 n)) (hr : Hid (r.length ≤ maxLen))  :
  Calls Try.prog 82 #[fuL fa fb ret fd fe, inL 21 d a b k n t r v] w fun e w' => e = .returned (.bool (typeB r)) ∧ Below w.heap.size w w' := by
 obtain ⟨z, hz⟩ : ∃ z, typeB r = z := ⟨_, rfl⟩
 have HZ := lhid hz
 rw [hz]
 clear hz
 go_enter Try.func82, Try.ntmps82
 go_wp2_with fail
 with_reducible refine (type_tx _ z _ HZ hr).mono ?_
 rintro e w1 ⟨rfl, hb⟩
 have HB := lhid ((((Below.refl w.heap.size w).alloc (Nat.le_refl _) _).alloc (by simp) _).trans (hb.mono (by simp; omega)))
 clear hb
 go_wp2_with fail
 go_ret
 exact ⟨rfl, HB.out⟩
set_option maxHeartbeats 2000000 in
set_option maxRecDepth 100000 in
theorem restFits_22 (rs : List Int) (fa fb : Value) (ret : Int) (fd fe : Value) (d a b k n t : Int) (r : Bs) (v : Value) (L : List Int) (w : World) (h : Hid (RdX P 1 NuE w fa rs)) (hv : Hid (RdX Q 1 NuE w v L)) (hn : Hid (I64 n)) (hr : Hid (r.length ≤ maxLen))  :
  Calls Try.prog 82 #[fuL fa fb ret fd fe, inL 22 d a b k n t r v] w fun e w' => e = .returned (.bool (typeB r)) ∧ Below w.heap.size w w' := by
 obtain ⟨z, hz⟩ : ∃ z, typeB r = z := ⟨_, rfl⟩
 have HZ := lhid hz
 rw [hz]
 clear hz
 go_enter Try.func82, Try.ntmps82
 go_wp2_with fail
 with_reducible refine (type_tx _ z _ HZ hr).mono ?_
 rintro e w1 ⟨rfl, hb⟩
 have HB := lhid ((((Below.refl w.heap.size w).alloc (Nat.le_refl _) _).alloc (by simp) _).trans (hb.mono (by simp; omega)))
 clear hb
 go_wp2_with fail
 go_ret
 exact ⟨rfl, HB.out⟩
set_option maxHeartbeats 2000000 in
set_option maxRecDepth 100000 in
theorem restFits_16 (rs : List Int) (fa fb : Value) (ret : Int) (fd fe : Value) (d a b k n t : Int) (r : Bs) (v : Value) (L : List Int) (w : World) (h : Hid (RdX P 1 NuE w fa rs)) (hv : Hid (RdX Q 1 NuE w v L)) (hn : Hid (I64 n)) (hr : Hid (r.length ≤ maxLen))  :
  Calls Try.prog 82 #[fuL fa fb ret fd fe, inL 16 d a b k n t r v] w fun e w' => e = .returned (.bool (decide (0 ≤ n))) ∧ Below w.heap.size w w' := by
 by_cases q : 0 ≤ n
 all_goals
  have HQ := lhid q
  go_enter Try.func82, Try.ntmps82
  go_wp2_with fail
  go_ret
  exact ⟨ret_bool (by simp [HQ.out]), ((Below.refl w.heap.size w).alloc (Nat.le_refl _) _).alloc (by simp) _⟩
set_option maxHeartbeats 2000000 in
set_option maxRecDepth 100000 in
theorem restFits_17 (rs : List Int) (fa fb : Value) (ret : Int) (fd fe : Value) (d a b k n t : Int) (r : Bs) (v : Value) (L : List Int) (w : World) (h : Hid (RdX P 1 NuE w fa rs)) (hv : Hid (RdX Q 1 NuE w v L)) (hn : Hid (I64 n)) (hr : Hid (r.length ≤ maxLen))  :
  Calls Try.prog 82 #[fuL fa fb ret fd fe, inL 17 d a b k n t r v] w fun e w' => e = .returned (.bool (decide (0 ≤ n))) ∧ Below w.heap.size w w' := by
 by_cases q : 0 ≤ n
 all_goals
  have HQ := lhid q
  go_enter Try.func82, Try.ntmps82
  go_wp2_with fail
  go_ret
  exact ⟨ret_bool (by simp [HQ.out]), ((Below.refl w.heap.size w).alloc (Nat.le_refl _) _).alloc (by simp) _⟩
set_option maxHeartbeats 2000000 in
set_option maxRecDepth 100000 in
theorem restFits_28 (rs : List Int) (fa fb : Value) (ret : Int) (fd fe : Value) (d a b k n t : Int) (r : Bs) (v : Value) (L : List Int) (w : World) (h : Hid (RdX P 1 NuE w fa rs)) (hv : Hid (RdX Q 1 NuE w v L)) (hn : Hid (I64 n)) (hr : Hid (r.length ≤ maxLen))  :
  Calls Try.prog 82 #[fuL fa fb ret fd fe, inL 28 d a b k n t r v] w fun e w' => e = .returned (.bool (decide (0 ≤ n) && decide (n ≤ 5))) ∧ Below w.heap.size w w' := by
 by_cases q : 0 ≤ n <;> by_cases q' : n ≤ 5
 all_goals try (exfalso; omega)
 all_goals
  have HQ := lhid q
  have HQ' := lhid q'
  go_enter Try.func82, Try.ntmps82
  go_wp2_with fail
  go_ret
  exact ⟨ret_bool (by simp [HQ.out, HQ'.out]), ((Below.refl w.heap.size w).alloc (Nat.le_refl _) _).alloc (by simp) _⟩
set_option maxHeartbeats 2000000 in
set_option maxRecDepth 100000 in
theorem restFits_29 (rs : List Int) (fa fb : Value) (ret : Int) (fd fe : Value) (d a b k n t : Int) (r : Bs) (v : Value) (L : List Int) (w : World) (h : Hid (RdX P 1 NuE w fa rs)) (hv : Hid (RdX Q 1 NuE w v L)) (hn : Hid (I64 n)) (hr : Hid (r.length ≤ maxLen))  :
  Calls Try.prog 82 #[fuL fa fb ret fd fe, inL 29 d a b k n t r v] w fun e w' => e = .returned (.bool (decide (0 ≤ n) && decide (n ≤ 1))) ∧ Below w.heap.size w w' := by
 by_cases q : 0 ≤ n <;> by_cases q' : n ≤ 1
 all_goals try (exfalso; omega)
 all_goals
  have HQ := lhid q
  have HQ' := lhid q'
  go_enter Try.func82, Try.ntmps82
  go_wp2_with fail
  go_ret
  exact ⟨ret_bool (by simp [HQ.out, HQ'.out]), ((Below.refl w.heap.size w).alloc (Nat.le_refl _) _).alloc (by simp) _⟩
set_option maxHeartbeats 2000000 in
set_option maxRecDepth 100000 in
theorem restFits_23 (rs : List Int) (fa fb : Value) (ret : Int) (fd fe : Value) (d a b k n t : Int) (r : Bs) (v : Value) (L : List Int) (w : World) (h : Hid (RdX P 1 NuE w fa rs)) (hv : Hid (RdX Q 1 NuE w v L)) (hn : Hid (I64 n)) (hr : Hid (r.length ≤ maxLen))  :
  Calls Try.prog 82 #[fuL fa fb ret fd fe, inL 23 d a b k n t r v] w fun e w' => e = .returned (.bool (decide (0 ≤ n) && argsB rs L)) ∧ Below w.heap.size w w' := by
 obtain ⟨z, hz⟩ : ∃ z, argsB rs L = z := ⟨_, rfl⟩
 have HA := lhid hz
 rw [hz]
 clear hz
 by_cases q : 0 ≤ n
 ·rw [decide_eq_true q]
  go_enter Try.func82, Try.ntmps82
  go_wp2_with fail
  with_reducible refine (argsFit_r rs L fa fb ret fd fe v z _ (lhid ((h.out.below (keptX_nu _) ((Below.refl _ _).alloc (Nat.le_refl _) _)).below (keptX_nu _) ((Below.refl _ _).alloc (Nat.le_refl _) _))) (lhid ((hv.out.below (keptX_nu _) ((Below.refl _ _).alloc (Nat.le_refl _) _)).below (keptX_nu _) ((Below.refl _ _).alloc (Nat.le_refl _) _))) HA).mono ?_
  rintro e w1 ⟨rfl, hb⟩
  have hF : FBox w1 w.heap.size fa fb ret fd fe := (hb.block w.heap.size (by simp; omega)).trans ((Below.heap_alloc _ _ _ (by simp)).trans (heap_alloc_new w _))
  have hX : XBox w1 (w.heap.size + 1) 23 d a b k n t r v := (hb.block (w.heap.size + 1) (by simp)).trans (by have := heap_alloc_new (w.alloc (.cells #[fa, fb, .int .i64 ret, fd, fe] 27 (0, 0))) (.cells #[.int .i64 23, .int .i64 d, .int .i64 a, .int .i64 b, .int .i64 k, .int .i64 n, .int .i64 t, .string (tx r), v] 29 (0, 0)); simpa using this)
  obtain ⟨p0, p1, p2, p3, p4⟩ := hF.cells
  obtain ⟨y0, y1, y2, y3, y4, y5, y6, y7, y8⟩ := hX.cells
  have hb1 := (((Below.refl w.heap.size w).alloc (Nat.le_refl _) _).alloc (by simp) _).trans (hb.mono (by simp; omega))
  have HB := lhid hb1
  have HR1 := lhid (h.out.below (keptX_nu _) hb1)
  have HV1 := lhid (hv.out.below (keptX_nu _) hb1)
  clear hb hF hX hb1
  go_wp2_with fail
  go_ret
  exact ⟨rfl, HB.out⟩
 ·rw [decide_eq_false q]
  go_enter Try.func82, Try.ntmps82
  go_wp2_with fail
  go_ret
  exact ⟨rfl, ((Below.refl w.heap.size w).alloc (Nat.le_refl _) _).alloc (by simp) _⟩
set_option maxHeartbeats 2000000 in
set_option maxRecDepth 100000 in
theorem restFits_26 (rs : List Int) (fa fb : Value) (ret : Int) (fd fe : Value) (d a b k n t : Int) (r : Bs) (v : Value) (L : List Int) (w : World) (h : Hid (RdX P 1 NuE w fa rs)) (hv : Hid (RdX Q 1 NuE w v L)) (hn : Hid (I64 n)) (hr : Hid (r.length ≤ maxLen))  :
  Calls Try.prog 82 #[fuL fa fb ret fd fe, inL 26 d a b k n t r v] w fun e w' => e = .returned (.bool (decide (0 ≤ n) && argsB rs L)) ∧ Below w.heap.size w w' := by
 obtain ⟨z, hz⟩ : ∃ z, argsB rs L = z := ⟨_, rfl⟩
 have HA := lhid hz
 rw [hz]
 clear hz
 by_cases q : 0 ≤ n
 ·rw [decide_eq_true q]
  go_enter Try.func82, Try.ntmps82
  go_wp2_with fail
  with_reducible refine (argsFit_r rs L fa fb ret fd fe v z _ (lhid ((h.out.below (keptX_nu _) ((Below.refl _ _).alloc (Nat.le_refl _) _)).below (keptX_nu _) ((Below.refl _ _).alloc (Nat.le_refl _) _))) (lhid ((hv.out.below (keptX_nu _) ((Below.refl _ _).alloc (Nat.le_refl _) _)).below (keptX_nu _) ((Below.refl _ _).alloc (Nat.le_refl _) _))) HA).mono ?_
  rintro e w1 ⟨rfl, hb⟩
  have hF : FBox w1 w.heap.size fa fb ret fd fe := (hb.block w.heap.size (by simp; omega)).trans ((Below.heap_alloc _ _ _ (by simp)).trans (heap_alloc_new w _))
  have hX : XBox w1 (w.heap.size + 1) 26 d a b k n t r v := (hb.block (w.heap.size + 1) (by simp)).trans (by have := heap_alloc_new (w.alloc (.cells #[fa, fb, .int .i64 ret, fd, fe] 27 (0, 0))) (.cells #[.int .i64 26, .int .i64 d, .int .i64 a, .int .i64 b, .int .i64 k, .int .i64 n, .int .i64 t, .string (tx r), v] 29 (0, 0)); simpa using this)
  obtain ⟨p0, p1, p2, p3, p4⟩ := hF.cells
  obtain ⟨y0, y1, y2, y3, y4, y5, y6, y7, y8⟩ := hX.cells
  have hb1 := (((Below.refl w.heap.size w).alloc (Nat.le_refl _) _).alloc (by simp) _).trans (hb.mono (by simp; omega))
  have HB := lhid hb1
  have HR1 := lhid (h.out.below (keptX_nu _) hb1)
  have HV1 := lhid (hv.out.below (keptX_nu _) hb1)
  clear hb hF hX hb1
  go_wp2_with fail
  go_ret
  exact ⟨rfl, HB.out⟩
 ·rw [decide_eq_false q]
  go_enter Try.func82, Try.ntmps82
  go_wp2_with fail
  go_ret
  exact ⟨rfl, ((Below.refl w.heap.size w).alloc (Nat.le_refl _) _).alloc (by simp) _⟩
set_option maxHeartbeats 2000000 in
set_option maxRecDepth 100000 in
theorem restFits_24 (rs : List Int) (fa fb : Value) (ret : Int) (fd fe : Value) (d a b k n t : Int) (r : Bs) (v : Value) (L : List Int) (w : World) (h : Hid (RdX P 1 NuE w fa rs)) (hv : Hid (RdX Q 1 NuE w v L)) (hn : Hid (I64 n)) (hr : Hid (r.length ≤ maxLen))  :
  Calls Try.prog 82 #[fuL fa fb ret fd fe, inL 24 d a b k n t r v] w fun e w' => e = .returned (.bool (decide (0 ≤ n) && argsB rs L && objB rs L)) ∧ Below w.heap.size w w' := by
 obtain ⟨z, hz⟩ : ∃ z, argsB rs L = z := ⟨_, rfl⟩
 have HA := lhid hz
 rw [hz]
 have HOK : z = true → Hid (∀ r ∈ L, 0 ≤ r ∧ r < rs.length) := fun e => lhid (by
  rw [e] at hz
  unfold argsB at hz
  rw [Bool.and_eq_true] at hz
  intro r hr
  have := List.all_eq_true.1 hz.2 r hr
  unfold inB at this
  simpa using this)
 obtain ⟨o, ho⟩ : ∃ z, objB rs L = z := ⟨_, rfl⟩
 have HO := lhid ho
 rw [ho]
 clear ho
 clear hz
 by_cases q : 0 ≤ n
 ·rw [decide_eq_true q]
  cases z
  ·clear HOK
   go_enter Try.func82, Try.ntmps82
   go_wp2_with fail
   with_reducible refine (argsFit_r rs L fa fb ret fd fe v false _ (lhid ((h.out.below (keptX_nu _) ((Below.refl _ _).alloc (Nat.le_refl _) _)).below (keptX_nu _) ((Below.refl _ _).alloc (Nat.le_refl _) _))) (lhid ((hv.out.below (keptX_nu _) ((Below.refl _ _).alloc (Nat.le_refl _) _)).below (keptX_nu _) ((Below.refl _ _).alloc (Nat.le_refl _) _))) HA).mono ?_
   rintro e w1 ⟨rfl, hb⟩
   have hF : FBox w1 w.heap.size fa fb ret fd fe := (hb.block w.heap.size (by simp; omega)).trans ((Below.heap_alloc _ _ _ (by simp)).trans (heap_alloc_new w _))
   have hX : XBox w1 (w.heap.size + 1) 24 d a b k n t r v := (hb.block (w.heap.size + 1) (by simp)).trans (by have := heap_alloc_new (w.alloc (.cells #[fa, fb, .int .i64 ret, fd, fe] 27 (0, 0))) (.cells #[.int .i64 24, .int .i64 d, .int .i64 a, .int .i64 b, .int .i64 k, .int .i64 n, .int .i64 t, .string (tx r), v] 29 (0, 0)); simpa using this)
   obtain ⟨p0, p1, p2, p3, p4⟩ := hF.cells
   obtain ⟨y0, y1, y2, y3, y4, y5, y6, y7, y8⟩ := hX.cells
   have hb1 := (((Below.refl w.heap.size w).alloc (Nat.le_refl _) _).alloc (by simp) _).trans (hb.mono (by simp; omega))
   have HB := lhid hb1
   have HR1 := lhid (h.out.below (keptX_nu _) hb1)
   have HV1 := lhid (hv.out.below (keptX_nu _) hb1)
   clear hb hF hX hb1
   go_wp2_with fail
   go_ret
   exact ⟨rfl, HB.out⟩
  ·replace HOK := HOK rfl
   go_enter Try.func82, Try.ntmps82
   go_wp2_with fail
   with_reducible refine (argsFit_r rs L fa fb ret fd fe v true _ (lhid ((h.out.below (keptX_nu _) ((Below.refl _ _).alloc (Nat.le_refl _) _)).below (keptX_nu _) ((Below.refl _ _).alloc (Nat.le_refl _) _))) (lhid ((hv.out.below (keptX_nu _) ((Below.refl _ _).alloc (Nat.le_refl _) _)).below (keptX_nu _) ((Below.refl _ _).alloc (Nat.le_refl _) _))) HA).mono ?_
   rintro e w1 ⟨rfl, hb⟩
   have hF : FBox w1 w.heap.size fa fb ret fd fe := (hb.block w.heap.size (by simp; omega)).trans ((Below.heap_alloc _ _ _ (by simp)).trans (heap_alloc_new w _))
   have hX : XBox w1 (w.heap.size + 1) 24 d a b k n t r v := (hb.block (w.heap.size + 1) (by simp)).trans (by have := heap_alloc_new (w.alloc (.cells #[fa, fb, .int .i64 ret, fd, fe] 27 (0, 0))) (.cells #[.int .i64 24, .int .i64 d, .int .i64 a, .int .i64 b, .int .i64 k, .int .i64 n, .int .i64 t, .string (tx r), v] 29 (0, 0)); simpa using this)
   obtain ⟨p0, p1, p2, p3, p4⟩ := hF.cells
   obtain ⟨y0, y1, y2, y3, y4, y5, y6, y7, y8⟩ := hX.cells
   have hb1 := (((Below.refl w.heap.size w).alloc (Nat.le_refl _) _).alloc (by simp) _).trans (hb.mono (by simp; omega))
   have HB := lhid hb1
   have HR1 := lhid (h.out.below (keptX_nu _) hb1)
   have HV1 := lhid (hv.out.below (keptX_nu _) hb1)
   clear hb hF hX hb1
   go_wp2_with fail
   with_reducible refine (hasObject_r rs L fa fb ret fd fe v o _ HR1 HV1 HOK HO).mono ?_
   rintro e w2 ⟨rfl, hb⟩
   have HB2 := lhid (HB.out.trans (hb.mono HB.out.size))
   clear hb
   go_wp2_with fail
   go_ret
   exact ⟨rfl, HB2.out⟩
 ·rw [decide_eq_false q]
  go_enter Try.func82, Try.ntmps82
  go_wp2_with fail
  go_ret
  exact ⟨rfl, ((Below.refl w.heap.size w).alloc (Nat.le_refl _) _).alloc (by simp) _⟩
set_option maxHeartbeats 2000000 in
set_option maxRecDepth 100000 in
theorem restFits_25 (rs : List Int) (fa fb : Value) (ret : Int) (fd fe : Value) (d a b k n t : Int) (r : Bs) (v : Value) (L : List Int) (w : World) (h : Hid (RdX P 1 NuE w fa rs)) (hv : Hid (RdX Q 1 NuE w v L)) (hn : Hid (I64 n)) (hr : Hid (r.length ≤ maxLen))  :
  Calls Try.prog 82 #[fuL fa fb ret fd fe, inL 25 d a b k n t r v] w fun e w' => e = .returned (.bool (argsB rs L && objB rs L)) ∧ Below w.heap.size w w' := by
 obtain ⟨z, hz⟩ : ∃ z, argsB rs L = z := ⟨_, rfl⟩
 have HA := lhid hz
 rw [hz]
 have HOK : z = true → Hid (∀ r ∈ L, 0 ≤ r ∧ r < rs.length) := fun e => lhid (by
  rw [e] at hz
  unfold argsB at hz
  rw [Bool.and_eq_true] at hz
  intro r hr
  have := List.all_eq_true.1 hz.2 r hr
  unfold inB at this
  simpa using this)
 obtain ⟨o, ho⟩ : ∃ z, objB rs L = z := ⟨_, rfl⟩
 have HO := lhid ho
 rw [ho]
 clear ho
 clear hz
 cases z
 ·clear HOK
  go_enter Try.func82, Try.ntmps82
  go_wp2_with fail
  with_reducible refine (argsFit_r rs L fa fb ret fd fe v false _ (lhid ((h.out.below (keptX_nu _) ((Below.refl _ _).alloc (Nat.le_refl _) _)).below (keptX_nu _) ((Below.refl _ _).alloc (Nat.le_refl _) _))) (lhid ((hv.out.below (keptX_nu _) ((Below.refl _ _).alloc (Nat.le_refl _) _)).below (keptX_nu _) ((Below.refl _ _).alloc (Nat.le_refl _) _))) HA).mono ?_
  rintro e w1 ⟨rfl, hb⟩
  have hF : FBox w1 w.heap.size fa fb ret fd fe := (hb.block w.heap.size (by simp; omega)).trans ((Below.heap_alloc _ _ _ (by simp)).trans (heap_alloc_new w _))
  have hX : XBox w1 (w.heap.size + 1) 25 d a b k n t r v := (hb.block (w.heap.size + 1) (by simp)).trans (by have := heap_alloc_new (w.alloc (.cells #[fa, fb, .int .i64 ret, fd, fe] 27 (0, 0))) (.cells #[.int .i64 25, .int .i64 d, .int .i64 a, .int .i64 b, .int .i64 k, .int .i64 n, .int .i64 t, .string (tx r), v] 29 (0, 0)); simpa using this)
  obtain ⟨p0, p1, p2, p3, p4⟩ := hF.cells
  obtain ⟨y0, y1, y2, y3, y4, y5, y6, y7, y8⟩ := hX.cells
  have hb1 := (((Below.refl w.heap.size w).alloc (Nat.le_refl _) _).alloc (by simp) _).trans (hb.mono (by simp; omega))
  have HB := lhid hb1
  have HR1 := lhid (h.out.below (keptX_nu _) hb1)
  have HV1 := lhid (hv.out.below (keptX_nu _) hb1)
  clear hb hF hX hb1
  go_wp2_with fail
  go_ret
  exact ⟨rfl, HB.out⟩
 ·replace HOK := HOK rfl
  go_enter Try.func82, Try.ntmps82
  go_wp2_with fail
  with_reducible refine (argsFit_r rs L fa fb ret fd fe v true _ (lhid ((h.out.below (keptX_nu _) ((Below.refl _ _).alloc (Nat.le_refl _) _)).below (keptX_nu _) ((Below.refl _ _).alloc (Nat.le_refl _) _))) (lhid ((hv.out.below (keptX_nu _) ((Below.refl _ _).alloc (Nat.le_refl _) _)).below (keptX_nu _) ((Below.refl _ _).alloc (Nat.le_refl _) _))) HA).mono ?_
  rintro e w1 ⟨rfl, hb⟩
  have hF : FBox w1 w.heap.size fa fb ret fd fe := (hb.block w.heap.size (by simp; omega)).trans ((Below.heap_alloc _ _ _ (by simp)).trans (heap_alloc_new w _))
  have hX : XBox w1 (w.heap.size + 1) 25 d a b k n t r v := (hb.block (w.heap.size + 1) (by simp)).trans (by have := heap_alloc_new (w.alloc (.cells #[fa, fb, .int .i64 ret, fd, fe] 27 (0, 0))) (.cells #[.int .i64 25, .int .i64 d, .int .i64 a, .int .i64 b, .int .i64 k, .int .i64 n, .int .i64 t, .string (tx r), v] 29 (0, 0)); simpa using this)
  obtain ⟨p0, p1, p2, p3, p4⟩ := hF.cells
  obtain ⟨y0, y1, y2, y3, y4, y5, y6, y7, y8⟩ := hX.cells
  have hb1 := (((Below.refl w.heap.size w).alloc (Nat.le_refl _) _).alloc (by simp) _).trans (hb.mono (by simp; omega))
  have HB := lhid hb1
  have HR1 := lhid (h.out.below (keptX_nu _) hb1)
  have HV1 := lhid (hv.out.below (keptX_nu _) hb1)
  clear hb hF hX hb1
  go_wp2_with fail
  with_reducible refine (hasObject_r rs L fa fb ret fd fe v o _ HR1 HV1 HOK HO).mono ?_
  rintro e w2 ⟨rfl, hb⟩
  have HB2 := lhid (HB.out.trans (hb.mono HB.out.size))
  clear hb
  go_wp2_with fail
  go_ret
  exact ⟨rfl, HB2.out⟩
set_option maxHeartbeats 2000000 in
set_option maxRecDepth 100000 in
theorem restFits_1 (rs : List Int) (fa fb : Value) (ret : Int) (fd fe : Value) (d a b k n t : Int) (r : Bs) (v : Value) (L : List Int) (w : World) (h : Hid (RdX P 1 NuE w fa rs)) (hv : Hid (RdX Q 1 NuE w v L)) (hn : Hid (I64 n)) (hr : Hid (r.length ≤ maxLen)) (od : Hid (d = -1 ∨ (0 ≤ d ∧ d < rs.length))) :
  Calls Try.prog 82 #[fuL fa fb ret fd fe, inL 1 d a b k n t r v] w fun e w' => e = .returned (.bool (kd rs d == 2 || decide (-2147483648 ≤ n) && decide (n < 2147483648))) ∧ Below w.heap.size w w' := by
 obtain ⟨kz, kze⟩ : ∃ z, kd rs d = z := ⟨_, rfl⟩
 have HKd := lhid kze
 rw [kze]
 clear kze
 have hn' := hn.out
 unfold I64 at hn'
 have hn3 := hn'
 by_cases q : kz = 2
 ·subst q
  go_enter Try.func82, Try.ntmps82
  go_wp2_with fail
  with_reducible refine (kindOf_r rs fa fb ret fd fe d 2 _ (lhid ((h.out.below (keptX_nu _) ((Below.refl _ _).alloc (Nat.le_refl _) _)).below (keptX_nu _) ((Below.refl _ _).alloc (Nat.le_refl _) _))) od.out HKd).mono ?_
  rintro e w1 ⟨rfl, hb⟩
  have hF : FBox w1 w.heap.size fa fb ret fd fe := (hb.block w.heap.size (by simp; omega)).trans ((Below.heap_alloc _ _ _ (by simp)).trans (heap_alloc_new w _))
  have hX : XBox w1 (w.heap.size + 1) 1 d a b k n t r v := (hb.block (w.heap.size + 1) (by simp)).trans (by have := heap_alloc_new (w.alloc (.cells #[fa, fb, .int .i64 ret, fd, fe] 27 (0, 0))) (.cells #[.int .i64 1, .int .i64 d, .int .i64 a, .int .i64 b, .int .i64 k, .int .i64 n, .int .i64 t, .string (tx r), v] 29 (0, 0)); simpa using this)
  obtain ⟨p0, p1, p2, p3, p4⟩ := hF.cells
  obtain ⟨y0, y1, y2, y3, y4, y5, y6, y7, y8⟩ := hX.cells
  have hb1 := (((Below.refl w.heap.size w).alloc (Nat.le_refl _) _).alloc (by simp) _).trans (hb.mono (by simp; omega))
  have HB := lhid hb1
  have HR1 := lhid (h.out.below (keptX_nu _) hb1)
  have HV1 := lhid (hv.out.below (keptX_nu _) hb1)
  clear hb hF hX hb1
  go_wp2_with fail
  go_ret
  exact ⟨rfl, HB.out⟩
 have q0 : (kz == 2) = false := by rw [beq_eq_false_iff_ne]; exact q
 rw [q0]
 by_cases q2 : -2147483648 ≤ n ∧ n < 2147483648
 ·have e1 : IntKind.i32.wrap n = n := by rw [IntKind.wrap_i32]; omega
  have e2 : IntKind.i64.wrap n = n := by rw [IntKind.wrap_i64]; omega
  have HD := lhid (show (decide (-2147483648 ≤ n) && decide (n < 2147483648)) = true by simp [q2.1, q2.2])
  clear q q2
  go_enter Try.func82, Try.ntmps82
  go_wp2_with fail
  with_reducible refine (kindOf_r rs fa fb ret fd fe d kz _ (lhid ((h.out.below (keptX_nu _) ((Below.refl _ _).alloc (Nat.le_refl _) _)).below (keptX_nu _) ((Below.refl _ _).alloc (Nat.le_refl _) _))) od.out HKd).mono ?_
  rintro e w1 ⟨rfl, hb⟩
  have hF : FBox w1 w.heap.size fa fb ret fd fe := (hb.block w.heap.size (by simp; omega)).trans ((Below.heap_alloc _ _ _ (by simp)).trans (heap_alloc_new w _))
  have hX : XBox w1 (w.heap.size + 1) 1 d a b k n t r v := (hb.block (w.heap.size + 1) (by simp)).trans (by have := heap_alloc_new (w.alloc (.cells #[fa, fb, .int .i64 ret, fd, fe] 27 (0, 0))) (.cells #[.int .i64 1, .int .i64 d, .int .i64 a, .int .i64 b, .int .i64 k, .int .i64 n, .int .i64 t, .string (tx r), v] 29 (0, 0)); simpa using this)
  obtain ⟨p0, p1, p2, p3, p4⟩ := hF.cells
  obtain ⟨y0, y1, y2, y3, y4, y5, y6, y7, y8⟩ := hX.cells
  have hb1 := (((Below.refl w.heap.size w).alloc (Nat.le_refl _) _).alloc (by simp) _).trans (hb.mono (by simp; omega))
  have HB := lhid hb1
  have HR1 := lhid (h.out.below (keptX_nu _) hb1)
  have HV1 := lhid (hv.out.below (keptX_nu _) hb1)
  clear hb hF hX hb1
  go_wp2_with fail
  go_ret
  exact ⟨by rw [HD.out]; rfl, HB.out⟩
 ·have e1 : (n == wrap64 (wrap32 n)) = false := by rw [beq_eq_false_iff_ne]; unfold wrap64 wrap32; omega
  have HD := lhid (show (decide (-2147483648 ≤ n) && decide (n < 2147483648)) = false by rw [Bool.and_eq_false_iff, decide_eq_false_iff_not, decide_eq_false_iff_not]; omega)
  clear q q2
  go_enter Try.func82, Try.ntmps82
  go_wp2_with fail
  with_reducible refine (kindOf_r rs fa fb ret fd fe d kz _ (lhid ((h.out.below (keptX_nu _) ((Below.refl _ _).alloc (Nat.le_refl _) _)).below (keptX_nu _) ((Below.refl _ _).alloc (Nat.le_refl _) _))) od.out HKd).mono ?_
  rintro e w1 ⟨rfl, hb⟩
  have hF : FBox w1 w.heap.size fa fb ret fd fe := (hb.block w.heap.size (by simp; omega)).trans ((Below.heap_alloc _ _ _ (by simp)).trans (heap_alloc_new w _))
  have hX : XBox w1 (w.heap.size + 1) 1 d a b k n t r v := (hb.block (w.heap.size + 1) (by simp)).trans (by have := heap_alloc_new (w.alloc (.cells #[fa, fb, .int .i64 ret, fd, fe] 27 (0, 0))) (.cells #[.int .i64 1, .int .i64 d, .int .i64 a, .int .i64 b, .int .i64 k, .int .i64 n, .int .i64 t, .string (tx r), v] 29 (0, 0)); simpa using this)
  obtain ⟨p0, p1, p2, p3, p4⟩ := hF.cells
  obtain ⟨y0, y1, y2, y3, y4, y5, y6, y7, y8⟩ := hX.cells
  have hb1 := (((Below.refl w.heap.size w).alloc (Nat.le_refl _) _).alloc (by simp) _).trans (hb.mono (by simp; omega))
  have HB := lhid hb1
  have HR1 := lhid (h.out.below (keptX_nu _) hb1)
  have HV1 := lhid (hv.out.below (keptX_nu _) hb1)
  clear hb hF hX hb1
  go_wp2_with fail
  go_ret
  exact ⟨by rw [HD.out]; rfl, HB.out⟩
set_option maxHeartbeats 2000000 in
set_option maxRecDepth 100000 in
theorem restFits_o (rs : List Int) (fa fb : Value) (ret : Int) (fd fe : Value) (d a b k n t : Int) (r : Bs) (v : Value) (L : List Int) (w : World) (h : Hid (RdX P 1 NuE w fa rs)) (hv : Hid (RdX Q 1 NuE w v L)) (hn : Hid (I64 n)) (hr : Hid (r.length ≤ maxLen)) (c : Int) (hc : c = 2 ∨ c = 3 ∨ c = 7 ∨ c = 8 ∨ c = 9 ∨ c = 10 ∨ c = 11 ∨ c = 13 ∨ c = 14 ∨ c = 15 ∨ c = 18 ∨ c = 19 ∨ c = 20 ∨ c = 27 ∨ c = 31 ∨ c = 32 ∨ c = 33) :
  Calls Try.prog 82 #[fuL fa fb ret fd fe, inL c d a b k n t r v] w fun e w' => e = .returned (.bool true) ∧ Below w.heap.size w w' := by
 rcases hc with rfl | rfl | rfl | rfl | rfl | rfl | rfl | rfl | rfl | rfl | rfl | rfl | rfl | rfl | rfl | rfl | rfl
 all_goals
  go_enter Try.func82, Try.ntmps82
  go_wp2
  go_ret
  exact ⟨rfl, ((Below.refl w.heap.size w).alloc (Nat.le_refl _) _).alloc (by simp) _⟩
end
end Go.Proofs.Ytbkeneadoccodaa
