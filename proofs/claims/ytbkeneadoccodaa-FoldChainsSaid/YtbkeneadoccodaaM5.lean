/- Texts of this claim, joined: CInsChk1, CInsChk2. -/
import Derived.Test.YtbkeneadoccodaaM4
import Derived.Test.YtbkeneadoccodaaM3
import Derived.BigQuiet
/- Contracts of the small words of Check. -/
namespace Go.Proofs.Ytbkeneadoccodaa
open Go.RowKit Go
set_option linter.unusedVariables false
set_option linter.unusedSimpArgs false
abbrev fuL (a b : Value) (ret : Int) (d e : Value) : Value := .agg #[a, b, .int .i64 ret, d, e]
set_option maxRecDepth 100000 in
theorem isAt_any (i n : Int) (w : World) : Calls Try.prog 79 #[.int .i64 i, .int .i64 n] w fun e w' => e = .returned (.bool (decide (0 ≤ i) && decide (i < n))) ∧ w = w' := by
 by_cases h1 : 0 ≤ i <;> by_cases h2 : i < n
 all_goals
  go_enter Try.func79, Try.ntmps79
  go_wp2
  go_ret
  exact ⟨ret_bool (by simp [h1, h2]), rfl⟩
theorem isAt_r (i n : Int) (r : Bool) (w : World) (h : Hid ((decide (0 ≤ i) && decide (i < n)) = r)) : Calls Try.prog 79 #[.int .i64 i, .int .i64 n] w fun e w' => e = .returned (.bool r) ∧ w = w' := by
 have := isAt_any i n w
 rwa [h.out] at this
set_option maxRecDepth 100000 in
theorem isKind_any (k : Int) (w : World) : Calls Try.prog 78 #[.int .i64 k] w fun e w' => e = .returned (.bool (isKindB k)) ∧ w = w' := by
 unfold isKindB
 by_cases h1 : 1 ≤ k <;> by_cases h2 : k ≤ 3
 all_goals try (exfalso; omega)
 all_goals
  go_enter Try.func78, Try.ntmps78
  go_wp2
  go_ret
  exact ⟨ret_bool (by simp [h1, h2]), rfl⟩
theorem isKind_r (k : Int) (r : Bool) (w : World) (h : Hid (isKindB k = r)) : Calls Try.prog 78 #[.int .i64 k] w fun e w' => e = .returned (.bool r) ∧ w = w' := by
 have := isKind_any k w
 rwa [h.out] at this
set_option maxHeartbeats 1000000 in
set_option maxRecDepth 100000 in
theorem kindOf_any {P : Nat → Prop} (rs : List Int) (a b : Value) (ret : Int) (d e : Value) (r : Int) (w : World) (h : Hid (RdX P 1 NuE w a rs)) (hr : r = -1 ∨ (0 ≤ r ∧ r < rs.length)) :
  Calls Try.prog 110 #[fuL a b ret d e, .int .i64 r] w fun e w' => e = .returned (.int .i64 (kd rs r)) ∧ Below w.heap.size w w' := by
 rcases hr with rfl | ⟨h0, h1⟩
 ·go_enter Try.func110, Try.ntmps110
  go_wp2
  go_ret
  exact ⟨rfl, (Below.refl w.heap.size w).alloc (Nat.le_refl _) _⟩
 ·obtain ⟨k, h2, h3⟩ := kd_in h0 h1
  have H3 := lhid h3
  obtain ⟨A, cap, rfl⟩ := h.out.shape
  obtain ⟨g, o, cc, rfl, _, hE, hc⟩ := h.out.at' h2
  obtain ⟨n, rfl⟩ : ∃ n : Nat, r = n := ⟨r.toNat, by omega⟩
  have c0 : w.cell? ⟨g, o + n, none⟩ = some (.int .i64 k) := by
   have := hc 0 (.int .i64 k) (by rw [hE]; rfl)
   simpa using this
  have hg : g < w.heap.size := cell_lt c0
  have hg2 : ¬ g = w.heap.size := by omega
  have n1 : ((n : Int) == -1) = false := by rw [beq_eq_false_iff_ne]; omega
  clear h2 h3 hE hc
  go_enter Try.func110, Try.ntmps110
  go_wp2
  go_ret
  exact ⟨by rw [H3.out]; rfl, (Below.refl w.heap.size w).alloc (Nat.le_refl _) _⟩
theorem kindOf_r {P : Nat → Prop} (rs : List Int) (a b : Value) (ret : Int) (d e : Value) (r k : Int) (w : World) (h : Hid (RdX P 1 NuE w a rs)) (hr : r = -1 ∨ (0 ≤ r ∧ r < rs.length)) (hk : Hid (kd rs r = k)) :
  Calls Try.prog 110 #[fuL a b ret d e, .int .i64 r] w fun e w' => e = .returned (.int .i64 k) ∧ Below w.heap.size w w' := by
 have := kindOf_any rs a b ret d e r w h hr
 rwa [hk.out] at this
theorem has_r (f k : Int) (r : Bool) (w : World) (hf : Hid (f ∈ setsL)) (hk : Hid (k = 0 ∨ k = 1 ∨ k = 2 ∨ k = 3)) (hr : Hid (hasB f k = r)) :
  Calls Try.prog 103 #[.int .u64 f, .int .i64 k] w fun e w' => e = .returned (.bool r) ∧ w = w' := by
 have := has_any f k hf.out hk.out w
 rwa [hr.out] at this
set_option maxHeartbeats 1000000 in
set_option maxRecDepth 100000 in
theorem mayBe_any {P : Nat → Prop} (rs : List Int) (a b : Value) (ret : Int) (d e : Value) (r f : Int) (w : World) (h : Hid (RdX P 1 NuE w a rs)) (hk : Hid (KR rs)) (hf : Hid (f ∈ setsL)) :
  Calls Try.prog 109 #[fuL a b ret d e, .int .i64 r, .int .u64 f] w fun e w' => e = .returned (.bool (mayB rs r f)) ∧ Below w.heap.size w w' := by
 by_cases hz : f = 0
 ·subst hz
  have HM := lhid (show mayB rs r 0 = true from rfl)
  go_enter Try.func109, Try.ntmps109
  go_wp2
  go_ret
  exact ⟨by rw [HM.out]; rfl, (Below.refl w.heap.size w).alloc (Nat.le_refl _) _⟩
 have z0 : (f == 0) = false := by rw [beq_eq_false_iff_ne]; exact hz
 by_cases hr : r = -1
 ·subst hr
  obtain ⟨z, hm⟩ : ∃ z, hasB f 0 = z := ⟨_, rfl⟩
  have HZ := lhid hm
  have HM := lhid (show mayB rs (-1) f = z by unfold mayB; rw [z0]; simp [hm])
  clear hm hz
  go_enter Try.func109, Try.ntmps109
  go_wp2_with fail
  with_reducible refine (has_r f 0 z _ hf (lhid (.inl rfl)) HZ).mono ?_
  rintro e w1 ⟨rfl, rfl⟩
  go_wp2_with fail
  go_ret
  exact ⟨by rw [HM.out]; rfl, (Below.refl w.heap.size w).alloc (Nat.le_refl _) _⟩
 have r0 : (r == -1) = false := by rw [beq_eq_false_iff_ne]; exact hr
 obtain ⟨A, cap, rfl⟩ := h.out.shape
 by_cases hin : 0 ≤ r ∧ r < rs.length
 ·obtain ⟨k, h2, h3⟩ := kd_in hin.1 hin.2
  have hkk := kd_kr hk.out hin.1 hin.2
  rw [h3] at hkk
  have HKK := lhid (show k = 0 ∨ k = 1 ∨ k = 2 ∨ k = 3 from .inr hkk)
  obtain ⟨z, hm⟩ : ∃ z, hasB f k = z := ⟨_, rfl⟩
  have HZ := lhid hm
  have HM := lhid (show mayB rs r f = z by unfold mayB; rw [z0, if_neg hr, h3, hm]; simp [hin.1, hin.2])
  obtain ⟨g, o, cc, rfl, _, hE, hc⟩ := h.out.at' h2
  obtain ⟨n, rfl⟩ : ∃ n : Nat, r = n := ⟨r.toNat, by omega⟩
  have c0 : w.cell? ⟨g, o + n, none⟩ = some (.int .i64 k) := by
   have := hc 0 (.int .i64 k) (by rw [hE]; rfl)
   simpa using this
  have hg : g < w.heap.size := cell_lt c0
  have hg2 : ¬ g = w.heap.size := by omega
  have HA := lhid (show (decide ((0 : Int) ≤ n) && decide ((n : Int) < rs.length)) = true by simp [hin.1, hin.2])
  have n1 : (n : Int) < rs.length := hin.2
  clear h2 h3 hE hc hin hkk hm hz hr
  go_enter Try.func109, Try.ntmps109
  go_wp2_with fail
  with_reducible refine (isAt_r _ _ true _ HA).mono ?_
  rintro e w1 ⟨rfl, rfl⟩
  go_wp2_with fail
  with_reducible refine (has_r f k z _ hf HKK HZ).mono ?_
  rintro e w1 ⟨rfl, rfl⟩
  go_wp2_with fail
  go_ret
  exact ⟨by rw [HM.out]; rfl, (Below.refl w.heap.size w).alloc (Nat.le_refl _) _⟩
 ·have HA := lhid (show (decide ((0 : Int) ≤ r) && decide (r < rs.length)) = false by rw [Bool.and_eq_false_iff, decide_eq_false_iff_not, decide_eq_false_iff_not]; omega)
  have HM := lhid (show mayB rs r f = false by unfold mayB; rw [z0, if_neg hr, HA.out]; rfl)
  clear hin hr hz
  go_enter Try.func109, Try.ntmps109
  go_wp2_with fail
  with_reducible refine (isAt_r _ _ false _ HA).mono ?_
  rintro e w1 ⟨rfl, rfl⟩
  go_wp2_with fail
  go_ret
  exact ⟨by rw [HM.out]; rfl, (Below.refl w.heap.size w).alloc (Nat.le_refl _) _⟩
theorem mayBe_r {P : Nat → Prop} (rs : List Int) (a b : Value) (ret : Int) (d e : Value) (r f : Int) (z : Bool) (w : World) (h : Hid (RdX P 1 NuE w a rs)) (hk : Hid (KR rs)) (hf : Hid (f ∈ setsL)) (hz : Hid (mayB rs r f = z)) :
  Calls Try.prog 109 #[fuL a b ret d e, .int .i64 r, .int .u64 f] w fun e w' => e = .returned (.bool z) ∧ Below w.heap.size w w' := by
 have := mayBe_any rs a b ret d e r f w h hk hf
 rwa [hz.out] at this
end Go.Proofs.Ytbkeneadoccodaa
/- Contracts of kindsFit, computes, argsFit, hasObject, slices.Contains. -/
namespace Go.Proofs.Ytbkeneadoccodaa
open Go.RowKit Go
set_option linter.unusedVariables false
set_option linter.unusedSimpArgs false
def FBox (w : World) (g : Nat) (a b : Value) (ret : Int) (d e : Value) : Prop := w.heap[g]? = some (.cells #[a, b, .int .i64 ret, d, e] 27 (0, 0))
def XBox (w : World) (g : Nat) (c d a b k n t : Int) (r : Bs) (v : Value) : Prop := w.heap[g]? = some (.cells #[.int .i64 c, .int .i64 d, .int .i64 a, .int .i64 b, .int .i64 k, .int .i64 n, .int .i64 t, .string (tx r), v] 29 (0, 0))
theorem FBox.cells {w : World} {g : Nat} {a b : Value} {ret : Int} {d e : Value} (h : FBox w g a b ret d e) : w.cell? ⟨g, 0, none⟩ = some a ∧ w.cell? ⟨g, 1, none⟩ = some b ∧ w.cell? ⟨g, 2, none⟩ = some (.int .i64 ret) ∧ w.cell? ⟨g, 3, none⟩ = some d ∧ w.cell? ⟨g, 4, none⟩ = some e :=
 ⟨heap_cell h rfl, heap_cell h rfl, heap_cell h rfl, heap_cell h rfl, heap_cell h rfl⟩
theorem XBox.cells {w : World} {g : Nat} {c d a b k n t : Int} {r : Bs} {v : Value} (h : XBox w g c d a b k n t r v) : w.cell? ⟨g, 0, none⟩ = some (.int .i64 c) ∧ w.cell? ⟨g, 1, none⟩ = some (.int .i64 d) ∧ w.cell? ⟨g, 2, none⟩ = some (.int .i64 a) ∧ w.cell? ⟨g, 3, none⟩ = some (.int .i64 b) ∧ w.cell? ⟨g, 4, none⟩ = some (.int .i64 k) ∧ w.cell? ⟨g, 5, none⟩ = some (.int .i64 n) ∧ w.cell? ⟨g, 6, none⟩ = some (.int .i64 t) ∧ w.cell? ⟨g, 7, none⟩ = some (.string (tx r)) ∧ w.cell? ⟨g, 8, none⟩ = some v :=
 ⟨heap_cell h rfl, heap_cell h rfl, heap_cell h rfl, heap_cell h rfl, heap_cell h rfl, heap_cell h rfl, heap_cell h rfl, heap_cell h rfl, heap_cell h rfl⟩
theorem heap_keep {w w' : World} {g : Nat} {o : Obj} (h : w.heap[g]? = some o) (hb : Below w.heap.size w w') : w'.heap[g]? = some o := (hb.block g (heap_lt h)).trans h
set_option maxHeartbeats 1000000 in
set_option maxRecDepth 100000 in
theorem kindsFit_z {P : Nat → Prop} (rs : List Int) (fa fb : Value) (ret : Int) (fd fe : Value) (c d a b k n t : Int) (r : Bs) (v : Value) (z : Bool) (z1 z2 z3 z4 : Bool) (w : World) (h : Hid (RdX P 1 NuE w fa rs)) (hk : Hid (KR rs)) (f0 f1 f2 f3 : Int)
  (HF : ∀ w, Hid (Calls Try.prog 98 #[.int .i64 c] w fun e w' => e = .returned (.agg #[.int .u64 f0, .int .u64 f1, .int .u64 f2, .int .u64 f3]) ∧ Below w.heap.size w w'))
  (hs : Hid (f0 ∈ setsL ∧ f1 ∈ setsL ∧ f2 ∈ setsL ∧ f3 ∈ setsL)) (g1 : Hid (mayB rs d f0 = z1)) (g2 : Hid (mayB rs a f1 = z2)) (g3 : Hid (mayB rs b f2 = z3)) (g4 : Hid (mayB rs k f3 = z4)) :
  Calls Try.prog 81 #[fuL fa fb ret fd fe, inL c d a b k n t r v] w fun e w' => e = .returned (.bool (z1 && z2 && z3 && z4)) ∧ Below w.heap.size w w' := by
 have S0 := lhid hs.out.1
 have S1 := lhid hs.out.2.1
 have S2 := lhid hs.out.2.2.1
 have S3 := lhid hs.out.2.2.2
 have hways : z1 = false ∨ (z1 = true ∧ z2 = false) ∨ (z1 = true ∧ z2 = true ∧ z3 = false) ∨ (z1 = true ∧ z2 = true ∧ z3 = true) := by
  cases z1 <;> cases z2 <;> cases z3 <;> simp
 rcases hways with rfl | ⟨rfl, rfl⟩ | ⟨rfl, rfl, rfl⟩ | ⟨rfl, rfl, rfl⟩
 ·
  go_enter Try.func81, Try.ntmps81
  go_wp2_with fail
  with_reducible refine (HF _).out.mono ?_
  rintro e w1 ⟨rfl, hb⟩
  have hF0 : FBox w1 w.heap.size fa fb ret fd fe := (hb.block w.heap.size (by simp; omega)).trans ((Below.heap_alloc _ _ _ (by simp)).trans (heap_alloc_new w _))
  have hX0 : XBox w1 (w.heap.size + 1) c d a b k n t r v := (hb.block (w.heap.size + 1) (by simp)).trans (by have := heap_alloc_new (w.alloc (.cells #[fa, fb, .int .i64 ret, fd, fe] 27 (0, 0))) (.cells #[.int .i64 c, .int .i64 d, .int .i64 a, .int .i64 b, .int .i64 k, .int .i64 n, .int .i64 t, .string (tx r), v] 29 (0, 0)); simpa using this)
  have hb1 := (((Below.refl w.heap.size w).alloc (Nat.le_refl _) _).alloc (by simp) _).trans (hb.mono (by simp; omega))
  have hs1 : w.heap.size + 2 ≤ w1.heap.size := by have := hb.size; simpa using this
  obtain ⟨p0, p1, p2, p3, p4⟩ := hF0.cells
  obtain ⟨y0, y1, y2, y3, y4, _, _, _, _⟩ := hX0.cells
  have m1 : ¬ w.heap.size = w1.heap.size := by omega
  have m2 : ¬ w.heap.size + 1 = w1.heap.size := by omega
  have l1 : w.heap.size < w1.heap.size := by omega
  have l2 : w.heap.size + 1 < w1.heap.size := by omega
  have HF1 := lhid hF0
  have HX1 := lhid hX0
  have HB1 := lhid hb1
  have HR1 : Hid (RdX P 1 NuE (w1.alloc (.cells #[.int .u64 f0, .int .u64 f1, .int .u64 f2, .int .u64 f3] 144 (0, 0))) fa rs) := lhid ((h.out.below (keptX_nu _) hb1).below (keptX_nu _) ((Below.refl _ _).alloc (Nat.le_refl _) _))
  clear hb hF0 hX0 hb1
  go_wp2_with fail
  with_reducible refine (mayBe_r rs fa fb ret fd fe _ _ false _ HR1 hk S0 g1).mono ?_
  rintro e w2 ⟨rfl, hb⟩
  have HB2 := lhid ((HB1.out.alloc HB1.out.size _).trans (hb.mono (by simp; omega)))
  have hF0 : FBox w2 w.heap.size fa fb ret fd fe := heap_keep ((Below.heap_alloc _ _ _ l1).trans HF1.out) hb
  have hX0 : XBox w2 (w.heap.size + 1) c d a b k n t r v := heap_keep ((Below.heap_alloc _ _ _ l2).trans HX1.out) hb
  have hD0 : w2.heap[w1.heap.size]? = some (.cells #[.int .u64 f0, .int .u64 f1, .int .u64 f2, .int .u64 f3] 144 (0, 0)) := heap_keep (heap_alloc_new w1 _) hb
  have HR2 := lhid (HR1.out.below (keptX_nu _) hb)
  obtain ⟨p0, p1, p2, p3, p4⟩ := hF0.cells
  obtain ⟨y0, y1, y2, y3, y4, _, _, _, _⟩ := hX0.cells
  have d0 := heap_cell hD0 (i := 0) rfl
  have d1 := heap_cell hD0 (i := 1) rfl
  have d2 := heap_cell hD0 (i := 2) rfl
  have d3 := heap_cell hD0 (i := 3) rfl
  have HF2 := lhid hF0
  have HX2 := lhid hX0
  have HD2 := lhid hD0
  clear hb hF0 hX0 hD0
  go_wp2_with fail
  go_ret
  exact ⟨rfl, HB2.out⟩
 ·
  go_enter Try.func81, Try.ntmps81
  go_wp2_with fail
  with_reducible refine (HF _).out.mono ?_
  rintro e w1 ⟨rfl, hb⟩
  have hF0 : FBox w1 w.heap.size fa fb ret fd fe := (hb.block w.heap.size (by simp; omega)).trans ((Below.heap_alloc _ _ _ (by simp)).trans (heap_alloc_new w _))
  have hX0 : XBox w1 (w.heap.size + 1) c d a b k n t r v := (hb.block (w.heap.size + 1) (by simp)).trans (by have := heap_alloc_new (w.alloc (.cells #[fa, fb, .int .i64 ret, fd, fe] 27 (0, 0))) (.cells #[.int .i64 c, .int .i64 d, .int .i64 a, .int .i64 b, .int .i64 k, .int .i64 n, .int .i64 t, .string (tx r), v] 29 (0, 0)); simpa using this)
  have hb1 := (((Below.refl w.heap.size w).alloc (Nat.le_refl _) _).alloc (by simp) _).trans (hb.mono (by simp; omega))
  have hs1 : w.heap.size + 2 ≤ w1.heap.size := by have := hb.size; simpa using this
  obtain ⟨p0, p1, p2, p3, p4⟩ := hF0.cells
  obtain ⟨y0, y1, y2, y3, y4, _, _, _, _⟩ := hX0.cells
  have m1 : ¬ w.heap.size = w1.heap.size := by omega
  have m2 : ¬ w.heap.size + 1 = w1.heap.size := by omega
  have l1 : w.heap.size < w1.heap.size := by omega
  have l2 : w.heap.size + 1 < w1.heap.size := by omega
  have HF1 := lhid hF0
  have HX1 := lhid hX0
  have HB1 := lhid hb1
  have HR1 : Hid (RdX P 1 NuE (w1.alloc (.cells #[.int .u64 f0, .int .u64 f1, .int .u64 f2, .int .u64 f3] 144 (0, 0))) fa rs) := lhid ((h.out.below (keptX_nu _) hb1).below (keptX_nu _) ((Below.refl _ _).alloc (Nat.le_refl _) _))
  clear hb hF0 hX0 hb1
  go_wp2_with fail
  with_reducible refine (mayBe_r rs fa fb ret fd fe _ _ true _ HR1 hk S0 g1).mono ?_
  rintro e w2 ⟨rfl, hb⟩
  have HB2 := lhid ((HB1.out.alloc HB1.out.size _).trans (hb.mono (by simp; omega)))
  have hF0 : FBox w2 w.heap.size fa fb ret fd fe := heap_keep ((Below.heap_alloc _ _ _ l1).trans HF1.out) hb
  have hX0 : XBox w2 (w.heap.size + 1) c d a b k n t r v := heap_keep ((Below.heap_alloc _ _ _ l2).trans HX1.out) hb
  have hD0 : w2.heap[w1.heap.size]? = some (.cells #[.int .u64 f0, .int .u64 f1, .int .u64 f2, .int .u64 f3] 144 (0, 0)) := heap_keep (heap_alloc_new w1 _) hb
  have HR2 := lhid (HR1.out.below (keptX_nu _) hb)
  obtain ⟨p0, p1, p2, p3, p4⟩ := hF0.cells
  obtain ⟨y0, y1, y2, y3, y4, _, _, _, _⟩ := hX0.cells
  have d0 := heap_cell hD0 (i := 0) rfl
  have d1 := heap_cell hD0 (i := 1) rfl
  have d2 := heap_cell hD0 (i := 2) rfl
  have d3 := heap_cell hD0 (i := 3) rfl
  have HF2 := lhid hF0
  have HX2 := lhid hX0
  have HD2 := lhid hD0
  clear hb hF0 hX0 hD0
  go_wp2_with fail
  with_reducible refine (mayBe_r rs fa fb ret fd fe _ _ false _ HR2 hk S1 g2).mono ?_
  rintro e w3 ⟨rfl, hb⟩
  have HB3 := lhid (HB2.out.trans (hb.mono HB2.out.size))
  have hF0 : FBox w3 w.heap.size fa fb ret fd fe := heap_keep HF2.out hb
  have hX0 : XBox w3 (w.heap.size + 1) c d a b k n t r v := heap_keep HX2.out hb
  have hD0 : w3.heap[w1.heap.size]? = some (.cells #[.int .u64 f0, .int .u64 f1, .int .u64 f2, .int .u64 f3] 144 (0, 0)) := heap_keep HD2.out hb
  have HR3 := lhid (HR2.out.below (keptX_nu _) hb)
  obtain ⟨p0, p1, p2, p3, p4⟩ := hF0.cells
  obtain ⟨y0, y1, y2, y3, y4, _, _, _, _⟩ := hX0.cells
  have d0 := heap_cell hD0 (i := 0) rfl
  have d1 := heap_cell hD0 (i := 1) rfl
  have d2 := heap_cell hD0 (i := 2) rfl
  have d3 := heap_cell hD0 (i := 3) rfl
  have HF3 := lhid hF0
  have HX3 := lhid hX0
  have HD3 := lhid hD0
  clear hb hF0 hX0 hD0
  go_wp2_with fail
  go_ret
  exact ⟨rfl, HB3.out⟩
 ·
  go_enter Try.func81, Try.ntmps81
  go_wp2_with fail
  with_reducible refine (HF _).out.mono ?_
  rintro e w1 ⟨rfl, hb⟩
  have hF0 : FBox w1 w.heap.size fa fb ret fd fe := (hb.block w.heap.size (by simp; omega)).trans ((Below.heap_alloc _ _ _ (by simp)).trans (heap_alloc_new w _))
  have hX0 : XBox w1 (w.heap.size + 1) c d a b k n t r v := (hb.block (w.heap.size + 1) (by simp)).trans (by have := heap_alloc_new (w.alloc (.cells #[fa, fb, .int .i64 ret, fd, fe] 27 (0, 0))) (.cells #[.int .i64 c, .int .i64 d, .int .i64 a, .int .i64 b, .int .i64 k, .int .i64 n, .int .i64 t, .string (tx r), v] 29 (0, 0)); simpa using this)
  have hb1 := (((Below.refl w.heap.size w).alloc (Nat.le_refl _) _).alloc (by simp) _).trans (hb.mono (by simp; omega))
  have hs1 : w.heap.size + 2 ≤ w1.heap.size := by have := hb.size; simpa using this
  obtain ⟨p0, p1, p2, p3, p4⟩ := hF0.cells
  obtain ⟨y0, y1, y2, y3, y4, _, _, _, _⟩ := hX0.cells
  have m1 : ¬ w.heap.size = w1.heap.size := by omega
  have m2 : ¬ w.heap.size + 1 = w1.heap.size := by omega
  have l1 : w.heap.size < w1.heap.size := by omega
  have l2 : w.heap.size + 1 < w1.heap.size := by omega
  have HF1 := lhid hF0
  have HX1 := lhid hX0
  have HB1 := lhid hb1
  have HR1 : Hid (RdX P 1 NuE (w1.alloc (.cells #[.int .u64 f0, .int .u64 f1, .int .u64 f2, .int .u64 f3] 144 (0, 0))) fa rs) := lhid ((h.out.below (keptX_nu _) hb1).below (keptX_nu _) ((Below.refl _ _).alloc (Nat.le_refl _) _))
  clear hb hF0 hX0 hb1
  go_wp2_with fail
  with_reducible refine (mayBe_r rs fa fb ret fd fe _ _ true _ HR1 hk S0 g1).mono ?_
  rintro e w2 ⟨rfl, hb⟩
  have HB2 := lhid ((HB1.out.alloc HB1.out.size _).trans (hb.mono (by simp; omega)))
  have hF0 : FBox w2 w.heap.size fa fb ret fd fe := heap_keep ((Below.heap_alloc _ _ _ l1).trans HF1.out) hb
  have hX0 : XBox w2 (w.heap.size + 1) c d a b k n t r v := heap_keep ((Below.heap_alloc _ _ _ l2).trans HX1.out) hb
  have hD0 : w2.heap[w1.heap.size]? = some (.cells #[.int .u64 f0, .int .u64 f1, .int .u64 f2, .int .u64 f3] 144 (0, 0)) := heap_keep (heap_alloc_new w1 _) hb
  have HR2 := lhid (HR1.out.below (keptX_nu _) hb)
  obtain ⟨p0, p1, p2, p3, p4⟩ := hF0.cells
  obtain ⟨y0, y1, y2, y3, y4, _, _, _, _⟩ := hX0.cells
  have d0 := heap_cell hD0 (i := 0) rfl
  have d1 := heap_cell hD0 (i := 1) rfl
  have d2 := heap_cell hD0 (i := 2) rfl
  have d3 := heap_cell hD0 (i := 3) rfl
  have HF2 := lhid hF0
  have HX2 := lhid hX0
  have HD2 := lhid hD0
  clear hb hF0 hX0 hD0
  go_wp2_with fail
  with_reducible refine (mayBe_r rs fa fb ret fd fe _ _ true _ HR2 hk S1 g2).mono ?_
  rintro e w3 ⟨rfl, hb⟩
  have HB3 := lhid (HB2.out.trans (hb.mono HB2.out.size))
  have hF0 : FBox w3 w.heap.size fa fb ret fd fe := heap_keep HF2.out hb
  have hX0 : XBox w3 (w.heap.size + 1) c d a b k n t r v := heap_keep HX2.out hb
  have hD0 : w3.heap[w1.heap.size]? = some (.cells #[.int .u64 f0, .int .u64 f1, .int .u64 f2, .int .u64 f3] 144 (0, 0)) := heap_keep HD2.out hb
  have HR3 := lhid (HR2.out.below (keptX_nu _) hb)
  obtain ⟨p0, p1, p2, p3, p4⟩ := hF0.cells
  obtain ⟨y0, y1, y2, y3, y4, _, _, _, _⟩ := hX0.cells
  have d0 := heap_cell hD0 (i := 0) rfl
  have d1 := heap_cell hD0 (i := 1) rfl
  have d2 := heap_cell hD0 (i := 2) rfl
  have d3 := heap_cell hD0 (i := 3) rfl
  have HF3 := lhid hF0
  have HX3 := lhid hX0
  have HD3 := lhid hD0
  clear hb hF0 hX0 hD0
  go_wp2_with fail
  with_reducible refine (mayBe_r rs fa fb ret fd fe _ _ false _ HR3 hk S2 g3).mono ?_
  rintro e w4 ⟨rfl, hb⟩
  have HB4 := lhid (HB3.out.trans (hb.mono HB3.out.size))
  have hF0 : FBox w4 w.heap.size fa fb ret fd fe := heap_keep HF3.out hb
  have hX0 : XBox w4 (w.heap.size + 1) c d a b k n t r v := heap_keep HX3.out hb
  have hD0 : w4.heap[w1.heap.size]? = some (.cells #[.int .u64 f0, .int .u64 f1, .int .u64 f2, .int .u64 f3] 144 (0, 0)) := heap_keep HD3.out hb
  have HR4 := lhid (HR3.out.below (keptX_nu _) hb)
  obtain ⟨p0, p1, p2, p3, p4⟩ := hF0.cells
  obtain ⟨y0, y1, y2, y3, y4, _, _, _, _⟩ := hX0.cells
  have d0 := heap_cell hD0 (i := 0) rfl
  have d1 := heap_cell hD0 (i := 1) rfl
  have d2 := heap_cell hD0 (i := 2) rfl
  have d3 := heap_cell hD0 (i := 3) rfl
  have HF4 := lhid hF0
  have HX4 := lhid hX0
  have HD4 := lhid hD0
  clear hb hF0 hX0 hD0
  go_wp2_with fail
  go_ret
  exact ⟨rfl, HB4.out⟩
 ·
  go_enter Try.func81, Try.ntmps81
  go_wp2_with fail
  with_reducible refine (HF _).out.mono ?_
  rintro e w1 ⟨rfl, hb⟩
  have hF0 : FBox w1 w.heap.size fa fb ret fd fe := (hb.block w.heap.size (by simp; omega)).trans ((Below.heap_alloc _ _ _ (by simp)).trans (heap_alloc_new w _))
  have hX0 : XBox w1 (w.heap.size + 1) c d a b k n t r v := (hb.block (w.heap.size + 1) (by simp)).trans (by have := heap_alloc_new (w.alloc (.cells #[fa, fb, .int .i64 ret, fd, fe] 27 (0, 0))) (.cells #[.int .i64 c, .int .i64 d, .int .i64 a, .int .i64 b, .int .i64 k, .int .i64 n, .int .i64 t, .string (tx r), v] 29 (0, 0)); simpa using this)
  have hb1 := (((Below.refl w.heap.size w).alloc (Nat.le_refl _) _).alloc (by simp) _).trans (hb.mono (by simp; omega))
  have hs1 : w.heap.size + 2 ≤ w1.heap.size := by have := hb.size; simpa using this
  obtain ⟨p0, p1, p2, p3, p4⟩ := hF0.cells
  obtain ⟨y0, y1, y2, y3, y4, _, _, _, _⟩ := hX0.cells
  have m1 : ¬ w.heap.size = w1.heap.size := by omega
  have m2 : ¬ w.heap.size + 1 = w1.heap.size := by omega
  have l1 : w.heap.size < w1.heap.size := by omega
  have l2 : w.heap.size + 1 < w1.heap.size := by omega
  have HF1 := lhid hF0
  have HX1 := lhid hX0
  have HB1 := lhid hb1
  have HR1 : Hid (RdX P 1 NuE (w1.alloc (.cells #[.int .u64 f0, .int .u64 f1, .int .u64 f2, .int .u64 f3] 144 (0, 0))) fa rs) := lhid ((h.out.below (keptX_nu _) hb1).below (keptX_nu _) ((Below.refl _ _).alloc (Nat.le_refl _) _))
  clear hb hF0 hX0 hb1
  go_wp2_with fail
  with_reducible refine (mayBe_r rs fa fb ret fd fe _ _ true _ HR1 hk S0 g1).mono ?_
  rintro e w2 ⟨rfl, hb⟩
  have HB2 := lhid ((HB1.out.alloc HB1.out.size _).trans (hb.mono (by simp; omega)))
  have hF0 : FBox w2 w.heap.size fa fb ret fd fe := heap_keep ((Below.heap_alloc _ _ _ l1).trans HF1.out) hb
  have hX0 : XBox w2 (w.heap.size + 1) c d a b k n t r v := heap_keep ((Below.heap_alloc _ _ _ l2).trans HX1.out) hb
  have hD0 : w2.heap[w1.heap.size]? = some (.cells #[.int .u64 f0, .int .u64 f1, .int .u64 f2, .int .u64 f3] 144 (0, 0)) := heap_keep (heap_alloc_new w1 _) hb
  have HR2 := lhid (HR1.out.below (keptX_nu _) hb)
  obtain ⟨p0, p1, p2, p3, p4⟩ := hF0.cells
  obtain ⟨y0, y1, y2, y3, y4, _, _, _, _⟩ := hX0.cells
  have d0 := heap_cell hD0 (i := 0) rfl
  have d1 := heap_cell hD0 (i := 1) rfl
  have d2 := heap_cell hD0 (i := 2) rfl
  have d3 := heap_cell hD0 (i := 3) rfl
  have HF2 := lhid hF0
  have HX2 := lhid hX0
  have HD2 := lhid hD0
  clear hb hF0 hX0 hD0
  go_wp2_with fail
  with_reducible refine (mayBe_r rs fa fb ret fd fe _ _ true _ HR2 hk S1 g2).mono ?_
  rintro e w3 ⟨rfl, hb⟩
  have HB3 := lhid (HB2.out.trans (hb.mono HB2.out.size))
  have hF0 : FBox w3 w.heap.size fa fb ret fd fe := heap_keep HF2.out hb
  have hX0 : XBox w3 (w.heap.size + 1) c d a b k n t r v := heap_keep HX2.out hb
  have hD0 : w3.heap[w1.heap.size]? = some (.cells #[.int .u64 f0, .int .u64 f1, .int .u64 f2, .int .u64 f3] 144 (0, 0)) := heap_keep HD2.out hb
  have HR3 := lhid (HR2.out.below (keptX_nu _) hb)
  obtain ⟨p0, p1, p2, p3, p4⟩ := hF0.cells
  obtain ⟨y0, y1, y2, y3, y4, _, _, _, _⟩ := hX0.cells
  have d0 := heap_cell hD0 (i := 0) rfl
  have d1 := heap_cell hD0 (i := 1) rfl
  have d2 := heap_cell hD0 (i := 2) rfl
  have d3 := heap_cell hD0 (i := 3) rfl
  have HF3 := lhid hF0
  have HX3 := lhid hX0
  have HD3 := lhid hD0
  clear hb hF0 hX0 hD0
  go_wp2_with fail
  with_reducible refine (mayBe_r rs fa fb ret fd fe _ _ true _ HR3 hk S2 g3).mono ?_
  rintro e w4 ⟨rfl, hb⟩
  have HB4 := lhid (HB3.out.trans (hb.mono HB3.out.size))
  have hF0 : FBox w4 w.heap.size fa fb ret fd fe := heap_keep HF3.out hb
  have hX0 : XBox w4 (w.heap.size + 1) c d a b k n t r v := heap_keep HX3.out hb
  have hD0 : w4.heap[w1.heap.size]? = some (.cells #[.int .u64 f0, .int .u64 f1, .int .u64 f2, .int .u64 f3] 144 (0, 0)) := heap_keep HD3.out hb
  have HR4 := lhid (HR3.out.below (keptX_nu _) hb)
  obtain ⟨p0, p1, p2, p3, p4⟩ := hF0.cells
  obtain ⟨y0, y1, y2, y3, y4, _, _, _, _⟩ := hX0.cells
  have d0 := heap_cell hD0 (i := 0) rfl
  have d1 := heap_cell hD0 (i := 1) rfl
  have d2 := heap_cell hD0 (i := 2) rfl
  have d3 := heap_cell hD0 (i := 3) rfl
  have HF4 := lhid hF0
  have HX4 := lhid hX0
  have HD4 := lhid hD0
  clear hb hF0 hX0 hD0
  go_wp2_with fail
  with_reducible refine (mayBe_r rs fa fb ret fd fe _ _ z4 _ HR4 hk S3 g4).mono ?_
  rintro e w5 ⟨rfl, hb⟩
  have HB5 := lhid (HB4.out.trans (hb.mono HB4.out.size))
  have hF0 : FBox w5 w.heap.size fa fb ret fd fe := heap_keep HF4.out hb
  have hX0 : XBox w5 (w.heap.size + 1) c d a b k n t r v := heap_keep HX4.out hb
  have hD0 : w5.heap[w1.heap.size]? = some (.cells #[.int .u64 f0, .int .u64 f1, .int .u64 f2, .int .u64 f3] 144 (0, 0)) := heap_keep HD4.out hb
  have HR5 := lhid (HR4.out.below (keptX_nu _) hb)
  obtain ⟨p0, p1, p2, p3, p4⟩ := hF0.cells
  obtain ⟨y0, y1, y2, y3, y4, _, _, _, _⟩ := hX0.cells
  have d0 := heap_cell hD0 (i := 0) rfl
  have d1 := heap_cell hD0 (i := 1) rfl
  have d2 := heap_cell hD0 (i := 2) rfl
  have d3 := heap_cell hD0 (i := 3) rfl
  have HF5 := lhid hF0
  have HX5 := lhid hX0
  have HD5 := lhid hD0
  clear hb hF0 hX0 hD0
  go_wp2_with fail
  go_ret
  exact ⟨rfl, HB5.out⟩
theorem kindsFit_any {P : Nat → Prop} (rs : List Int) (fa fb : Value) (ret : Int) (fd fe : Value) (x : InI) (v : Value) (w : World) (h : Hid (RdX P 1 NuE w fa rs)) (hk : Hid (KR rs)) :
  Calls Try.prog 81 #[fuL fa fb ret fd fe, inA x v] w fun e w' => e = .returned (.bool (kindsB rs x)) ∧ Below w.heap.size w w' := by
 obtain ⟨s1, s2, s3, s0⟩ := fd_sets x.op
 exact kindsFit_z rs fa fb ret fd fe x.op x.dst x.a x.b x.c x.num x.too x.ref v true _ _ _ _ w h hk _ _ _ _ (fun w => lhid (fieldsOf_any x.op w)) (lhid ⟨s0, s1, s2, s3⟩) (lhid rfl) (lhid rfl) (lhid rfl) (lhid rfl)
theorem kindsFit_r {P : Nat → Prop} (rs : List Int) (fa fb : Value) (ret : Int) (fd fe : Value) (x : InI) (v : Value) (z : Bool) (w : World) (h : Hid (RdX P 1 NuE w fa rs)) (hk : Hid (KR rs)) (hz : Hid (kindsB rs x = z)) :
  Calls Try.prog 81 #[fuL fa fb ret fd fe, inA x v] w fun e w' => e = .returned (.bool z) ∧ Below w.heap.size w w' := by
 have := kindsFit_any rs fa fb ret fd fe x v w h hk
 rwa [hz.out] at this
set_option maxRecDepth 100000 in
theorem computes_any (n a b m : Int) (hn : Hid (I64 n)) (w : World) : Calls Try.prog 111 #[.int .i64 n, .int .i64 a, .int .i64 b, .int .i64 m] w fun e w' => e = .returned (.bool (decide (Nu.knd n = (a, b, m)))) ∧ w = w' := by
 have HK := lhid (Nu.kinds_any n hn.out)
 have hn' := hn.out
 have HP : Hid ((Nu.knd n = (a, b, m)) ↔ ((Nu.knd n).1 = a ∧ (Nu.knd n).2.1 = b ∧ (Nu.knd n).2.2 = m)) := lhid (by rw [Prod.ext_iff, Prod.ext_iff])
 generalize Nu.knd n = q at *
 obtain ⟨x, y, z⟩ := q
 by_cases h1 : x = a
 ·by_cases h2 : y = b
  ·by_cases h3 : z = m
   all_goals
    have e1 : (x == a) = true := by rw [beq_iff_eq]; exact h1
    have e2 : (y == b) = true := by rw [beq_iff_eq]; exact h2
    have HQ := lhid h3
   ·have e3 : (z == m) = true := by rw [beq_iff_eq]; exact h3
    have HD := lhid (show decide ((x, y, z) = (a, b, m)) = true from decide_eq_true (HP.out.2 ⟨h1, h2, h3⟩))
    clear h1 h2 h3
    go_enter Try.func111, Try.ntmps111
    go_wp2_with fail
    with_reducible refine (HK.out _).mono ?_
    rintro e w1 ⟨rfl, rfl⟩
    go_wp2_with fail
    go_ret
    exact ⟨by rw [HD.out]; rfl, rfl⟩
   ·have e3 : (z == m) = false := by rw [beq_eq_false_iff_ne]; exact h3
    have HD := lhid (show decide ((x, y, z) = (a, b, m)) = false from decide_eq_false (fun e => h3 (HP.out.1 e).2.2))
    clear h1 h2 h3
    go_enter Try.func111, Try.ntmps111
    go_wp2_with fail
    with_reducible refine (HK.out _).mono ?_
    rintro e w1 ⟨rfl, rfl⟩
    go_wp2_with fail
    go_ret
    exact ⟨by rw [HD.out]; rfl, rfl⟩
  ·have e1 : (x == a) = true := by rw [beq_iff_eq]; exact h1
   have e2 : (y == b) = false := by rw [beq_eq_false_iff_ne]; exact h2
   have HD := lhid (show decide ((x, y, z) = (a, b, m)) = false from decide_eq_false (fun e => h2 (HP.out.1 e).2.1))
   clear h1 h2
   go_enter Try.func111, Try.ntmps111
   go_wp2_with fail
   with_reducible refine (HK.out _).mono ?_
   rintro e w1 ⟨rfl, rfl⟩
   go_wp2_with fail
   go_ret
   exact ⟨by rw [HD.out]; rfl, rfl⟩
 ·have e1 : (x == a) = false := by rw [beq_eq_false_iff_ne]; exact h1
  have HD := lhid (show decide ((x, y, z) = (a, b, m)) = false from decide_eq_false (fun e => h1 (HP.out.1 e).1))
  clear h1
  go_enter Try.func111, Try.ntmps111
  go_wp2_with fail
  with_reducible refine (HK.out _).mono ?_
  rintro e w1 ⟨rfl, rfl⟩
  go_wp2_with fail
  go_ret
  exact ⟨by rw [HD.out]; rfl, rfl⟩
end Go.Proofs.Ytbkeneadoccodaa
