/- Contracts of the table's words, the program's: fieldsOf, readsOnly, Calls, Throws, Pure, Leads, Ends, Def. -/
import Derived.Test.YthaijdcgmcfpiaaInsMath
import Derived.WalkKit
import Derived.ProofKit
import Derived.Below
namespace Go.Proofs.Ythaijdcgmcfpiaa
open Go.RowKit Go
set_option linter.unusedVariables false
set_option linter.unusedSimpArgs false

abbrev fdV (c : Int) : Value := .agg #[.int .u64 (fdT c).1, .int .u64 (fdT c).2.1, .int .u64 (fdT c).2.2.1, .int .u64 (fdT c).2.2.2]
theorem sizeK3 : (Try.prog.info? 57).map (·.size) = some 3 := by kernel_rfl
theorem sizeFd : (Try.prog.info? 59).map (·.size) = some 4 := by kernel_rfl
theorem four_set {w : World} {R : Nat} {T : TypeId} {z0 z1 z2 z3 : Value} (h : w.heap[R]? = some (.cells #[z0, z1, z2, z3] T (0, 0))) (a b c d : Value) :
    ((((w.setCell ⟨R, 0, none⟩ a).setCell ⟨R, 1, none⟩ b).setCell ⟨R, 2, none⟩ c).setCell ⟨R, 3, none⟩ d).heap[R]? = some (.cells #[a, b, c, d] T (0, 0)) := by
  have := heap_set (i := 3) (heap_set (i := 2) (heap_set (i := 1) (heap_set (i := 0) h a) b) c) d
  simpa using this
theorem four_below {B R : Nat} {a0 w : World} (h : Below B a0 w) (hR : B ≤ R) (a b c d : Value) : Below B a0 ((((w.setCell ⟨R, 0, none⟩ a).setCell ⟨R, 1, none⟩ b).setCell ⟨R, 2, none⟩ c).setCell ⟨R, 3, none⟩ d) :=
  (((h.setCell hR a).setCell hR b).setCell hR c).setCell hR d
theorem ret_val {a b : Value} (h : a = b) : Ending.returned a = .returned b := by rw [h]
set_option maxHeartbeats 8000000 in
set_option maxRecDepth 100000 in
theorem readsOnly_any (c : Int) (w : World) (h : (fdT c).1 = 0) :
    Calls Try.prog 75 #[.int .i64 c] w fun e w' => e = .returned (.agg #[.int .u64 (fdT c).2.1, .int .u64 (fdT c).2.2.1, .int .u64 (fdT c).2.2.2]) ∧ Below w.heap.size w w' := by
  have H := lhid h
  clear h
  go_enter Try.func75, Try.ntmps75
  go_wp2
  all_goals refine bodyPost_ret (results_cell_row rfl _ _ w.heap.size 57 _ _ _ rfl (heap_alloc_new w _) Try.underlying57 rfl sizeK3) rfl ?_
  all_goals
    refine ⟨?_, by first | exact (Below.refl w.heap.size w).alloc (Nat.le_refl _) _ | exact ((Below.refl w.heap.size w).alloc (Nat.le_refl _) _)⟩
    rename_i hx
    first
      | (obtain rfl := eq_of_beq hx; rfl)
      | (have hz := H.out
         simp only [beq_eq_false_iff_ne, ne_eq] at *
         refine ret_val ?_
         have : fdT c = (0, 0, 0, 0) := by
           refine all_ops (Q := fun c => (fdT c).1 = 0 → ¬ c = 7 → ¬ c = 8 → ¬ c = 12 → ¬ c = 31 → ¬ c = 9 → ¬ c = 10 → ¬ c = 11 → ¬ c = 14 → ¬ c = 17 → ¬ c = 19 → ¬ c = 28 → ¬ c = 29 → ¬ c = 30 → fdT c = (0, 0, 0, 0)) (by decide +kernel) (fun c hc _ _ _ _ _ _ _ _ _ _ _ _ _ _ => (out_of c hc).2.2.2.2.2.2.2.1) c hz ?_ ?_ ?_ ?_ ?_ ?_ ?_ ?_ ?_ ?_ ?_ ?_ ?_ <;> assumption
         rw [this])
theorem reads_fst0 (c : Int) : c ∉ ([1, 2, 3, 20, 32, 18, 23, 24, 25, 26, 4, 5, 6, 13, 15, 22, 16, 21] : List Int) → (fdT c).1 = 0 := by
  refine all_ops (Q := fun c => c ∉ ([1, 2, 3, 20, 32, 18, 23, 24, 25, 26, 4, 5, 6, 13, 15, 22, 16, 21] : List Int) → (fdT c).1 = 0) (by decide +kernel) (fun c hc _ => by rw [(out_of c hc).2.2.2.2.2.2.2.1]) c
theorem reads_fst (c : Int) : ¬ c = 1 → ¬ c = 2 → ¬ c = 3 → ¬ c = 20 → ¬ c = 32 → ¬ c = 18 → ¬ c = 23 → ¬ c = 24 → ¬ c = 25 → ¬ c = 26 → ¬ c = 4 → ¬ c = 5 → ¬ c = 6 → ¬ c = 13 → ¬ c = 15 → ¬ c = 22 → ¬ c = 16 → ¬ c = 21 → (fdT c).1 = 0 := by
  intros
  refine reads_fst0 c ?_
  simp [*]
theorem wrB_fd (c : Int) : wrB c = !((fdT c).1 == 0) := by
  refine all_ops (Q := fun c => wrB c = !((fdT c).1 == 0)) (by decide +kernel) (fun c hc => by rw [(out_of c hc).2.2.2.2.2.2.2.1, (out_of c hc).2.1]; rfl) c
set_option maxHeartbeats 8000000 in
set_option maxRecDepth 100000 in
theorem fieldsOf_any (c : Int) (w : World) :
    Calls Try.prog 51 #[.int .i64 c] w fun e w' => e = .returned (fdV c) ∧ Below w.heap.size w w' := by
  by_cases hs : (fdT c).1 = 0
  · have H := lhid hs
    have g : c ≠ 1 ∧ c ≠ 2 ∧ c ≠ 3 ∧ c ≠ 20 ∧ c ≠ 32 ∧ c ≠ 18 ∧ c ≠ 23 ∧ c ≠ 24 ∧ c ≠ 25 ∧ c ≠ 26 ∧ c ≠ 4 ∧ c ≠ 5 ∧ c ≠ 6 ∧ c ≠ 13 ∧ c ≠ 15 ∧ c ≠ 22 ∧ c ≠ 16 ∧ c ≠ 21 := by
      refine ⟨?_, ?_, ?_, ?_, ?_, ?_, ?_, ?_, ?_, ?_, ?_, ?_, ?_, ?_, ?_, ?_, ?_, ?_⟩ <;> (rintro rfl; exact absurd hs (by decide))
    have HR := lhid (readsOnly_any c)
    obtain ⟨r1, hr1⟩ : ∃ x, (fdT c).2.1 = x := ⟨_, rfl⟩
    obtain ⟨r2, hr2⟩ : ∃ x, (fdT c).2.2.1 = x := ⟨_, rfl⟩
    obtain ⟨r3, hr3⟩ : ∃ x, (fdT c).2.2.2 = x := ⟨_, rfl⟩
    have HV : Hid (fdV c = .agg #[.int .u64 0, .int .u64 r1, .int .u64 r2, .int .u64 r3]) := lhid (by unfold fdV; rw [hs, hr1, hr2, hr3])
    rw [hr1, hr2, hr3] at HR
    clear hr1 hr2 hr3 hs
    obtain ⟨_, _, _, _, _, _, _, _, _, _, _, _, _, _, _, _, _, _⟩ := g
    go_enter Try.func51, Try.ntmps51
    go_wp2_with fail
    with_reducible refine (HR.out _ H.out).mono ?_
    rintro e w1 ⟨rfl, hb⟩
    have h0 := (hb.block w.heap.size (by simp)).trans (heap_alloc_new w _)
    have c0 : w1.cell? ⟨w.heap.size, 0, none⟩ = some (.int .u64 0) := heap_cell h0 rfl
    have f0 : w1.frozen? ⟨w.heap.size, 0, none⟩ = false := heap_thaw h0 0
    have c1 : w1.cell? ⟨w.heap.size, 1, none⟩ = some (.int .u64 0) := heap_cell h0 rfl
    have f1 : w1.frozen? ⟨w.heap.size, 1, none⟩ = false := heap_thaw h0 1
    have c2 : w1.cell? ⟨w.heap.size, 2, none⟩ = some (.int .u64 0) := heap_cell h0 rfl
    have f2 : w1.frozen? ⟨w.heap.size, 2, none⟩ = false := heap_thaw h0 2
    have c3 : w1.cell? ⟨w.heap.size, 3, none⟩ = some (.int .u64 0) := heap_cell h0 rfl
    have f3 : w1.frozen? ⟨w.heap.size, 3, none⟩ = false := heap_thaw h0 3
    have HB := lhid (((Below.refl w.heap.size w).alloc (Nat.le_refl _) _).trans (hb.mono (by simp)))
    have H0 := lhid h0
    clear hb h0
    go_wp2_with fail
    refine bodyPost_ret (results_cell_row rfl _ _ w.heap.size 59 _ _ _ rfl (four_set H0.out _ _ _ _) Try.underlying59 rfl sizeFd) rfl ?_
    exact ⟨by rw [HV.out], four_below HB.out (Nat.le_refl _) _ _ _ _⟩
  · have H := lhid hs
    clear hs
    go_enter Try.func51, Try.ntmps51
    go_wp2_with (first
      | (go_at_call 75
         exfalso
         refine H.out (reads_fst c ?_ ?_ ?_ ?_ ?_ ?_ ?_ ?_ ?_ ?_ ?_ ?_ ?_ ?_ ?_ ?_ ?_ ?_) <;> (simp only [beq_eq_false_iff_ne, ne_eq] at *; assumption)))
    all_goals refine bodyPost_ret (results_cell_row rfl _ _ w.heap.size 59 _ _ _ rfl (heap_alloc_new w _) Try.underlying59 rfl sizeFd) rfl ?_
    all_goals
      refine ⟨?_, (Below.refl w.heap.size w).alloc (Nat.le_refl _) _⟩
      rename_i hx
      obtain rfl := eq_of_beq hx
      rfl
/-- The value of an instruction whose Args lie at v. -/
abbrev inA (x : InI) (v : Value) : Value := .agg #[.int .i64 x.op, .int .i64 x.dst, .int .i64 x.a, .int .i64 x.b, .int .i64 x.c, .int .i64 x.num, .int .i64 x.too, .string (tx x.ref), v]
set_option maxHeartbeats 8000000 in
set_option maxRecDepth 100000 in
theorem calls_any (x : InI) (v : Value) (w : World) :
    Calls Try.prog 18 #[inA x v] w fun e w' => e = .returned (.bool (callsB x.op)) ∧ Below w.heap.size w w' := by
  obtain ⟨c, HC⟩ : ∃ c, Hid (x.op = c) := ⟨_, lhid rfl⟩
  rw [HC.out]
  unfold inA
  rw [HC.out]
  go_enter Try.func18, Try.ntmps18
  go_wp2
  all_goals go_ret
  all_goals
    refine ⟨?_, (Below.refl w.heap.size w).alloc (Nat.le_refl _) _⟩
    rename_i h
    first
      | (obtain rfl := eq_of_beq h; rfl)
      | (simp only [beq_eq_false_iff_ne, ne_eq] at *
         rw [show callsB c = false by unfold callsB; simp [*]]
         rfl)
set_option maxHeartbeats 8000000 in
set_option maxRecDepth 100000 in
theorem pure_any (x : InI) (v : Value) (w : World) :
    Calls Try.prog 22 #[inA x v] w fun e w' => e = .returned (.bool (pureB x.op)) ∧ Below w.heap.size w w' := by
  obtain ⟨c, HC⟩ : ∃ c, Hid (x.op = c) := ⟨_, lhid rfl⟩
  rw [HC.out]
  unfold inA
  rw [HC.out]
  go_enter Try.func22, Try.ntmps22
  go_wp2
  all_goals go_ret
  all_goals
    refine ⟨?_, (Below.refl w.heap.size w).alloc (Nat.le_refl _) _⟩
    rename_i h
    first
      | (obtain rfl := eq_of_beq h; rfl)
      | (simp only [beq_eq_false_iff_ne, ne_eq] at *
         rw [show pureB c = false by unfold pureB; simp [*]]
         rfl)
set_option maxHeartbeats 8000000 in
set_option maxRecDepth 100000 in
theorem leads_any (x : InI) (v : Value) (w : World) :
    Calls Try.prog 24 #[inA x v] w fun e w' => e = .returned (.bool (leadsB x.op)) ∧ Below w.heap.size w w' := by
  obtain ⟨c, HC⟩ : ∃ c, Hid (x.op = c) := ⟨_, lhid rfl⟩
  rw [HC.out]
  unfold inA
  rw [HC.out]
  go_enter Try.func24, Try.ntmps24
  go_wp2
  all_goals go_ret
  all_goals
    refine ⟨?_, (Below.refl w.heap.size w).alloc (Nat.le_refl _) _⟩
    rename_i h
    first
      | (obtain rfl := eq_of_beq h; rfl)
      | (simp only [beq_eq_false_iff_ne, ne_eq] at *
         rw [show leadsB c = false by unfold leadsB; simp [*]]
         rfl)
set_option maxHeartbeats 8000000 in
set_option maxRecDepth 100000 in
theorem ends_any (x : InI) (v : Value) (w : World) :
    Calls Try.prog 26 #[inA x v] w fun e w' => e = .returned (.bool (endsB x.op)) ∧ Below w.heap.size w w' := by
  obtain ⟨c, HC⟩ : ∃ c, Hid (x.op = c) := ⟨_, lhid rfl⟩
  rw [HC.out]
  unfold inA
  rw [HC.out]
  go_enter Try.func26, Try.ntmps26
  go_wp2
  all_goals go_ret
  all_goals
    refine ⟨?_, (Below.refl w.heap.size w).alloc (Nat.le_refl _) _⟩
    rename_i h
    first
      | (obtain rfl := eq_of_beq h; rfl)
      | (simp only [beq_eq_false_iff_ne, ne_eq] at *
         rw [show endsB c = false by unfold endsB; simp [*]]
         rfl)
end Go.Proofs.Ythaijdcgmcfpiaa
