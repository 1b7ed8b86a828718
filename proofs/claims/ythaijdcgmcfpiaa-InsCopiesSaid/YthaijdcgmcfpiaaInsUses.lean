/- Contracts of Throws, Def, Uses, the program's. -/
import Derived.Test.YthaijdcgmcfpiaaInsTab
import Derived.Test.YthaijdcgmcfpiaaInsClone
import Derived.OwnWalk
namespace Go.Proofs.Ythaijdcgmcfpiaa
open Go.RowKit Go
set_option linter.unusedVariables false
set_option linter.unusedSimpArgs false

abbrev inL (c d a b k n t : Int) (r : Bs) (v : Value) : Value := .agg #[.int .i64 c, .int .i64 d, .int .i64 a, .int .i64 b, .int .i64 k, .int .i64 n, .int .i64 t, .string (tx r), v]
theorem field_w (f0 f1 f2 f3 : Int) : ∀ w', (Instr.field 59 (.agg #[.int .u64 f0, .int .u64 f1, .int .u64 f2, .int .u64 f3]) 0).run Try.prog w' = .ok (.int .u64 f0) w' := fun w' => by kernel_rfl
theorem field_r (f0 f1 f2 f3 : Int) : ∀ w', (Instr.field 59 (.agg #[.int .u64 f0, .int .u64 f1, .int .u64 f2, .int .u64 f3]) 1).run Try.prog w' = .ok (.agg #[.int .u64 f1, .int .u64 f2, .int .u64 f3]) w' := fun w' => by kernel_rfl
theorem throws_calls (c : Int) : ¬ c = 7 → ¬ c = 8 → ¬ c = 9 → ¬ c = 10 → ¬ c = 11 → ¬ c = 12 → ¬ c = 20 → ¬ c = 21 → ¬ c = 31 → callsB c = throwsB c := by
  intros
  unfold callsB throwsB
  simp [*]
set_option maxHeartbeats 8000000 in
set_option maxRecDepth 100000 in
theorem throws_any (x : InI) (v : Value) (w : World) :
    Calls Try.prog 20 #[inA x v] w fun e w' => e = .returned (.bool (throwsB x.op)) ∧ Below w.heap.size w w' := by
  obtain ⟨c, d, a, b, k, n, t, r, l⟩ := x
  have HX : ∀ w, Hid (Calls Try.prog 18 #[inL c d a b k n t r v] w fun e w' => e = .returned (.bool (callsB c)) ∧ Below w.heap.size w w') := fun w => lhid (calls_any ⟨c, d, a, b, k, n, t, r, l⟩ v w)
  show Calls Try.prog 20 #[inL c d a b k n t r v] w fun e w' => e = .returned (.bool (throwsB c)) ∧ Below w.heap.size w w'
  go_enter Try.func20, Try.ntmps20
  go_wp2_with (with_reducible refine (HX _).out.mono ?_; rintro e w1 ⟨rfl, hb⟩)
  all_goals go_ret
  all_goals
    refine ⟨?_, by first | exact (Below.refl w.heap.size w).alloc (Nat.le_refl _) _ | (rename Below _ _ _ => hb; exact ((Below.refl w.heap.size w).alloc (Nat.le_refl _) _).trans (hb.mono (by simp)))⟩
    first
      | (rename_i h; obtain rfl := eq_of_beq h; rfl)
      | (simp only [beq_eq_false_iff_ne, ne_eq] at *
         exact ret_val (by rw [← throws_calls c (by assumption) (by assumption) (by assumption) (by assumption) (by assumption) (by assumption) (by assumption) (by assumption) (by assumption)]; rfl))
set_option maxHeartbeats 8000000 in
set_option maxRecDepth 100000 in
theorem def_any (x : InI) (v : Value) (w : World) :
    Calls Try.prog 16 #[inA x v] w fun e w' => e = .returned (.int .i64 (defI x)) ∧ Below w.heap.size w w' := by
  obtain ⟨c, d, a, b, k, n, t, r, l⟩ := x
  have HF : ∀ w, Hid (Calls Try.prog 51 #[.int .i64 c] w fun e w' => e = .returned (fdV c) ∧ Below w.heap.size w w') := fun w => lhid (fieldsOf_any c w)
  have hd := wrB_fd c
  show Calls Try.prog 16 #[inL c d a b k n t r v] w fun e w' => e = .returned (.int .i64 (if wrB c then d else -1)) ∧ Below w.heap.size w w'
  unfold fdV at HF
  generalize wrB c = z at *
  generalize (fdT c).1 = f0 at *
  generalize (fdT c).2.1 = f1 at *
  generalize (fdT c).2.2.1 = f2 at *
  generalize (fdT c).2.2.2 = f3 at *
  have hz : (f0 == 0) = !z := by rw [hd]; simp
  clear hd
  cases z
  all_goals
    simp only [Bool.not_true, Bool.not_false] at hz
    have hq := field_w f0 f1 f2 f3
    go_enter Try.func16, Try.ntmps16
    go_wp2_with fail
    with_reducible refine (HF _).out.mono ?_
    rintro e w1 ⟨rfl, hb⟩
    have c1 : w1.cell? ⟨w.heap.size, 1, none⟩ = some (.int .i64 d) := (hb.cell (p := ⟨w.heap.size, 1, none⟩) (by simp)).trans (heap_cell (heap_alloc_new w _) rfl)
    have HB := lhid (((Below.refl w.heap.size w).alloc (Nat.le_refl _) _).trans (hb.mono (by simp)))
    clear hb
    go_wp2_with fail
    go_ret
    exact ⟨rfl, HB.out⟩
end Go.Proofs.Ythaijdcgmcfpiaa
