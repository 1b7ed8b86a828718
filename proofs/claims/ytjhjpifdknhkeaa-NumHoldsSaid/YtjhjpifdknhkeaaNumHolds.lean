/- Walks of the statements of layer 1 that need package num alone: each returns true for all arguments and leaves the world as it was but for new blocks. -/
import Derived.Test.YtjhjpifdknhkeaaNumHold
import Derived.Test.YtjhjpifdknhkeaaBits
import Derived.OpenShut
import Derived.LoopN
import Derived.Deep.QuietTactic
import Derived.BigQuiet
namespace Go.Proofs.Ytjhjpifdknhkeaa
open Go.RowKit
set_option linter.unusedVariables false

theorem cmp3_turn (a b : Int) : cmp3 a b = - cmp3 b a := by unfold cmp3; split <;> split <;> omega
theorem cmp3_in (a b : Int) : -1 ≤ cmp3 a b ∧ cmp3 a b ≤ 1 := by unfold cmp3; split <;> (try split) <;> omega
set_option maxHeartbeats 1000000 in
set_option maxRecDepth 100000 in
theorem NumHolds_0lt (a b : Int) (h : a < b) (w : World) :
    Calls Try.prog 8 #[.int .i64 0, .int .i64 a, .int .i64 b] w fun e w' => e = .returned (.bool true) ∧ Grown w w' := by
  have k0 : cnd 0 a b = false := by unfold cnd; simp; omega
  have k1 : cnd 1 a b = true := by unfold cnd; simp; omega
  have k2 : cnd 2 a b = true := by unfold cnd; simp; omega
  have k3 : cnd 3 a b = false := by unfold cnd; simp; omega
  have k4 : cnd 4 a b = false := by unfold cnd; simp; omega
  have k5 : cnd 5 a b = true := by unfold cnd; simp; omega
  have hb : (a == b) = false := by rw [beq_eq_false_iff_ne]; omega
  have hb' : (a != b) = true := by rw [bne_iff_ne]; omega
  have hba : (b == a) = false := by rw [beq_eq_false_iff_ne]; omega
  have l1 : decide (a ≤ b) = true := by simp; omega
  have l2 : decide (b ≤ a) = false := by simp; omega
  have hc : two 148 a b = -1 := by show cmp3 _ _ = _; unfold cmp3; split <;> (try split) <;> omega
  have hc' : two 148 b a = 1 := by show cmp3 _ _ = _; unfold cmp3; split <;> (try split) <;> omega
  have i0 : ∀ w : World, (Instr.index 35 (.agg #[.int .i64 0, .int .i64 1, .int .i64 2, .int .i64 3, .int .i64 4, .int .i64 5]) (.int .i64 0)).run Try.prog w = .ok (.agg #[.int .i64 0, .int .i64 1]) w := fun _ => by kernel_rfl
  have i1 : ∀ w : World, (Instr.index 35 (.agg #[.int .i64 0, .int .i64 1, .int .i64 2, .int .i64 3, .int .i64 4, .int .i64 5]) (.int .i64 1)).run Try.prog w = .ok (.agg #[.int .i64 2, .int .i64 3]) w := fun _ => by kernel_rfl
  have i2 : ∀ w : World, (Instr.index 35 (.agg #[.int .i64 0, .int .i64 1, .int .i64 2, .int .i64 3, .int .i64 4, .int .i64 5]) (.int .i64 2)).run Try.prog w = .ok (.agg #[.int .i64 4, .int .i64 5]) w := fun _ => by kernel_rfl
  go_enter Try.func8, Try.ntmps8
  go_wp2_with (first | (go_at_call 12; refine (holds_any _).mono ?_; rintro e w' ⟨rfl, rfl⟩) | (go_at_call 23; refine (holds_cond _ _ _ _).mono ?_; rintro e w' ⟨rfl, rfl⟩) | (go_at_call 18; refine (two_any _ _ _ (by decide) (by decide) _).mono ?_; rintro e w' ⟨rfl, rfl⟩))
  refine wp_loop_rounds 4 ?_
  rw [rounds_succ]
  go_wp2_with (first | (go_at_call 12; refine (holds_any _).mono ?_; rintro e w' ⟨rfl, rfl⟩) | (go_at_call 23; refine (holds_cond _ _ _ _).mono ?_; rintro e w' ⟨rfl, rfl⟩) | (go_at_call 18; refine (two_any _ _ _ (by decide) (by decide) _).mono ?_; rintro e w' ⟨rfl, rfl⟩))
  go_quiet ((go_at_call 23; exact Calls.quiet_of_same ((holds_cond _ _ _ _).mono fun _ _ ⟨h1, h2⟩ => ⟨h1, h2.symm⟩)))
  go_wp2_with (first | (go_at_call 12; refine (holds_any _).mono ?_; rintro e w' ⟨rfl, rfl⟩) | (go_at_call 23; refine (holds_cond _ _ _ _).mono ?_; rintro e w' ⟨rfl, rfl⟩) | (go_at_call 18; refine (two_any _ _ _ (by decide) (by decide) _).mono ?_; rintro e w' ⟨rfl, rfl⟩))
  rw [rounds_succ]
  go_wp2_with (first | (go_at_call 12; refine (holds_any _).mono ?_; rintro e w' ⟨rfl, rfl⟩) | (go_at_call 23; refine (holds_cond _ _ _ _).mono ?_; rintro e w' ⟨rfl, rfl⟩) | (go_at_call 18; refine (two_any _ _ _ (by decide) (by decide) _).mono ?_; rintro e w' ⟨rfl, rfl⟩))
  go_quiet ((go_at_call 23; exact Calls.quiet_of_same ((holds_cond _ _ _ _).mono fun _ _ ⟨h1, h2⟩ => ⟨h1, h2.symm⟩)))
  go_wp2_with (first | (go_at_call 12; refine (holds_any _).mono ?_; rintro e w' ⟨rfl, rfl⟩) | (go_at_call 23; refine (holds_cond _ _ _ _).mono ?_; rintro e w' ⟨rfl, rfl⟩) | (go_at_call 18; refine (two_any _ _ _ (by decide) (by decide) _).mono ?_; rintro e w' ⟨rfl, rfl⟩))
  rw [rounds_succ]
  go_wp2_with (first | (go_at_call 12; refine (holds_any _).mono ?_; rintro e w' ⟨rfl, rfl⟩) | (go_at_call 23; refine (holds_cond _ _ _ _).mono ?_; rintro e w' ⟨rfl, rfl⟩) | (go_at_call 18; refine (two_any _ _ _ (by decide) (by decide) _).mono ?_; rintro e w' ⟨rfl, rfl⟩))
  go_quiet ((go_at_call 23; exact Calls.quiet_of_same ((holds_cond _ _ _ _).mono fun _ _ ⟨h1, h2⟩ => ⟨h1, h2.symm⟩)))
  go_wp2_with (first | (go_at_call 12; refine (holds_any _).mono ?_; rintro e w' ⟨rfl, rfl⟩) | (go_at_call 23; refine (holds_cond _ _ _ _).mono ?_; rintro e w' ⟨rfl, rfl⟩) | (go_at_call 18; refine (two_any _ _ _ (by decide) (by decide) _).mono ?_; rintro e w' ⟨rfl, rfl⟩))
  rw [rounds_succ]
  go_wp2_with (first | (go_at_call 12; refine (holds_any _).mono ?_; rintro e w' ⟨rfl, rfl⟩) | (go_at_call 23; refine (holds_cond _ _ _ _).mono ?_; rintro e w' ⟨rfl, rfl⟩) | (go_at_call 18; refine (two_any _ _ _ (by decide) (by decide) _).mono ?_; rintro e w' ⟨rfl, rfl⟩))
  go_ret
  exact ⟨rfl, by repeat (first | exact Grown.refl _ | apply Grown.drew | apply Grown.alloc)⟩
set_option maxHeartbeats 1000000 in
set_option maxRecDepth 100000 in
theorem NumHolds_0gt (a b : Int) (h : b < a) (w : World) :
    Calls Try.prog 8 #[.int .i64 0, .int .i64 a, .int .i64 b] w fun e w' => e = .returned (.bool true) ∧ Grown w w' := by
  have k0 : cnd 0 a b = false := by unfold cnd; simp; omega
  have k1 : cnd 1 a b = true := by unfold cnd; simp; omega
  have k2 : cnd 2 a b = false := by unfold cnd; simp; omega
  have k3 : cnd 3 a b = true := by unfold cnd; simp; omega
  have k4 : cnd 4 a b = true := by unfold cnd; simp; omega
  have k5 : cnd 5 a b = false := by unfold cnd; simp; omega
  have hb : (a == b) = false := by rw [beq_eq_false_iff_ne]; omega
  have hb' : (a != b) = true := by rw [bne_iff_ne]; omega
  have hba : (b == a) = false := by rw [beq_eq_false_iff_ne]; omega
  have l1 : decide (a ≤ b) = false := by simp; omega
  have l2 : decide (b ≤ a) = true := by simp; omega
  have hc : two 148 a b = 1 := by show cmp3 _ _ = _; unfold cmp3; split <;> (try split) <;> omega
  have hc' : two 148 b a = -1 := by show cmp3 _ _ = _; unfold cmp3; split <;> (try split) <;> omega
  have i0 : ∀ w : World, (Instr.index 35 (.agg #[.int .i64 0, .int .i64 1, .int .i64 2, .int .i64 3, .int .i64 4, .int .i64 5]) (.int .i64 0)).run Try.prog w = .ok (.agg #[.int .i64 0, .int .i64 1]) w := fun _ => by kernel_rfl
  have i1 : ∀ w : World, (Instr.index 35 (.agg #[.int .i64 0, .int .i64 1, .int .i64 2, .int .i64 3, .int .i64 4, .int .i64 5]) (.int .i64 1)).run Try.prog w = .ok (.agg #[.int .i64 2, .int .i64 3]) w := fun _ => by kernel_rfl
  have i2 : ∀ w : World, (Instr.index 35 (.agg #[.int .i64 0, .int .i64 1, .int .i64 2, .int .i64 3, .int .i64 4, .int .i64 5]) (.int .i64 2)).run Try.prog w = .ok (.agg #[.int .i64 4, .int .i64 5]) w := fun _ => by kernel_rfl
  go_enter Try.func8, Try.ntmps8
  go_wp2_with (first | (go_at_call 12; refine (holds_any _).mono ?_; rintro e w' ⟨rfl, rfl⟩) | (go_at_call 23; refine (holds_cond _ _ _ _).mono ?_; rintro e w' ⟨rfl, rfl⟩) | (go_at_call 18; refine (two_any _ _ _ (by decide) (by decide) _).mono ?_; rintro e w' ⟨rfl, rfl⟩))
  refine wp_loop_rounds 4 ?_
  rw [rounds_succ]
  go_wp2_with (first | (go_at_call 12; refine (holds_any _).mono ?_; rintro e w' ⟨rfl, rfl⟩) | (go_at_call 23; refine (holds_cond _ _ _ _).mono ?_; rintro e w' ⟨rfl, rfl⟩) | (go_at_call 18; refine (two_any _ _ _ (by decide) (by decide) _).mono ?_; rintro e w' ⟨rfl, rfl⟩))
  go_quiet ((go_at_call 23; exact Calls.quiet_of_same ((holds_cond _ _ _ _).mono fun _ _ ⟨h1, h2⟩ => ⟨h1, h2.symm⟩)))
  go_wp2_with (first | (go_at_call 12; refine (holds_any _).mono ?_; rintro e w' ⟨rfl, rfl⟩) | (go_at_call 23; refine (holds_cond _ _ _ _).mono ?_; rintro e w' ⟨rfl, rfl⟩) | (go_at_call 18; refine (two_any _ _ _ (by decide) (by decide) _).mono ?_; rintro e w' ⟨rfl, rfl⟩))
  rw [rounds_succ]
  go_wp2_with (first | (go_at_call 12; refine (holds_any _).mono ?_; rintro e w' ⟨rfl, rfl⟩) | (go_at_call 23; refine (holds_cond _ _ _ _).mono ?_; rintro e w' ⟨rfl, rfl⟩) | (go_at_call 18; refine (two_any _ _ _ (by decide) (by decide) _).mono ?_; rintro e w' ⟨rfl, rfl⟩))
  go_quiet ((go_at_call 23; exact Calls.quiet_of_same ((holds_cond _ _ _ _).mono fun _ _ ⟨h1, h2⟩ => ⟨h1, h2.symm⟩)))
  go_wp2_with (first | (go_at_call 12; refine (holds_any _).mono ?_; rintro e w' ⟨rfl, rfl⟩) | (go_at_call 23; refine (holds_cond _ _ _ _).mono ?_; rintro e w' ⟨rfl, rfl⟩) | (go_at_call 18; refine (two_any _ _ _ (by decide) (by decide) _).mono ?_; rintro e w' ⟨rfl, rfl⟩))
  rw [rounds_succ]
  go_wp2_with (first | (go_at_call 12; refine (holds_any _).mono ?_; rintro e w' ⟨rfl, rfl⟩) | (go_at_call 23; refine (holds_cond _ _ _ _).mono ?_; rintro e w' ⟨rfl, rfl⟩) | (go_at_call 18; refine (two_any _ _ _ (by decide) (by decide) _).mono ?_; rintro e w' ⟨rfl, rfl⟩))
  go_quiet ((go_at_call 23; exact Calls.quiet_of_same ((holds_cond _ _ _ _).mono fun _ _ ⟨h1, h2⟩ => ⟨h1, h2.symm⟩)))
  go_wp2_with (first | (go_at_call 12; refine (holds_any _).mono ?_; rintro e w' ⟨rfl, rfl⟩) | (go_at_call 23; refine (holds_cond _ _ _ _).mono ?_; rintro e w' ⟨rfl, rfl⟩) | (go_at_call 18; refine (two_any _ _ _ (by decide) (by decide) _).mono ?_; rintro e w' ⟨rfl, rfl⟩))
  rw [rounds_succ]
  go_wp2_with (first | (go_at_call 12; refine (holds_any _).mono ?_; rintro e w' ⟨rfl, rfl⟩) | (go_at_call 23; refine (holds_cond _ _ _ _).mono ?_; rintro e w' ⟨rfl, rfl⟩) | (go_at_call 18; refine (two_any _ _ _ (by decide) (by decide) _).mono ?_; rintro e w' ⟨rfl, rfl⟩))
  go_ret
  exact ⟨rfl, by repeat (first | exact Grown.refl _ | apply Grown.drew | apply Grown.alloc)⟩
set_option maxHeartbeats 1000000 in
set_option maxRecDepth 100000 in
theorem NumHolds_0eq (a : Int)  (w : World) :
    Calls Try.prog 8 #[.int .i64 0, .int .i64 a, .int .i64 a] w fun e w' => e = .returned (.bool true) ∧ Grown w w' := by
  have k0 : cnd 0 a a = true := by unfold cnd; simp
  have k1 : cnd 1 a a = false := by unfold cnd; simp
  have k2 : cnd 2 a a = false := by unfold cnd; simp
  have k3 : cnd 3 a a = true := by unfold cnd; simp
  have k4 : cnd 4 a a = false := by unfold cnd; simp
  have k5 : cnd 5 a a = true := by unfold cnd; simp
  have hc : two 148 a a = 0 := by show cmp3 _ _ = _; unfold cmp3; simp
  have hc' : two 148 a a = 0 := by show cmp3 _ _ = _; unfold cmp3; simp
  have i0 : ∀ w : World, (Instr.index 35 (.agg #[.int .i64 0, .int .i64 1, .int .i64 2, .int .i64 3, .int .i64 4, .int .i64 5]) (.int .i64 0)).run Try.prog w = .ok (.agg #[.int .i64 0, .int .i64 1]) w := fun _ => by kernel_rfl
  have i1 : ∀ w : World, (Instr.index 35 (.agg #[.int .i64 0, .int .i64 1, .int .i64 2, .int .i64 3, .int .i64 4, .int .i64 5]) (.int .i64 1)).run Try.prog w = .ok (.agg #[.int .i64 2, .int .i64 3]) w := fun _ => by kernel_rfl
  have i2 : ∀ w : World, (Instr.index 35 (.agg #[.int .i64 0, .int .i64 1, .int .i64 2, .int .i64 3, .int .i64 4, .int .i64 5]) (.int .i64 2)).run Try.prog w = .ok (.agg #[.int .i64 4, .int .i64 5]) w := fun _ => by kernel_rfl
  go_enter Try.func8, Try.ntmps8
  go_wp2_with (first | (go_at_call 12; refine (holds_any _).mono ?_; rintro e w' ⟨rfl, rfl⟩) | (go_at_call 23; refine (holds_cond _ _ _ _).mono ?_; rintro e w' ⟨rfl, rfl⟩) | (go_at_call 18; refine (two_any _ _ _ (by decide) (by decide) _).mono ?_; rintro e w' ⟨rfl, rfl⟩))
  refine wp_loop_rounds 4 ?_
  rw [rounds_succ]
  go_wp2_with (first | (go_at_call 12; refine (holds_any _).mono ?_; rintro e w' ⟨rfl, rfl⟩) | (go_at_call 23; refine (holds_cond _ _ _ _).mono ?_; rintro e w' ⟨rfl, rfl⟩) | (go_at_call 18; refine (two_any _ _ _ (by decide) (by decide) _).mono ?_; rintro e w' ⟨rfl, rfl⟩))
  go_quiet ((go_at_call 23; exact Calls.quiet_of_same ((holds_cond _ _ _ _).mono fun _ _ ⟨h1, h2⟩ => ⟨h1, h2.symm⟩)))
  go_wp2_with (first | (go_at_call 12; refine (holds_any _).mono ?_; rintro e w' ⟨rfl, rfl⟩) | (go_at_call 23; refine (holds_cond _ _ _ _).mono ?_; rintro e w' ⟨rfl, rfl⟩) | (go_at_call 18; refine (two_any _ _ _ (by decide) (by decide) _).mono ?_; rintro e w' ⟨rfl, rfl⟩))
  rw [rounds_succ]
  go_wp2_with (first | (go_at_call 12; refine (holds_any _).mono ?_; rintro e w' ⟨rfl, rfl⟩) | (go_at_call 23; refine (holds_cond _ _ _ _).mono ?_; rintro e w' ⟨rfl, rfl⟩) | (go_at_call 18; refine (two_any _ _ _ (by decide) (by decide) _).mono ?_; rintro e w' ⟨rfl, rfl⟩))
  go_quiet ((go_at_call 23; exact Calls.quiet_of_same ((holds_cond _ _ _ _).mono fun _ _ ⟨h1, h2⟩ => ⟨h1, h2.symm⟩)))
  go_wp2_with (first | (go_at_call 12; refine (holds_any _).mono ?_; rintro e w' ⟨rfl, rfl⟩) | (go_at_call 23; refine (holds_cond _ _ _ _).mono ?_; rintro e w' ⟨rfl, rfl⟩) | (go_at_call 18; refine (two_any _ _ _ (by decide) (by decide) _).mono ?_; rintro e w' ⟨rfl, rfl⟩))
  rw [rounds_succ]
  go_wp2_with (first | (go_at_call 12; refine (holds_any _).mono ?_; rintro e w' ⟨rfl, rfl⟩) | (go_at_call 23; refine (holds_cond _ _ _ _).mono ?_; rintro e w' ⟨rfl, rfl⟩) | (go_at_call 18; refine (two_any _ _ _ (by decide) (by decide) _).mono ?_; rintro e w' ⟨rfl, rfl⟩))
  go_quiet ((go_at_call 23; exact Calls.quiet_of_same ((holds_cond _ _ _ _).mono fun _ _ ⟨h1, h2⟩ => ⟨h1, h2.symm⟩)))
  go_wp2_with (first | (go_at_call 12; refine (holds_any _).mono ?_; rintro e w' ⟨rfl, rfl⟩) | (go_at_call 23; refine (holds_cond _ _ _ _).mono ?_; rintro e w' ⟨rfl, rfl⟩) | (go_at_call 18; refine (two_any _ _ _ (by decide) (by decide) _).mono ?_; rintro e w' ⟨rfl, rfl⟩))
  rw [rounds_succ]
  go_wp2_with (first | (go_at_call 12; refine (holds_any _).mono ?_; rintro e w' ⟨rfl, rfl⟩) | (go_at_call 23; refine (holds_cond _ _ _ _).mono ?_; rintro e w' ⟨rfl, rfl⟩) | (go_at_call 18; refine (two_any _ _ _ (by decide) (by decide) _).mono ?_; rintro e w' ⟨rfl, rfl⟩))
  go_ret
  exact ⟨rfl, by repeat (first | exact Grown.refl _ | apply Grown.drew | apply Grown.alloc)⟩
set_option maxHeartbeats 1000000 in
set_option maxRecDepth 100000 in
theorem NumHolds_1lt (a b : Int) (h : a < b) (w : World) :
    Calls Try.prog 8 #[.int .i64 1, .int .i64 a, .int .i64 b] w fun e w' => e = .returned (.bool true) ∧ Grown w w' := by
  have k0 : cnd 0 a b = false := by unfold cnd; simp; omega
  have k1 : cnd 1 a b = true := by unfold cnd; simp; omega
  have k2 : cnd 2 a b = true := by unfold cnd; simp; omega
  have k3 : cnd 3 a b = false := by unfold cnd; simp; omega
  have k4 : cnd 4 a b = false := by unfold cnd; simp; omega
  have k5 : cnd 5 a b = true := by unfold cnd; simp; omega
  have hb : (a == b) = false := by rw [beq_eq_false_iff_ne]; omega
  have hb' : (a != b) = true := by rw [bne_iff_ne]; omega
  have hba : (b == a) = false := by rw [beq_eq_false_iff_ne]; omega
  have l1 : decide (a ≤ b) = true := by simp; omega
  have l2 : decide (b ≤ a) = false := by simp; omega
  have hc : two 148 a b = -1 := by show cmp3 _ _ = _; unfold cmp3; split <;> (try split) <;> omega
  have hc' : two 148 b a = 1 := by show cmp3 _ _ = _; unfold cmp3; split <;> (try split) <;> omega
  have i0 : ∀ w : World, (Instr.index 35 (.agg #[.int .i64 0, .int .i64 1, .int .i64 2, .int .i64 3, .int .i64 4, .int .i64 5]) (.int .i64 0)).run Try.prog w = .ok (.agg #[.int .i64 0, .int .i64 1]) w := fun _ => by kernel_rfl
  have i1 : ∀ w : World, (Instr.index 35 (.agg #[.int .i64 0, .int .i64 1, .int .i64 2, .int .i64 3, .int .i64 4, .int .i64 5]) (.int .i64 1)).run Try.prog w = .ok (.agg #[.int .i64 2, .int .i64 3]) w := fun _ => by kernel_rfl
  have i2 : ∀ w : World, (Instr.index 35 (.agg #[.int .i64 0, .int .i64 1, .int .i64 2, .int .i64 3, .int .i64 4, .int .i64 5]) (.int .i64 2)).run Try.prog w = .ok (.agg #[.int .i64 4, .int .i64 5]) w := fun _ => by kernel_rfl
  go_enter Try.func8, Try.ntmps8
  go_wp2_with (first | (go_at_call 12; refine (holds_any _).mono ?_; rintro e w' ⟨rfl, rfl⟩) | (go_at_call 23; refine (holds_cond _ _ _ _).mono ?_; rintro e w' ⟨rfl, rfl⟩) | (go_at_call 18; refine (two_any _ _ _ (by decide) (by decide) _).mono ?_; rintro e w' ⟨rfl, rfl⟩))
  refine wp_loop_rounds 4 ?_
  rw [rounds_succ]
  go_wp2_with (first | (go_at_call 12; refine (holds_any _).mono ?_; rintro e w' ⟨rfl, rfl⟩) | (go_at_call 23; refine (holds_cond _ _ _ _).mono ?_; rintro e w' ⟨rfl, rfl⟩) | (go_at_call 18; refine (two_any _ _ _ (by decide) (by decide) _).mono ?_; rintro e w' ⟨rfl, rfl⟩))
  go_quiet ((go_at_call 23; exact Calls.quiet_of_same ((holds_cond _ _ _ _).mono fun _ _ ⟨h1, h2⟩ => ⟨h1, h2.symm⟩)))
  go_wp2_with (first | (go_at_call 12; refine (holds_any _).mono ?_; rintro e w' ⟨rfl, rfl⟩) | (go_at_call 23; refine (holds_cond _ _ _ _).mono ?_; rintro e w' ⟨rfl, rfl⟩) | (go_at_call 18; refine (two_any _ _ _ (by decide) (by decide) _).mono ?_; rintro e w' ⟨rfl, rfl⟩))
  rw [rounds_succ]
  go_wp2_with (first | (go_at_call 12; refine (holds_any _).mono ?_; rintro e w' ⟨rfl, rfl⟩) | (go_at_call 23; refine (holds_cond _ _ _ _).mono ?_; rintro e w' ⟨rfl, rfl⟩) | (go_at_call 18; refine (two_any _ _ _ (by decide) (by decide) _).mono ?_; rintro e w' ⟨rfl, rfl⟩))
  go_quiet ((go_at_call 23; exact Calls.quiet_of_same ((holds_cond _ _ _ _).mono fun _ _ ⟨h1, h2⟩ => ⟨h1, h2.symm⟩)))
  go_wp2_with (first | (go_at_call 12; refine (holds_any _).mono ?_; rintro e w' ⟨rfl, rfl⟩) | (go_at_call 23; refine (holds_cond _ _ _ _).mono ?_; rintro e w' ⟨rfl, rfl⟩) | (go_at_call 18; refine (two_any _ _ _ (by decide) (by decide) _).mono ?_; rintro e w' ⟨rfl, rfl⟩))
  rw [rounds_succ]
  go_wp2_with (first | (go_at_call 12; refine (holds_any _).mono ?_; rintro e w' ⟨rfl, rfl⟩) | (go_at_call 23; refine (holds_cond _ _ _ _).mono ?_; rintro e w' ⟨rfl, rfl⟩) | (go_at_call 18; refine (two_any _ _ _ (by decide) (by decide) _).mono ?_; rintro e w' ⟨rfl, rfl⟩))
  go_quiet ((go_at_call 23; exact Calls.quiet_of_same ((holds_cond _ _ _ _).mono fun _ _ ⟨h1, h2⟩ => ⟨h1, h2.symm⟩)))
  go_wp2_with (first | (go_at_call 12; refine (holds_any _).mono ?_; rintro e w' ⟨rfl, rfl⟩) | (go_at_call 23; refine (holds_cond _ _ _ _).mono ?_; rintro e w' ⟨rfl, rfl⟩) | (go_at_call 18; refine (two_any _ _ _ (by decide) (by decide) _).mono ?_; rintro e w' ⟨rfl, rfl⟩))
  rw [rounds_succ]
  go_wp2_with (first | (go_at_call 12; refine (holds_any _).mono ?_; rintro e w' ⟨rfl, rfl⟩) | (go_at_call 23; refine (holds_cond _ _ _ _).mono ?_; rintro e w' ⟨rfl, rfl⟩) | (go_at_call 18; refine (two_any _ _ _ (by decide) (by decide) _).mono ?_; rintro e w' ⟨rfl, rfl⟩))
  go_ret
  exact ⟨rfl, by repeat (first | exact Grown.refl _ | apply Grown.drew | apply Grown.alloc)⟩
set_option maxHeartbeats 1000000 in
set_option maxRecDepth 100000 in
theorem NumHolds_1gt (a b : Int) (h : b < a) (w : World) :
    Calls Try.prog 8 #[.int .i64 1, .int .i64 a, .int .i64 b] w fun e w' => e = .returned (.bool true) ∧ Grown w w' := by
  have k0 : cnd 0 a b = false := by unfold cnd; simp; omega
  have k1 : cnd 1 a b = true := by unfold cnd; simp; omega
  have k2 : cnd 2 a b = false := by unfold cnd; simp; omega
  have k3 : cnd 3 a b = true := by unfold cnd; simp; omega
  have k4 : cnd 4 a b = true := by unfold cnd; simp; omega
  have k5 : cnd 5 a b = false := by unfold cnd; simp; omega
  have hb : (a == b) = false := by rw [beq_eq_false_iff_ne]; omega
  have hb' : (a != b) = true := by rw [bne_iff_ne]; omega
  have hba : (b == a) = false := by rw [beq_eq_false_iff_ne]; omega
  have l1 : decide (a ≤ b) = false := by simp; omega
  have l2 : decide (b ≤ a) = true := by simp; omega
  have hc : two 148 a b = 1 := by show cmp3 _ _ = _; unfold cmp3; split <;> (try split) <;> omega
  have hc' : two 148 b a = -1 := by show cmp3 _ _ = _; unfold cmp3; split <;> (try split) <;> omega
  have i0 : ∀ w : World, (Instr.index 35 (.agg #[.int .i64 0, .int .i64 1, .int .i64 2, .int .i64 3, .int .i64 4, .int .i64 5]) (.int .i64 0)).run Try.prog w = .ok (.agg #[.int .i64 0, .int .i64 1]) w := fun _ => by kernel_rfl
  have i1 : ∀ w : World, (Instr.index 35 (.agg #[.int .i64 0, .int .i64 1, .int .i64 2, .int .i64 3, .int .i64 4, .int .i64 5]) (.int .i64 1)).run Try.prog w = .ok (.agg #[.int .i64 2, .int .i64 3]) w := fun _ => by kernel_rfl
  have i2 : ∀ w : World, (Instr.index 35 (.agg #[.int .i64 0, .int .i64 1, .int .i64 2, .int .i64 3, .int .i64 4, .int .i64 5]) (.int .i64 2)).run Try.prog w = .ok (.agg #[.int .i64 4, .int .i64 5]) w := fun _ => by kernel_rfl
  go_enter Try.func8, Try.ntmps8
  go_wp2_with (first | (go_at_call 12; refine (holds_any _).mono ?_; rintro e w' ⟨rfl, rfl⟩) | (go_at_call 23; refine (holds_cond _ _ _ _).mono ?_; rintro e w' ⟨rfl, rfl⟩) | (go_at_call 18; refine (two_any _ _ _ (by decide) (by decide) _).mono ?_; rintro e w' ⟨rfl, rfl⟩))
  refine wp_loop_rounds 4 ?_
  rw [rounds_succ]
  go_wp2_with (first | (go_at_call 12; refine (holds_any _).mono ?_; rintro e w' ⟨rfl, rfl⟩) | (go_at_call 23; refine (holds_cond _ _ _ _).mono ?_; rintro e w' ⟨rfl, rfl⟩) | (go_at_call 18; refine (two_any _ _ _ (by decide) (by decide) _).mono ?_; rintro e w' ⟨rfl, rfl⟩))
  go_quiet ((go_at_call 23; exact Calls.quiet_of_same ((holds_cond _ _ _ _).mono fun _ _ ⟨h1, h2⟩ => ⟨h1, h2.symm⟩)))
  go_wp2_with (first | (go_at_call 12; refine (holds_any _).mono ?_; rintro e w' ⟨rfl, rfl⟩) | (go_at_call 23; refine (holds_cond _ _ _ _).mono ?_; rintro e w' ⟨rfl, rfl⟩) | (go_at_call 18; refine (two_any _ _ _ (by decide) (by decide) _).mono ?_; rintro e w' ⟨rfl, rfl⟩))
  rw [rounds_succ]
  go_wp2_with (first | (go_at_call 12; refine (holds_any _).mono ?_; rintro e w' ⟨rfl, rfl⟩) | (go_at_call 23; refine (holds_cond _ _ _ _).mono ?_; rintro e w' ⟨rfl, rfl⟩) | (go_at_call 18; refine (two_any _ _ _ (by decide) (by decide) _).mono ?_; rintro e w' ⟨rfl, rfl⟩))
  go_quiet ((go_at_call 23; exact Calls.quiet_of_same ((holds_cond _ _ _ _).mono fun _ _ ⟨h1, h2⟩ => ⟨h1, h2.symm⟩)))
  go_wp2_with (first | (go_at_call 12; refine (holds_any _).mono ?_; rintro e w' ⟨rfl, rfl⟩) | (go_at_call 23; refine (holds_cond _ _ _ _).mono ?_; rintro e w' ⟨rfl, rfl⟩) | (go_at_call 18; refine (two_any _ _ _ (by decide) (by decide) _).mono ?_; rintro e w' ⟨rfl, rfl⟩))
  rw [rounds_succ]
  go_wp2_with (first | (go_at_call 12; refine (holds_any _).mono ?_; rintro e w' ⟨rfl, rfl⟩) | (go_at_call 23; refine (holds_cond _ _ _ _).mono ?_; rintro e w' ⟨rfl, rfl⟩) | (go_at_call 18; refine (two_any _ _ _ (by decide) (by decide) _).mono ?_; rintro e w' ⟨rfl, rfl⟩))
  go_quiet ((go_at_call 23; exact Calls.quiet_of_same ((holds_cond _ _ _ _).mono fun _ _ ⟨h1, h2⟩ => ⟨h1, h2.symm⟩)))
  go_wp2_with (first | (go_at_call 12; refine (holds_any _).mono ?_; rintro e w' ⟨rfl, rfl⟩) | (go_at_call 23; refine (holds_cond _ _ _ _).mono ?_; rintro e w' ⟨rfl, rfl⟩) | (go_at_call 18; refine (two_any _ _ _ (by decide) (by decide) _).mono ?_; rintro e w' ⟨rfl, rfl⟩))
  rw [rounds_succ]
  go_wp2_with (first | (go_at_call 12; refine (holds_any _).mono ?_; rintro e w' ⟨rfl, rfl⟩) | (go_at_call 23; refine (holds_cond _ _ _ _).mono ?_; rintro e w' ⟨rfl, rfl⟩) | (go_at_call 18; refine (two_any _ _ _ (by decide) (by decide) _).mono ?_; rintro e w' ⟨rfl, rfl⟩))
  go_ret
  exact ⟨rfl, by repeat (first | exact Grown.refl _ | apply Grown.drew | apply Grown.alloc)⟩
set_option maxHeartbeats 1000000 in
set_option maxRecDepth 100000 in
theorem NumHolds_1eq (a : Int)  (w : World) :
    Calls Try.prog 8 #[.int .i64 1, .int .i64 a, .int .i64 a] w fun e w' => e = .returned (.bool true) ∧ Grown w w' := by
  have k0 : cnd 0 a a = true := by unfold cnd; simp
  have k1 : cnd 1 a a = false := by unfold cnd; simp
  have k2 : cnd 2 a a = false := by unfold cnd; simp
  have k3 : cnd 3 a a = true := by unfold cnd; simp
  have k4 : cnd 4 a a = false := by unfold cnd; simp
  have k5 : cnd 5 a a = true := by unfold cnd; simp
  have hc : two 148 a a = 0 := by show cmp3 _ _ = _; unfold cmp3; simp
  have hc' : two 148 a a = 0 := by show cmp3 _ _ = _; unfold cmp3; simp
  have i0 : ∀ w : World, (Instr.index 35 (.agg #[.int .i64 0, .int .i64 1, .int .i64 2, .int .i64 3, .int .i64 4, .int .i64 5]) (.int .i64 0)).run Try.prog w = .ok (.agg #[.int .i64 0, .int .i64 1]) w := fun _ => by kernel_rfl
  have i1 : ∀ w : World, (Instr.index 35 (.agg #[.int .i64 0, .int .i64 1, .int .i64 2, .int .i64 3, .int .i64 4, .int .i64 5]) (.int .i64 1)).run Try.prog w = .ok (.agg #[.int .i64 2, .int .i64 3]) w := fun _ => by kernel_rfl
  have i2 : ∀ w : World, (Instr.index 35 (.agg #[.int .i64 0, .int .i64 1, .int .i64 2, .int .i64 3, .int .i64 4, .int .i64 5]) (.int .i64 2)).run Try.prog w = .ok (.agg #[.int .i64 4, .int .i64 5]) w := fun _ => by kernel_rfl
  go_enter Try.func8, Try.ntmps8
  go_wp2_with (first | (go_at_call 12; refine (holds_any _).mono ?_; rintro e w' ⟨rfl, rfl⟩) | (go_at_call 23; refine (holds_cond _ _ _ _).mono ?_; rintro e w' ⟨rfl, rfl⟩) | (go_at_call 18; refine (two_any _ _ _ (by decide) (by decide) _).mono ?_; rintro e w' ⟨rfl, rfl⟩))
  refine wp_loop_rounds 4 ?_
  rw [rounds_succ]
  go_wp2_with (first | (go_at_call 12; refine (holds_any _).mono ?_; rintro e w' ⟨rfl, rfl⟩) | (go_at_call 23; refine (holds_cond _ _ _ _).mono ?_; rintro e w' ⟨rfl, rfl⟩) | (go_at_call 18; refine (two_any _ _ _ (by decide) (by decide) _).mono ?_; rintro e w' ⟨rfl, rfl⟩))
  go_quiet ((go_at_call 23; exact Calls.quiet_of_same ((holds_cond _ _ _ _).mono fun _ _ ⟨h1, h2⟩ => ⟨h1, h2.symm⟩)))
  go_wp2_with (first | (go_at_call 12; refine (holds_any _).mono ?_; rintro e w' ⟨rfl, rfl⟩) | (go_at_call 23; refine (holds_cond _ _ _ _).mono ?_; rintro e w' ⟨rfl, rfl⟩) | (go_at_call 18; refine (two_any _ _ _ (by decide) (by decide) _).mono ?_; rintro e w' ⟨rfl, rfl⟩))
  rw [rounds_succ]
  go_wp2_with (first | (go_at_call 12; refine (holds_any _).mono ?_; rintro e w' ⟨rfl, rfl⟩) | (go_at_call 23; refine (holds_cond _ _ _ _).mono ?_; rintro e w' ⟨rfl, rfl⟩) | (go_at_call 18; refine (two_any _ _ _ (by decide) (by decide) _).mono ?_; rintro e w' ⟨rfl, rfl⟩))
  go_quiet ((go_at_call 23; exact Calls.quiet_of_same ((holds_cond _ _ _ _).mono fun _ _ ⟨h1, h2⟩ => ⟨h1, h2.symm⟩)))
  go_wp2_with (first | (go_at_call 12; refine (holds_any _).mono ?_; rintro e w' ⟨rfl, rfl⟩) | (go_at_call 23; refine (holds_cond _ _ _ _).mono ?_; rintro e w' ⟨rfl, rfl⟩) | (go_at_call 18; refine (two_any _ _ _ (by decide) (by decide) _).mono ?_; rintro e w' ⟨rfl, rfl⟩))
  rw [rounds_succ]
  go_wp2_with (first | (go_at_call 12; refine (holds_any _).mono ?_; rintro e w' ⟨rfl, rfl⟩) | (go_at_call 23; refine (holds_cond _ _ _ _).mono ?_; rintro e w' ⟨rfl, rfl⟩) | (go_at_call 18; refine (two_any _ _ _ (by decide) (by decide) _).mono ?_; rintro e w' ⟨rfl, rfl⟩))
  go_quiet ((go_at_call 23; exact Calls.quiet_of_same ((holds_cond _ _ _ _).mono fun _ _ ⟨h1, h2⟩ => ⟨h1, h2.symm⟩)))
  go_wp2_with (first | (go_at_call 12; refine (holds_any _).mono ?_; rintro e w' ⟨rfl, rfl⟩) | (go_at_call 23; refine (holds_cond _ _ _ _).mono ?_; rintro e w' ⟨rfl, rfl⟩) | (go_at_call 18; refine (two_any _ _ _ (by decide) (by decide) _).mono ?_; rintro e w' ⟨rfl, rfl⟩))
  rw [rounds_succ]
  go_wp2_with (first | (go_at_call 12; refine (holds_any _).mono ?_; rintro e w' ⟨rfl, rfl⟩) | (go_at_call 23; refine (holds_cond _ _ _ _).mono ?_; rintro e w' ⟨rfl, rfl⟩) | (go_at_call 18; refine (two_any _ _ _ (by decide) (by decide) _).mono ?_; rintro e w' ⟨rfl, rfl⟩))
  go_ret
  exact ⟨rfl, by repeat (first | exact Grown.refl _ | apply Grown.drew | apply Grown.alloc)⟩
set_option maxHeartbeats 1000000 in
set_option maxRecDepth 100000 in
theorem NumHolds_2lt (a b : Int) (h : a < b) (w : World) :
    Calls Try.prog 8 #[.int .i64 2, .int .i64 a, .int .i64 b] w fun e w' => e = .returned (.bool true) ∧ Grown w w' := by
  have k0 : cnd 0 a b = false := by unfold cnd; simp; omega
  have k1 : cnd 1 a b = true := by unfold cnd; simp; omega
  have k2 : cnd 2 a b = true := by unfold cnd; simp; omega
  have k3 : cnd 3 a b = false := by unfold cnd; simp; omega
  have k4 : cnd 4 a b = false := by unfold cnd; simp; omega
  have k5 : cnd 5 a b = true := by unfold cnd; simp; omega
  have hb : (a == b) = false := by rw [beq_eq_false_iff_ne]; omega
  have hb' : (a != b) = true := by rw [bne_iff_ne]; omega
  have hba : (b == a) = false := by rw [beq_eq_false_iff_ne]; omega
  have l1 : decide (a ≤ b) = true := by simp; omega
  have l2 : decide (b ≤ a) = false := by simp; omega
  have hc : two 148 a b = -1 := by show cmp3 _ _ = _; unfold cmp3; split <;> (try split) <;> omega
  have hc' : two 148 b a = 1 := by show cmp3 _ _ = _; unfold cmp3; split <;> (try split) <;> omega
  have i0 : ∀ w : World, (Instr.index 35 (.agg #[.int .i64 0, .int .i64 1, .int .i64 2, .int .i64 3, .int .i64 4, .int .i64 5]) (.int .i64 0)).run Try.prog w = .ok (.agg #[.int .i64 0, .int .i64 1]) w := fun _ => by kernel_rfl
  have i1 : ∀ w : World, (Instr.index 35 (.agg #[.int .i64 0, .int .i64 1, .int .i64 2, .int .i64 3, .int .i64 4, .int .i64 5]) (.int .i64 1)).run Try.prog w = .ok (.agg #[.int .i64 2, .int .i64 3]) w := fun _ => by kernel_rfl
  have i2 : ∀ w : World, (Instr.index 35 (.agg #[.int .i64 0, .int .i64 1, .int .i64 2, .int .i64 3, .int .i64 4, .int .i64 5]) (.int .i64 2)).run Try.prog w = .ok (.agg #[.int .i64 4, .int .i64 5]) w := fun _ => by kernel_rfl
  go_enter Try.func8, Try.ntmps8
  go_wp2_with (first | (go_at_call 12; refine (holds_any _).mono ?_; rintro e w' ⟨rfl, rfl⟩) | (go_at_call 23; refine (holds_cond _ _ _ _).mono ?_; rintro e w' ⟨rfl, rfl⟩) | (go_at_call 18; refine (two_any _ _ _ (by decide) (by decide) _).mono ?_; rintro e w' ⟨rfl, rfl⟩))
  refine wp_loop_rounds 4 ?_
  rw [rounds_succ]
  go_wp2_with (first | (go_at_call 12; refine (holds_any _).mono ?_; rintro e w' ⟨rfl, rfl⟩) | (go_at_call 23; refine (holds_cond _ _ _ _).mono ?_; rintro e w' ⟨rfl, rfl⟩) | (go_at_call 18; refine (two_any _ _ _ (by decide) (by decide) _).mono ?_; rintro e w' ⟨rfl, rfl⟩))
  go_quiet ((go_at_call 23; exact Calls.quiet_of_same ((holds_cond _ _ _ _).mono fun _ _ ⟨h1, h2⟩ => ⟨h1, h2.symm⟩)))
  go_wp2_with (first | (go_at_call 12; refine (holds_any _).mono ?_; rintro e w' ⟨rfl, rfl⟩) | (go_at_call 23; refine (holds_cond _ _ _ _).mono ?_; rintro e w' ⟨rfl, rfl⟩) | (go_at_call 18; refine (two_any _ _ _ (by decide) (by decide) _).mono ?_; rintro e w' ⟨rfl, rfl⟩))
  rw [rounds_succ]
  go_wp2_with (first | (go_at_call 12; refine (holds_any _).mono ?_; rintro e w' ⟨rfl, rfl⟩) | (go_at_call 23; refine (holds_cond _ _ _ _).mono ?_; rintro e w' ⟨rfl, rfl⟩) | (go_at_call 18; refine (two_any _ _ _ (by decide) (by decide) _).mono ?_; rintro e w' ⟨rfl, rfl⟩))
  go_quiet ((go_at_call 23; exact Calls.quiet_of_same ((holds_cond _ _ _ _).mono fun _ _ ⟨h1, h2⟩ => ⟨h1, h2.symm⟩)))
  go_wp2_with (first | (go_at_call 12; refine (holds_any _).mono ?_; rintro e w' ⟨rfl, rfl⟩) | (go_at_call 23; refine (holds_cond _ _ _ _).mono ?_; rintro e w' ⟨rfl, rfl⟩) | (go_at_call 18; refine (two_any _ _ _ (by decide) (by decide) _).mono ?_; rintro e w' ⟨rfl, rfl⟩))
  rw [rounds_succ]
  go_wp2_with (first | (go_at_call 12; refine (holds_any _).mono ?_; rintro e w' ⟨rfl, rfl⟩) | (go_at_call 23; refine (holds_cond _ _ _ _).mono ?_; rintro e w' ⟨rfl, rfl⟩) | (go_at_call 18; refine (two_any _ _ _ (by decide) (by decide) _).mono ?_; rintro e w' ⟨rfl, rfl⟩))
  go_quiet ((go_at_call 23; exact Calls.quiet_of_same ((holds_cond _ _ _ _).mono fun _ _ ⟨h1, h2⟩ => ⟨h1, h2.symm⟩)))
  go_wp2_with (first | (go_at_call 12; refine (holds_any _).mono ?_; rintro e w' ⟨rfl, rfl⟩) | (go_at_call 23; refine (holds_cond _ _ _ _).mono ?_; rintro e w' ⟨rfl, rfl⟩) | (go_at_call 18; refine (two_any _ _ _ (by decide) (by decide) _).mono ?_; rintro e w' ⟨rfl, rfl⟩))
  rw [rounds_succ]
  go_wp2_with (first | (go_at_call 12; refine (holds_any _).mono ?_; rintro e w' ⟨rfl, rfl⟩) | (go_at_call 23; refine (holds_cond _ _ _ _).mono ?_; rintro e w' ⟨rfl, rfl⟩) | (go_at_call 18; refine (two_any _ _ _ (by decide) (by decide) _).mono ?_; rintro e w' ⟨rfl, rfl⟩))
  go_ret
  exact ⟨rfl, by repeat (first | exact Grown.refl _ | apply Grown.drew | apply Grown.alloc)⟩
set_option maxHeartbeats 1000000 in
set_option maxRecDepth 100000 in
theorem NumHolds_2gt (a b : Int) (h : b < a) (w : World) :
    Calls Try.prog 8 #[.int .i64 2, .int .i64 a, .int .i64 b] w fun e w' => e = .returned (.bool true) ∧ Grown w w' := by
  have k0 : cnd 0 a b = false := by unfold cnd; simp; omega
  have k1 : cnd 1 a b = true := by unfold cnd; simp; omega
  have k2 : cnd 2 a b = false := by unfold cnd; simp; omega
  have k3 : cnd 3 a b = true := by unfold cnd; simp; omega
  have k4 : cnd 4 a b = true := by unfold cnd; simp; omega
  have k5 : cnd 5 a b = false := by unfold cnd; simp; omega
  have hb : (a == b) = false := by rw [beq_eq_false_iff_ne]; omega
  have hb' : (a != b) = true := by rw [bne_iff_ne]; omega
  have hba : (b == a) = false := by rw [beq_eq_false_iff_ne]; omega
  have l1 : decide (a ≤ b) = false := by simp; omega
  have l2 : decide (b ≤ a) = true := by simp; omega
  have hc : two 148 a b = 1 := by show cmp3 _ _ = _; unfold cmp3; split <;> (try split) <;> omega
  have hc' : two 148 b a = -1 := by show cmp3 _ _ = _; unfold cmp3; split <;> (try split) <;> omega
  have i0 : ∀ w : World, (Instr.index 35 (.agg #[.int .i64 0, .int .i64 1, .int .i64 2, .int .i64 3, .int .i64 4, .int .i64 5]) (.int .i64 0)).run Try.prog w = .ok (.agg #[.int .i64 0, .int .i64 1]) w := fun _ => by kernel_rfl
  have i1 : ∀ w : World, (Instr.index 35 (.agg #[.int .i64 0, .int .i64 1, .int .i64 2, .int .i64 3, .int .i64 4, .int .i64 5]) (.int .i64 1)).run Try.prog w = .ok (.agg #[.int .i64 2, .int .i64 3]) w := fun _ => by kernel_rfl
  have i2 : ∀ w : World, (Instr.index 35 (.agg #[.int .i64 0, .int .i64 1, .int .i64 2, .int .i64 3, .int .i64 4, .int .i64 5]) (.int .i64 2)).run Try.prog w = .ok (.agg #[.int .i64 4, .int .i64 5]) w := fun _ => by kernel_rfl
  go_enter Try.func8, Try.ntmps8
  go_wp2_with (first | (go_at_call 12; refine (holds_any _).mono ?_; rintro e w' ⟨rfl, rfl⟩) | (go_at_call 23; refine (holds_cond _ _ _ _).mono ?_; rintro e w' ⟨rfl, rfl⟩) | (go_at_call 18; refine (two_any _ _ _ (by decide) (by decide) _).mono ?_; rintro e w' ⟨rfl, rfl⟩))
  refine wp_loop_rounds 4 ?_
  rw [rounds_succ]
  go_wp2_with (first | (go_at_call 12; refine (holds_any _).mono ?_; rintro e w' ⟨rfl, rfl⟩) | (go_at_call 23; refine (holds_cond _ _ _ _).mono ?_; rintro e w' ⟨rfl, rfl⟩) | (go_at_call 18; refine (two_any _ _ _ (by decide) (by decide) _).mono ?_; rintro e w' ⟨rfl, rfl⟩))
  go_quiet ((go_at_call 23; exact Calls.quiet_of_same ((holds_cond _ _ _ _).mono fun _ _ ⟨h1, h2⟩ => ⟨h1, h2.symm⟩)))
  go_wp2_with (first | (go_at_call 12; refine (holds_any _).mono ?_; rintro e w' ⟨rfl, rfl⟩) | (go_at_call 23; refine (holds_cond _ _ _ _).mono ?_; rintro e w' ⟨rfl, rfl⟩) | (go_at_call 18; refine (two_any _ _ _ (by decide) (by decide) _).mono ?_; rintro e w' ⟨rfl, rfl⟩))
  rw [rounds_succ]
  go_wp2_with (first | (go_at_call 12; refine (holds_any _).mono ?_; rintro e w' ⟨rfl, rfl⟩) | (go_at_call 23; refine (holds_cond _ _ _ _).mono ?_; rintro e w' ⟨rfl, rfl⟩) | (go_at_call 18; refine (two_any _ _ _ (by decide) (by decide) _).mono ?_; rintro e w' ⟨rfl, rfl⟩))
  go_quiet ((go_at_call 23; exact Calls.quiet_of_same ((holds_cond _ _ _ _).mono fun _ _ ⟨h1, h2⟩ => ⟨h1, h2.symm⟩)))
  go_wp2_with (first | (go_at_call 12; refine (holds_any _).mono ?_; rintro e w' ⟨rfl, rfl⟩) | (go_at_call 23; refine (holds_cond _ _ _ _).mono ?_; rintro e w' ⟨rfl, rfl⟩) | (go_at_call 18; refine (two_any _ _ _ (by decide) (by decide) _).mono ?_; rintro e w' ⟨rfl, rfl⟩))
  rw [rounds_succ]
  go_wp2_with (first | (go_at_call 12; refine (holds_any _).mono ?_; rintro e w' ⟨rfl, rfl⟩) | (go_at_call 23; refine (holds_cond _ _ _ _).mono ?_; rintro e w' ⟨rfl, rfl⟩) | (go_at_call 18; refine (two_any _ _ _ (by decide) (by decide) _).mono ?_; rintro e w' ⟨rfl, rfl⟩))
  go_quiet ((go_at_call 23; exact Calls.quiet_of_same ((holds_cond _ _ _ _).mono fun _ _ ⟨h1, h2⟩ => ⟨h1, h2.symm⟩)))
  go_wp2_with (first | (go_at_call 12; refine (holds_any _).mono ?_; rintro e w' ⟨rfl, rfl⟩) | (go_at_call 23; refine (holds_cond _ _ _ _).mono ?_; rintro e w' ⟨rfl, rfl⟩) | (go_at_call 18; refine (two_any _ _ _ (by decide) (by decide) _).mono ?_; rintro e w' ⟨rfl, rfl⟩))
  rw [rounds_succ]
  go_wp2_with (first | (go_at_call 12; refine (holds_any _).mono ?_; rintro e w' ⟨rfl, rfl⟩) | (go_at_call 23; refine (holds_cond _ _ _ _).mono ?_; rintro e w' ⟨rfl, rfl⟩) | (go_at_call 18; refine (two_any _ _ _ (by decide) (by decide) _).mono ?_; rintro e w' ⟨rfl, rfl⟩))
  go_ret
  exact ⟨rfl, by repeat (first | exact Grown.refl _ | apply Grown.drew | apply Grown.alloc)⟩
set_option maxHeartbeats 1000000 in
set_option maxRecDepth 100000 in
theorem NumHolds_2eq (a : Int)  (w : World) :
    Calls Try.prog 8 #[.int .i64 2, .int .i64 a, .int .i64 a] w fun e w' => e = .returned (.bool true) ∧ Grown w w' := by
  have k0 : cnd 0 a a = true := by unfold cnd; simp
  have k1 : cnd 1 a a = false := by unfold cnd; simp
  have k2 : cnd 2 a a = false := by unfold cnd; simp
  have k3 : cnd 3 a a = true := by unfold cnd; simp
  have k4 : cnd 4 a a = false := by unfold cnd; simp
  have k5 : cnd 5 a a = true := by unfold cnd; simp
  have hc : two 148 a a = 0 := by show cmp3 _ _ = _; unfold cmp3; simp
  have hc' : two 148 a a = 0 := by show cmp3 _ _ = _; unfold cmp3; simp
  have i0 : ∀ w : World, (Instr.index 35 (.agg #[.int .i64 0, .int .i64 1, .int .i64 2, .int .i64 3, .int .i64 4, .int .i64 5]) (.int .i64 0)).run Try.prog w = .ok (.agg #[.int .i64 0, .int .i64 1]) w := fun _ => by kernel_rfl
  have i1 : ∀ w : World, (Instr.index 35 (.agg #[.int .i64 0, .int .i64 1, .int .i64 2, .int .i64 3, .int .i64 4, .int .i64 5]) (.int .i64 1)).run Try.prog w = .ok (.agg #[.int .i64 2, .int .i64 3]) w := fun _ => by kernel_rfl
  have i2 : ∀ w : World, (Instr.index 35 (.agg #[.int .i64 0, .int .i64 1, .int .i64 2, .int .i64 3, .int .i64 4, .int .i64 5]) (.int .i64 2)).run Try.prog w = .ok (.agg #[.int .i64 4, .int .i64 5]) w := fun _ => by kernel_rfl
  go_enter Try.func8, Try.ntmps8
  go_wp2_with (first | (go_at_call 12; refine (holds_any _).mono ?_; rintro e w' ⟨rfl, rfl⟩) | (go_at_call 23; refine (holds_cond _ _ _ _).mono ?_; rintro e w' ⟨rfl, rfl⟩) | (go_at_call 18; refine (two_any _ _ _ (by decide) (by decide) _).mono ?_; rintro e w' ⟨rfl, rfl⟩))
  refine wp_loop_rounds 4 ?_
  rw [rounds_succ]
  go_wp2_with (first | (go_at_call 12; refine (holds_any _).mono ?_; rintro e w' ⟨rfl, rfl⟩) | (go_at_call 23; refine (holds_cond _ _ _ _).mono ?_; rintro e w' ⟨rfl, rfl⟩) | (go_at_call 18; refine (two_any _ _ _ (by decide) (by decide) _).mono ?_; rintro e w' ⟨rfl, rfl⟩))
  go_quiet ((go_at_call 23; exact Calls.quiet_of_same ((holds_cond _ _ _ _).mono fun _ _ ⟨h1, h2⟩ => ⟨h1, h2.symm⟩)))
  go_wp2_with (first | (go_at_call 12; refine (holds_any _).mono ?_; rintro e w' ⟨rfl, rfl⟩) | (go_at_call 23; refine (holds_cond _ _ _ _).mono ?_; rintro e w' ⟨rfl, rfl⟩) | (go_at_call 18; refine (two_any _ _ _ (by decide) (by decide) _).mono ?_; rintro e w' ⟨rfl, rfl⟩))
  rw [rounds_succ]
  go_wp2_with (first | (go_at_call 12; refine (holds_any _).mono ?_; rintro e w' ⟨rfl, rfl⟩) | (go_at_call 23; refine (holds_cond _ _ _ _).mono ?_; rintro e w' ⟨rfl, rfl⟩) | (go_at_call 18; refine (two_any _ _ _ (by decide) (by decide) _).mono ?_; rintro e w' ⟨rfl, rfl⟩))
  go_quiet ((go_at_call 23; exact Calls.quiet_of_same ((holds_cond _ _ _ _).mono fun _ _ ⟨h1, h2⟩ => ⟨h1, h2.symm⟩)))
  go_wp2_with (first | (go_at_call 12; refine (holds_any _).mono ?_; rintro e w' ⟨rfl, rfl⟩) | (go_at_call 23; refine (holds_cond _ _ _ _).mono ?_; rintro e w' ⟨rfl, rfl⟩) | (go_at_call 18; refine (two_any _ _ _ (by decide) (by decide) _).mono ?_; rintro e w' ⟨rfl, rfl⟩))
  rw [rounds_succ]
  go_wp2_with (first | (go_at_call 12; refine (holds_any _).mono ?_; rintro e w' ⟨rfl, rfl⟩) | (go_at_call 23; refine (holds_cond _ _ _ _).mono ?_; rintro e w' ⟨rfl, rfl⟩) | (go_at_call 18; refine (two_any _ _ _ (by decide) (by decide) _).mono ?_; rintro e w' ⟨rfl, rfl⟩))
  go_quiet ((go_at_call 23; exact Calls.quiet_of_same ((holds_cond _ _ _ _).mono fun _ _ ⟨h1, h2⟩ => ⟨h1, h2.symm⟩)))
  go_wp2_with (first | (go_at_call 12; refine (holds_any _).mono ?_; rintro e w' ⟨rfl, rfl⟩) | (go_at_call 23; refine (holds_cond _ _ _ _).mono ?_; rintro e w' ⟨rfl, rfl⟩) | (go_at_call 18; refine (two_any _ _ _ (by decide) (by decide) _).mono ?_; rintro e w' ⟨rfl, rfl⟩))
  rw [rounds_succ]
  go_wp2_with (first | (go_at_call 12; refine (holds_any _).mono ?_; rintro e w' ⟨rfl, rfl⟩) | (go_at_call 23; refine (holds_cond _ _ _ _).mono ?_; rintro e w' ⟨rfl, rfl⟩) | (go_at_call 18; refine (two_any _ _ _ (by decide) (by decide) _).mono ?_; rintro e w' ⟨rfl, rfl⟩))
  go_ret
  exact ⟨rfl, by repeat (first | exact Grown.refl _ | apply Grown.drew | apply Grown.alloc)⟩
set_option maxHeartbeats 1000000 in
set_option maxRecDepth 100000 in
theorem NumHolds_3lt (a b : Int) (h : a < b) (w : World) :
    Calls Try.prog 8 #[.int .i64 3, .int .i64 a, .int .i64 b] w fun e w' => e = .returned (.bool true) ∧ Grown w w' := by
  have k0 : cnd 0 a b = false := by unfold cnd; simp; omega
  have k1 : cnd 1 a b = true := by unfold cnd; simp; omega
  have k2 : cnd 2 a b = true := by unfold cnd; simp; omega
  have k3 : cnd 3 a b = false := by unfold cnd; simp; omega
  have k4 : cnd 4 a b = false := by unfold cnd; simp; omega
  have k5 : cnd 5 a b = true := by unfold cnd; simp; omega
  have hb : (a == b) = false := by rw [beq_eq_false_iff_ne]; omega
  have hb' : (a != b) = true := by rw [bne_iff_ne]; omega
  have hba : (b == a) = false := by rw [beq_eq_false_iff_ne]; omega
  have l1 : decide (a ≤ b) = true := by simp; omega
  have l2 : decide (b ≤ a) = false := by simp; omega
  have hc : two 148 a b = -1 := by show cmp3 _ _ = _; unfold cmp3; split <;> (try split) <;> omega
  have hc' : two 148 b a = 1 := by show cmp3 _ _ = _; unfold cmp3; split <;> (try split) <;> omega
  have i0 : ∀ w : World, (Instr.index 35 (.agg #[.int .i64 0, .int .i64 1, .int .i64 2, .int .i64 3, .int .i64 4, .int .i64 5]) (.int .i64 0)).run Try.prog w = .ok (.agg #[.int .i64 0, .int .i64 1]) w := fun _ => by kernel_rfl
  have i1 : ∀ w : World, (Instr.index 35 (.agg #[.int .i64 0, .int .i64 1, .int .i64 2, .int .i64 3, .int .i64 4, .int .i64 5]) (.int .i64 1)).run Try.prog w = .ok (.agg #[.int .i64 2, .int .i64 3]) w := fun _ => by kernel_rfl
  have i2 : ∀ w : World, (Instr.index 35 (.agg #[.int .i64 0, .int .i64 1, .int .i64 2, .int .i64 3, .int .i64 4, .int .i64 5]) (.int .i64 2)).run Try.prog w = .ok (.agg #[.int .i64 4, .int .i64 5]) w := fun _ => by kernel_rfl
  go_enter Try.func8, Try.ntmps8
  go_wp2_with (first | (go_at_call 12; refine (holds_any _).mono ?_; rintro e w' ⟨rfl, rfl⟩) | (go_at_call 23; refine (holds_cond _ _ _ _).mono ?_; rintro e w' ⟨rfl, rfl⟩) | (go_at_call 18; refine (two_any _ _ _ (by decide) (by decide) _).mono ?_; rintro e w' ⟨rfl, rfl⟩))
  refine wp_loop_rounds 4 ?_
  rw [rounds_succ]
  go_wp2_with (first | (go_at_call 12; refine (holds_any _).mono ?_; rintro e w' ⟨rfl, rfl⟩) | (go_at_call 23; refine (holds_cond _ _ _ _).mono ?_; rintro e w' ⟨rfl, rfl⟩) | (go_at_call 18; refine (two_any _ _ _ (by decide) (by decide) _).mono ?_; rintro e w' ⟨rfl, rfl⟩))
  go_quiet ((go_at_call 23; exact Calls.quiet_of_same ((holds_cond _ _ _ _).mono fun _ _ ⟨h1, h2⟩ => ⟨h1, h2.symm⟩)))
  go_wp2_with (first | (go_at_call 12; refine (holds_any _).mono ?_; rintro e w' ⟨rfl, rfl⟩) | (go_at_call 23; refine (holds_cond _ _ _ _).mono ?_; rintro e w' ⟨rfl, rfl⟩) | (go_at_call 18; refine (two_any _ _ _ (by decide) (by decide) _).mono ?_; rintro e w' ⟨rfl, rfl⟩))
  rw [rounds_succ]
  go_wp2_with (first | (go_at_call 12; refine (holds_any _).mono ?_; rintro e w' ⟨rfl, rfl⟩) | (go_at_call 23; refine (holds_cond _ _ _ _).mono ?_; rintro e w' ⟨rfl, rfl⟩) | (go_at_call 18; refine (two_any _ _ _ (by decide) (by decide) _).mono ?_; rintro e w' ⟨rfl, rfl⟩))
  go_quiet ((go_at_call 23; exact Calls.quiet_of_same ((holds_cond _ _ _ _).mono fun _ _ ⟨h1, h2⟩ => ⟨h1, h2.symm⟩)))
  go_wp2_with (first | (go_at_call 12; refine (holds_any _).mono ?_; rintro e w' ⟨rfl, rfl⟩) | (go_at_call 23; refine (holds_cond _ _ _ _).mono ?_; rintro e w' ⟨rfl, rfl⟩) | (go_at_call 18; refine (two_any _ _ _ (by decide) (by decide) _).mono ?_; rintro e w' ⟨rfl, rfl⟩))
  rw [rounds_succ]
  go_wp2_with (first | (go_at_call 12; refine (holds_any _).mono ?_; rintro e w' ⟨rfl, rfl⟩) | (go_at_call 23; refine (holds_cond _ _ _ _).mono ?_; rintro e w' ⟨rfl, rfl⟩) | (go_at_call 18; refine (two_any _ _ _ (by decide) (by decide) _).mono ?_; rintro e w' ⟨rfl, rfl⟩))
  go_quiet ((go_at_call 23; exact Calls.quiet_of_same ((holds_cond _ _ _ _).mono fun _ _ ⟨h1, h2⟩ => ⟨h1, h2.symm⟩)))
  go_wp2_with (first | (go_at_call 12; refine (holds_any _).mono ?_; rintro e w' ⟨rfl, rfl⟩) | (go_at_call 23; refine (holds_cond _ _ _ _).mono ?_; rintro e w' ⟨rfl, rfl⟩) | (go_at_call 18; refine (two_any _ _ _ (by decide) (by decide) _).mono ?_; rintro e w' ⟨rfl, rfl⟩))
  rw [rounds_succ]
  go_wp2_with (first | (go_at_call 12; refine (holds_any _).mono ?_; rintro e w' ⟨rfl, rfl⟩) | (go_at_call 23; refine (holds_cond _ _ _ _).mono ?_; rintro e w' ⟨rfl, rfl⟩) | (go_at_call 18; refine (two_any _ _ _ (by decide) (by decide) _).mono ?_; rintro e w' ⟨rfl, rfl⟩))
  go_ret
  exact ⟨rfl, by repeat (first | exact Grown.refl _ | apply Grown.drew | apply Grown.alloc)⟩
set_option maxHeartbeats 1000000 in
set_option maxRecDepth 100000 in
theorem NumHolds_3gt (a b : Int) (h : b < a) (w : World) :
    Calls Try.prog 8 #[.int .i64 3, .int .i64 a, .int .i64 b] w fun e w' => e = .returned (.bool true) ∧ Grown w w' := by
  have k0 : cnd 0 a b = false := by unfold cnd; simp; omega
  have k1 : cnd 1 a b = true := by unfold cnd; simp; omega
  have k2 : cnd 2 a b = false := by unfold cnd; simp; omega
  have k3 : cnd 3 a b = true := by unfold cnd; simp; omega
  have k4 : cnd 4 a b = true := by unfold cnd; simp; omega
  have k5 : cnd 5 a b = false := by unfold cnd; simp; omega
  have hb : (a == b) = false := by rw [beq_eq_false_iff_ne]; omega
  have hb' : (a != b) = true := by rw [bne_iff_ne]; omega
  have hba : (b == a) = false := by rw [beq_eq_false_iff_ne]; omega
  have l1 : decide (a ≤ b) = false := by simp; omega
  have l2 : decide (b ≤ a) = true := by simp; omega
  have hc : two 148 a b = 1 := by show cmp3 _ _ = _; unfold cmp3; split <;> (try split) <;> omega
  have hc' : two 148 b a = -1 := by show cmp3 _ _ = _; unfold cmp3; split <;> (try split) <;> omega
  have i0 : ∀ w : World, (Instr.index 35 (.agg #[.int .i64 0, .int .i64 1, .int .i64 2, .int .i64 3, .int .i64 4, .int .i64 5]) (.int .i64 0)).run Try.prog w = .ok (.agg #[.int .i64 0, .int .i64 1]) w := fun _ => by kernel_rfl
  have i1 : ∀ w : World, (Instr.index 35 (.agg #[.int .i64 0, .int .i64 1, .int .i64 2, .int .i64 3, .int .i64 4, .int .i64 5]) (.int .i64 1)).run Try.prog w = .ok (.agg #[.int .i64 2, .int .i64 3]) w := fun _ => by kernel_rfl
  have i2 : ∀ w : World, (Instr.index 35 (.agg #[.int .i64 0, .int .i64 1, .int .i64 2, .int .i64 3, .int .i64 4, .int .i64 5]) (.int .i64 2)).run Try.prog w = .ok (.agg #[.int .i64 4, .int .i64 5]) w := fun _ => by kernel_rfl
  go_enter Try.func8, Try.ntmps8
  go_wp2_with (first | (go_at_call 12; refine (holds_any _).mono ?_; rintro e w' ⟨rfl, rfl⟩) | (go_at_call 23; refine (holds_cond _ _ _ _).mono ?_; rintro e w' ⟨rfl, rfl⟩) | (go_at_call 18; refine (two_any _ _ _ (by decide) (by decide) _).mono ?_; rintro e w' ⟨rfl, rfl⟩))
  refine wp_loop_rounds 4 ?_
  rw [rounds_succ]
  go_wp2_with (first | (go_at_call 12; refine (holds_any _).mono ?_; rintro e w' ⟨rfl, rfl⟩) | (go_at_call 23; refine (holds_cond _ _ _ _).mono ?_; rintro e w' ⟨rfl, rfl⟩) | (go_at_call 18; refine (two_any _ _ _ (by decide) (by decide) _).mono ?_; rintro e w' ⟨rfl, rfl⟩))
  go_quiet ((go_at_call 23; exact Calls.quiet_of_same ((holds_cond _ _ _ _).mono fun _ _ ⟨h1, h2⟩ => ⟨h1, h2.symm⟩)))
  go_wp2_with (first | (go_at_call 12; refine (holds_any _).mono ?_; rintro e w' ⟨rfl, rfl⟩) | (go_at_call 23; refine (holds_cond _ _ _ _).mono ?_; rintro e w' ⟨rfl, rfl⟩) | (go_at_call 18; refine (two_any _ _ _ (by decide) (by decide) _).mono ?_; rintro e w' ⟨rfl, rfl⟩))
  rw [rounds_succ]
  go_wp2_with (first | (go_at_call 12; refine (holds_any _).mono ?_; rintro e w' ⟨rfl, rfl⟩) | (go_at_call 23; refine (holds_cond _ _ _ _).mono ?_; rintro e w' ⟨rfl, rfl⟩) | (go_at_call 18; refine (two_any _ _ _ (by decide) (by decide) _).mono ?_; rintro e w' ⟨rfl, rfl⟩))
  go_quiet ((go_at_call 23; exact Calls.quiet_of_same ((holds_cond _ _ _ _).mono fun _ _ ⟨h1, h2⟩ => ⟨h1, h2.symm⟩)))
  go_wp2_with (first | (go_at_call 12; refine (holds_any _).mono ?_; rintro e w' ⟨rfl, rfl⟩) | (go_at_call 23; refine (holds_cond _ _ _ _).mono ?_; rintro e w' ⟨rfl, rfl⟩) | (go_at_call 18; refine (two_any _ _ _ (by decide) (by decide) _).mono ?_; rintro e w' ⟨rfl, rfl⟩))
  rw [rounds_succ]
  go_wp2_with (first | (go_at_call 12; refine (holds_any _).mono ?_; rintro e w' ⟨rfl, rfl⟩) | (go_at_call 23; refine (holds_cond _ _ _ _).mono ?_; rintro e w' ⟨rfl, rfl⟩) | (go_at_call 18; refine (two_any _ _ _ (by decide) (by decide) _).mono ?_; rintro e w' ⟨rfl, rfl⟩))
  go_quiet ((go_at_call 23; exact Calls.quiet_of_same ((holds_cond _ _ _ _).mono fun _ _ ⟨h1, h2⟩ => ⟨h1, h2.symm⟩)))
  go_wp2_with (first | (go_at_call 12; refine (holds_any _).mono ?_; rintro e w' ⟨rfl, rfl⟩) | (go_at_call 23; refine (holds_cond _ _ _ _).mono ?_; rintro e w' ⟨rfl, rfl⟩) | (go_at_call 18; refine (two_any _ _ _ (by decide) (by decide) _).mono ?_; rintro e w' ⟨rfl, rfl⟩))
  rw [rounds_succ]
  go_wp2_with (first | (go_at_call 12; refine (holds_any _).mono ?_; rintro e w' ⟨rfl, rfl⟩) | (go_at_call 23; refine (holds_cond _ _ _ _).mono ?_; rintro e w' ⟨rfl, rfl⟩) | (go_at_call 18; refine (two_any _ _ _ (by decide) (by decide) _).mono ?_; rintro e w' ⟨rfl, rfl⟩))
  go_ret
  exact ⟨rfl, by repeat (first | exact Grown.refl _ | apply Grown.drew | apply Grown.alloc)⟩
set_option maxHeartbeats 1000000 in
set_option maxRecDepth 100000 in
theorem NumHolds_3eq (a : Int)  (w : World) :
    Calls Try.prog 8 #[.int .i64 3, .int .i64 a, .int .i64 a] w fun e w' => e = .returned (.bool true) ∧ Grown w w' := by
  have k0 : cnd 0 a a = true := by unfold cnd; simp
  have k1 : cnd 1 a a = false := by unfold cnd; simp
  have k2 : cnd 2 a a = false := by unfold cnd; simp
  have k3 : cnd 3 a a = true := by unfold cnd; simp
  have k4 : cnd 4 a a = false := by unfold cnd; simp
  have k5 : cnd 5 a a = true := by unfold cnd; simp
  have hc : two 148 a a = 0 := by show cmp3 _ _ = _; unfold cmp3; simp
  have hc' : two 148 a a = 0 := by show cmp3 _ _ = _; unfold cmp3; simp
  have i0 : ∀ w : World, (Instr.index 35 (.agg #[.int .i64 0, .int .i64 1, .int .i64 2, .int .i64 3, .int .i64 4, .int .i64 5]) (.int .i64 0)).run Try.prog w = .ok (.agg #[.int .i64 0, .int .i64 1]) w := fun _ => by kernel_rfl
  have i1 : ∀ w : World, (Instr.index 35 (.agg #[.int .i64 0, .int .i64 1, .int .i64 2, .int .i64 3, .int .i64 4, .int .i64 5]) (.int .i64 1)).run Try.prog w = .ok (.agg #[.int .i64 2, .int .i64 3]) w := fun _ => by kernel_rfl
  have i2 : ∀ w : World, (Instr.index 35 (.agg #[.int .i64 0, .int .i64 1, .int .i64 2, .int .i64 3, .int .i64 4, .int .i64 5]) (.int .i64 2)).run Try.prog w = .ok (.agg #[.int .i64 4, .int .i64 5]) w := fun _ => by kernel_rfl
  go_enter Try.func8, Try.ntmps8
  go_wp2_with (first | (go_at_call 12; refine (holds_any _).mono ?_; rintro e w' ⟨rfl, rfl⟩) | (go_at_call 23; refine (holds_cond _ _ _ _).mono ?_; rintro e w' ⟨rfl, rfl⟩) | (go_at_call 18; refine (two_any _ _ _ (by decide) (by decide) _).mono ?_; rintro e w' ⟨rfl, rfl⟩))
  refine wp_loop_rounds 4 ?_
  rw [rounds_succ]
  go_wp2_with (first | (go_at_call 12; refine (holds_any _).mono ?_; rintro e w' ⟨rfl, rfl⟩) | (go_at_call 23; refine (holds_cond _ _ _ _).mono ?_; rintro e w' ⟨rfl, rfl⟩) | (go_at_call 18; refine (two_any _ _ _ (by decide) (by decide) _).mono ?_; rintro e w' ⟨rfl, rfl⟩))
  go_quiet ((go_at_call 23; exact Calls.quiet_of_same ((holds_cond _ _ _ _).mono fun _ _ ⟨h1, h2⟩ => ⟨h1, h2.symm⟩)))
  go_wp2_with (first | (go_at_call 12; refine (holds_any _).mono ?_; rintro e w' ⟨rfl, rfl⟩) | (go_at_call 23; refine (holds_cond _ _ _ _).mono ?_; rintro e w' ⟨rfl, rfl⟩) | (go_at_call 18; refine (two_any _ _ _ (by decide) (by decide) _).mono ?_; rintro e w' ⟨rfl, rfl⟩))
  rw [rounds_succ]
  go_wp2_with (first | (go_at_call 12; refine (holds_any _).mono ?_; rintro e w' ⟨rfl, rfl⟩) | (go_at_call 23; refine (holds_cond _ _ _ _).mono ?_; rintro e w' ⟨rfl, rfl⟩) | (go_at_call 18; refine (two_any _ _ _ (by decide) (by decide) _).mono ?_; rintro e w' ⟨rfl, rfl⟩))
  go_quiet ((go_at_call 23; exact Calls.quiet_of_same ((holds_cond _ _ _ _).mono fun _ _ ⟨h1, h2⟩ => ⟨h1, h2.symm⟩)))
  go_wp2_with (first | (go_at_call 12; refine (holds_any _).mono ?_; rintro e w' ⟨rfl, rfl⟩) | (go_at_call 23; refine (holds_cond _ _ _ _).mono ?_; rintro e w' ⟨rfl, rfl⟩) | (go_at_call 18; refine (two_any _ _ _ (by decide) (by decide) _).mono ?_; rintro e w' ⟨rfl, rfl⟩))
  rw [rounds_succ]
  go_wp2_with (first | (go_at_call 12; refine (holds_any _).mono ?_; rintro e w' ⟨rfl, rfl⟩) | (go_at_call 23; refine (holds_cond _ _ _ _).mono ?_; rintro e w' ⟨rfl, rfl⟩) | (go_at_call 18; refine (two_any _ _ _ (by decide) (by decide) _).mono ?_; rintro e w' ⟨rfl, rfl⟩))
  go_quiet ((go_at_call 23; exact Calls.quiet_of_same ((holds_cond _ _ _ _).mono fun _ _ ⟨h1, h2⟩ => ⟨h1, h2.symm⟩)))
  go_wp2_with (first | (go_at_call 12; refine (holds_any _).mono ?_; rintro e w' ⟨rfl, rfl⟩) | (go_at_call 23; refine (holds_cond _ _ _ _).mono ?_; rintro e w' ⟨rfl, rfl⟩) | (go_at_call 18; refine (two_any _ _ _ (by decide) (by decide) _).mono ?_; rintro e w' ⟨rfl, rfl⟩))
  rw [rounds_succ]
  go_wp2_with (first | (go_at_call 12; refine (holds_any _).mono ?_; rintro e w' ⟨rfl, rfl⟩) | (go_at_call 23; refine (holds_cond _ _ _ _).mono ?_; rintro e w' ⟨rfl, rfl⟩) | (go_at_call 18; refine (two_any _ _ _ (by decide) (by decide) _).mono ?_; rintro e w' ⟨rfl, rfl⟩))
  go_ret
  exact ⟨rfl, by repeat (first | exact Grown.refl _ | apply Grown.drew | apply Grown.alloc)⟩
set_option maxHeartbeats 1000000 in
set_option maxRecDepth 100000 in
theorem NumHolds_4lt (a b : Int) (h : a < b) (w : World) :
    Calls Try.prog 8 #[.int .i64 4, .int .i64 a, .int .i64 b] w fun e w' => e = .returned (.bool true) ∧ Grown w w' := by
  have k0 : cnd 0 a b = false := by unfold cnd; simp; omega
  have k1 : cnd 1 a b = true := by unfold cnd; simp; omega
  have k2 : cnd 2 a b = true := by unfold cnd; simp; omega
  have k3 : cnd 3 a b = false := by unfold cnd; simp; omega
  have k4 : cnd 4 a b = false := by unfold cnd; simp; omega
  have k5 : cnd 5 a b = true := by unfold cnd; simp; omega
  have hb : (a == b) = false := by rw [beq_eq_false_iff_ne]; omega
  have hb' : (a != b) = true := by rw [bne_iff_ne]; omega
  have hba : (b == a) = false := by rw [beq_eq_false_iff_ne]; omega
  have l1 : decide (a ≤ b) = true := by simp; omega
  have l2 : decide (b ≤ a) = false := by simp; omega
  have hc : two 148 a b = -1 := by show cmp3 _ _ = _; unfold cmp3; split <;> (try split) <;> omega
  have hc' : two 148 b a = 1 := by show cmp3 _ _ = _; unfold cmp3; split <;> (try split) <;> omega
  have i0 : ∀ w : World, (Instr.index 35 (.agg #[.int .i64 0, .int .i64 1, .int .i64 2, .int .i64 3, .int .i64 4, .int .i64 5]) (.int .i64 0)).run Try.prog w = .ok (.agg #[.int .i64 0, .int .i64 1]) w := fun _ => by kernel_rfl
  have i1 : ∀ w : World, (Instr.index 35 (.agg #[.int .i64 0, .int .i64 1, .int .i64 2, .int .i64 3, .int .i64 4, .int .i64 5]) (.int .i64 1)).run Try.prog w = .ok (.agg #[.int .i64 2, .int .i64 3]) w := fun _ => by kernel_rfl
  have i2 : ∀ w : World, (Instr.index 35 (.agg #[.int .i64 0, .int .i64 1, .int .i64 2, .int .i64 3, .int .i64 4, .int .i64 5]) (.int .i64 2)).run Try.prog w = .ok (.agg #[.int .i64 4, .int .i64 5]) w := fun _ => by kernel_rfl
  go_enter Try.func8, Try.ntmps8
  go_wp2_with (first | (go_at_call 12; refine (holds_any _).mono ?_; rintro e w' ⟨rfl, rfl⟩) | (go_at_call 23; refine (holds_cond _ _ _ _).mono ?_; rintro e w' ⟨rfl, rfl⟩) | (go_at_call 18; refine (two_any _ _ _ (by decide) (by decide) _).mono ?_; rintro e w' ⟨rfl, rfl⟩))
  refine wp_loop_rounds 4 ?_
  rw [rounds_succ]
  go_wp2_with (first | (go_at_call 12; refine (holds_any _).mono ?_; rintro e w' ⟨rfl, rfl⟩) | (go_at_call 23; refine (holds_cond _ _ _ _).mono ?_; rintro e w' ⟨rfl, rfl⟩) | (go_at_call 18; refine (two_any _ _ _ (by decide) (by decide) _).mono ?_; rintro e w' ⟨rfl, rfl⟩))
  go_quiet ((go_at_call 23; exact Calls.quiet_of_same ((holds_cond _ _ _ _).mono fun _ _ ⟨h1, h2⟩ => ⟨h1, h2.symm⟩)))
  go_wp2_with (first | (go_at_call 12; refine (holds_any _).mono ?_; rintro e w' ⟨rfl, rfl⟩) | (go_at_call 23; refine (holds_cond _ _ _ _).mono ?_; rintro e w' ⟨rfl, rfl⟩) | (go_at_call 18; refine (two_any _ _ _ (by decide) (by decide) _).mono ?_; rintro e w' ⟨rfl, rfl⟩))
  rw [rounds_succ]
  go_wp2_with (first | (go_at_call 12; refine (holds_any _).mono ?_; rintro e w' ⟨rfl, rfl⟩) | (go_at_call 23; refine (holds_cond _ _ _ _).mono ?_; rintro e w' ⟨rfl, rfl⟩) | (go_at_call 18; refine (two_any _ _ _ (by decide) (by decide) _).mono ?_; rintro e w' ⟨rfl, rfl⟩))
  go_quiet ((go_at_call 23; exact Calls.quiet_of_same ((holds_cond _ _ _ _).mono fun _ _ ⟨h1, h2⟩ => ⟨h1, h2.symm⟩)))
  go_wp2_with (first | (go_at_call 12; refine (holds_any _).mono ?_; rintro e w' ⟨rfl, rfl⟩) | (go_at_call 23; refine (holds_cond _ _ _ _).mono ?_; rintro e w' ⟨rfl, rfl⟩) | (go_at_call 18; refine (two_any _ _ _ (by decide) (by decide) _).mono ?_; rintro e w' ⟨rfl, rfl⟩))
  rw [rounds_succ]
  go_wp2_with (first | (go_at_call 12; refine (holds_any _).mono ?_; rintro e w' ⟨rfl, rfl⟩) | (go_at_call 23; refine (holds_cond _ _ _ _).mono ?_; rintro e w' ⟨rfl, rfl⟩) | (go_at_call 18; refine (two_any _ _ _ (by decide) (by decide) _).mono ?_; rintro e w' ⟨rfl, rfl⟩))
  go_quiet ((go_at_call 23; exact Calls.quiet_of_same ((holds_cond _ _ _ _).mono fun _ _ ⟨h1, h2⟩ => ⟨h1, h2.symm⟩)))
  go_wp2_with (first | (go_at_call 12; refine (holds_any _).mono ?_; rintro e w' ⟨rfl, rfl⟩) | (go_at_call 23; refine (holds_cond _ _ _ _).mono ?_; rintro e w' ⟨rfl, rfl⟩) | (go_at_call 18; refine (two_any _ _ _ (by decide) (by decide) _).mono ?_; rintro e w' ⟨rfl, rfl⟩))
  rw [rounds_succ]
  go_wp2_with (first | (go_at_call 12; refine (holds_any _).mono ?_; rintro e w' ⟨rfl, rfl⟩) | (go_at_call 23; refine (holds_cond _ _ _ _).mono ?_; rintro e w' ⟨rfl, rfl⟩) | (go_at_call 18; refine (two_any _ _ _ (by decide) (by decide) _).mono ?_; rintro e w' ⟨rfl, rfl⟩))
  go_ret
  exact ⟨rfl, by repeat (first | exact Grown.refl _ | apply Grown.drew | apply Grown.alloc)⟩
set_option maxHeartbeats 1000000 in
set_option maxRecDepth 100000 in
theorem NumHolds_4gt (a b : Int) (h : b < a) (w : World) :
    Calls Try.prog 8 #[.int .i64 4, .int .i64 a, .int .i64 b] w fun e w' => e = .returned (.bool true) ∧ Grown w w' := by
  have k0 : cnd 0 a b = false := by unfold cnd; simp; omega
  have k1 : cnd 1 a b = true := by unfold cnd; simp; omega
  have k2 : cnd 2 a b = false := by unfold cnd; simp; omega
  have k3 : cnd 3 a b = true := by unfold cnd; simp; omega
  have k4 : cnd 4 a b = true := by unfold cnd; simp; omega
  have k5 : cnd 5 a b = false := by unfold cnd; simp; omega
  have hb : (a == b) = false := by rw [beq_eq_false_iff_ne]; omega
  have hb' : (a != b) = true := by rw [bne_iff_ne]; omega
  have hba : (b == a) = false := by rw [beq_eq_false_iff_ne]; omega
  have l1 : decide (a ≤ b) = false := by simp; omega
  have l2 : decide (b ≤ a) = true := by simp; omega
  have hc : two 148 a b = 1 := by show cmp3 _ _ = _; unfold cmp3; split <;> (try split) <;> omega
  have hc' : two 148 b a = -1 := by show cmp3 _ _ = _; unfold cmp3; split <;> (try split) <;> omega
  have i0 : ∀ w : World, (Instr.index 35 (.agg #[.int .i64 0, .int .i64 1, .int .i64 2, .int .i64 3, .int .i64 4, .int .i64 5]) (.int .i64 0)).run Try.prog w = .ok (.agg #[.int .i64 0, .int .i64 1]) w := fun _ => by kernel_rfl
  have i1 : ∀ w : World, (Instr.index 35 (.agg #[.int .i64 0, .int .i64 1, .int .i64 2, .int .i64 3, .int .i64 4, .int .i64 5]) (.int .i64 1)).run Try.prog w = .ok (.agg #[.int .i64 2, .int .i64 3]) w := fun _ => by kernel_rfl
  have i2 : ∀ w : World, (Instr.index 35 (.agg #[.int .i64 0, .int .i64 1, .int .i64 2, .int .i64 3, .int .i64 4, .int .i64 5]) (.int .i64 2)).run Try.prog w = .ok (.agg #[.int .i64 4, .int .i64 5]) w := fun _ => by kernel_rfl
  go_enter Try.func8, Try.ntmps8
  go_wp2_with (first | (go_at_call 12; refine (holds_any _).mono ?_; rintro e w' ⟨rfl, rfl⟩) | (go_at_call 23; refine (holds_cond _ _ _ _).mono ?_; rintro e w' ⟨rfl, rfl⟩) | (go_at_call 18; refine (two_any _ _ _ (by decide) (by decide) _).mono ?_; rintro e w' ⟨rfl, rfl⟩))
  refine wp_loop_rounds 4 ?_
  rw [rounds_succ]
  go_wp2_with (first | (go_at_call 12; refine (holds_any _).mono ?_; rintro e w' ⟨rfl, rfl⟩) | (go_at_call 23; refine (holds_cond _ _ _ _).mono ?_; rintro e w' ⟨rfl, rfl⟩) | (go_at_call 18; refine (two_any _ _ _ (by decide) (by decide) _).mono ?_; rintro e w' ⟨rfl, rfl⟩))
  go_quiet ((go_at_call 23; exact Calls.quiet_of_same ((holds_cond _ _ _ _).mono fun _ _ ⟨h1, h2⟩ => ⟨h1, h2.symm⟩)))
  go_wp2_with (first | (go_at_call 12; refine (holds_any _).mono ?_; rintro e w' ⟨rfl, rfl⟩) | (go_at_call 23; refine (holds_cond _ _ _ _).mono ?_; rintro e w' ⟨rfl, rfl⟩) | (go_at_call 18; refine (two_any _ _ _ (by decide) (by decide) _).mono ?_; rintro e w' ⟨rfl, rfl⟩))
  rw [rounds_succ]
  go_wp2_with (first | (go_at_call 12; refine (holds_any _).mono ?_; rintro e w' ⟨rfl, rfl⟩) | (go_at_call 23; refine (holds_cond _ _ _ _).mono ?_; rintro e w' ⟨rfl, rfl⟩) | (go_at_call 18; refine (two_any _ _ _ (by decide) (by decide) _).mono ?_; rintro e w' ⟨rfl, rfl⟩))
  go_quiet ((go_at_call 23; exact Calls.quiet_of_same ((holds_cond _ _ _ _).mono fun _ _ ⟨h1, h2⟩ => ⟨h1, h2.symm⟩)))
  go_wp2_with (first | (go_at_call 12; refine (holds_any _).mono ?_; rintro e w' ⟨rfl, rfl⟩) | (go_at_call 23; refine (holds_cond _ _ _ _).mono ?_; rintro e w' ⟨rfl, rfl⟩) | (go_at_call 18; refine (two_any _ _ _ (by decide) (by decide) _).mono ?_; rintro e w' ⟨rfl, rfl⟩))
  rw [rounds_succ]
  go_wp2_with (first | (go_at_call 12; refine (holds_any _).mono ?_; rintro e w' ⟨rfl, rfl⟩) | (go_at_call 23; refine (holds_cond _ _ _ _).mono ?_; rintro e w' ⟨rfl, rfl⟩) | (go_at_call 18; refine (two_any _ _ _ (by decide) (by decide) _).mono ?_; rintro e w' ⟨rfl, rfl⟩))
  go_quiet ((go_at_call 23; exact Calls.quiet_of_same ((holds_cond _ _ _ _).mono fun _ _ ⟨h1, h2⟩ => ⟨h1, h2.symm⟩)))
  go_wp2_with (first | (go_at_call 12; refine (holds_any _).mono ?_; rintro e w' ⟨rfl, rfl⟩) | (go_at_call 23; refine (holds_cond _ _ _ _).mono ?_; rintro e w' ⟨rfl, rfl⟩) | (go_at_call 18; refine (two_any _ _ _ (by decide) (by decide) _).mono ?_; rintro e w' ⟨rfl, rfl⟩))
  rw [rounds_succ]
  go_wp2_with (first | (go_at_call 12; refine (holds_any _).mono ?_; rintro e w' ⟨rfl, rfl⟩) | (go_at_call 23; refine (holds_cond _ _ _ _).mono ?_; rintro e w' ⟨rfl, rfl⟩) | (go_at_call 18; refine (two_any _ _ _ (by decide) (by decide) _).mono ?_; rintro e w' ⟨rfl, rfl⟩))
  go_ret
  exact ⟨rfl, by repeat (first | exact Grown.refl _ | apply Grown.drew | apply Grown.alloc)⟩
set_option maxHeartbeats 1000000 in
set_option maxRecDepth 100000 in
theorem NumHolds_4eq (a : Int)  (w : World) :
    Calls Try.prog 8 #[.int .i64 4, .int .i64 a, .int .i64 a] w fun e w' => e = .returned (.bool true) ∧ Grown w w' := by
  have k0 : cnd 0 a a = true := by unfold cnd; simp
  have k1 : cnd 1 a a = false := by unfold cnd; simp
  have k2 : cnd 2 a a = false := by unfold cnd; simp
  have k3 : cnd 3 a a = true := by unfold cnd; simp
  have k4 : cnd 4 a a = false := by unfold cnd; simp
  have k5 : cnd 5 a a = true := by unfold cnd; simp
  have hc : two 148 a a = 0 := by show cmp3 _ _ = _; unfold cmp3; simp
  have hc' : two 148 a a = 0 := by show cmp3 _ _ = _; unfold cmp3; simp
  have i0 : ∀ w : World, (Instr.index 35 (.agg #[.int .i64 0, .int .i64 1, .int .i64 2, .int .i64 3, .int .i64 4, .int .i64 5]) (.int .i64 0)).run Try.prog w = .ok (.agg #[.int .i64 0, .int .i64 1]) w := fun _ => by kernel_rfl
  have i1 : ∀ w : World, (Instr.index 35 (.agg #[.int .i64 0, .int .i64 1, .int .i64 2, .int .i64 3, .int .i64 4, .int .i64 5]) (.int .i64 1)).run Try.prog w = .ok (.agg #[.int .i64 2, .int .i64 3]) w := fun _ => by kernel_rfl
  have i2 : ∀ w : World, (Instr.index 35 (.agg #[.int .i64 0, .int .i64 1, .int .i64 2, .int .i64 3, .int .i64 4, .int .i64 5]) (.int .i64 2)).run Try.prog w = .ok (.agg #[.int .i64 4, .int .i64 5]) w := fun _ => by kernel_rfl
  go_enter Try.func8, Try.ntmps8
  go_wp2_with (first | (go_at_call 12; refine (holds_any _).mono ?_; rintro e w' ⟨rfl, rfl⟩) | (go_at_call 23; refine (holds_cond _ _ _ _).mono ?_; rintro e w' ⟨rfl, rfl⟩) | (go_at_call 18; refine (two_any _ _ _ (by decide) (by decide) _).mono ?_; rintro e w' ⟨rfl, rfl⟩))
  refine wp_loop_rounds 4 ?_
  rw [rounds_succ]
  go_wp2_with (first | (go_at_call 12; refine (holds_any _).mono ?_; rintro e w' ⟨rfl, rfl⟩) | (go_at_call 23; refine (holds_cond _ _ _ _).mono ?_; rintro e w' ⟨rfl, rfl⟩) | (go_at_call 18; refine (two_any _ _ _ (by decide) (by decide) _).mono ?_; rintro e w' ⟨rfl, rfl⟩))
  go_quiet ((go_at_call 23; exact Calls.quiet_of_same ((holds_cond _ _ _ _).mono fun _ _ ⟨h1, h2⟩ => ⟨h1, h2.symm⟩)))
  go_wp2_with (first | (go_at_call 12; refine (holds_any _).mono ?_; rintro e w' ⟨rfl, rfl⟩) | (go_at_call 23; refine (holds_cond _ _ _ _).mono ?_; rintro e w' ⟨rfl, rfl⟩) | (go_at_call 18; refine (two_any _ _ _ (by decide) (by decide) _).mono ?_; rintro e w' ⟨rfl, rfl⟩))
  rw [rounds_succ]
  go_wp2_with (first | (go_at_call 12; refine (holds_any _).mono ?_; rintro e w' ⟨rfl, rfl⟩) | (go_at_call 23; refine (holds_cond _ _ _ _).mono ?_; rintro e w' ⟨rfl, rfl⟩) | (go_at_call 18; refine (two_any _ _ _ (by decide) (by decide) _).mono ?_; rintro e w' ⟨rfl, rfl⟩))
  go_quiet ((go_at_call 23; exact Calls.quiet_of_same ((holds_cond _ _ _ _).mono fun _ _ ⟨h1, h2⟩ => ⟨h1, h2.symm⟩)))
  go_wp2_with (first | (go_at_call 12; refine (holds_any _).mono ?_; rintro e w' ⟨rfl, rfl⟩) | (go_at_call 23; refine (holds_cond _ _ _ _).mono ?_; rintro e w' ⟨rfl, rfl⟩) | (go_at_call 18; refine (two_any _ _ _ (by decide) (by decide) _).mono ?_; rintro e w' ⟨rfl, rfl⟩))
  rw [rounds_succ]
  go_wp2_with (first | (go_at_call 12; refine (holds_any _).mono ?_; rintro e w' ⟨rfl, rfl⟩) | (go_at_call 23; refine (holds_cond _ _ _ _).mono ?_; rintro e w' ⟨rfl, rfl⟩) | (go_at_call 18; refine (two_any _ _ _ (by decide) (by decide) _).mono ?_; rintro e w' ⟨rfl, rfl⟩))
  go_quiet ((go_at_call 23; exact Calls.quiet_of_same ((holds_cond _ _ _ _).mono fun _ _ ⟨h1, h2⟩ => ⟨h1, h2.symm⟩)))
  go_wp2_with (first | (go_at_call 12; refine (holds_any _).mono ?_; rintro e w' ⟨rfl, rfl⟩) | (go_at_call 23; refine (holds_cond _ _ _ _).mono ?_; rintro e w' ⟨rfl, rfl⟩) | (go_at_call 18; refine (two_any _ _ _ (by decide) (by decide) _).mono ?_; rintro e w' ⟨rfl, rfl⟩))
  rw [rounds_succ]
  go_wp2_with (first | (go_at_call 12; refine (holds_any _).mono ?_; rintro e w' ⟨rfl, rfl⟩) | (go_at_call 23; refine (holds_cond _ _ _ _).mono ?_; rintro e w' ⟨rfl, rfl⟩) | (go_at_call 18; refine (two_any _ _ _ (by decide) (by decide) _).mono ?_; rintro e w' ⟨rfl, rfl⟩))
  go_ret
  exact ⟨rfl, by repeat (first | exact Grown.refl _ | apply Grown.drew | apply Grown.alloc)⟩
set_option maxHeartbeats 1000000 in
set_option maxRecDepth 100000 in
theorem NumHolds_5lt (a b : Int) (h : a < b) (w : World) :
    Calls Try.prog 8 #[.int .i64 5, .int .i64 a, .int .i64 b] w fun e w' => e = .returned (.bool true) ∧ Grown w w' := by
  have k0 : cnd 0 a b = false := by unfold cnd; simp; omega
  have k1 : cnd 1 a b = true := by unfold cnd; simp; omega
  have k2 : cnd 2 a b = true := by unfold cnd; simp; omega
  have k3 : cnd 3 a b = false := by unfold cnd; simp; omega
  have k4 : cnd 4 a b = false := by unfold cnd; simp; omega
  have k5 : cnd 5 a b = true := by unfold cnd; simp; omega
  have hb : (a == b) = false := by rw [beq_eq_false_iff_ne]; omega
  have hb' : (a != b) = true := by rw [bne_iff_ne]; omega
  have hba : (b == a) = false := by rw [beq_eq_false_iff_ne]; omega
  have l1 : decide (a ≤ b) = true := by simp; omega
  have l2 : decide (b ≤ a) = false := by simp; omega
  have hc : two 148 a b = -1 := by show cmp3 _ _ = _; unfold cmp3; split <;> (try split) <;> omega
  have hc' : two 148 b a = 1 := by show cmp3 _ _ = _; unfold cmp3; split <;> (try split) <;> omega
  have i0 : ∀ w : World, (Instr.index 35 (.agg #[.int .i64 0, .int .i64 1, .int .i64 2, .int .i64 3, .int .i64 4, .int .i64 5]) (.int .i64 0)).run Try.prog w = .ok (.agg #[.int .i64 0, .int .i64 1]) w := fun _ => by kernel_rfl
  have i1 : ∀ w : World, (Instr.index 35 (.agg #[.int .i64 0, .int .i64 1, .int .i64 2, .int .i64 3, .int .i64 4, .int .i64 5]) (.int .i64 1)).run Try.prog w = .ok (.agg #[.int .i64 2, .int .i64 3]) w := fun _ => by kernel_rfl
  have i2 : ∀ w : World, (Instr.index 35 (.agg #[.int .i64 0, .int .i64 1, .int .i64 2, .int .i64 3, .int .i64 4, .int .i64 5]) (.int .i64 2)).run Try.prog w = .ok (.agg #[.int .i64 4, .int .i64 5]) w := fun _ => by kernel_rfl
  go_enter Try.func8, Try.ntmps8
  go_wp2_with (first | (go_at_call 12; refine (holds_any _).mono ?_; rintro e w' ⟨rfl, rfl⟩) | (go_at_call 23; refine (holds_cond _ _ _ _).mono ?_; rintro e w' ⟨rfl, rfl⟩) | (go_at_call 18; refine (two_any _ _ _ (by decide) (by decide) _).mono ?_; rintro e w' ⟨rfl, rfl⟩))
  refine wp_loop_rounds 4 ?_
  rw [rounds_succ]
  go_wp2_with (first | (go_at_call 12; refine (holds_any _).mono ?_; rintro e w' ⟨rfl, rfl⟩) | (go_at_call 23; refine (holds_cond _ _ _ _).mono ?_; rintro e w' ⟨rfl, rfl⟩) | (go_at_call 18; refine (two_any _ _ _ (by decide) (by decide) _).mono ?_; rintro e w' ⟨rfl, rfl⟩))
  go_quiet ((go_at_call 23; exact Calls.quiet_of_same ((holds_cond _ _ _ _).mono fun _ _ ⟨h1, h2⟩ => ⟨h1, h2.symm⟩)))
  go_wp2_with (first | (go_at_call 12; refine (holds_any _).mono ?_; rintro e w' ⟨rfl, rfl⟩) | (go_at_call 23; refine (holds_cond _ _ _ _).mono ?_; rintro e w' ⟨rfl, rfl⟩) | (go_at_call 18; refine (two_any _ _ _ (by decide) (by decide) _).mono ?_; rintro e w' ⟨rfl, rfl⟩))
  rw [rounds_succ]
  go_wp2_with (first | (go_at_call 12; refine (holds_any _).mono ?_; rintro e w' ⟨rfl, rfl⟩) | (go_at_call 23; refine (holds_cond _ _ _ _).mono ?_; rintro e w' ⟨rfl, rfl⟩) | (go_at_call 18; refine (two_any _ _ _ (by decide) (by decide) _).mono ?_; rintro e w' ⟨rfl, rfl⟩))
  go_quiet ((go_at_call 23; exact Calls.quiet_of_same ((holds_cond _ _ _ _).mono fun _ _ ⟨h1, h2⟩ => ⟨h1, h2.symm⟩)))
  go_wp2_with (first | (go_at_call 12; refine (holds_any _).mono ?_; rintro e w' ⟨rfl, rfl⟩) | (go_at_call 23; refine (holds_cond _ _ _ _).mono ?_; rintro e w' ⟨rfl, rfl⟩) | (go_at_call 18; refine (two_any _ _ _ (by decide) (by decide) _).mono ?_; rintro e w' ⟨rfl, rfl⟩))
  rw [rounds_succ]
  go_wp2_with (first | (go_at_call 12; refine (holds_any _).mono ?_; rintro e w' ⟨rfl, rfl⟩) | (go_at_call 23; refine (holds_cond _ _ _ _).mono ?_; rintro e w' ⟨rfl, rfl⟩) | (go_at_call 18; refine (two_any _ _ _ (by decide) (by decide) _).mono ?_; rintro e w' ⟨rfl, rfl⟩))
  go_quiet ((go_at_call 23; exact Calls.quiet_of_same ((holds_cond _ _ _ _).mono fun _ _ ⟨h1, h2⟩ => ⟨h1, h2.symm⟩)))
  go_wp2_with (first | (go_at_call 12; refine (holds_any _).mono ?_; rintro e w' ⟨rfl, rfl⟩) | (go_at_call 23; refine (holds_cond _ _ _ _).mono ?_; rintro e w' ⟨rfl, rfl⟩) | (go_at_call 18; refine (two_any _ _ _ (by decide) (by decide) _).mono ?_; rintro e w' ⟨rfl, rfl⟩))
  rw [rounds_succ]
  go_wp2_with (first | (go_at_call 12; refine (holds_any _).mono ?_; rintro e w' ⟨rfl, rfl⟩) | (go_at_call 23; refine (holds_cond _ _ _ _).mono ?_; rintro e w' ⟨rfl, rfl⟩) | (go_at_call 18; refine (two_any _ _ _ (by decide) (by decide) _).mono ?_; rintro e w' ⟨rfl, rfl⟩))
  go_ret
  exact ⟨rfl, by repeat (first | exact Grown.refl _ | apply Grown.drew | apply Grown.alloc)⟩
set_option maxHeartbeats 1000000 in
set_option maxRecDepth 100000 in
theorem NumHolds_5gt (a b : Int) (h : b < a) (w : World) :
    Calls Try.prog 8 #[.int .i64 5, .int .i64 a, .int .i64 b] w fun e w' => e = .returned (.bool true) ∧ Grown w w' := by
  have k0 : cnd 0 a b = false := by unfold cnd; simp; omega
  have k1 : cnd 1 a b = true := by unfold cnd; simp; omega
  have k2 : cnd 2 a b = false := by unfold cnd; simp; omega
  have k3 : cnd 3 a b = true := by unfold cnd; simp; omega
  have k4 : cnd 4 a b = true := by unfold cnd; simp; omega
  have k5 : cnd 5 a b = false := by unfold cnd; simp; omega
  have hb : (a == b) = false := by rw [beq_eq_false_iff_ne]; omega
  have hb' : (a != b) = true := by rw [bne_iff_ne]; omega
  have hba : (b == a) = false := by rw [beq_eq_false_iff_ne]; omega
  have l1 : decide (a ≤ b) = false := by simp; omega
  have l2 : decide (b ≤ a) = true := by simp; omega
  have hc : two 148 a b = 1 := by show cmp3 _ _ = _; unfold cmp3; split <;> (try split) <;> omega
  have hc' : two 148 b a = -1 := by show cmp3 _ _ = _; unfold cmp3; split <;> (try split) <;> omega
  have i0 : ∀ w : World, (Instr.index 35 (.agg #[.int .i64 0, .int .i64 1, .int .i64 2, .int .i64 3, .int .i64 4, .int .i64 5]) (.int .i64 0)).run Try.prog w = .ok (.agg #[.int .i64 0, .int .i64 1]) w := fun _ => by kernel_rfl
  have i1 : ∀ w : World, (Instr.index 35 (.agg #[.int .i64 0, .int .i64 1, .int .i64 2, .int .i64 3, .int .i64 4, .int .i64 5]) (.int .i64 1)).run Try.prog w = .ok (.agg #[.int .i64 2, .int .i64 3]) w := fun _ => by kernel_rfl
  have i2 : ∀ w : World, (Instr.index 35 (.agg #[.int .i64 0, .int .i64 1, .int .i64 2, .int .i64 3, .int .i64 4, .int .i64 5]) (.int .i64 2)).run Try.prog w = .ok (.agg #[.int .i64 4, .int .i64 5]) w := fun _ => by kernel_rfl
  go_enter Try.func8, Try.ntmps8
  go_wp2_with (first | (go_at_call 12; refine (holds_any _).mono ?_; rintro e w' ⟨rfl, rfl⟩) | (go_at_call 23; refine (holds_cond _ _ _ _).mono ?_; rintro e w' ⟨rfl, rfl⟩) | (go_at_call 18; refine (two_any _ _ _ (by decide) (by decide) _).mono ?_; rintro e w' ⟨rfl, rfl⟩))
  refine wp_loop_rounds 4 ?_
  rw [rounds_succ]
  go_wp2_with (first | (go_at_call 12; refine (holds_any _).mono ?_; rintro e w' ⟨rfl, rfl⟩) | (go_at_call 23; refine (holds_cond _ _ _ _).mono ?_; rintro e w' ⟨rfl, rfl⟩) | (go_at_call 18; refine (two_any _ _ _ (by decide) (by decide) _).mono ?_; rintro e w' ⟨rfl, rfl⟩))
  go_quiet ((go_at_call 23; exact Calls.quiet_of_same ((holds_cond _ _ _ _).mono fun _ _ ⟨h1, h2⟩ => ⟨h1, h2.symm⟩)))
  go_wp2_with (first | (go_at_call 12; refine (holds_any _).mono ?_; rintro e w' ⟨rfl, rfl⟩) | (go_at_call 23; refine (holds_cond _ _ _ _).mono ?_; rintro e w' ⟨rfl, rfl⟩) | (go_at_call 18; refine (two_any _ _ _ (by decide) (by decide) _).mono ?_; rintro e w' ⟨rfl, rfl⟩))
  rw [rounds_succ]
  go_wp2_with (first | (go_at_call 12; refine (holds_any _).mono ?_; rintro e w' ⟨rfl, rfl⟩) | (go_at_call 23; refine (holds_cond _ _ _ _).mono ?_; rintro e w' ⟨rfl, rfl⟩) | (go_at_call 18; refine (two_any _ _ _ (by decide) (by decide) _).mono ?_; rintro e w' ⟨rfl, rfl⟩))
  go_quiet ((go_at_call 23; exact Calls.quiet_of_same ((holds_cond _ _ _ _).mono fun _ _ ⟨h1, h2⟩ => ⟨h1, h2.symm⟩)))
  go_wp2_with (first | (go_at_call 12; refine (holds_any _).mono ?_; rintro e w' ⟨rfl, rfl⟩) | (go_at_call 23; refine (holds_cond _ _ _ _).mono ?_; rintro e w' ⟨rfl, rfl⟩) | (go_at_call 18; refine (two_any _ _ _ (by decide) (by decide) _).mono ?_; rintro e w' ⟨rfl, rfl⟩))
  rw [rounds_succ]
  go_wp2_with (first | (go_at_call 12; refine (holds_any _).mono ?_; rintro e w' ⟨rfl, rfl⟩) | (go_at_call 23; refine (holds_cond _ _ _ _).mono ?_; rintro e w' ⟨rfl, rfl⟩) | (go_at_call 18; refine (two_any _ _ _ (by decide) (by decide) _).mono ?_; rintro e w' ⟨rfl, rfl⟩))
  go_quiet ((go_at_call 23; exact Calls.quiet_of_same ((holds_cond _ _ _ _).mono fun _ _ ⟨h1, h2⟩ => ⟨h1, h2.symm⟩)))
  go_wp2_with (first | (go_at_call 12; refine (holds_any _).mono ?_; rintro e w' ⟨rfl, rfl⟩) | (go_at_call 23; refine (holds_cond _ _ _ _).mono ?_; rintro e w' ⟨rfl, rfl⟩) | (go_at_call 18; refine (two_any _ _ _ (by decide) (by decide) _).mono ?_; rintro e w' ⟨rfl, rfl⟩))
  rw [rounds_succ]
  go_wp2_with (first | (go_at_call 12; refine (holds_any _).mono ?_; rintro e w' ⟨rfl, rfl⟩) | (go_at_call 23; refine (holds_cond _ _ _ _).mono ?_; rintro e w' ⟨rfl, rfl⟩) | (go_at_call 18; refine (two_any _ _ _ (by decide) (by decide) _).mono ?_; rintro e w' ⟨rfl, rfl⟩))
  go_ret
  exact ⟨rfl, by repeat (first | exact Grown.refl _ | apply Grown.drew | apply Grown.alloc)⟩
set_option maxHeartbeats 1000000 in
set_option maxRecDepth 100000 in
theorem NumHolds_5eq (a : Int)  (w : World) :
    Calls Try.prog 8 #[.int .i64 5, .int .i64 a, .int .i64 a] w fun e w' => e = .returned (.bool true) ∧ Grown w w' := by
  have k0 : cnd 0 a a = true := by unfold cnd; simp
  have k1 : cnd 1 a a = false := by unfold cnd; simp
  have k2 : cnd 2 a a = false := by unfold cnd; simp
  have k3 : cnd 3 a a = true := by unfold cnd; simp
  have k4 : cnd 4 a a = false := by unfold cnd; simp
  have k5 : cnd 5 a a = true := by unfold cnd; simp
  have hc : two 148 a a = 0 := by show cmp3 _ _ = _; unfold cmp3; simp
  have hc' : two 148 a a = 0 := by show cmp3 _ _ = _; unfold cmp3; simp
  have i0 : ∀ w : World, (Instr.index 35 (.agg #[.int .i64 0, .int .i64 1, .int .i64 2, .int .i64 3, .int .i64 4, .int .i64 5]) (.int .i64 0)).run Try.prog w = .ok (.agg #[.int .i64 0, .int .i64 1]) w := fun _ => by kernel_rfl
  have i1 : ∀ w : World, (Instr.index 35 (.agg #[.int .i64 0, .int .i64 1, .int .i64 2, .int .i64 3, .int .i64 4, .int .i64 5]) (.int .i64 1)).run Try.prog w = .ok (.agg #[.int .i64 2, .int .i64 3]) w := fun _ => by kernel_rfl
  have i2 : ∀ w : World, (Instr.index 35 (.agg #[.int .i64 0, .int .i64 1, .int .i64 2, .int .i64 3, .int .i64 4, .int .i64 5]) (.int .i64 2)).run Try.prog w = .ok (.agg #[.int .i64 4, .int .i64 5]) w := fun _ => by kernel_rfl
  go_enter Try.func8, Try.ntmps8
  go_wp2_with (first | (go_at_call 12; refine (holds_any _).mono ?_; rintro e w' ⟨rfl, rfl⟩) | (go_at_call 23; refine (holds_cond _ _ _ _).mono ?_; rintro e w' ⟨rfl, rfl⟩) | (go_at_call 18; refine (two_any _ _ _ (by decide) (by decide) _).mono ?_; rintro e w' ⟨rfl, rfl⟩))
  refine wp_loop_rounds 4 ?_
  rw [rounds_succ]
  go_wp2_with (first | (go_at_call 12; refine (holds_any _).mono ?_; rintro e w' ⟨rfl, rfl⟩) | (go_at_call 23; refine (holds_cond _ _ _ _).mono ?_; rintro e w' ⟨rfl, rfl⟩) | (go_at_call 18; refine (two_any _ _ _ (by decide) (by decide) _).mono ?_; rintro e w' ⟨rfl, rfl⟩))
  go_quiet ((go_at_call 23; exact Calls.quiet_of_same ((holds_cond _ _ _ _).mono fun _ _ ⟨h1, h2⟩ => ⟨h1, h2.symm⟩)))
  go_wp2_with (first | (go_at_call 12; refine (holds_any _).mono ?_; rintro e w' ⟨rfl, rfl⟩) | (go_at_call 23; refine (holds_cond _ _ _ _).mono ?_; rintro e w' ⟨rfl, rfl⟩) | (go_at_call 18; refine (two_any _ _ _ (by decide) (by decide) _).mono ?_; rintro e w' ⟨rfl, rfl⟩))
  rw [rounds_succ]
  go_wp2_with (first | (go_at_call 12; refine (holds_any _).mono ?_; rintro e w' ⟨rfl, rfl⟩) | (go_at_call 23; refine (holds_cond _ _ _ _).mono ?_; rintro e w' ⟨rfl, rfl⟩) | (go_at_call 18; refine (two_any _ _ _ (by decide) (by decide) _).mono ?_; rintro e w' ⟨rfl, rfl⟩))
  go_quiet ((go_at_call 23; exact Calls.quiet_of_same ((holds_cond _ _ _ _).mono fun _ _ ⟨h1, h2⟩ => ⟨h1, h2.symm⟩)))
  go_wp2_with (first | (go_at_call 12; refine (holds_any _).mono ?_; rintro e w' ⟨rfl, rfl⟩) | (go_at_call 23; refine (holds_cond _ _ _ _).mono ?_; rintro e w' ⟨rfl, rfl⟩) | (go_at_call 18; refine (two_any _ _ _ (by decide) (by decide) _).mono ?_; rintro e w' ⟨rfl, rfl⟩))
  rw [rounds_succ]
  go_wp2_with (first | (go_at_call 12; refine (holds_any _).mono ?_; rintro e w' ⟨rfl, rfl⟩) | (go_at_call 23; refine (holds_cond _ _ _ _).mono ?_; rintro e w' ⟨rfl, rfl⟩) | (go_at_call 18; refine (two_any _ _ _ (by decide) (by decide) _).mono ?_; rintro e w' ⟨rfl, rfl⟩))
  go_quiet ((go_at_call 23; exact Calls.quiet_of_same ((holds_cond _ _ _ _).mono fun _ _ ⟨h1, h2⟩ => ⟨h1, h2.symm⟩)))
  go_wp2_with (first | (go_at_call 12; refine (holds_any _).mono ?_; rintro e w' ⟨rfl, rfl⟩) | (go_at_call 23; refine (holds_cond _ _ _ _).mono ?_; rintro e w' ⟨rfl, rfl⟩) | (go_at_call 18; refine (two_any _ _ _ (by decide) (by decide) _).mono ?_; rintro e w' ⟨rfl, rfl⟩))
  rw [rounds_succ]
  go_wp2_with (first | (go_at_call 12; refine (holds_any _).mono ?_; rintro e w' ⟨rfl, rfl⟩) | (go_at_call 23; refine (holds_cond _ _ _ _).mono ?_; rintro e w' ⟨rfl, rfl⟩) | (go_at_call 18; refine (two_any _ _ _ (by decide) (by decide) _).mono ?_; rintro e w' ⟨rfl, rfl⟩))
  go_ret
  exact ⟨rfl, by repeat (first | exact Grown.refl _ | apply Grown.drew | apply Grown.alloc)⟩
set_option maxHeartbeats 1000000 in
set_option maxRecDepth 100000 in
theorem NumHolds_xlt (c : Int) (a b : Int) (h : a < b) (h0 : c ≠ 0) (h1 : c ≠ 1) (h2 : c ≠ 2) (h3 : c ≠ 3) (h4 : c ≠ 4) (h5 : c ≠ 5) (w : World) :
    Calls Try.prog 8 #[.int .i64 c, .int .i64 a, .int .i64 b] w fun e w' => e = .returned (.bool true) ∧ Grown w w' := by
  have k0 : cnd 0 a b = false := by unfold cnd; simp; omega
  have k1 : cnd 1 a b = true := by unfold cnd; simp; omega
  have k2 : cnd 2 a b = true := by unfold cnd; simp; omega
  have k3 : cnd 3 a b = false := by unfold cnd; simp; omega
  have k4 : cnd 4 a b = false := by unfold cnd; simp; omega
  have k5 : cnd 5 a b = true := by unfold cnd; simp; omega
  have kx : cnd c a b = false := by unfold cnd; rw [if_neg h0, if_neg h1, if_neg h2, if_neg h3, if_neg h4, if_neg h5]
  have hb : (a == b) = false := by rw [beq_eq_false_iff_ne]; omega
  have hb' : (a != b) = true := by rw [bne_iff_ne]; omega
  have hba : (b == a) = false := by rw [beq_eq_false_iff_ne]; omega
  have l1 : decide (a ≤ b) = true := by simp; omega
  have l2 : decide (b ≤ a) = false := by simp; omega
  have hc : two 148 a b = -1 := by show cmp3 _ _ = _; unfold cmp3; split <;> (try split) <;> omega
  have hc' : two 148 b a = 1 := by show cmp3 _ _ = _; unfold cmp3; split <;> (try split) <;> omega
  have i0 : ∀ w : World, (Instr.index 35 (.agg #[.int .i64 0, .int .i64 1, .int .i64 2, .int .i64 3, .int .i64 4, .int .i64 5]) (.int .i64 0)).run Try.prog w = .ok (.agg #[.int .i64 0, .int .i64 1]) w := fun _ => by kernel_rfl
  have i1 : ∀ w : World, (Instr.index 35 (.agg #[.int .i64 0, .int .i64 1, .int .i64 2, .int .i64 3, .int .i64 4, .int .i64 5]) (.int .i64 1)).run Try.prog w = .ok (.agg #[.int .i64 2, .int .i64 3]) w := fun _ => by kernel_rfl
  have i2 : ∀ w : World, (Instr.index 35 (.agg #[.int .i64 0, .int .i64 1, .int .i64 2, .int .i64 3, .int .i64 4, .int .i64 5]) (.int .i64 2)).run Try.prog w = .ok (.agg #[.int .i64 4, .int .i64 5]) w := fun _ => by kernel_rfl
  go_enter Try.func8, Try.ntmps8
  go_wp2_with (first | (go_at_call 12; refine (holds_any _).mono ?_; rintro e w' ⟨rfl, rfl⟩) | (go_at_call 23; refine (holds_cond _ _ _ _).mono ?_; rintro e w' ⟨rfl, rfl⟩) | (go_at_call 18; refine (two_any _ _ _ (by decide) (by decide) _).mono ?_; rintro e w' ⟨rfl, rfl⟩))
  refine wp_loop_rounds 4 ?_
  rw [rounds_succ]
  go_wp2_with (first | (go_at_call 12; refine (holds_any _).mono ?_; rintro e w' ⟨rfl, rfl⟩) | (go_at_call 23; refine (holds_cond _ _ _ _).mono ?_; rintro e w' ⟨rfl, rfl⟩) | (go_at_call 18; refine (two_any _ _ _ (by decide) (by decide) _).mono ?_; rintro e w' ⟨rfl, rfl⟩))
  go_quiet ((go_at_call 23; exact Calls.quiet_of_same ((holds_cond _ _ _ _).mono fun _ _ ⟨h1, h2⟩ => ⟨h1, h2.symm⟩)))
  go_wp2_with (first | (go_at_call 12; refine (holds_any _).mono ?_; rintro e w' ⟨rfl, rfl⟩) | (go_at_call 23; refine (holds_cond _ _ _ _).mono ?_; rintro e w' ⟨rfl, rfl⟩) | (go_at_call 18; refine (two_any _ _ _ (by decide) (by decide) _).mono ?_; rintro e w' ⟨rfl, rfl⟩))
  rw [rounds_succ]
  go_wp2_with (first | (go_at_call 12; refine (holds_any _).mono ?_; rintro e w' ⟨rfl, rfl⟩) | (go_at_call 23; refine (holds_cond _ _ _ _).mono ?_; rintro e w' ⟨rfl, rfl⟩) | (go_at_call 18; refine (two_any _ _ _ (by decide) (by decide) _).mono ?_; rintro e w' ⟨rfl, rfl⟩))
  go_quiet ((go_at_call 23; exact Calls.quiet_of_same ((holds_cond _ _ _ _).mono fun _ _ ⟨h1, h2⟩ => ⟨h1, h2.symm⟩)))
  go_wp2_with (first | (go_at_call 12; refine (holds_any _).mono ?_; rintro e w' ⟨rfl, rfl⟩) | (go_at_call 23; refine (holds_cond _ _ _ _).mono ?_; rintro e w' ⟨rfl, rfl⟩) | (go_at_call 18; refine (two_any _ _ _ (by decide) (by decide) _).mono ?_; rintro e w' ⟨rfl, rfl⟩))
  rw [rounds_succ]
  go_wp2_with (first | (go_at_call 12; refine (holds_any _).mono ?_; rintro e w' ⟨rfl, rfl⟩) | (go_at_call 23; refine (holds_cond _ _ _ _).mono ?_; rintro e w' ⟨rfl, rfl⟩) | (go_at_call 18; refine (two_any _ _ _ (by decide) (by decide) _).mono ?_; rintro e w' ⟨rfl, rfl⟩))
  go_quiet ((go_at_call 23; exact Calls.quiet_of_same ((holds_cond _ _ _ _).mono fun _ _ ⟨h1, h2⟩ => ⟨h1, h2.symm⟩)))
  go_wp2_with (first | (go_at_call 12; refine (holds_any _).mono ?_; rintro e w' ⟨rfl, rfl⟩) | (go_at_call 23; refine (holds_cond _ _ _ _).mono ?_; rintro e w' ⟨rfl, rfl⟩) | (go_at_call 18; refine (two_any _ _ _ (by decide) (by decide) _).mono ?_; rintro e w' ⟨rfl, rfl⟩))
  rw [rounds_succ]
  go_wp2_with (first | (go_at_call 12; refine (holds_any _).mono ?_; rintro e w' ⟨rfl, rfl⟩) | (go_at_call 23; refine (holds_cond _ _ _ _).mono ?_; rintro e w' ⟨rfl, rfl⟩) | (go_at_call 18; refine (two_any _ _ _ (by decide) (by decide) _).mono ?_; rintro e w' ⟨rfl, rfl⟩))
  go_ret
  exact ⟨rfl, by repeat (first | exact Grown.refl _ | apply Grown.drew | apply Grown.alloc)⟩
set_option maxHeartbeats 1000000 in
set_option maxRecDepth 100000 in
theorem NumHolds_xgt (c : Int) (a b : Int) (h : b < a) (h0 : c ≠ 0) (h1 : c ≠ 1) (h2 : c ≠ 2) (h3 : c ≠ 3) (h4 : c ≠ 4) (h5 : c ≠ 5) (w : World) :
    Calls Try.prog 8 #[.int .i64 c, .int .i64 a, .int .i64 b] w fun e w' => e = .returned (.bool true) ∧ Grown w w' := by
  have k0 : cnd 0 a b = false := by unfold cnd; simp; omega
  have k1 : cnd 1 a b = true := by unfold cnd; simp; omega
  have k2 : cnd 2 a b = false := by unfold cnd; simp; omega
  have k3 : cnd 3 a b = true := by unfold cnd; simp; omega
  have k4 : cnd 4 a b = true := by unfold cnd; simp; omega
  have k5 : cnd 5 a b = false := by unfold cnd; simp; omega
  have kx : cnd c a b = false := by unfold cnd; rw [if_neg h0, if_neg h1, if_neg h2, if_neg h3, if_neg h4, if_neg h5]
  have hb : (a == b) = false := by rw [beq_eq_false_iff_ne]; omega
  have hb' : (a != b) = true := by rw [bne_iff_ne]; omega
  have hba : (b == a) = false := by rw [beq_eq_false_iff_ne]; omega
  have l1 : decide (a ≤ b) = false := by simp; omega
  have l2 : decide (b ≤ a) = true := by simp; omega
  have hc : two 148 a b = 1 := by show cmp3 _ _ = _; unfold cmp3; split <;> (try split) <;> omega
  have hc' : two 148 b a = -1 := by show cmp3 _ _ = _; unfold cmp3; split <;> (try split) <;> omega
  have i0 : ∀ w : World, (Instr.index 35 (.agg #[.int .i64 0, .int .i64 1, .int .i64 2, .int .i64 3, .int .i64 4, .int .i64 5]) (.int .i64 0)).run Try.prog w = .ok (.agg #[.int .i64 0, .int .i64 1]) w := fun _ => by kernel_rfl
  have i1 : ∀ w : World, (Instr.index 35 (.agg #[.int .i64 0, .int .i64 1, .int .i64 2, .int .i64 3, .int .i64 4, .int .i64 5]) (.int .i64 1)).run Try.prog w = .ok (.agg #[.int .i64 2, .int .i64 3]) w := fun _ => by kernel_rfl
  have i2 : ∀ w : World, (Instr.index 35 (.agg #[.int .i64 0, .int .i64 1, .int .i64 2, .int .i64 3, .int .i64 4, .int .i64 5]) (.int .i64 2)).run Try.prog w = .ok (.agg #[.int .i64 4, .int .i64 5]) w := fun _ => by kernel_rfl
  go_enter Try.func8, Try.ntmps8
  go_wp2_with (first | (go_at_call 12; refine (holds_any _).mono ?_; rintro e w' ⟨rfl, rfl⟩) | (go_at_call 23; refine (holds_cond _ _ _ _).mono ?_; rintro e w' ⟨rfl, rfl⟩) | (go_at_call 18; refine (two_any _ _ _ (by decide) (by decide) _).mono ?_; rintro e w' ⟨rfl, rfl⟩))
  refine wp_loop_rounds 4 ?_
  rw [rounds_succ]
  go_wp2_with (first | (go_at_call 12; refine (holds_any _).mono ?_; rintro e w' ⟨rfl, rfl⟩) | (go_at_call 23; refine (holds_cond _ _ _ _).mono ?_; rintro e w' ⟨rfl, rfl⟩) | (go_at_call 18; refine (two_any _ _ _ (by decide) (by decide) _).mono ?_; rintro e w' ⟨rfl, rfl⟩))
  go_quiet ((go_at_call 23; exact Calls.quiet_of_same ((holds_cond _ _ _ _).mono fun _ _ ⟨h1, h2⟩ => ⟨h1, h2.symm⟩)))
  go_wp2_with (first | (go_at_call 12; refine (holds_any _).mono ?_; rintro e w' ⟨rfl, rfl⟩) | (go_at_call 23; refine (holds_cond _ _ _ _).mono ?_; rintro e w' ⟨rfl, rfl⟩) | (go_at_call 18; refine (two_any _ _ _ (by decide) (by decide) _).mono ?_; rintro e w' ⟨rfl, rfl⟩))
  rw [rounds_succ]
  go_wp2_with (first | (go_at_call 12; refine (holds_any _).mono ?_; rintro e w' ⟨rfl, rfl⟩) | (go_at_call 23; refine (holds_cond _ _ _ _).mono ?_; rintro e w' ⟨rfl, rfl⟩) | (go_at_call 18; refine (two_any _ _ _ (by decide) (by decide) _).mono ?_; rintro e w' ⟨rfl, rfl⟩))
  go_quiet ((go_at_call 23; exact Calls.quiet_of_same ((holds_cond _ _ _ _).mono fun _ _ ⟨h1, h2⟩ => ⟨h1, h2.symm⟩)))
  go_wp2_with (first | (go_at_call 12; refine (holds_any _).mono ?_; rintro e w' ⟨rfl, rfl⟩) | (go_at_call 23; refine (holds_cond _ _ _ _).mono ?_; rintro e w' ⟨rfl, rfl⟩) | (go_at_call 18; refine (two_any _ _ _ (by decide) (by decide) _).mono ?_; rintro e w' ⟨rfl, rfl⟩))
  rw [rounds_succ]
  go_wp2_with (first | (go_at_call 12; refine (holds_any _).mono ?_; rintro e w' ⟨rfl, rfl⟩) | (go_at_call 23; refine (holds_cond _ _ _ _).mono ?_; rintro e w' ⟨rfl, rfl⟩) | (go_at_call 18; refine (two_any _ _ _ (by decide) (by decide) _).mono ?_; rintro e w' ⟨rfl, rfl⟩))
  go_quiet ((go_at_call 23; exact Calls.quiet_of_same ((holds_cond _ _ _ _).mono fun _ _ ⟨h1, h2⟩ => ⟨h1, h2.symm⟩)))
  go_wp2_with (first | (go_at_call 12; refine (holds_any _).mono ?_; rintro e w' ⟨rfl, rfl⟩) | (go_at_call 23; refine (holds_cond _ _ _ _).mono ?_; rintro e w' ⟨rfl, rfl⟩) | (go_at_call 18; refine (two_any _ _ _ (by decide) (by decide) _).mono ?_; rintro e w' ⟨rfl, rfl⟩))
  rw [rounds_succ]
  go_wp2_with (first | (go_at_call 12; refine (holds_any _).mono ?_; rintro e w' ⟨rfl, rfl⟩) | (go_at_call 23; refine (holds_cond _ _ _ _).mono ?_; rintro e w' ⟨rfl, rfl⟩) | (go_at_call 18; refine (two_any _ _ _ (by decide) (by decide) _).mono ?_; rintro e w' ⟨rfl, rfl⟩))
  go_ret
  exact ⟨rfl, by repeat (first | exact Grown.refl _ | apply Grown.drew | apply Grown.alloc)⟩
set_option maxHeartbeats 1000000 in
set_option maxRecDepth 100000 in
theorem NumHolds_xeq (c : Int) (a : Int)  (h0 : c ≠ 0) (h1 : c ≠ 1) (h2 : c ≠ 2) (h3 : c ≠ 3) (h4 : c ≠ 4) (h5 : c ≠ 5) (w : World) :
    Calls Try.prog 8 #[.int .i64 c, .int .i64 a, .int .i64 a] w fun e w' => e = .returned (.bool true) ∧ Grown w w' := by
  have k0 : cnd 0 a a = true := by unfold cnd; simp
  have k1 : cnd 1 a a = false := by unfold cnd; simp
  have k2 : cnd 2 a a = false := by unfold cnd; simp
  have k3 : cnd 3 a a = true := by unfold cnd; simp
  have k4 : cnd 4 a a = false := by unfold cnd; simp
  have k5 : cnd 5 a a = true := by unfold cnd; simp
  have kx : cnd c a a = false := by unfold cnd; rw [if_neg h0, if_neg h1, if_neg h2, if_neg h3, if_neg h4, if_neg h5]
  have hc : two 148 a a = 0 := by show cmp3 _ _ = _; unfold cmp3; simp
  have hc' : two 148 a a = 0 := by show cmp3 _ _ = _; unfold cmp3; simp
  have i0 : ∀ w : World, (Instr.index 35 (.agg #[.int .i64 0, .int .i64 1, .int .i64 2, .int .i64 3, .int .i64 4, .int .i64 5]) (.int .i64 0)).run Try.prog w = .ok (.agg #[.int .i64 0, .int .i64 1]) w := fun _ => by kernel_rfl
  have i1 : ∀ w : World, (Instr.index 35 (.agg #[.int .i64 0, .int .i64 1, .int .i64 2, .int .i64 3, .int .i64 4, .int .i64 5]) (.int .i64 1)).run Try.prog w = .ok (.agg #[.int .i64 2, .int .i64 3]) w := fun _ => by kernel_rfl
  have i2 : ∀ w : World, (Instr.index 35 (.agg #[.int .i64 0, .int .i64 1, .int .i64 2, .int .i64 3, .int .i64 4, .int .i64 5]) (.int .i64 2)).run Try.prog w = .ok (.agg #[.int .i64 4, .int .i64 5]) w := fun _ => by kernel_rfl
  go_enter Try.func8, Try.ntmps8
  go_wp2_with (first | (go_at_call 12; refine (holds_any _).mono ?_; rintro e w' ⟨rfl, rfl⟩) | (go_at_call 23; refine (holds_cond _ _ _ _).mono ?_; rintro e w' ⟨rfl, rfl⟩) | (go_at_call 18; refine (two_any _ _ _ (by decide) (by decide) _).mono ?_; rintro e w' ⟨rfl, rfl⟩))
  refine wp_loop_rounds 4 ?_
  rw [rounds_succ]
  go_wp2_with (first | (go_at_call 12; refine (holds_any _).mono ?_; rintro e w' ⟨rfl, rfl⟩) | (go_at_call 23; refine (holds_cond _ _ _ _).mono ?_; rintro e w' ⟨rfl, rfl⟩) | (go_at_call 18; refine (two_any _ _ _ (by decide) (by decide) _).mono ?_; rintro e w' ⟨rfl, rfl⟩))
  go_quiet ((go_at_call 23; exact Calls.quiet_of_same ((holds_cond _ _ _ _).mono fun _ _ ⟨h1, h2⟩ => ⟨h1, h2.symm⟩)))
  go_wp2_with (first | (go_at_call 12; refine (holds_any _).mono ?_; rintro e w' ⟨rfl, rfl⟩) | (go_at_call 23; refine (holds_cond _ _ _ _).mono ?_; rintro e w' ⟨rfl, rfl⟩) | (go_at_call 18; refine (two_any _ _ _ (by decide) (by decide) _).mono ?_; rintro e w' ⟨rfl, rfl⟩))
  rw [rounds_succ]
  go_wp2_with (first | (go_at_call 12; refine (holds_any _).mono ?_; rintro e w' ⟨rfl, rfl⟩) | (go_at_call 23; refine (holds_cond _ _ _ _).mono ?_; rintro e w' ⟨rfl, rfl⟩) | (go_at_call 18; refine (two_any _ _ _ (by decide) (by decide) _).mono ?_; rintro e w' ⟨rfl, rfl⟩))
  go_quiet ((go_at_call 23; exact Calls.quiet_of_same ((holds_cond _ _ _ _).mono fun _ _ ⟨h1, h2⟩ => ⟨h1, h2.symm⟩)))
  go_wp2_with (first | (go_at_call 12; refine (holds_any _).mono ?_; rintro e w' ⟨rfl, rfl⟩) | (go_at_call 23; refine (holds_cond _ _ _ _).mono ?_; rintro e w' ⟨rfl, rfl⟩) | (go_at_call 18; refine (two_any _ _ _ (by decide) (by decide) _).mono ?_; rintro e w' ⟨rfl, rfl⟩))
  rw [rounds_succ]
  go_wp2_with (first | (go_at_call 12; refine (holds_any _).mono ?_; rintro e w' ⟨rfl, rfl⟩) | (go_at_call 23; refine (holds_cond _ _ _ _).mono ?_; rintro e w' ⟨rfl, rfl⟩) | (go_at_call 18; refine (two_any _ _ _ (by decide) (by decide) _).mono ?_; rintro e w' ⟨rfl, rfl⟩))
  go_quiet ((go_at_call 23; exact Calls.quiet_of_same ((holds_cond _ _ _ _).mono fun _ _ ⟨h1, h2⟩ => ⟨h1, h2.symm⟩)))
  go_wp2_with (first | (go_at_call 12; refine (holds_any _).mono ?_; rintro e w' ⟨rfl, rfl⟩) | (go_at_call 23; refine (holds_cond _ _ _ _).mono ?_; rintro e w' ⟨rfl, rfl⟩) | (go_at_call 18; refine (two_any _ _ _ (by decide) (by decide) _).mono ?_; rintro e w' ⟨rfl, rfl⟩))
  rw [rounds_succ]
  go_wp2_with (first | (go_at_call 12; refine (holds_any _).mono ?_; rintro e w' ⟨rfl, rfl⟩) | (go_at_call 23; refine (holds_cond _ _ _ _).mono ?_; rintro e w' ⟨rfl, rfl⟩) | (go_at_call 18; refine (two_any _ _ _ (by decide) (by decide) _).mono ?_; rintro e w' ⟨rfl, rfl⟩))
  go_ret
  exact ⟨rfl, by repeat (first | exact Grown.refl _ | apply Grown.drew | apply Grown.alloc)⟩
theorem NumHolds_walk (c a b : Int) (w : World) :
    Calls Try.prog 8 #[.int .i64 c, .int .i64 a, .int .i64 b] w fun e w' => e = .returned (.bool true) ∧ Grown w w' := by
  rcases Int.lt_trichotomy a b with h | h | h
  · by_cases h0 : c = 0
    · subst h0; exact NumHolds_0lt _ _ h w
    by_cases h1 : c = 1
    · subst h1; exact NumHolds_1lt _ _ h w
    by_cases h2 : c = 2
    · subst h2; exact NumHolds_2lt _ _ h w
    by_cases h3 : c = 3
    · subst h3; exact NumHolds_3lt _ _ h w
    by_cases h4 : c = 4
    · subst h4; exact NumHolds_4lt _ _ h w
    by_cases h5 : c = 5
    · subst h5; exact NumHolds_5lt _ _ h w
    exact NumHolds_xlt c _ _ h h0 h1 h2 h3 h4 h5 w
  · subst h; by_cases h0 : c = 0
    · subst h0; exact NumHolds_0eq _  w
    by_cases h1 : c = 1
    · subst h1; exact NumHolds_1eq _  w
    by_cases h2 : c = 2
    · subst h2; exact NumHolds_2eq _  w
    by_cases h3 : c = 3
    · subst h3; exact NumHolds_3eq _  w
    by_cases h4 : c = 4
    · subst h4; exact NumHolds_4eq _  w
    by_cases h5 : c = 5
    · subst h5; exact NumHolds_5eq _  w
    exact NumHolds_xeq c _  h0 h1 h2 h3 h4 h5 w
  · by_cases h0 : c = 0
    · subst h0; exact NumHolds_0gt _ _ h w
    by_cases h1 : c = 1
    · subst h1; exact NumHolds_1gt _ _ h w
    by_cases h2 : c = 2
    · subst h2; exact NumHolds_2gt _ _ h w
    by_cases h3 : c = 3
    · subst h3; exact NumHolds_3gt _ _ h w
    by_cases h4 : c = 4
    · subst h4; exact NumHolds_4gt _ _ h w
    by_cases h5 : c = 5
    · subst h5; exact NumHolds_5gt _ _ h w
    exact NumHolds_xgt c _ _ h h0 h1 h2 h3 h4 h5 w
end Go.Proofs.Ytjhjpifdknhkeaa
