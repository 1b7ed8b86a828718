/- Contracts of the table's rows, the program's. -/
import Derived.Test.YtifheohdgjamnaaProg
import Derived.Test.YtifheohdgjamnaaCodeMath
import Derived.WalkKit
import Derived.ProofKit
import Derived.Below
namespace Go.Proofs.Ytifheohdgjamnaa
open Go.RowKit Go
set_option linter.unusedVariables false

theorem lhid {p : Prop} (h : p) : Hid p := h
set_option maxHeartbeats 8000000 in
set_option maxRecDepth 100000 in
theorem rowOf_any (c : Int) (w : World) :
    Calls Try.prog 26 #[.int .i64 c] w fun e w' => e = .returned (.int .i64 (rowN c)) ∧ w = w' := by
  go_enter Try.func26, Try.ntmps26
  go_wp2
  all_goals go_ret
  all_goals
    refine ⟨?_, rfl⟩
    rename_i h
    first
      | (obtain rfl := eq_of_beq h; rfl)
      | (simp only [beq_eq_false_iff_ne, ne_eq] at *
         rw [show rowN c = 0 by unfold rowN ro1 ro2 ro5 ro6; simp [*]]
         rfl)
theorem rowOf_r (c : Int) (r : Nat) (w : World) (h : Hid (rowN c = r)) :
    Calls Try.prog 26 #[.int .i64 c] w fun e w' => e = .returned (.int .i64 r) ∧ w = w' := by
  have := rowOf_any c w
  rwa [h.out] at this
set_option maxHeartbeats 1000000 in
set_option maxRecDepth 100000 in
theorem size_any (c : Int) (w : World) :
    Calls Try.prog 14 #[.int .i64 c] w fun e w' => e = .returned (.int .i64 (szN c)) ∧ w = w' := by
  have hle := rowN_le c
  obtain ⟨r, hr⟩ : ∃ r, rowN c = r := ⟨_, rfl⟩
  have HR := lhid hr
  unfold szN
  rw [hr] at hle ⊢
  rcases row_ways hle with rfl | rfl | rfl | rfl | rfl | rfl | rfl | rfl
  all_goals
    clear hr hle
    go_enter Try.func14, Try.ntmps14
    go_wp2_with fail
    with_reducible refine (rowOf_r c _ _ HR).mono ?_
    rintro e w1 ⟨rfl, rfl⟩
    go_wp2_with fail
    go_ret
    exact ⟨rfl, rfl⟩
set_option maxHeartbeats 1000000 in
set_option maxRecDepth 100000 in
theorem leads_any (c : Int) (w : World) :
    Calls Try.prog 16 #[.int .i64 c] w fun e w' => e = .returned (.bool (decide (rowN c = 6))) ∧ w = w' := by
  have hle := rowN_le c
  obtain ⟨r, hr⟩ : ∃ r, rowN c = r := ⟨_, rfl⟩
  have HR := lhid hr
  rw [hr] at hle ⊢
  rcases row_ways hle with rfl | rfl | rfl | rfl | rfl | rfl | rfl | rfl
  all_goals
    clear hr hle
    go_enter Try.func16, Try.ntmps16
    go_wp2_with fail
    with_reducible refine (rowOf_r c _ _ HR).mono ?_
    rintro e w1 ⟨rfl, rfl⟩
    go_wp2_with fail
    go_ret
    exact ⟨rfl, rfl⟩
set_option maxHeartbeats 1000000 in
set_option maxRecDepth 100000 in
theorem ends_any (c : Int) (w : World) :
    Calls Try.prog 18 #[.int .i64 c] w fun e w' => e = .returned (.bool (decide (c ∈ ends))) ∧ w = w' := by
  go_enter Try.func18, Try.ntmps18
  go_wp2
  all_goals go_ret
  all_goals
    refine ⟨?_, rfl⟩
    rename_i h
    first
      | (obtain rfl := eq_of_beq h; rfl)
      | (simp only [beq_eq_false_iff_ne, ne_eq] at *
         rw [show decide (c ∈ ends) = false by unfold ends; simp [*]]
         rfl)
end Go.Proofs.Ytifheohdgjamnaa
