/- Contracts of package num: each call answers what 'opI', 'opL' and their kin say. -/
import Derived.Test.YtbkeneadoccodaaProg
import Derived.Test.YtbkeneadoccodaaM12
import Derived.WalkKit
import Derived.Outline
import Derived.WalkLawsBesides
import Derived.Lib.Hide
namespace Go.Proofs.Ytbkeneadoccodaa.Nm
open Go.RowKit
set_option linter.unusedVariables false
theorem quo32_any (a b : Int) (w : World) : Calls Try.prog 128 #[.int .i32 a, .int .i32 b] w fun e w' => e = .returned (.int .i32 (quo wrap32 a b)) ∧ w = w' := by
 by_cases h : b = 0
 ·subst h
  go_enter Try.func128, Try.ntmps128
  go_wp2
  go_ret
  exact ⟨rfl, rfl⟩
 ·have e : quo wrap32 a b = wrap32 (a.tdiv b) := if_neg h
  rw [e]
  go_enter Try.func128, Try.ntmps128
  go_wp2
  go_ret
  exact ⟨rfl, rfl⟩
theorem rst32_any (a b : Int) (w : World) : Calls Try.prog 129 #[.int .i32 a, .int .i32 b] w fun e w' => e = .returned (.int .i32 (rst a b)) ∧ w = w' := by
 by_cases h : b = 0
 ·subst h
  go_enter Try.func129, Try.ntmps129
  go_wp2
  go_ret
  exact ⟨rfl, rfl⟩
 ·have e : rst a b = a.tmod b := if_neg h
  rw [e]
  go_enter Try.func129, Try.ntmps129
  go_wp2
  go_ret
  exact ⟨rfl, rfl⟩
theorem compute32_any (c a b : Int) (w : World) : Calls Try.prog 119 #[.int .i64 c, .int .i32 a, .int .i32 b, .int .i32 31] w fun e w' => e = .returned (.int .i32 (cmpI c a b)) ∧ w = w' := by
 have hm := and31 b
 have hc : c = 96 ∨ c = 100 ∨ c = 104 ∨ c = 108 ∨ c = 112 ∨ c = 120 ∨ c = 122 ∨ c = 126 ∨ c = 128 ∨ c = 130 ∨ (c ≠ 96 ∧ c ≠ 100 ∧ c ≠ 104 ∧ c ≠ 108 ∧ c ≠ 112 ∧ c ≠ 120 ∧ c ≠ 122 ∧ c ≠ 126 ∧ c ≠ 128 ∧ c ≠ 130) := by omega
 rcases hc with rfl | rfl | rfl | rfl | rfl | rfl | rfl | rfl | rfl | rfl | ⟨_, _, _, _, _, _, _, _, _, _⟩
 all_goals (go_enter Try.func119, Try.ntmps119; go_wp2_with (first | (go_at_call 128; refine (quo32_any _ _ _).mono ?_; rintro e w' ⟨rfl, rfl⟩) | (go_at_call 129; refine (rst32_any _ _ _).mono ?_; rintro e w' ⟨rfl, rfl⟩)))
 all_goals go_ret
 all_goals first
  | exact ⟨rfl, rfl⟩
  | (refine ⟨?_, rfl⟩; simp only [cmpI]; simp [*])
theorem quo64_any (a b : Int) (w : World) : Calls Try.prog 126 #[.int .i64 a, .int .i64 b] w fun e w' => e = .returned (.int .i64 (quo wrap64 a b)) ∧ w = w' := by
 by_cases h : b = 0
 ·subst h
  go_enter Try.func126, Try.ntmps126
  go_wp2
  go_ret
  exact ⟨rfl, rfl⟩
 ·have e : quo wrap64 a b = wrap64 (a.tdiv b) := if_neg h
  rw [e]
  go_enter Try.func126, Try.ntmps126
  go_wp2
  go_ret
  exact ⟨rfl, rfl⟩
theorem rst64_any (a b : Int) (w : World) : Calls Try.prog 127 #[.int .i64 a, .int .i64 b] w fun e w' => e = .returned (.int .i64 (rst a b)) ∧ w = w' := by
 by_cases h : b = 0
 ·subst h
  go_enter Try.func127, Try.ntmps127
  go_wp2
  go_ret
  exact ⟨rfl, rfl⟩
 ·have e : rst a b = a.tmod b := if_neg h
  rw [e]
  go_enter Try.func127, Try.ntmps127
  go_wp2
  go_ret
  exact ⟨rfl, rfl⟩
theorem compute64_any (c a b : Int) (w : World) : Calls Try.prog 118 #[.int .i64 c, .int .i64 a, .int .i64 b, .int .i64 63] w fun e w' => e = .returned (.int .i64 (cmpL c a b)) ∧ w = w' := by
 have hm := and63 b
 have hc : c = 96 ∨ c = 100 ∨ c = 104 ∨ c = 108 ∨ c = 112 ∨ c = 120 ∨ c = 122 ∨ c = 126 ∨ c = 128 ∨ c = 130 ∨ (c ≠ 96 ∧ c ≠ 100 ∧ c ≠ 104 ∧ c ≠ 108 ∧ c ≠ 112 ∧ c ≠ 120 ∧ c ≠ 122 ∧ c ≠ 126 ∧ c ≠ 128 ∧ c ≠ 130) := by omega
 rcases hc with rfl | rfl | rfl | rfl | rfl | rfl | rfl | rfl | rfl | rfl | ⟨_, _, _, _, _, _, _, _, _, _⟩
 all_goals (go_enter Try.func118, Try.ntmps118; go_wp2_with (first | (go_at_call 126; refine (quo64_any _ _ _).mono ?_; rintro e w' ⟨rfl, rfl⟩) | (go_at_call 127; refine (rst64_any _ _ _).mono ?_; rintro e w' ⟨rfl, rfl⟩)))
 all_goals go_ret
 all_goals first
  | exact ⟨rfl, rfl⟩
  | (refine ⟨?_, rfl⟩; simp only [cmpL]; simp [*])
theorem odd_any (c : Int) (w : World) : Calls Try.prog 95 #[.int .i64 c] w fun e w' => e = .returned (.bool (c % 2 == 1)) ∧ w = w' := by
 have hm := and1 c
 go_enter Try.func95, Try.ntmps95
 go_wp2
 go_ret
 exact ⟨rfl, rfl⟩
theorem int_any (c a b : Int) (w : World) : Calls Try.prog 97 #[.int .i64 c, .int .i32 a, .int .i32 b] w fun e w' => e = .returned (.int .i32 (opI c a b)) ∧ w = w' := by
 have hm := and31 b
 by_cases h : c = 124
 ·subst h
  have e : opI 124 a b = wrap32 (a % 4294967296 / 2 ^ (b % 32).toNat) := rfl
  rw [e]
  go_enter Try.func97, Try.ntmps97
  go_wp2
  go_ret
  exact ⟨rfl, rfl⟩
 ·have e : opI c a b = cmpI c a b := if_neg h
  rw [e]
  go_enter Try.func97, Try.ntmps97
  go_wp2_with (go_at_call 119; refine (compute32_any _ _ _ _).mono ?_; rintro e w' ⟨rfl, rfl⟩)
  go_ret
  exact ⟨rfl, rfl⟩
theorem long_any (c a b : Int) (hc : -9223372036854775808 ≤ c) (hc2 : c ≤ 9223372036854775807) (w : World) : Calls Try.prog 96 #[.int .i64 c, .int .i64 a, .int .i64 b] w fun e w' => e = .returned (.int .i64 (opL c a b)) ∧ w = w' := by
 have hm := and63 b
 by_cases h : c % 2 = 0
 ·have e : opL c a b = 0 := if_pos h
  rw [e]
  have ho : (c % 2 == 1) = false := by rw [beq_eq_false_iff_ne]; omega
  go_enter Try.func96, Try.ntmps96
  go_wp2_with (go_at_call 95; refine (odd_any _ _).mono ?_; rintro e w' ⟨rfl, rfl⟩)
  go_ret
  exact ⟨rfl, rfl⟩
 have ho : (c % 2 == 1) = true := by rw [beq_iff_eq]; omega
 by_cases h2 : c = 125
 ·subst h2
  have e : opL 125 a b = wrap64 (a % 18446744073709551616 / 2 ^ (b % 64).toNat) := rfl
  rw [e]
  go_enter Try.func96, Try.ntmps96
  go_wp2_with (go_at_call 95; refine (odd_any _ _).mono ?_; rintro e w' ⟨rfl, rfl⟩)
  go_ret
  exact ⟨by rw [← IntKind.wrap_u64]; rfl, rfl⟩
 ·have e : opL c a b = cmpL (c - 1) a b := by unfold opL; rw [if_neg h, if_neg h2]
  have hlo : -9223372036854775808 ≤ c - 1 := by omega
  rw [e]
  go_enter Try.func96, Try.ntmps96
  go_wp2_with (first | (go_at_call 95; refine (odd_any _ _).mono ?_; rintro e w' ⟨rfl, rfl⟩) | (go_at_call 118; refine (compute64_any _ _ _ _).mono ?_; rintro e w' ⟨rfl, rfl⟩))
  go_ret
  exact ⟨rfl, rfl⟩
theorem compare_any (a b : Int) (w : World) : Calls Try.prog 94 #[.int .i64 a, .int .i64 b] w fun e w' => e = .returned (.int .i64 (cmp3 a b)) ∧ w = w' := by
 go_enter Try.func94, Try.ntmps94
 go_wp2
 all_goals go_ret
 all_goals (refine ⟨?_, rfl⟩; refine congrArg (fun n => Ending.returned (Value.int .i64 n)) ?_; simp [cmp3]; omega)
theorem two_any (c a b : Int) (hc : -9223372036854775808 ≤ c) (hc2 : c ≤ 9223372036854775807) (w : World) : Calls Try.prog 61 #[.int .i64 c, .int .i64 a, .int .i64 b] w fun e w' => e = .returned (.int .i64 (two c a b)) ∧ w = w' := by
 by_cases h : c = 148
 ·subst h
  have e : two 148 a b = cmp3 a b := rfl
  rw [e]
  go_enter Try.func61, Try.ntmps61
  go_wp2_with (go_at_call 94; refine (compare_any _ _ _).mono ?_; rintro e w' ⟨rfl, rfl⟩)
  go_ret
  exact ⟨rfl, rfl⟩
 by_cases h : c % 2 = 0
 ·have ho : (c % 2 == 1) = false := by rw [beq_eq_false_iff_ne]; omega
  have e : two c a b = opI c (wrap32 a) (wrap32 b) := by unfold two; rw [if_neg ‹_›, if_pos h]
  rw [e]
  go_enter Try.func61, Try.ntmps61
  go_wp2_with (first | (go_at_call 95; refine (odd_any _ _).mono ?_; rintro e w' ⟨rfl, rfl⟩) | (go_at_call 97; refine (int_any _ _ _ _).mono ?_; rintro e w' ⟨rfl, rfl⟩))
  go_ret
  have hb := opI_in c (wrap32 a) (wrap32 b) (wrap32_bd a)
  exact ⟨congrArg (fun n => Ending.returned (Value.int .i64 n)) (IntWalk.wrap64_in _ (by omega)), rfl⟩
 ·have ho : (c % 2 == 1) = true := by rw [beq_iff_eq]; omega
  have e : two c a b = opL c a b := by unfold two; rw [if_neg ‹_›, if_neg h]
  rw [e]
  go_enter Try.func61, Try.ntmps61
  go_wp2_with (first | (go_at_call 95; refine (odd_any _ _).mono ?_; rintro e w' ⟨rfl, rfl⟩) | (go_at_call 96; refine (long_any _ _ _ hc hc2 _).mono ?_; rintro e w' ⟨rfl, rfl⟩))
  go_ret
  exact ⟨rfl, rfl⟩
theorem one_any (c a : Int) (w : World) : Calls Try.prog 60 #[.int .i64 c, .int .i64 a] w fun e w' => e = .returned (.int .i64 (one c a)) ∧ w = w' := by
 have hc : c = 116 ∨ c = 117 ∨ c = 133 ∨ c = 136 ∨ c = 145 ∨ c = 146 ∨ c = 147 ∨ (c ≠ 116 ∧ c ≠ 117 ∧ c ≠ 133 ∧ c ≠ 136 ∧ c ≠ 145 ∧ c ≠ 146 ∧ c ≠ 147) := by omega
 rcases hc with rfl | rfl | rfl | rfl | rfl | rfl | rfl | ⟨_, _, _, _, _, _, _⟩
 all_goals (go_enter Try.func60, Try.ntmps60; go_wp2)
 all_goals go_ret
 all_goals first
  | exact ⟨rfl, rfl⟩
  | (refine ⟨?_, rfl⟩; simp only [one]; simp [*]; done)
  | (refine ⟨congrArg (fun n => Ending.returned (Value.int .i64 n)) ?_, rfl⟩; simp [one, IntKind_wrap_i8, IntKind_wrap_i16, IntKind_wrap_u16, wrap8, wrap16, wrap32, wrap64]; omega)
theorem holds_cond (c a b : Int) (w : World) : Calls Try.prog 63 #[.int .i64 c, .int .i64 a, .int .i64 b] w fun e w' => e = .returned (.bool (cnd c a b)) ∧ w = w' := by
 have hc : c = 0 ∨ c = 1 ∨ c = 2 ∨ c = 3 ∨ c = 4 ∨ c = 5 ∨ (c ≠ 0 ∧ c ≠ 1 ∧ c ≠ 2 ∧ c ≠ 3 ∧ c ≠ 4 ∧ c ≠ 5) := by omega
 rcases hc with rfl | rfl | rfl | rfl | rfl | rfl | ⟨_, _, _, _, _, _⟩
 all_goals (go_enter Try.func63, Try.ntmps63; go_wp2)
 all_goals go_ret
 all_goals first
  | exact ⟨rfl, rfl⟩
  | (refine ⟨?_, rfl⟩; simp only [cnd]; simp [*])
end Go.Proofs.Ytbkeneadoccodaa.Nm
