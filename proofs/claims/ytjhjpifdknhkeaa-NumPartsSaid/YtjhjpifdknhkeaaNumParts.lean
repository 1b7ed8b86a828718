/- Walks of the statements of layer 1 that need package num alone: each returns true for all arguments and leaves the world as it was but for new blocks. -/
import Derived.Test.YtjhjpifdknhkeaaNumHold
import Derived.Test.YtjhjpifdknhkeaaBits
import Derived.OpenShut
namespace Go.Proofs.Ytjhjpifdknhkeaa
open Go.RowKit
set_option linter.unusedVariables false

set_option maxHeartbeats 1000000 in
theorem NumParts_nn (a b : Int) (ha : -9223372036854775808 ≤ a ∧ a ≤ 9223372036854775807) (hb : -9223372036854775808 < b ∧ b ≤ 9223372036854775807) (hm : wrap64 (wrap64 (opL 109 a b * b) + opL 113 a b) = a)
    (hb1 : b < 0) (hq1 : b < opL 113 a b) (d1 : decide (opL 113 a b < 0) = true) (d2 : decide (a < 0) = true) (d3 : (opL 113 a b != 0) = true) (hr : opL 113 a b < 0) (w : World) :
    Calls Try.prog 6 #[.int .i64 a, .int .i64 b] w fun e w' => e = .returned (.bool true) ∧ w = w' := by
  by_cases h32 : wrap32 b = 0
  · go_enter Try.func6, Try.ntmps6
    go_wp2_with (first | (go_at_call 12; refine (holds_any _).mono ?_; rintro e w' ⟨rfl, rfl⟩) | (go_at_call 14; refine (int_any _ _ _ _).mono ?_; rintro e w' ⟨rfl, rfl⟩) | (go_at_call 15; refine (long_any _ _ _ (by decide) (by decide) _).mono ?_; rintro e w' ⟨rfl, rfl⟩))
    go_ret
    exact ⟨rfl, rfl⟩
  · have hm32 := parts32 (wrap32 a) (wrap32 b) h32 (wrap32_bd a)
    go_enter Try.func6, Try.ntmps6
    go_wp2_with (first | (go_at_call 12; refine (holds_any _).mono ?_; rintro e w' ⟨rfl, rfl⟩) | (go_at_call 14; refine (int_any _ _ _ _).mono ?_; rintro e w' ⟨rfl, rfl⟩) | (go_at_call 15; refine (long_any _ _ _ (by decide) (by decide) _).mono ?_; rintro e w' ⟨rfl, rfl⟩))
    go_ret
    exact ⟨rfl, rfl⟩
set_option maxHeartbeats 1000000 in
theorem NumParts_np (a b : Int) (ha : -9223372036854775808 ≤ a ∧ a ≤ 9223372036854775807) (hb : -9223372036854775808 < b ∧ b ≤ 9223372036854775807) (hm : wrap64 (wrap64 (opL 109 a b * b) + opL 113 a b) = a)
    (hb1 : 0 < b) (hq1 : -b < opL 113 a b) (d1 : decide (opL 113 a b < 0) = true) (d2 : decide (a < 0) = true) (d3 : (opL 113 a b != 0) = true) (hr : opL 113 a b < 0) (w : World) :
    Calls Try.prog 6 #[.int .i64 a, .int .i64 b] w fun e w' => e = .returned (.bool true) ∧ w = w' := by
  by_cases h32 : wrap32 b = 0
  · go_enter Try.func6, Try.ntmps6
    go_wp2_with (first | (go_at_call 12; refine (holds_any _).mono ?_; rintro e w' ⟨rfl, rfl⟩) | (go_at_call 14; refine (int_any _ _ _ _).mono ?_; rintro e w' ⟨rfl, rfl⟩) | (go_at_call 15; refine (long_any _ _ _ (by decide) (by decide) _).mono ?_; rintro e w' ⟨rfl, rfl⟩))
    go_ret
    exact ⟨rfl, rfl⟩
  · have hm32 := parts32 (wrap32 a) (wrap32 b) h32 (wrap32_bd a)
    go_enter Try.func6, Try.ntmps6
    go_wp2_with (first | (go_at_call 12; refine (holds_any _).mono ?_; rintro e w' ⟨rfl, rfl⟩) | (go_at_call 14; refine (int_any _ _ _ _).mono ?_; rintro e w' ⟨rfl, rfl⟩) | (go_at_call 15; refine (long_any _ _ _ (by decide) (by decide) _).mono ?_; rintro e w' ⟨rfl, rfl⟩))
    go_ret
    exact ⟨rfl, rfl⟩
set_option maxHeartbeats 1000000 in
theorem NumParts_zp (a b : Int) (ha : -9223372036854775808 ≤ a ∧ a ≤ 9223372036854775807) (hb : -9223372036854775808 < b ∧ b ≤ 9223372036854775807) (hm : wrap64 (wrap64 (opL 109 a b * b) + opL 113 a b) = a)
    (hb1 : 0 < b) (hq1 : 0 ≤ opL 113 a b) (d1 : decide (opL 113 a b < 0) = false) (d3 : (opL 113 a b != 0) = false) (hr : opL 113 a b ≤ 0) (w : World) :
    Calls Try.prog 6 #[.int .i64 a, .int .i64 b] w fun e w' => e = .returned (.bool true) ∧ w = w' := by
  by_cases h32 : wrap32 b = 0
  · go_enter Try.func6, Try.ntmps6
    go_wp2_with (first | (go_at_call 12; refine (holds_any _).mono ?_; rintro e w' ⟨rfl, rfl⟩) | (go_at_call 14; refine (int_any _ _ _ _).mono ?_; rintro e w' ⟨rfl, rfl⟩) | (go_at_call 15; refine (long_any _ _ _ (by decide) (by decide) _).mono ?_; rintro e w' ⟨rfl, rfl⟩))
    go_ret
    exact ⟨rfl, rfl⟩
  · have hm32 := parts32 (wrap32 a) (wrap32 b) h32 (wrap32_bd a)
    go_enter Try.func6, Try.ntmps6
    go_wp2_with (first | (go_at_call 12; refine (holds_any _).mono ?_; rintro e w' ⟨rfl, rfl⟩) | (go_at_call 14; refine (int_any _ _ _ _).mono ?_; rintro e w' ⟨rfl, rfl⟩) | (go_at_call 15; refine (long_any _ _ _ (by decide) (by decide) _).mono ?_; rintro e w' ⟨rfl, rfl⟩))
    go_ret
    exact ⟨rfl, rfl⟩
set_option maxHeartbeats 1000000 in
theorem NumParts_zn (a b : Int) (ha : -9223372036854775808 ≤ a ∧ a ≤ 9223372036854775807) (hb : -9223372036854775808 < b ∧ b ≤ 9223372036854775807) (hm : wrap64 (wrap64 (opL 109 a b * b) + opL 113 a b) = a)
    (hb1 : b < 0) (hq1 : 0 ≤ opL 113 a b) (d1 : decide (opL 113 a b < 0) = false) (d3 : (opL 113 a b != 0) = false) (hr : opL 113 a b ≤ 0) (w : World) :
    Calls Try.prog 6 #[.int .i64 a, .int .i64 b] w fun e w' => e = .returned (.bool true) ∧ w = w' := by
  by_cases h32 : wrap32 b = 0
  · go_enter Try.func6, Try.ntmps6
    go_wp2_with (first | (go_at_call 12; refine (holds_any _).mono ?_; rintro e w' ⟨rfl, rfl⟩) | (go_at_call 14; refine (int_any _ _ _ _).mono ?_; rintro e w' ⟨rfl, rfl⟩) | (go_at_call 15; refine (long_any _ _ _ (by decide) (by decide) _).mono ?_; rintro e w' ⟨rfl, rfl⟩))
    go_ret
    exact ⟨rfl, rfl⟩
  · have hm32 := parts32 (wrap32 a) (wrap32 b) h32 (wrap32_bd a)
    go_enter Try.func6, Try.ntmps6
    go_wp2_with (first | (go_at_call 12; refine (holds_any _).mono ?_; rintro e w' ⟨rfl, rfl⟩) | (go_at_call 14; refine (int_any _ _ _ _).mono ?_; rintro e w' ⟨rfl, rfl⟩) | (go_at_call 15; refine (long_any _ _ _ (by decide) (by decide) _).mono ?_; rintro e w' ⟨rfl, rfl⟩))
    go_ret
    exact ⟨rfl, rfl⟩
set_option maxHeartbeats 1000000 in
theorem NumParts_pp (a b : Int) (ha : -9223372036854775808 ≤ a ∧ a ≤ 9223372036854775807) (hb : -9223372036854775808 < b ∧ b ≤ 9223372036854775807) (hm : wrap64 (wrap64 (opL 109 a b * b) + opL 113 a b) = a)
    (hb1 : 0 < b) (hq1 : opL 113 a b < b) (d1 : decide (opL 113 a b < 0) = false) (d2 : decide (a < 0) = false) (d3 : (opL 113 a b != 0) = true) (hr : 0 < opL 113 a b) (w : World) :
    Calls Try.prog 6 #[.int .i64 a, .int .i64 b] w fun e w' => e = .returned (.bool true) ∧ w = w' := by
  by_cases h32 : wrap32 b = 0
  · go_enter Try.func6, Try.ntmps6
    go_wp2_with (first | (go_at_call 12; refine (holds_any _).mono ?_; rintro e w' ⟨rfl, rfl⟩) | (go_at_call 14; refine (int_any _ _ _ _).mono ?_; rintro e w' ⟨rfl, rfl⟩) | (go_at_call 15; refine (long_any _ _ _ (by decide) (by decide) _).mono ?_; rintro e w' ⟨rfl, rfl⟩))
    go_ret
    exact ⟨rfl, rfl⟩
  · have hm32 := parts32 (wrap32 a) (wrap32 b) h32 (wrap32_bd a)
    go_enter Try.func6, Try.ntmps6
    go_wp2_with (first | (go_at_call 12; refine (holds_any _).mono ?_; rintro e w' ⟨rfl, rfl⟩) | (go_at_call 14; refine (int_any _ _ _ _).mono ?_; rintro e w' ⟨rfl, rfl⟩) | (go_at_call 15; refine (long_any _ _ _ (by decide) (by decide) _).mono ?_; rintro e w' ⟨rfl, rfl⟩))
    go_ret
    exact ⟨rfl, rfl⟩
set_option maxHeartbeats 1000000 in
theorem NumParts_pn (a b : Int) (ha : -9223372036854775808 ≤ a ∧ a ≤ 9223372036854775807) (hb : -9223372036854775808 < b ∧ b ≤ 9223372036854775807) (hm : wrap64 (wrap64 (opL 109 a b * b) + opL 113 a b) = a)
    (hb1 : b < 0) (hq1 : opL 113 a b < -b) (d1 : decide (opL 113 a b < 0) = false) (d2 : decide (a < 0) = false) (d3 : (opL 113 a b != 0) = true) (hr : 0 < opL 113 a b) (w : World) :
    Calls Try.prog 6 #[.int .i64 a, .int .i64 b] w fun e w' => e = .returned (.bool true) ∧ w = w' := by
  by_cases h32 : wrap32 b = 0
  · go_enter Try.func6, Try.ntmps6
    go_wp2_with (first | (go_at_call 12; refine (holds_any _).mono ?_; rintro e w' ⟨rfl, rfl⟩) | (go_at_call 14; refine (int_any _ _ _ _).mono ?_; rintro e w' ⟨rfl, rfl⟩) | (go_at_call 15; refine (long_any _ _ _ (by decide) (by decide) _).mono ?_; rintro e w' ⟨rfl, rfl⟩))
    go_ret
    exact ⟨rfl, rfl⟩
  · have hm32 := parts32 (wrap32 a) (wrap32 b) h32 (wrap32_bd a)
    go_enter Try.func6, Try.ntmps6
    go_wp2_with (first | (go_at_call 12; refine (holds_any _).mono ?_; rintro e w' ⟨rfl, rfl⟩) | (go_at_call 14; refine (int_any _ _ _ _).mono ?_; rintro e w' ⟨rfl, rfl⟩) | (go_at_call 15; refine (long_any _ _ _ (by decide) (by decide) _).mono ?_; rintro e w' ⟨rfl, rfl⟩))
    go_ret
    exact ⟨rfl, rfl⟩
set_option maxHeartbeats 1000000 in
theorem NumParts_min_n (a : Int) (ha : -9223372036854775808 ≤ a ∧ a ≤ 9223372036854775807) (hm : wrap64 (wrap64 (opL 109 a (-9223372036854775808) * -9223372036854775808) + opL 113 a (-9223372036854775808)) = a)
    (d1 : decide (opL 113 a (-9223372036854775808) < 0) = true) (d2 : decide (a < 0) = true) (d3 : (opL 113 a (-9223372036854775808) != 0) = true) (w : World) :
    Calls Try.prog 6 #[.int .i64 a, .int .i64 (-9223372036854775808)] w fun e w' => e = .returned (.bool true) ∧ w = w' := by
  have h32 : wrap32 (-9223372036854775808) = 0 := by decide +kernel
  go_enter Try.func6, Try.ntmps6
  go_wp2_with (first | (go_at_call 12; refine (holds_any _).mono ?_; rintro e w' ⟨rfl, rfl⟩) | (go_at_call 14; refine (int_any _ _ _ _).mono ?_; rintro e w' ⟨rfl, rfl⟩) | (go_at_call 15; refine (long_any _ _ _ (by decide) (by decide) _).mono ?_; rintro e w' ⟨rfl, rfl⟩))
  go_ret
  exact ⟨rfl, rfl⟩
set_option maxHeartbeats 1000000 in
theorem NumParts_min_z (a : Int) (ha : -9223372036854775808 ≤ a ∧ a ≤ 9223372036854775807) (hm : wrap64 (wrap64 (opL 109 a (-9223372036854775808) * -9223372036854775808) + opL 113 a (-9223372036854775808)) = a)
    (d1 : decide (opL 113 a (-9223372036854775808) < 0) = false) (d3 : (opL 113 a (-9223372036854775808) != 0) = false) (w : World) :
    Calls Try.prog 6 #[.int .i64 a, .int .i64 (-9223372036854775808)] w fun e w' => e = .returned (.bool true) ∧ w = w' := by
  have h32 : wrap32 (-9223372036854775808) = 0 := by decide +kernel
  go_enter Try.func6, Try.ntmps6
  go_wp2_with (first | (go_at_call 12; refine (holds_any _).mono ?_; rintro e w' ⟨rfl, rfl⟩) | (go_at_call 14; refine (int_any _ _ _ _).mono ?_; rintro e w' ⟨rfl, rfl⟩) | (go_at_call 15; refine (long_any _ _ _ (by decide) (by decide) _).mono ?_; rintro e w' ⟨rfl, rfl⟩))
  go_ret
  exact ⟨rfl, rfl⟩
set_option maxHeartbeats 1000000 in
theorem NumParts_min_p (a : Int) (ha : -9223372036854775808 ≤ a ∧ a ≤ 9223372036854775807) (hm : wrap64 (wrap64 (opL 109 a (-9223372036854775808) * -9223372036854775808) + opL 113 a (-9223372036854775808)) = a)
    (d1 : decide (opL 113 a (-9223372036854775808) < 0) = false) (d2 : decide (a < 0) = false) (d3 : (opL 113 a (-9223372036854775808) != 0) = true) (w : World) :
    Calls Try.prog 6 #[.int .i64 a, .int .i64 (-9223372036854775808)] w fun e w' => e = .returned (.bool true) ∧ w = w' := by
  have h32 : wrap32 (-9223372036854775808) = 0 := by decide +kernel
  go_enter Try.func6, Try.ntmps6
  go_wp2_with (first | (go_at_call 12; refine (holds_any _).mono ?_; rintro e w' ⟨rfl, rfl⟩) | (go_at_call 14; refine (int_any _ _ _ _).mono ?_; rintro e w' ⟨rfl, rfl⟩) | (go_at_call 15; refine (long_any _ _ _ (by decide) (by decide) _).mono ?_; rintro e w' ⟨rfl, rfl⟩))
  go_ret
  exact ⟨rfl, rfl⟩
theorem NumParts_zero (a : Int) (w : World) :
    Calls Try.prog 6 #[.int .i64 a, .int .i64 0] w fun e w' => e = .returned (.bool true) ∧ w = w' := by
  have h1 : opL 109 a 0 = 0 := rfl
  have h2 : opL 113 a 0 = 0 := rfl
  go_enter Try.func6, Try.ntmps6
  go_wp2_with (first | (go_at_call 12; refine (holds_any _).mono ?_; rintro e w' ⟨rfl, rfl⟩) | (go_at_call 14; refine (int_any _ _ _ _).mono ?_; rintro e w' ⟨rfl, rfl⟩) | (go_at_call 15; refine (long_any _ _ _ (by decide) (by decide) _).mono ?_; rintro e w' ⟨rfl, rfl⟩))
  go_ret
  exact ⟨rfl, rfl⟩
theorem NumParts_walk (a b : Int) (wa : (Lit.int .i64 a).wf = true) (wb : (Lit.int .i64 b).wf = true) (w : World) :
    Calls Try.prog 6 #[.int .i64 a, .int .i64 b] w fun e w' => e = .returned (.bool true) ∧ w = w' := by
  have ha := bounds_i64 wa
  have hb := bounds_i64 wb
  by_cases hb0 : b = 0
  · subst hb0; exact NumParts_zero a w
  have hm := parts64 a b hb0 ha
  obtain ⟨hn1, hn2, hn3, hn4⟩ := rest_near a b hb0
  by_cases hmin : b = -9223372036854775808
  · subst hmin
    have hr : (opL 113 a (-9223372036854775808) < 0 ∧ a < 0) ∨ opL 113 a (-9223372036854775808) = 0 ∨ (0 < opL 113 a (-9223372036854775808) ∧ 0 < a) := by omega
    rcases hr with ⟨hr, hr'⟩ | hr | ⟨hr, hr'⟩
    · exact NumParts_min_n a ha hm (decide_eq_true hr) (decide_eq_true hr') (bne_iff_ne.2 (by omega)) w
    · exact NumParts_min_z a ha hm (decide_eq_false (by omega)) (by rw [hr]; rfl) w
    · exact NumParts_min_p a ha hm (decide_eq_false (by omega)) (decide_eq_false (by omega)) (bne_iff_ne.2 (by omega)) w
  have hr : (opL 113 a b < 0 ∧ a < 0 ∧ b < 0 ∧ b < opL 113 a b) ∨ (opL 113 a b < 0 ∧ a < 0 ∧ 0 < b ∧ -b < opL 113 a b) ∨ (opL 113 a b = 0 ∧ 0 < b) ∨ (opL 113 a b = 0 ∧ b < 0) ∨ (0 < opL 113 a b ∧ 0 < a ∧ 0 < b ∧ opL 113 a b < b) ∨ (0 < opL 113 a b ∧ 0 < a ∧ b < 0 ∧ opL 113 a b < -b) := by omega
  have hb' : -9223372036854775808 < b ∧ b ≤ 9223372036854775807 := by omega
  rcases hr with ⟨hr, h1, h2, h3⟩ | ⟨hr, h1, h2, h3⟩ | ⟨hr, h1⟩ | ⟨hr, h1⟩ | ⟨hr, h1, h2, h3⟩ | ⟨hr, h1, h2, h3⟩
  · exact NumParts_nn a b ha hb' hm h2 h3 (decide_eq_true hr) (decide_eq_true h1) (bne_iff_ne.2 (by omega)) hr w
  · exact NumParts_np a b ha hb' hm h2 h3 (decide_eq_true hr) (decide_eq_true h1) (bne_iff_ne.2 (by omega)) hr w
  · exact NumParts_zp a b ha hb' hm h1 (by omega) (decide_eq_false (by omega)) (by rw [hr]; rfl) (by omega) w
  · exact NumParts_zn a b ha hb' hm h1 (by omega) (decide_eq_false (by omega)) (by rw [hr]; rfl) (by omega) w
  · exact NumParts_pp a b ha hb' hm h2 h3 (decide_eq_false (by omega)) (decide_eq_false (by omega)) (bne_iff_ne.2 (by omega)) hr w
  · exact NumParts_pn a b ha hb' hm h2 h3 (decide_eq_false (by omega)) (decide_eq_false (by omega)) (bne_iff_ne.2 (by omega)) hr w
end Go.Proofs.Ytjhjpifdknhkeaa
