/- Walks of the statements of layer 1 that need package num alone: each returns true for all arguments and leaves the world as it was but for new blocks. -/
import Derived.Test.YtjhjpifdknhkeaaNumHold
import Derived.Test.YtjhjpifdknhkeaaBits
import Derived.OpenShut
import Derived.LoopN
import Derived.LoopTactic
import Derived.Deep.QuietTactic
import Derived.BigQuiet
namespace Go.Proofs.Ytjhjpifdknhkeaa
open Go.RowKit
set_option linter.unusedVariables false

theorem bit_walk (a b : Int) (k : Nat) (hk : k < 64) : ∃ x y : Int, ((x = 0 ∨ x = 1) ∧ (y = 0 ∨ y = 1)) ∧ bits .and .i64 (a / 2 ^ k) 1 = x ∧ bits .and .i64 (b / 2 ^ k) 1 = y ∧ bits .and .i64 (opL 127 a b / 2 ^ k) 1 = x * y ∧ bits .and .i64 (opL 129 a b / 2 ^ k) 1 = max x y ∧ bits .and .i64 (opL 131 a b / 2 ^ k) 1 = (x + y) % 2 := by
  refine ⟨bit a k, bit b k, ⟨bit_01 _ _, bit_01 _ _⟩, ?_⟩
  simp only [and1]
  exact ⟨rfl, rfl, bit_and .i64 a b k hk, bit_or .i64 a b k hk, bit_xor .i64 a b k hk⟩
theorem low_count (a n : Int) : opL 121 a (n % 64) = opL 121 a n ∧ opL 123 a (n % 64) = opL 123 a n ∧ opL 125 a (n % 64) = opL 125 a n := by
  have e := Int.emod_emod n 64
  refine ⟨?_, ?_, ?_⟩
  · show wrap64 (a * 2 ^ (n % 64 % 64).toNat) = wrap64 (a * 2 ^ (n % 64).toNat); rw [e]
  · show a / 2 ^ (n % 64 % 64).toNat = a / 2 ^ (n % 64).toNat; rw [e]
  · show wrap64 (a % 18446744073709551616 / 2 ^ (n % 64 % 64).toNat) = wrap64 (a % 18446744073709551616 / 2 ^ (n % 64).toNat); rw [e]
theorem low_count32 (a n : Int) : opI 120 a (n % 32) = opI 120 a n ∧ opI 122 a (n % 32) = opI 122 a n ∧ opI 124 a (n % 32) = opI 124 a n := by
  have e := Int.emod_emod n 32
  refine ⟨?_, ?_, ?_⟩
  · show wrap32 (a * 2 ^ (n % 32 % 32).toNat) = wrap32 (a * 2 ^ (n % 32).toNat); rw [e]
  · show a / 2 ^ (n % 32 % 32).toNat = a / 2 ^ (n % 32).toNat; rw [e]
  · show wrap32 (a % 4294967296 / 2 ^ (n % 32 % 32).toNat) = wrap32 (a % 4294967296 / 2 ^ (n % 32).toNat); rw [e]
set_option maxHeartbeats 2000000 in
theorem NumBits_walk (a b n : Int) (wa : (Lit.int .i64 a).wf = true) (wb : (Lit.int .i64 b).wf = true) (wn : (Lit.int .i64 n).wf = true) (w : World) :
    Calls Try.prog 11 #[.int .i64 a, .int .i64 b, .int .i64 n] w fun e w' => e = .returned (.bool true) ∧ Grown w w' := by
  go_enter Try.func11, Try.ntmps11
  go_wp2_with (first | (go_at_call 12; refine (holds_any _).mono ?_; rintro e w' ⟨rfl, rfl⟩) | (go_at_call 14; refine (int_any _ _ _ _).mono ?_; rintro e w' ⟨rfl, rfl⟩) | (go_at_call 15; refine (long_any _ _ _ (by decide) (by decide) _).mono ?_; rintro e w' ⟨rfl, rfl⟩))
  go_loopw [26] (fun t w' => ∃ k : Nat, k ≤ 64 ∧ t = .int .i64 k ∧ Grown w w') (fun t _ => (64 - (intOf t).toNat))
  case atStart => exact ⟨0, by omega, rfl, Grown.refl _⟩
  case round =>
    obtain ⟨k, hk, rfl, hg⟩ := hrel
    by_cases hlt : k < 64
    · obtain ⟨x, y, ⟨hx, hy⟩, f1, f2, f3, f4, f5⟩ := bit_walk a b k hlt
      rcases hx with rfl | rfl <;> rcases hy with rfl | rfl
      all_goals
        simp only [show max (0 : Int) 0 = 0 from by decide, show max (0 : Int) 1 = 1 from by decide, show max (1 : Int) 0 = 1 from by decide, show max (1 : Int) 1 = 1 from by decide, show (0 : Int) * 0 = 0 from by decide, show (0 : Int) * 1 = 0 from by decide, show (1 : Int) * 0 = 0 from by decide, show (1 : Int) * 1 = 1 from by decide, show ((0 : Int) + 0) % 2 = 0 from by decide, show ((0 : Int) + 1) % 2 = 1 from by decide, show ((1 : Int) + 0) % 2 = 1 from by decide, show ((1 : Int) + 1) % 2 = 0 from by decide] at f3 f4 f5
        go_wp2_with (first | (go_at_call 12; refine (holds_any _).mono ?_; rintro e w' ⟨rfl, rfl⟩) | (go_at_call 14; refine (int_any _ _ _ _).mono ?_; rintro e w' ⟨rfl, rfl⟩) | (go_at_call 15; refine (long_any _ _ _ (by decide) (by decide) _).mono ?_; rintro e w' ⟨rfl, rfl⟩))
        go_quiet (fail)
        go_wp2_with (first | (go_at_call 12; refine (holds_any _).mono ?_; rintro e w' ⟨rfl, rfl⟩) | (go_at_call 14; refine (int_any _ _ _ _).mono ?_; rintro e w' ⟨rfl, rfl⟩) | (go_at_call 15; refine (long_any _ _ _ (by decide) (by decide) _).mono ?_; rintro e w' ⟨rfl, rfl⟩))
        exact ⟨⟨k + 1, by omega, by go_num, by repeat (first | exact hg | apply Grown.drewN | apply Grown.drew | apply Grown.alloc)⟩, by simp [intOf]; omega⟩
    · obtain rfl : k = 64 := by omega
      obtain ⟨a1, a2, a3⟩ := low_count a n
      obtain ⟨b1, b2, b3⟩ := low_count32 (wrap32 a) (wrap32 n)
      have h63 := and63 n
      have h31 := and31 (wrap32 n)
      go_wp2_with (first | (go_at_call 12; refine (holds_any _).mono ?_; rintro e w' ⟨rfl, rfl⟩) | (go_at_call 14; refine (int_any _ _ _ _).mono ?_; rintro e w' ⟨rfl, rfl⟩) | (go_at_call 15; refine (long_any _ _ _ (by decide) (by decide) _).mono ?_; rintro e w' ⟨rfl, rfl⟩))
      refine wp_loop_rounds 4 ?_
      rw [rounds_succ]
      go_wp2_with (first | (go_at_call 12; refine (holds_any _).mono ?_; rintro e w' ⟨rfl, rfl⟩) | (go_at_call 14; refine (int_any _ _ _ _).mono ?_; rintro e w' ⟨rfl, rfl⟩) | (go_at_call 15; refine (long_any _ _ _ (by decide) (by decide) _).mono ?_; rintro e w' ⟨rfl, rfl⟩))
      rw [rounds_succ]
      go_wp2_with (first | (go_at_call 12; refine (holds_any _).mono ?_; rintro e w' ⟨rfl, rfl⟩) | (go_at_call 14; refine (int_any _ _ _ _).mono ?_; rintro e w' ⟨rfl, rfl⟩) | (go_at_call 15; refine (long_any _ _ _ (by decide) (by decide) _).mono ?_; rintro e w' ⟨rfl, rfl⟩))
      rw [rounds_succ]
      go_wp2_with (first | (go_at_call 12; refine (holds_any _).mono ?_; rintro e w' ⟨rfl, rfl⟩) | (go_at_call 14; refine (int_any _ _ _ _).mono ?_; rintro e w' ⟨rfl, rfl⟩) | (go_at_call 15; refine (long_any _ _ _ (by decide) (by decide) _).mono ?_; rintro e w' ⟨rfl, rfl⟩))
      rw [rounds_succ]
      go_wp2_with (first | (go_at_call 12; refine (holds_any _).mono ?_; rintro e w' ⟨rfl, rfl⟩) | (go_at_call 14; refine (int_any _ _ _ _).mono ?_; rintro e w' ⟨rfl, rfl⟩) | (go_at_call 15; refine (long_any _ _ _ (by decide) (by decide) _).mono ?_; rintro e w' ⟨rfl, rfl⟩))
      go_ret
      exact ⟨rfl, by repeat (first | exact hg | apply Grown.drewN | apply Grown.drew | apply Grown.alloc)⟩
end Go.Proofs.Ytjhjpifdknhkeaa
