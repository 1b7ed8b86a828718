/- Walks of the statements of layer 1 that need package num alone: each returns true for all arguments and leaves the world as it was but for new blocks. -/
import Derived.Test.YtjhjpifdknhkeaaNumHold
import Derived.Test.YtjhjpifdknhkeaaBits
import Derived.OpenShut
namespace Go.Proofs.Ytjhjpifdknhkeaa
open Go.RowKit
set_option linter.unusedVariables false

theorem pow_minus (m : Nat) (h : m ≤ 63) : wrap64 (wrap64 (2 ^ m) - 1) = 2 ^ m - 1 := by
  have h2 : (2 : Int) ^ m ≤ 2 ^ 63 := by
    rw [← pow_cast, ← pow_cast]; exact_mod_cast Nat.pow_le_pow_right (by decide) h
  have h3 := pow_pos m
  generalize (2 : Int) ^ m = p at h2 h3 ⊢
  unfold wrap64
  omega
theorem low_any (a n : Int) (m : Nat) (hn : n = m) (hm : 2 ≤ m) (h : m ≤ 63) (w : World) : Calls Try.prog 22 #[.int .i64 a, .int .i64 n] w fun e w' => e = .returned (.int .i64 (a % 2 ^ m)) ∧ w = w' := by
  subst hn
  have hl : bits .and .i64 a (wrap64 (wrap64 (2 ^ m) - 1)) = a % 2 ^ m := by rw [pow_minus m h]; exact and_low a m (by omega) h
  go_enter Try.func22, Try.ntmps22
  go_wp2
  go_ret
  exact ⟨rfl, rfl⟩
theorem low_all (a : Int) (w : World) : Calls Try.prog 22 #[.int .i64 a, .int .i64 64] w fun e w' => e = .returned (.int .i64 a) ∧ w = w' := by
  go_enter Try.func22, Try.ntmps22
  go_wp2
  go_ret
  exact ⟨rfl, rfl⟩
theorem NumMoves_63 (a n : Int) (hn : n % 64 = 63) (w : World) :
    Calls Try.prog 7 #[.int .i64 a, .int .i64 n] w fun e w' => e = .returned (.bool true) ∧ w = w' := by
  have h1 := and63 n
  have h2 := and1 a
  have h3 := moves63 a
  go_enter Try.func7, Try.ntmps7
  go_wp2_with (first | (go_at_call 12; refine (holds_any _).mono ?_; rintro e w' ⟨rfl, rfl⟩) | (go_at_call 15; refine (long_any _ _ _ (by decide) (by decide) _).mono ?_; rintro e w' ⟨rfl, rfl⟩))
  go_ret
  exact ⟨rfl, rfl⟩
theorem NumMoves_0 (a n : Int) (ha : -9223372036854775808 ≤ a ∧ a ≤ 9223372036854775807) (hn : n % 64 = 0) (w : World) :
    Calls Try.prog 7 #[.int .i64 a, .int .i64 n] w fun e w' => e = .returned (.bool true) ∧ w = w' := by
  have h1 := and63 n
  have h3 : opL 121 a 0 = a := by rw [show (0 : Int) = ((0 : Nat) : Int) from rfl, opL121 _ _ (by decide)]; simp; exact wrap64_id ha
  have h4 : opL 125 a 0 = a := by have := moves_none a ha; rwa [h3] at this
  have h5 : opL 123 a 0 = a := by rw [show (0 : Int) = ((0 : Nat) : Int) from rfl, opL123 _ _ (by decide)]; simp
  have h6 : opL 121 a 64 = a := by have := moves_round a 0 (by decide); simp at this; rw [this, h3]
  go_enter Try.func7, Try.ntmps7
  go_wp2_with (first | (go_at_call 12; refine (holds_any _).mono ?_; rintro e w' ⟨rfl, rfl⟩) | (go_at_call 15; refine (long_any _ _ _ (by decide) (by decide) _).mono ?_; rintro e w' ⟨rfl, rfl⟩) | (go_at_call 22; refine (low_all _ _).mono ?_; rintro e w' ⟨rfl, rfl⟩))
  go_ret
  exact ⟨rfl, rfl⟩
theorem NumMoves_m (a n : Int) (m : Nat) (ha : -9223372036854775808 ≤ a ∧ a ≤ 9223372036854775807) (hn : n % 64 = m) (hm : 1 ≤ m) (hm2 : m ≤ 62) (w : World) :
    Calls Try.prog 7 #[.int .i64 a, .int .i64 n] w fun e w' => e = .returned (.bool true) ∧ w = w' := by
  have h1 := and63 n
  have h3 := moves_back a m (by omega) (by omega)
  have h4 := moves_more a m hm2
  have h5 := moves_right a m hm2
  have h6 := moves_round a m (by omega)
  have h7 : wrap64 (a * wrap64 (2 ^ m)) = opL 121 a m := by rw [opL121 _ _ (by omega), wrap64_mul_r]
  go_enter Try.func7, Try.ntmps7
  go_wp2_with (first | (go_at_call 12; refine (holds_any _).mono ?_; rintro e w' ⟨rfl, rfl⟩) | (go_at_call 15; refine (long_any _ _ _ (by decide) (by decide) _).mono ?_; rintro e w' ⟨rfl, rfl⟩) | (go_at_call 22; refine (low_any _ _ (64 - m) (by omega) (by omega) (by omega) _).mono ?_; rintro e w' ⟨rfl, rfl⟩))
  go_ret
  exact ⟨rfl, rfl⟩
theorem NumMoves_walk (a n : Int) (wa : (Lit.int .i64 a).wf = true) (w : World) :
    Calls Try.prog 7 #[.int .i64 a, .int .i64 n] w fun e w' => e = .returned (.bool true) ∧ w = w' := by
  have ha := bounds_i64 wa
  by_cases h0 : n % 64 = 0
  · exact NumMoves_0 a n ha h0 w
  by_cases h63 : n % 64 = 63
  · exact NumMoves_63 a n h63 w
  exact NumMoves_m a n (n % 64).toNat ha (by omega) (by omega) (by omega) w
end Go.Proofs.Ytjhjpifdknhkeaa
