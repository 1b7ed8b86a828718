/- Walks of the statements of layer 1 that need package num alone: each returns true for all arguments and leaves the world as it was but for new blocks. -/
import Derived.Test.YtjhjpifdknhkeaaNumHold
import Derived.Test.YtjhjpifdknhkeaaBits
import Derived.OpenShut
import Derived.LoopN
import Derived.LoopTactic
import Derived.Deep.QuietTactic
import Derived.BigQuiet
namespace Go.Proofs.Ytjhjpifdknhkeaa
open Go.RowKit
set_option linter.unusedVariables false

theorem and65535 (n : Int) : bits .and .i64 n 65535 = n % 65536 := and_mask .i64 n 16 65535 (by decide) (by intro x h0 h1; rw [IntKind.wrap_i64]; omega) (by decide)
theorem one_cuts (a : Int) : (one 133 (one 133 a) = one 133 a ∧ one 133 a % 256 = a % 256 ∧ one 133 a % 65536 = a % 65536) ∧ (one 136 (one 136 a) = one 136 a ∧ one 136 a % 256 = a % 256 ∧ one 136 a % 65536 = a % 65536)
    ∧ (one 145 (one 145 a) = one 145 a ∧ one 145 a % 256 = a % 256) ∧ (one 146 (one 146 a) = one 146 a ∧ one 146 a % 256 = a % 256 ∧ one 146 a % 65536 = a % 65536) ∧ (one 147 (one 147 a) = one 147 a ∧ one 147 a % 256 = a % 256 ∧ one 147 a % 65536 = a % 65536) := by
  simp only [one]
  simp [wrap32, wrap8, wrap16]
  omega
set_option maxHeartbeats 2000000 in
theorem NumCuts_walk (a : Int) (wa : (Lit.int .i64 a).wf = true) (w : World) :
    Calls Try.prog 10 #[.int .i64 a] w fun e w' => e = .returned (.bool true) ∧ Grown w w' := by
  have ha := bounds_i64 wa
  obtain ⟨⟨a1, a2, a3⟩, ⟨b1, b2, b3⟩, ⟨c1, c2⟩, ⟨d1, d2, d3⟩, ⟨e1, e2, e3⟩⟩ := one_cuts a
  rw [← IntKind_wrap_u16, ← IntKind_wrap_u16] at a3 b3 d3 e3
  have h65 := and65535 a
  have g1 : (one 136 a == wrap64 (wrap32 a)) = true := by rw [beq_iff_eq, wrap64_id (by have := wrap32_bd a; omega)]; rfl
  have g1' : (one 136 a == wrap32 a) = true := by rw [beq_iff_eq]; rfl
  have g2 : (one 146 a == a % 65536) = true := by rw [beq_iff_eq]; rfl
  have g3 : (one 117 (one 117 a) == a) = true := by rw [beq_iff_eq]; show wrap64 (- wrap64 (-a)) = a; unfold wrap64; omega
  have g4 : (two 100 0 a == one 116 a) = true := by rw [beq_iff_eq]; show wrap32 (wrap32 0 - wrap32 a) = wrap32 (- wrap32 a); rw [wrap32_sub_l, Int.zero_sub]
  go_enter Try.func10, Try.ntmps10
  go_wp2_with (first | (go_at_call 12; refine (holds_any _).mono ?_; rintro e w' ⟨rfl, rfl⟩) | (go_at_call 18; refine (two_any _ _ _ (by decide) (by decide) _).mono ?_; rintro e w' ⟨rfl, rfl⟩) | (go_at_call 20; refine (one_any _ _ _).mono ?_; rintro e w' ⟨rfl, rfl⟩))
  refine wp_loop_rounds 6 ?_
  rw [rounds_succ]
  go_wp2_with (first | (go_at_call 12; refine (holds_any _).mono ?_; rintro e w' ⟨rfl, rfl⟩) | (go_at_call 18; refine (two_any _ _ _ (by decide) (by decide) _).mono ?_; rintro e w' ⟨rfl, rfl⟩) | (go_at_call 20; refine (one_any _ _ _).mono ?_; rintro e w' ⟨rfl, rfl⟩))
  rw [rounds_succ]
  go_wp2_with (first | (go_at_call 12; refine (holds_any _).mono ?_; rintro e w' ⟨rfl, rfl⟩) | (go_at_call 18; refine (two_any _ _ _ (by decide) (by decide) _).mono ?_; rintro e w' ⟨rfl, rfl⟩) | (go_at_call 20; refine (one_any _ _ _).mono ?_; rintro e w' ⟨rfl, rfl⟩))
  rw [rounds_succ]
  go_wp2_with (first | (go_at_call 12; refine (holds_any _).mono ?_; rintro e w' ⟨rfl, rfl⟩) | (go_at_call 18; refine (two_any _ _ _ (by decide) (by decide) _).mono ?_; rintro e w' ⟨rfl, rfl⟩) | (go_at_call 20; refine (one_any _ _ _).mono ?_; rintro e w' ⟨rfl, rfl⟩))
  rw [rounds_succ]
  go_wp2_with (first | (go_at_call 12; refine (holds_any _).mono ?_; rintro e w' ⟨rfl, rfl⟩) | (go_at_call 18; refine (two_any _ _ _ (by decide) (by decide) _).mono ?_; rintro e w' ⟨rfl, rfl⟩) | (go_at_call 20; refine (one_any _ _ _).mono ?_; rintro e w' ⟨rfl, rfl⟩))
  rw [rounds_succ]
  go_wp2_with (first | (go_at_call 12; refine (holds_any _).mono ?_; rintro e w' ⟨rfl, rfl⟩) | (go_at_call 18; refine (two_any _ _ _ (by decide) (by decide) _).mono ?_; rintro e w' ⟨rfl, rfl⟩) | (go_at_call 20; refine (one_any _ _ _).mono ?_; rintro e w' ⟨rfl, rfl⟩))
  rw [rounds_succ]
  go_wp2_with (first | (go_at_call 12; refine (holds_any _).mono ?_; rintro e w' ⟨rfl, rfl⟩) | (go_at_call 18; refine (two_any _ _ _ (by decide) (by decide) _).mono ?_; rintro e w' ⟨rfl, rfl⟩) | (go_at_call 20; refine (one_any _ _ _).mono ?_; rintro e w' ⟨rfl, rfl⟩))
  go_ret
  exact ⟨rfl, by repeat (first | exact Grown.refl _ | apply Grown.drew | apply Grown.alloc)⟩
end Go.Proofs.Ytjhjpifdknhkeaa
