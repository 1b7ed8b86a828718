/- Walks of the statements of layer 1 that need package num alone: each returns true for all arguments and leaves the world as it was but for new blocks. -/
import Derived.Test.YtjhjpifdknhkeaaNumHold
import Derived.Test.YtjhjpifdknhkeaaBits
import Derived.OpenShut
namespace Go.Proofs.Ytjhjpifdknhkeaa
open Go.RowKit
set_option linter.unusedVariables false

theorem add_any (x y : Int) (w : World) : Calls Try.prog 24 #[.int .i32 x, .int .i32 y] w fun e w' => e = .returned (.int .i32 (opI 96 x y)) ∧ w = w' := by
  go_enter Try.func24, Try.ntmps24
  go_wp2_with (first | (go_at_call 12; refine (holds_any _).mono ?_; rintro e w' ⟨rfl, rfl⟩) | (go_at_call 14; refine (int_any _ _ _ _).mono ?_; rintro e w' ⟨rfl, rfl⟩))
  go_ret
  exact ⟨rfl, rfl⟩
theorem mul_any (x y : Int) (w : World) : Calls Try.prog 25 #[.int .i32 x, .int .i32 y] w fun e w' => e = .returned (.int .i32 (opI 104 x y)) ∧ w = w' := by
  go_enter Try.func25, Try.ntmps25
  go_wp2_with (first | (go_at_call 12; refine (holds_any _).mono ?_; rintro e w' ⟨rfl, rfl⟩) | (go_at_call 14; refine (int_any _ _ _ _).mono ?_; rintro e w' ⟨rfl, rfl⟩))
  go_ret
  exact ⟨rfl, rfl⟩
set_option maxHeartbeats 4000000 in
theorem NumLaws_walk (a b c : Int) (wa : (Lit.int .i32 a).wf = true) (wb : (Lit.int .i32 b).wf = true) (wc : (Lit.int .i32 c).wf = true) (w : World) :
    Calls Try.prog 9 #[.int .i32 a, .int .i32 b, .int .i32 c] w fun e w' => e = .returned (.bool true) ∧ w = w' := by
  have ha := bounds_i32 wa
  have hmf : ∀ (fn : Fn) (first cap : Array Value) (w : World), (Instr.makeFunc fn first cap).run Try.prog w = .ok (.func fn first cap) w := fun _ _ _ _ => rfl
  have g1 : (opI 96 a b == opI 96 b a) = true := by rw [beq_iff_eq]; show wrap32 _ = wrap32 _; rw [Int.add_comm]
  have g2 : (opI 96 (opI 96 a b) c == opI 96 a (opI 96 b c)) = true := by
    rw [beq_iff_eq]; show wrap32 (wrap32 _ + _) = wrap32 (_ + wrap32 _); rw [wrap32_add_l, wrap32_add_r, Int.add_assoc]
  have g3 : (opI 104 a b == opI 104 b a) = true := by rw [beq_iff_eq]; show wrap32 _ = wrap32 _; rw [Int.mul_comm]
  have g4 : (opI 104 (opI 104 a b) c == opI 104 a (opI 104 b c)) = true := by
    rw [beq_iff_eq]; show wrap32 (wrap32 _ * _) = wrap32 (_ * wrap32 _); rw [wrap32_mul_l, wrap32_mul_r, Int.mul_assoc]
  have g5 : (opI 104 a (opI 96 b c) == opI 96 (opI 104 a b) (opI 104 a c)) = true := by
    rw [beq_iff_eq]; show wrap32 (_ * wrap32 _) = wrap32 (wrap32 _ + wrap32 _); rw [wrap32_mul_r, wrap32_add_l, wrap32_add_r, Int.mul_add]
  have g6 : (opI 100 (opI 96 a b) b == a) = true := by
    rw [beq_iff_eq]; show wrap32 (wrap32 _ - _) = _; rw [wrap32_sub_l, Int.add_sub_cancel, wrap32_id ha]
  have g7 : (one 116 a == wrap64 (opI 100 0 a)) = true := by
    rw [beq_iff_eq, wrap64_id (by have := wrap32_bd (0 - a); show _ ≤ wrap32 (0 - a) ∧ wrap32 (0 - a) ≤ _; omega)]; show wrap32 (- wrap32 a) = wrap32 _; rw [wrap32_id ha, Int.zero_sub]
  have g8 : (opI 130 (opI 130 a b) b == a) = true := by
    rw [beq_iff_eq]
    exact xor_back a b ha
  go_enter Try.func9, Try.ntmps9
  go_wp2_with (first | (go_at_call 12; refine (holds_any _).mono ?_; rintro e w' ⟨rfl, rfl⟩) | (go_at_call 14; refine (int_any _ _ _ _).mono ?_; rintro e w' ⟨rfl, rfl⟩) | (go_at_call 20; refine (one_any _ _ _).mono ?_; rintro e w' ⟨rfl, rfl⟩) | (go_at_call 24; refine (add_any _ _ _).mono ?_; rintro e w' ⟨rfl, rfl⟩) | (go_at_call 25; refine (mul_any _ _ _).mono ?_; rintro e w' ⟨rfl, rfl⟩))
  go_ret
  exact ⟨rfl, rfl⟩
end Go.Proofs.Ytjhjpifdknhkeaa
