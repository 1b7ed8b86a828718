/- Plain facts about whole numbers, without any program: what the bit operations, wraps and shifts of package num come to. -/
import Derived.Test.YtifgkpfieapdjaaProg
import Derived.WalkKit
import Derived.Outline
import Derived.WalkLawsBesides
import Derived.Lib.Hide
import Derived.WalkKit
import Derived.WalkLawsBesides
import Derived.OpenShut
namespace Go.Proofs.Ytifgkpfieapdjaa.Nu
open Go.RowKit

theorem and_mask (k : IntKind) (n : Int) (m : Nat) (M : Int) (hM : (BitVec.ofInt k.bits M).toNat = 2 ^ m - 1) (hk : ∀ x : Int, 0 ≤ x → x < 2 ^ m → k.wrap x = x) (hm : m ≤ k.bits) : bits .and k n M = n % 2 ^ m := by
  have key : (BitVec.ofInt k.bits n &&& BitVec.ofInt k.bits M).toNat = (n % ((2 ^ k.bits : Nat) : Int)).toNat % 2 ^ m := by
    rw [BitVec.toNat_and, BitVec.toNat_ofInt, hM, Nat.and_two_pow_sub_one_eq_mod]
  show k.wrap ((BitVec.ofInt k.bits n &&& BitVec.ofInt k.bits M).toNat : Nat) = n % 2 ^ m
  have h2 : (((n % ((2 ^ k.bits : Nat) : Int)).toNat % 2 ^ m : Nat) : Int) = n % 2 ^ m := by
    have hpos : (0 : Int) < ((2 ^ k.bits : Nat) : Int) := by exact_mod_cast Nat.two_pow_pos _
    rw [Int.natCast_emod, Int.toNat_of_nonneg (Int.emod_nonneg _ (by omega))]
    have hd : ((2 ^ m : Nat) : Int) ∣ ((2 ^ k.bits : Nat) : Int) := by
      exact_mod_cast Nat.pow_dvd_pow 2 hm
    rw [Int.emod_emod_of_dvd _ hd]
    simp
  rw [key, h2, hk]
  · exact Int.emod_nonneg _ (by have := Nat.two_pow_pos m; have : ((2 ^ m : Nat) : Int) = 2 ^ m := by simp
                                omega)
  · exact Int.emod_lt_of_pos _ (by have := Nat.two_pow_pos m; have : ((2 ^ m : Nat) : Int) = 2 ^ m := by simp
                                   omega)

theorem and1 (n : Int) : bits .and .i64 n 1 = n % 2 := and_mask .i64 n 1 1 (by decide) (by intro x h0 h1; rw [IntKind.wrap_i64]; omega) (by decide)
theorem odd_any (c : Int) (w : World) : Calls Try.prog 111 #[.int .i64 c] w fun e w' => e = .returned (.bool (c % 2 == 1)) ∧ w = w' := by
  have hm := and1 c
  go_enter Try.func111, Try.ntmps111
  go_wp2
  go_ret
  exact ⟨rfl, rfl⟩
/-- The kinds of what goes in, and comes out. -/
def knd (c : Int) : Int × Int × Int :=
  if c = 121 ∨ c = 123 ∨ c = 125 then (2, 1, 2)
  else if (96 ≤ c ∧ c ≤ 113 ∧ c % 4 < 2) ∨ (120 ≤ c ∧ c ≤ 131) then (if c % 2 = 0 then (1, 1, 1) else (2, 2, 2))
  else if c = 148 then (2, 2, 1) else if c = 116 ∨ (145 ≤ c ∧ c ≤ 147) then (1, 0, 1) else if c = 117 then (2, 0, 2) else if c = 133 then (1, 0, 2) else if c = 136 then (2, 0, 1) else (0, 0, 0)
theorem knd_none (c : Int) (h : c ≠ 96 ∧ c ≠ 97 ∧ c ≠ 100 ∧ c ≠ 101 ∧ c ≠ 104 ∧ c ≠ 105 ∧ c ≠ 108 ∧ c ≠ 109 ∧ c ≠ 112 ∧ c ≠ 113 ∧ c ≠ 116 ∧ c ≠ 117 ∧ c ≠ 120 ∧ c ≠ 121 ∧ c ≠ 122 ∧ c ≠ 123 ∧ c ≠ 124 ∧ c ≠ 125 ∧ c ≠ 126 ∧ c ≠ 127 ∧ c ≠ 128 ∧ c ≠ 129 ∧ c ≠ 130 ∧ c ≠ 131 ∧ c ≠ 133 ∧ c ≠ 136 ∧ c ≠ 145 ∧ c ≠ 146 ∧ c ≠ 147 ∧ c ≠ 148) : knd c = (0, 0, 0) := by
  unfold knd
  rw [if_neg (by omega), if_neg (by omega), if_neg (by omega), if_neg (by omega), if_neg (by omega), if_neg (by omega), if_neg (by omega)]
theorem knd_cases (c : Int) : c = 96 ∨ c = 97 ∨ c = 100 ∨ c = 101 ∨ c = 104 ∨ c = 105 ∨ c = 108 ∨ c = 109 ∨ c = 112 ∨ c = 113 ∨ c = 116 ∨ c = 117 ∨ c = 120 ∨ c = 121 ∨ c = 122 ∨ c = 123 ∨ c = 124 ∨ c = 125 ∨ c = 126 ∨ c = 127 ∨ c = 128 ∨ c = 129 ∨ c = 130 ∨ c = 131 ∨ c = 133 ∨ c = 136 ∨ c = 145 ∨ c = 146 ∨ c = 147 ∨ c = 148 ∨ (c ≠ 96 ∧ c ≠ 97 ∧ c ≠ 100 ∧ c ≠ 101 ∧ c ≠ 104 ∧ c ≠ 105 ∧ c ≠ 108 ∧ c ≠ 109 ∧ c ≠ 112 ∧ c ≠ 113 ∧ c ≠ 116 ∧ c ≠ 117 ∧ c ≠ 120 ∧ c ≠ 121 ∧ c ≠ 122 ∧ c ≠ 123 ∧ c ≠ 124 ∧ c ≠ 125 ∧ c ≠ 126 ∧ c ≠ 127 ∧ c ≠ 128 ∧ c ≠ 129 ∧ c ≠ 130 ∧ c ≠ 131 ∧ c ≠ 133 ∧ c ≠ 136 ∧ c ≠ 145 ∧ c ≠ 146 ∧ c ≠ 147 ∧ c ≠ 148) := by omega
theorem computes_any (c : Int) (w : World) : Calls Try.prog 112 #[.int .i64 c] w fun e w' => e = .returned (.bool (decide (c = 96 ∨ c = 100 ∨ c = 104 ∨ c = 108 ∨ c = 112 ∨ c = 120 ∨ c = 122 ∨ c = 124 ∨ c = 126 ∨ c = 128 ∨ c = 130))) ∧ w = w' := by
  have hc : c = 96 ∨ c = 100 ∨ c = 104 ∨ c = 108 ∨ c = 112 ∨ c = 120 ∨ c = 122 ∨ c = 124 ∨ c = 126 ∨ c = 128 ∨ c = 130 ∨ ¬ (c = 96 ∨ c = 100 ∨ c = 104 ∨ c = 108 ∨ c = 112 ∨ c = 120 ∨ c = 122 ∨ c = 124 ∨ c = 126 ∨ c = 128 ∨ c = 130) := by omega
  rcases hc with rfl | rfl | rfl | rfl | rfl | rfl | rfl | rfl | rfl | rfl | rfl | hn
  all_goals first
    | (go_enter Try.func112, Try.ntmps112; go_wp2; go_ret; exact ⟨rfl, rfl⟩)
    | (have HN := Lib.hid (decide_eq_false hn)
       rw [HN.out]
       have g : c ≠ 96 ∧ c ≠ 100 ∧ c ≠ 104 ∧ c ≠ 108 ∧ c ≠ 112 ∧ c ≠ 120 ∧ c ≠ 122 ∧ c ≠ 124 ∧ c ≠ 126 ∧ c ≠ 128 ∧ c ≠ 130 := by omega
       clear hn
       obtain ⟨_, _, _, _, _, _, _, _, _, _, _⟩ := g
       go_enter Try.func112, Try.ntmps112
       go_wp2
       go_ret
       exact ⟨rfl, rfl⟩)
theorem computes_no (c : Int) (hn : ¬ (c = 96 ∨ c = 100 ∨ c = 104 ∨ c = 108 ∨ c = 112 ∨ c = 120 ∨ c = 122 ∨ c = 124 ∨ c = 126 ∨ c = 128 ∨ c = 130)) (w : World) : Calls Try.prog 112 #[.int .i64 c] w fun e w' => e = .returned (.bool false) ∧ w = w' := by
  have h := computes_any c w
  rw [decide_eq_false hn] at h
  exact h
theorem odd_yes (c : Int) (h : c % 2 = 1) (w : World) : Calls Try.prog 111 #[.int .i64 c] w fun e w' => e = .returned (.bool true) ∧ w = w' := by
  have k := odd_any c w
  rw [show (c % 2 == 1) = true from by rw [beq_iff_eq]; exact h] at k
  exact k
theorem odd_no (c : Int) (h : ¬ c % 2 = 1) (w : World) : Calls Try.prog 111 #[.int .i64 c] w fun e w' => e = .returned (.bool false) ∧ w = w' := by
  have k := odd_any c w
  rw [show (c % 2 == 1) = false from by rw [beq_eq_false_iff_ne]; exact h] at k
  exact k
set_option maxHeartbeats 4000000 in
theorem kinds_any (c : Int) (hc : -9223372036854775808 ≤ c ∧ c ≤ 9223372036854775807) (w : World) : Calls Try.prog 108 #[.int .i64 c] w fun e w' => e = .returned (.tuple #[.int .i64 (knd c).1, .int .i64 (knd c).2.1, .int .i64 (knd c).2.2]) ∧ w = w' := by
  rcases knd_cases c with rfl | rfl | rfl | rfl | rfl | rfl | rfl | rfl | rfl | rfl | rfl | rfl | rfl | rfl | rfl | rfl | rfl | rfl | rfl | rfl | rfl | rfl | rfl | rfl | rfl | rfl | rfl | rfl | rfl | rfl | hn
  all_goals first
    | (go_enter Try.func108, Try.ntmps108; go_wp2_with (first | (go_at_call 111; refine (odd_any _ _).mono ?_; rintro e w' ⟨rfl, rfl⟩) | (go_at_call 112; refine (computes_any _ _).mono ?_; rintro e w' ⟨rfl, rfl⟩)); go_ret3; exact ⟨rfl, rfl⟩)
    | (have HN := Lib.hid (knd_none c hn)
       rw [HN.out]
       have hk : c ≠ 116 ∧ c ≠ 117 ∧ c ≠ 133 ∧ c ≠ 136 ∧ c ≠ 145 ∧ c ≠ 146 ∧ c ≠ 147 ∧ c ≠ 148 ∧ c ≠ 121 ∧ c ≠ 123 ∧ c ≠ 125 := by omega
       by_cases ho : c % 2 = 1
       · have hn1 : ¬ (c - 1 = 96 ∨ c - 1 = 100 ∨ c - 1 = 104 ∨ c - 1 = 108 ∨ c - 1 = 112 ∨ c - 1 = 120 ∨ c - 1 = 122 ∨ c - 1 = 124 ∨ c - 1 = 126 ∨ c - 1 = 128 ∨ c - 1 = 130) := by omega
         have hn0 : ¬ (c = 96 ∨ c = 100 ∨ c = 104 ∨ c = 108 ∨ c = 112 ∨ c = 120 ∨ c = 122 ∨ c = 124 ∨ c = 126 ∨ c = 128 ∨ c = 130) := by omega
         have H1 := Lib.hid hn1
         have H0 := Lib.hid hn0
         clear hn hn1 hn0
         obtain ⟨_, _, _, _, _, _, _, _, _, _, _⟩ := hk
         go_enter Try.func108, Try.ntmps108
         go_wp2_with (first | (go_at_call 111; refine (odd_yes _ ho _).mono ?_; rintro e w' ⟨rfl, rfl⟩) | (go_at_call 112; (with_reducible refine (computes_no (c - 1) H1.out _).mono ?_); rintro e w' ⟨rfl, rfl⟩) | (go_at_call 112; (with_reducible refine (computes_no c H0.out _).mono ?_); rintro e w' ⟨rfl, rfl⟩))
         go_ret3
         exact ⟨rfl, rfl⟩
       · have hn0 : ¬ (c = 96 ∨ c = 100 ∨ c = 104 ∨ c = 108 ∨ c = 112 ∨ c = 120 ∨ c = 122 ∨ c = 124 ∨ c = 126 ∨ c = 128 ∨ c = 130) := by omega
         have H0 := Lib.hid hn0
         clear hn hn0
         obtain ⟨_, _, _, _, _, _, _, _, _, _, _⟩ := hk
         go_enter Try.func108, Try.ntmps108
         go_wp2_with (first | (go_at_call 111; refine (odd_no _ ho _).mono ?_; rintro e w' ⟨rfl, rfl⟩) | (go_at_call 112; refine (computes_no _ H0.out _).mono ?_; rintro e w' ⟨rfl, rfl⟩))
         go_ret3
         exact ⟨rfl, rfl⟩)
end Go.Proofs.Ytifgkpfieapdjaa.Nu
