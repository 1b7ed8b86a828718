/- Contracts of the document's own answers for layer 1: Make. -/
import Derived.Test.YtjhjpifdknhkeaaRef3
namespace Go.Proofs.Ytjhjpifdknhkeaa
open Go.RowKit
set_option linter.unusedVariables false

theorem and31w (n : Int) : bits .and .i64 n 31 = n % 32 := and_mask .i64 n 5 31 (by decide) (by intro x h0 h1; rw [IntKind.wrap_i64]; omega) (by decide)
theorem and63w (n : Int) : bits .and .i64 n 63 = n % 64 := and63 n
theorem wrn32 (x : Int) : wrn 32 x = wrap32 x := rfl
theorem wrn64 (x : Int) : wrn 64 x = wrap64 x := rfl
theorem tdiv_in (a b : Int) (hb0 : b ≠ 0) (hb1 : b ≠ -1) (ha : -2147483648 ≤ a ∧ a ≤ 2147483647) : -2147483648 ≤ a.tdiv b ∧ a.tdiv b ≤ 2147483647 := by
  have key : ∀ x y : Int, 0 ≤ x → 0 ≤ y → 0 ≤ x / y ∧ x / y ≤ x ∧ (2 ≤ y → x / y ≤ x / 2) := fun x y hx hy =>
    ⟨Int.ediv_nonneg hx hy, Int.ediv_le_self _ hx, fun h2 => by
      refine Int.le_of_lt_add_one (Int.ediv_lt_of_lt_mul (by omega) ?_)
      have h3 : x < 2 * (x / 2 + 1) := by omega
      have h4 : 2 * (x / 2 + 1) ≤ y * (x / 2 + 1) := Int.mul_le_mul_of_nonneg_right h2 (by omega)
      rw [Int.mul_comm y] at h4
      omega⟩
  obtain ⟨h1, h2, h3, h4⟩ := trunc a b hb0
  have hk := key (a.natAbs : Int) (b.natAbs : Int) (by omega) (by omega)
  by_cases sa : a < 0 <;> by_cases sb : b < 0
  · rw [(h1 ⟨sa, sb⟩).1]; have := hk.2.2 (by omega); omega
  · rw [(h2 ⟨sa, sb⟩).1]; omega
  · rw [(h3 ⟨sa, sb⟩).1]; omega
  · rw [(h4 ⟨sa, sb⟩).1]; omega
theorem bits_false (w : World) : Calls Try.prog 26 #[.bool false] w fun e w' => e = .returned (.int .i64 32) ∧ w = w' := by
  go_enter Try.func26, Try.ntmps26
  go_wp2
  go_ret
  exact ⟨rfl, rfl⟩
theorem bits_true (w : World) : Calls Try.prog 26 #[.bool true] w fun e w' => e = .returned (.int .i64 64) ∧ w = w' := by
  go_enter Try.func26, Try.ntmps26
  go_wp2
  go_ret
  exact ⟨rfl, rfl⟩
theorem make32_96 (a b : Int) (ha : -2147483648 ≤ a ∧ a ≤ 2147483647) (hb : -2147483648 ≤ b ∧ b ≤ 2147483647) (w : World) :
    Calls Try.prog 13 #[.int .i64 96, .int .i64 a, .int .i64 b, .bool false] w fun e w' => e = .returned (.int .i64 (opI 96 a b)) ∧ Below w.heap.size w w' := by
  have hm := and31w b
  have HG := Lib.hid (show opI 96 a b = wrn 32 (a + b) by rw [wrn32]; rfl)
  go_enter Try.func13, Try.ntmps13
  go_wp2_with (first | (go_at_call 26; refine (bits_false _).mono ?_; rintro e w' ⟨rfl, rfl⟩) | (go_at_call 27; refine (sum_any _ _ 0 _ 32 rfl (by decide) (by decide) _).mono ?_; rintro e w' ⟨rfl, h1⟩))
  go_ret
  exact ⟨by rw [HG.out]; rfl, h1⟩
theorem make32_100 (a b : Int) (ha : -2147483648 ≤ a ∧ a ≤ 2147483647) (hb : -2147483648 ≤ b ∧ b ≤ 2147483647) (w : World) :
    Calls Try.prog 13 #[.int .i64 100, .int .i64 a, .int .i64 b, .bool false] w fun e w' => e = .returned (.int .i64 (opI 100 a b)) ∧ Below w.heap.size w w' := by
  have hm := and31w b
  have hnb := not_i64 b (by omega)
  have HG := Lib.hid (show opI 100 a b = wrn 32 (a + (-1 - b) + 1) by show wrap32 (a - b) = wrap32 _; congr 1; omega)
  go_enter Try.func13, Try.ntmps13
  go_wp2_with (first | (go_at_call 26; refine (bits_false _).mono ?_; rintro e w' ⟨rfl, rfl⟩) | (go_at_call 27; refine (sum_any _ _ 1 _ 32 rfl (by decide) (by decide) _).mono ?_; rintro e w' ⟨rfl, h1⟩))
  go_ret
  exact ⟨by rw [HG.out]; rfl, h1⟩
theorem make32_104 (a b : Int) (ha : -2147483648 ≤ a ∧ a ≤ 2147483647) (hb : -2147483648 ≤ b ∧ b ≤ 2147483647) (w : World) :
    Calls Try.prog 13 #[.int .i64 104, .int .i64 a, .int .i64 b, .bool false] w fun e w' => e = .returned (.int .i64 (opI 104 a b)) ∧ Below w.heap.size w w' := by
  have hm := and31w b
  have HG := Lib.hid (show opI 104 a b = wrn 32 (a * b) by rw [wrn32]; rfl)
  go_enter Try.func13, Try.ntmps13
  go_wp2_with (first | (go_at_call 26; refine (bits_false _).mono ?_; rintro e w' ⟨rfl, rfl⟩) | (go_at_call 28; refine (product_any _ _ _ 32 rfl (by decide) _).mono ?_; rintro e w' ⟨rfl, h1⟩))
  go_ret
  exact ⟨by rw [HG.out]; rfl, h1⟩
theorem make32_120 (a b : Int) (ha : -2147483648 ≤ a ∧ a ≤ 2147483647) (hb : -2147483648 ≤ b ∧ b ≤ 2147483647) (w : World) :
    Calls Try.prog 13 #[.int .i64 120, .int .i64 a, .int .i64 b, .bool false] w fun e w' => e = .returned (.int .i64 (opI 120 a b)) ∧ Below w.heap.size w w' := by
  have hm := and31w b
  have HG := Lib.hid (show opI 120 a b = wrn 32 (a * 2 ^ (b % 32).toNat) by rw [wrn32]; rfl)
  go_enter Try.func13, Try.ntmps13
  go_wp2_with (first | (go_at_call 26; refine (bits_false _).mono ?_; rintro e w' ⟨rfl, rfl⟩) | (go_at_call 30; refine (movedLeft_any _ _ _ (b % 32).toNat 32 (by omega) rfl (by decide) (by omega) _).mono ?_; rintro e w' ⟨rfl, h1⟩))
  go_ret
  exact ⟨by rw [HG.out]; rfl, h1⟩
theorem make32_122 (a b : Int) (ha : -2147483648 ≤ a ∧ a ≤ 2147483647) (hb : -2147483648 ≤ b ∧ b ≤ 2147483647) (w : World) :
    Calls Try.prog 13 #[.int .i64 122, .int .i64 a, .int .i64 b, .bool false] w fun e w' => e = .returned (.int .i64 (opI 122 a b)) ∧ Below w.heap.size w w' := by
  have hm := and31w b
  have HG := Lib.hid (show opI 122 a b = wrn 32 (a / 2 ^ (b % 32).toNat) by exact (wrap32_id (ediv_pow_in _ ha (by omega) (by omega))).symm)
  go_enter Try.func13, Try.ntmps13
  go_wp2_with (first | (go_at_call 26; refine (bits_false _).mono ?_; rintro e w' ⟨rfl, rfl⟩) | (go_at_call 30; refine (movedRight_any _ _ _ (b % 32).toNat 32 (by omega) rfl (by decide) (by omega) (by simp; omega) _).mono ?_; rintro e w' ⟨rfl, h1⟩))
  go_ret
  exact ⟨by rw [HG.out]; rfl, h1⟩
theorem make32_124 (a b : Int) (ha : -2147483648 ≤ a ∧ a ≤ 2147483647) (hb : -2147483648 ≤ b ∧ b ≤ 2147483647) (w : World) :
    Calls Try.prog 13 #[.int .i64 124, .int .i64 a, .int .i64 b, .bool false] w fun e w' => e = .returned (.int .i64 (opI 124 a b)) ∧ Below w.heap.size w w' := by
  have hm := and31w b
  have HG := Lib.hid (show opI 124 a b = wrn 32 (a % 2 ^ 32 / 2 ^ (b % 32).toNat) by rw [wrn32]; rfl)
  go_enter Try.func13, Try.ntmps13
  go_wp2_with (first | (go_at_call 26; refine (bits_false _).mono ?_; rintro e w' ⟨rfl, rfl⟩) | (go_at_call 30; refine (movedZero_any _ _ _ (b % 32).toNat 32 (by omega) rfl (by decide) (by omega) _).mono ?_; rintro e w' ⟨rfl, h1⟩))
  go_ret
  exact ⟨by rw [HG.out]; rfl, h1⟩
theorem make32_126 (a b : Int) (ha : -2147483648 ≤ a ∧ a ≤ 2147483647) (hb : -2147483648 ≤ b ∧ b ≤ 2147483647) (w : World) :
    Calls Try.prog 13 #[.int .i64 126, .int .i64 a, .int .i64 b, .bool false] w fun e w' => e = .returned (.int .i64 (opI 126 a b)) ∧ Below w.heap.size w w' := by
  have hm := and31w b
  have HG := Lib.hid (show opI 126 a b = wrn 32 (bits .and .i32 a b) by show bits .and .i32 a b = _; exact (wrap32_id (bits32_in _ a b)).symm)
  go_enter Try.func13, Try.ntmps13
  go_wp2_with (first | (go_at_call 26; refine (bits_false _).mono ?_; rintro e w' ⟨rfl, rfl⟩) | (go_at_call 31; refine (logic_and _ _ _ .i32 32 rfl rfl (by decide) _).mono ?_; rintro e w' ⟨rfl, h1⟩))
  go_ret
  exact ⟨by rw [HG.out]; rfl, h1⟩
theorem make32_128 (a b : Int) (ha : -2147483648 ≤ a ∧ a ≤ 2147483647) (hb : -2147483648 ≤ b ∧ b ≤ 2147483647) (w : World) :
    Calls Try.prog 13 #[.int .i64 128, .int .i64 a, .int .i64 b, .bool false] w fun e w' => e = .returned (.int .i64 (opI 128 a b)) ∧ Below w.heap.size w w' := by
  have hm := and31w b
  have HG := Lib.hid (show opI 128 a b = wrn 32 (bits .or .i32 a b) by show bits .or .i32 a b = _; exact (wrap32_id (bits32_in _ a b)).symm)
  go_enter Try.func13, Try.ntmps13
  go_wp2_with (first | (go_at_call 26; refine (bits_false _).mono ?_; rintro e w' ⟨rfl, rfl⟩) | (go_at_call 31; refine (logic_or _ _ _ .i32 32 rfl rfl (by decide) _).mono ?_; rintro e w' ⟨rfl, h1⟩))
  go_ret
  exact ⟨by rw [HG.out]; rfl, h1⟩
theorem make32_130 (a b : Int) (ha : -2147483648 ≤ a ∧ a ≤ 2147483647) (hb : -2147483648 ≤ b ∧ b ≤ 2147483647) (w : World) :
    Calls Try.prog 13 #[.int .i64 130, .int .i64 a, .int .i64 b, .bool false] w fun e w' => e = .returned (.int .i64 (opI 130 a b)) ∧ Below w.heap.size w w' := by
  have hm := and31w b
  have HG := Lib.hid (show opI 130 a b = wrn 32 (bits .xor .i32 a b) by show bits .xor .i32 a b = _; exact (wrap32_id (bits32_in _ a b)).symm)
  go_enter Try.func13, Try.ntmps13
  go_wp2_with (first | (go_at_call 26; refine (bits_false _).mono ?_; rintro e w' ⟨rfl, rfl⟩) | (go_at_call 31; refine (logic_xor _ _ _ .i32 32 rfl rfl (by decide) _).mono ?_; rintro e w' ⟨rfl, h1⟩))
  go_ret
  exact ⟨by rw [HG.out]; rfl, h1⟩
theorem make32_108 (a b : Int) (ha : -2147483648 ≤ a ∧ a ≤ 2147483647) (hb : -2147483648 ≤ b ∧ b ≤ 2147483647) (w : World) :
    Calls Try.prog 13 #[.int .i64 108, .int .i64 a, .int .i64 b, .bool false] w fun e w' => e = .returned (.int .i64 (opI 108 a b)) ∧ Below w.heap.size w w' := by
  have hm := and31w b
  by_cases hb0 : b = 0
  · subst hb0
    go_enter Try.func13, Try.ntmps13
    go_wp2_with (first | (go_at_call 26; refine (bits_false _).mono ?_; rintro e w' ⟨rfl, rfl⟩) | (go_at_call 29; refine (divided_0 _ _ _).mono ?_; rintro e w' ⟨rfl, h1⟩))
    go_ret
    exact ⟨rfl, h1⟩
  by_cases hb1 : b = -1
  · subst hb1
    have HG := Lib.hid (show opI 108 a (-1) = wrn 32 (-a) by show wrap32 (a.tdiv (-1)) = wrap32 (-a); rw [Int.tdiv_neg, Int.tdiv_one])
    go_enter Try.func13, Try.ntmps13
    go_wp2_with (first | (go_at_call 26; refine (bits_false _).mono ?_; rintro e w' ⟨rfl, rfl⟩) | (go_at_call 29; refine (divided_1 _ _ 32 rfl (by decide) (by omega) _).mono ?_; rintro e w' ⟨rfl, h1⟩))
    go_ret
    exact ⟨by rw [HG.out]; rfl, h1⟩
  have HG := Lib.hid (show opI 108 a b = wrap64 (a.tdiv b) by rw [show opI 108 a b = wrap32 (a.tdiv b) from if_neg hb0]; rw [wrap32_id (tdiv_in a b hb0 hb1 ha), wrap64_id (by have := tdiv_in a b hb0 hb1 ha; omega)])
  go_enter Try.func13, Try.ntmps13
  go_wp2_with (first | (go_at_call 26; refine (bits_false _).mono ?_; rintro e w' ⟨rfl, rfl⟩) | (go_at_call 29; refine (divided_any _ _ _ hb0 hb1 (by omega) (by omega) _).mono ?_; rintro e w' ⟨rfl, rfl⟩))
  go_ret
  exact ⟨by rw [HG.out]; rfl, Below.refl _ _⟩
theorem make32_112 (a b : Int) (ha : -2147483648 ≤ a ∧ a ≤ 2147483647) (hb : -2147483648 ≤ b ∧ b ≤ 2147483647) (w : World) :
    Calls Try.prog 13 #[.int .i64 112, .int .i64 a, .int .i64 b, .bool false] w fun e w' => e = .returned (.int .i64 (opI 112 a b)) ∧ Below w.heap.size w w' := by
  have hm := and31w b
  by_cases hb0 : b = 0
  · subst hb0
    go_enter Try.func13, Try.ntmps13
    go_wp2_with (first | (go_at_call 26; refine (bits_false _).mono ?_; rintro e w' ⟨rfl, rfl⟩) | (go_at_call 29; refine (divided_0 _ _ _).mono ?_; rintro e w' ⟨rfl, h1⟩))
    go_ret
    exact ⟨rfl, h1⟩
  by_cases hb1 : b = -1
  · subst hb1
    have HG := Lib.hid (show opI 112 a (-1) = 0 by show a.tmod (-1) = 0; rw [Int.tmod_neg, Int.tmod_one])
    go_enter Try.func13, Try.ntmps13
    go_wp2_with (first | (go_at_call 26; refine (bits_false _).mono ?_; rintro e w' ⟨rfl, rfl⟩) | (go_at_call 29; refine (divided_1 _ _ 32 rfl (by decide) (by omega) _).mono ?_; rintro e w' ⟨rfl, h1⟩))
    go_ret
    exact ⟨by rw [HG.out]; rfl, h1⟩
  have HG := Lib.hid (show opI 112 a b = a.tmod b by exact if_neg hb0)
  go_enter Try.func13, Try.ntmps13
  go_wp2_with (first | (go_at_call 26; refine (bits_false _).mono ?_; rintro e w' ⟨rfl, rfl⟩) | (go_at_call 29; refine (divided_any _ _ _ hb0 hb1 (by omega) (by omega) _).mono ?_; rintro e w' ⟨rfl, rfl⟩))
  go_ret
  exact ⟨by rw [HG.out]; rfl, Below.refl _ _⟩
theorem make32_any (c a b : Int) (ha : -2147483648 ≤ a ∧ a ≤ 2147483647) (hb : -2147483648 ≤ b ∧ b ≤ 2147483647) (w : World) :
    Calls Try.prog 13 #[.int .i64 c, .int .i64 a, .int .i64 b, .bool false] w fun e w' => e = .returned (.int .i64 (opI (c) a b)) ∧ Below w.heap.size w w' := by
  by_cases h96 : c = 96
  · subst h96; exact make32_96 a b ha hb w
  by_cases h100 : c = 100
  · subst h100; exact make32_100 a b ha hb w
  by_cases h104 : c = 104
  · subst h104; exact make32_104 a b ha hb w
  by_cases h108 : c = 108
  · subst h108; exact make32_108 a b ha hb w
  by_cases h112 : c = 112
  · subst h112; exact make32_112 a b ha hb w
  by_cases h120 : c = 120
  · subst h120; exact make32_120 a b ha hb w
  by_cases h122 : c = 122
  · subst h122; exact make32_122 a b ha hb w
  by_cases h124 : c = 124
  · subst h124; exact make32_124 a b ha hb w
  by_cases h126 : c = 126
  · subst h126; exact make32_126 a b ha hb w
  by_cases h128 : c = 128
  · subst h128; exact make32_128 a b ha hb w
  by_cases h130 : c = 130
  · subst h130; exact make32_130 a b ha hb w
  have HG := Lib.hid (show opI (c) a b = 0 by unfold opI cmpI; simp [*]; done)
  have hm := and31w b
  go_enter Try.func13, Try.ntmps13
  go_wp2_with (first | (go_at_call 26; refine (bits_false _).mono ?_; rintro e w' ⟨rfl, rfl⟩))
  go_ret
  exact ⟨by rw [HG.out]; rfl, Below.refl _ _⟩
theorem make64_96 (a b : Int) (ha : -9223372036854775808 ≤ a ∧ a ≤ 9223372036854775807) (hb : -9223372036854775808 ≤ b ∧ b ≤ 9223372036854775807) (w : World) :
    Calls Try.prog 13 #[.int .i64 96, .int .i64 a, .int .i64 b, .bool true] w fun e w' => e = .returned (.int .i64 (opL 97 a b)) ∧ Below w.heap.size w w' := by
  have hm := and63w b
  have HG := Lib.hid (show opL 97 a b = wrn 64 (a + b) by rw [wrn64]; rfl)
  go_enter Try.func13, Try.ntmps13
  go_wp2_with (first | (go_at_call 26; refine (bits_true _).mono ?_; rintro e w' ⟨rfl, rfl⟩) | (go_at_call 27; refine (sum_any _ _ 0 _ 64 rfl (by decide) (by decide) _).mono ?_; rintro e w' ⟨rfl, h1⟩))
  go_ret
  exact ⟨by rw [HG.out]; rfl, h1⟩
theorem make64_100 (a b : Int) (ha : -9223372036854775808 ≤ a ∧ a ≤ 9223372036854775807) (hb : -9223372036854775808 ≤ b ∧ b ≤ 9223372036854775807) (w : World) :
    Calls Try.prog 13 #[.int .i64 100, .int .i64 a, .int .i64 b, .bool true] w fun e w' => e = .returned (.int .i64 (opL 101 a b)) ∧ Below w.heap.size w w' := by
  have hm := and63w b
  have hnb := not_i64 b (by omega)
  have HG := Lib.hid (show opL 101 a b = wrn 64 (a + (-1 - b) + 1) by show wrap64 (a - b) = wrap64 _; congr 1; omega)
  go_enter Try.func13, Try.ntmps13
  go_wp2_with (first | (go_at_call 26; refine (bits_true _).mono ?_; rintro e w' ⟨rfl, rfl⟩) | (go_at_call 27; refine (sum_any _ _ 1 _ 64 rfl (by decide) (by decide) _).mono ?_; rintro e w' ⟨rfl, h1⟩))
  go_ret
  exact ⟨by rw [HG.out]; rfl, h1⟩
theorem make64_104 (a b : Int) (ha : -9223372036854775808 ≤ a ∧ a ≤ 9223372036854775807) (hb : -9223372036854775808 ≤ b ∧ b ≤ 9223372036854775807) (w : World) :
    Calls Try.prog 13 #[.int .i64 104, .int .i64 a, .int .i64 b, .bool true] w fun e w' => e = .returned (.int .i64 (opL 105 a b)) ∧ Below w.heap.size w w' := by
  have hm := and63w b
  have HG := Lib.hid (show opL 105 a b = wrn 64 (a * b) by rw [wrn64]; rfl)
  go_enter Try.func13, Try.ntmps13
  go_wp2_with (first | (go_at_call 26; refine (bits_true _).mono ?_; rintro e w' ⟨rfl, rfl⟩) | (go_at_call 28; refine (product_any _ _ _ 64 rfl (by decide) _).mono ?_; rintro e w' ⟨rfl, h1⟩))
  go_ret
  exact ⟨by rw [HG.out]; rfl, h1⟩
theorem make64_120 (a b : Int) (ha : -9223372036854775808 ≤ a ∧ a ≤ 9223372036854775807) (hb : -9223372036854775808 ≤ b ∧ b ≤ 9223372036854775807) (w : World) :
    Calls Try.prog 13 #[.int .i64 120, .int .i64 a, .int .i64 b, .bool true] w fun e w' => e = .returned (.int .i64 (opL 121 a b)) ∧ Below w.heap.size w w' := by
  have hm := and63w b
  have HG := Lib.hid (show opL 121 a b = wrn 64 (a * 2 ^ (b % 64).toNat) by rw [wrn64]; rfl)
  go_enter Try.func13, Try.ntmps13
  go_wp2_with (first | (go_at_call 26; refine (bits_true _).mono ?_; rintro e w' ⟨rfl, rfl⟩) | (go_at_call 30; refine (movedLeft_any _ _ _ (b % 64).toNat 64 (by omega) rfl (by decide) (by omega) _).mono ?_; rintro e w' ⟨rfl, h1⟩))
  go_ret
  exact ⟨by rw [HG.out]; rfl, h1⟩
theorem make64_122 (a b : Int) (ha : -9223372036854775808 ≤ a ∧ a ≤ 9223372036854775807) (hb : -9223372036854775808 ≤ b ∧ b ≤ 9223372036854775807) (w : World) :
    Calls Try.prog 13 #[.int .i64 122, .int .i64 a, .int .i64 b, .bool true] w fun e w' => e = .returned (.int .i64 (opL 123 a b)) ∧ Below w.heap.size w w' := by
  have hm := and63w b
  have HG := Lib.hid (show opL 123 a b = wrn 64 (a / 2 ^ (b % 64).toNat) by exact (wrap64_id (ediv_pow_in _ ha (by omega) (by omega))).symm)
  go_enter Try.func13, Try.ntmps13
  go_wp2_with (first | (go_at_call 26; refine (bits_true _).mono ?_; rintro e w' ⟨rfl, rfl⟩) | (go_at_call 30; refine (movedRight_any _ _ _ (b % 64).toNat 64 (by omega) rfl (by decide) (by omega) (by simp; omega) _).mono ?_; rintro e w' ⟨rfl, h1⟩))
  go_ret
  exact ⟨by rw [HG.out]; rfl, h1⟩
theorem make64_124 (a b : Int) (ha : -9223372036854775808 ≤ a ∧ a ≤ 9223372036854775807) (hb : -9223372036854775808 ≤ b ∧ b ≤ 9223372036854775807) (w : World) :
    Calls Try.prog 13 #[.int .i64 124, .int .i64 a, .int .i64 b, .bool true] w fun e w' => e = .returned (.int .i64 (opL 125 a b)) ∧ Below w.heap.size w w' := by
  have hm := and63w b
  have HG := Lib.hid (show opL 125 a b = wrn 64 (a % 2 ^ 64 / 2 ^ (b % 64).toNat) by rw [wrn64]; rfl)
  go_enter Try.func13, Try.ntmps13
  go_wp2_with (first | (go_at_call 26; refine (bits_true _).mono ?_; rintro e w' ⟨rfl, rfl⟩) | (go_at_call 30; refine (movedZero_any _ _ _ (b % 64).toNat 64 (by omega) rfl (by decide) (by omega) _).mono ?_; rintro e w' ⟨rfl, h1⟩))
  go_ret
  exact ⟨by rw [HG.out]; rfl, h1⟩
theorem make64_126 (a b : Int) (ha : -9223372036854775808 ≤ a ∧ a ≤ 9223372036854775807) (hb : -9223372036854775808 ≤ b ∧ b ≤ 9223372036854775807) (w : World) :
    Calls Try.prog 13 #[.int .i64 126, .int .i64 a, .int .i64 b, .bool true] w fun e w' => e = .returned (.int .i64 (opL 127 a b)) ∧ Below w.heap.size w w' := by
  have hm := and63w b
  have HG := Lib.hid (show opL 127 a b = wrn 64 (bits .and .i64 a b) by show bits .and .i64 a b = _; exact (wrap64_id (bits64_in _ a b)).symm)
  go_enter Try.func13, Try.ntmps13
  go_wp2_with (first | (go_at_call 26; refine (bits_true _).mono ?_; rintro e w' ⟨rfl, rfl⟩) | (go_at_call 31; refine (logic_and _ _ _ .i64 64 rfl rfl (by decide) _).mono ?_; rintro e w' ⟨rfl, h1⟩))
  go_ret
  exact ⟨by rw [HG.out]; rfl, h1⟩
theorem make64_128 (a b : Int) (ha : -9223372036854775808 ≤ a ∧ a ≤ 9223372036854775807) (hb : -9223372036854775808 ≤ b ∧ b ≤ 9223372036854775807) (w : World) :
    Calls Try.prog 13 #[.int .i64 128, .int .i64 a, .int .i64 b, .bool true] w fun e w' => e = .returned (.int .i64 (opL 129 a b)) ∧ Below w.heap.size w w' := by
  have hm := and63w b
  have HG := Lib.hid (show opL 129 a b = wrn 64 (bits .or .i64 a b) by show bits .or .i64 a b = _; exact (wrap64_id (bits64_in _ a b)).symm)
  go_enter Try.func13, Try.ntmps13
  go_wp2_with (first | (go_at_call 26; refine (bits_true _).mono ?_; rintro e w' ⟨rfl, rfl⟩) | (go_at_call 31; refine (logic_or _ _ _ .i64 64 rfl rfl (by decide) _).mono ?_; rintro e w' ⟨rfl, h1⟩))
  go_ret
  exact ⟨by rw [HG.out]; rfl, h1⟩
theorem make64_130 (a b : Int) (ha : -9223372036854775808 ≤ a ∧ a ≤ 9223372036854775807) (hb : -9223372036854775808 ≤ b ∧ b ≤ 9223372036854775807) (w : World) :
    Calls Try.prog 13 #[.int .i64 130, .int .i64 a, .int .i64 b, .bool true] w fun e w' => e = .returned (.int .i64 (opL 131 a b)) ∧ Below w.heap.size w w' := by
  have hm := and63w b
  have HG := Lib.hid (show opL 131 a b = wrn 64 (bits .xor .i64 a b) by show bits .xor .i64 a b = _; exact (wrap64_id (bits64_in _ a b)).symm)
  go_enter Try.func13, Try.ntmps13
  go_wp2_with (first | (go_at_call 26; refine (bits_true _).mono ?_; rintro e w' ⟨rfl, rfl⟩) | (go_at_call 31; refine (logic_xor _ _ _ .i64 64 rfl rfl (by decide) _).mono ?_; rintro e w' ⟨rfl, h1⟩))
  go_ret
  exact ⟨by rw [HG.out]; rfl, h1⟩
theorem make64_108 (a b : Int) (ha : -9223372036854775808 ≤ a ∧ a ≤ 9223372036854775807) (hb : -9223372036854775808 ≤ b ∧ b ≤ 9223372036854775807) (w : World) :
    Calls Try.prog 13 #[.int .i64 108, .int .i64 a, .int .i64 b, .bool true] w fun e w' => e = .returned (.int .i64 (opL 109 a b)) ∧ Below w.heap.size w w' := by
  have hm := and63w b
  by_cases hb0 : b = 0
  · subst hb0
    go_enter Try.func13, Try.ntmps13
    go_wp2_with (first | (go_at_call 26; refine (bits_true _).mono ?_; rintro e w' ⟨rfl, rfl⟩) | (go_at_call 29; refine (divided_0 _ _ _).mono ?_; rintro e w' ⟨rfl, h1⟩))
    go_ret
    exact ⟨rfl, h1⟩
  by_cases hb1 : b = -1
  · subst hb1
    have HG := Lib.hid (show opL 109 a (-1) = wrn 64 (-a) by show wrap64 (a.tdiv (-1)) = wrap64 (-a); rw [Int.tdiv_neg, Int.tdiv_one])
    go_enter Try.func13, Try.ntmps13
    go_wp2_with (first | (go_at_call 26; refine (bits_true _).mono ?_; rintro e w' ⟨rfl, rfl⟩) | (go_at_call 29; refine (divided_1 _ _ 64 rfl (by decide) (by omega) _).mono ?_; rintro e w' ⟨rfl, h1⟩))
    go_ret
    exact ⟨by rw [HG.out]; rfl, h1⟩
  have HG := Lib.hid (show opL 109 a b = wrap64 (a.tdiv b) by rw [show opL 109 a b = wrap64 (a.tdiv b) from if_neg hb0])
  go_enter Try.func13, Try.ntmps13
  go_wp2_with (first | (go_at_call 26; refine (bits_true _).mono ?_; rintro e w' ⟨rfl, rfl⟩) | (go_at_call 29; refine (divided_any _ _ _ hb0 hb1 (by omega) (by omega) _).mono ?_; rintro e w' ⟨rfl, rfl⟩))
  go_ret
  exact ⟨by rw [HG.out]; rfl, Below.refl _ _⟩
theorem make64_112 (a b : Int) (ha : -9223372036854775808 ≤ a ∧ a ≤ 9223372036854775807) (hb : -9223372036854775808 ≤ b ∧ b ≤ 9223372036854775807) (w : World) :
    Calls Try.prog 13 #[.int .i64 112, .int .i64 a, .int .i64 b, .bool true] w fun e w' => e = .returned (.int .i64 (opL 113 a b)) ∧ Below w.heap.size w w' := by
  have hm := and63w b
  by_cases hb0 : b = 0
  · subst hb0
    go_enter Try.func13, Try.ntmps13
    go_wp2_with (first | (go_at_call 26; refine (bits_true _).mono ?_; rintro e w' ⟨rfl, rfl⟩) | (go_at_call 29; refine (divided_0 _ _ _).mono ?_; rintro e w' ⟨rfl, h1⟩))
    go_ret
    exact ⟨rfl, h1⟩
  by_cases hb1 : b = -1
  · subst hb1
    have HG := Lib.hid (show opL 113 a (-1) = 0 by show a.tmod (-1) = 0; rw [Int.tmod_neg, Int.tmod_one])
    go_enter Try.func13, Try.ntmps13
    go_wp2_with (first | (go_at_call 26; refine (bits_true _).mono ?_; rintro e w' ⟨rfl, rfl⟩) | (go_at_call 29; refine (divided_1 _ _ 64 rfl (by decide) (by omega) _).mono ?_; rintro e w' ⟨rfl, h1⟩))
    go_ret
    exact ⟨by rw [HG.out]; rfl, h1⟩
  have HG := Lib.hid (show opL 113 a b = a.tmod b by exact if_neg hb0)
  go_enter Try.func13, Try.ntmps13
  go_wp2_with (first | (go_at_call 26; refine (bits_true _).mono ?_; rintro e w' ⟨rfl, rfl⟩) | (go_at_call 29; refine (divided_any _ _ _ hb0 hb1 (by omega) (by omega) _).mono ?_; rintro e w' ⟨rfl, rfl⟩))
  go_ret
  exact ⟨by rw [HG.out]; rfl, Below.refl _ _⟩
theorem make64_any (c a b : Int) (he : c % 2 = 0) (ha : -9223372036854775808 ≤ a ∧ a ≤ 9223372036854775807) (hb : -9223372036854775808 ≤ b ∧ b ≤ 9223372036854775807) (w : World) :
    Calls Try.prog 13 #[.int .i64 c, .int .i64 a, .int .i64 b, .bool true] w fun e w' => e = .returned (.int .i64 (opL (c + 1) a b)) ∧ Below w.heap.size w w' := by
  by_cases h96 : c = 96
  · subst h96; exact make64_96 a b ha hb w
  by_cases h100 : c = 100
  · subst h100; exact make64_100 a b ha hb w
  by_cases h104 : c = 104
  · subst h104; exact make64_104 a b ha hb w
  by_cases h108 : c = 108
  · subst h108; exact make64_108 a b ha hb w
  by_cases h112 : c = 112
  · subst h112; exact make64_112 a b ha hb w
  by_cases h120 : c = 120
  · subst h120; exact make64_120 a b ha hb w
  by_cases h122 : c = 122
  · subst h122; exact make64_122 a b ha hb w
  by_cases h124 : c = 124
  · subst h124; exact make64_124 a b ha hb w
  by_cases h126 : c = 126
  · subst h126; exact make64_126 a b ha hb w
  by_cases h128 : c = 128
  · subst h128; exact make64_128 a b ha hb w
  by_cases h130 : c = 130
  · subst h130; exact make64_130 a b ha hb w
  have HG := Lib.hid (show opL (c + 1) a b = 0 by unfold opL cmpL; simp [*]; omega)
  have hm := and63w b
  go_enter Try.func13, Try.ntmps13
  go_wp2_with (first | (go_at_call 26; refine (bits_true _).mono ?_; rintro e w' ⟨rfl, rfl⟩))
  go_ret
  exact ⟨by rw [HG.out]; rfl, Below.refl _ _⟩
end Go.Proofs.Ytjhjpifdknhkeaa
