/- Contracts of the document's own answers for layer 1: product, divided. -/
import Derived.Test.YtjhjpifdknhkeaaRef2
namespace Go.Proofs.Ytjhjpifdknhkeaa
open Go.RowKit
set_option linter.unusedVariables false

theorem wrn_zero (n : Nat) (hn : n = 32 ∨ n = 64) : wrn n 0 = 0 := by
  rcases hn with rfl | rfl <;> decide +kernel
theorem wrn_add (n : Nat) (hn : n = 32 ∨ n = 64) (x y : Int) : wrn n (wrn n x + wrn n y) = wrn n (x + y) := by
  rcases hn with rfl | rfl
  · show wrap32 (wrap32 x + wrap32 y) = wrap32 (x + y); unfold wrap32; omega
  · show wrap64 (wrap64 x + wrap64 y) = wrap64 (x + y); unfold wrap64; omega
theorem wrn_mul (n : Nat) (hn : n = 32 ∨ n = 64) (a b : Int) : wrn n (a * (b % 2 ^ n)) = wrn n (a * b) := by
  have h := Int.mul_ediv_add_emod b (2 ^ n)
  have e : a * (b % 2 ^ n) = a * b + 2 ^ n * (- (a * (b / 2 ^ n))) := by
    have : b % 2 ^ n = b - 2 ^ n * (b / 2 ^ n) := by omega
    rw [this, Int.mul_sub, Int.mul_neg, ← Int.mul_assoc, Int.mul_comm a (2 ^ n), Int.mul_assoc]
    omega
  rw [e]
  rcases hn with rfl | rfl
  · exact wrap32_of _ _
  · exact wrap64_of _ _
set_option maxHeartbeats 1000000 in
theorem product_any (a b N : Int) (n : Nat) (hN : N = n) (hn : n = 32 ∨ n = 64) (w : World) :
    Calls Try.prog 28 #[.int .i64 a, .int .i64 b, .int .i64 N] w fun e w' => e = .returned (.int .i64 (wrn n (a * b))) ∧ Below w.heap.size w w' := by
  subst hN
  have hn64 : n ≤ 64 := by omega
  have Hn := Lib.hid hn
  clear hn
  obtain ⟨B, HB⟩ : ∃ B, Hid (B = w.heap.size) := ⟨_, rfl⟩
  rw [← HB.out]
  go_enter Try.func28, Try.ntmps28
  go_wp2
  go_loopw [7, 8] (fun x i wr => ∃ k : Nat, k ≤ n ∧ i = .int .i64 k ∧ x = .int .i64 (wrn n (a * (b % 2 ^ k))) ∧ Below B w wr) (fun _ i _ => n - (intOf i).toNat)
  case atStart => exact ⟨0, by omega, rfl, by simp [wrn_zero n Hn.out], Below.refl _ _⟩
  case round =>
    obtain ⟨k, hk, rfl, rfl, hb⟩ := hrel
    have hBs : B ≤ wr.heap.size := by have := hb.size; rw [HB.out]; exact this
    by_cases hlt : k < n
    · by_cases hbk : bit b k = 1
      · have HP := Lib.hid (show wrn n (wrn n (a * (b % 2 ^ k)) + wrn n (a * 2 ^ k)) = wrn n (a * (b % 2 ^ (k + 1))) by rw [wrn_add n Hn.out, ← Int.mul_add, emod_pow_succ, hbk, Int.one_mul])
        go_wp2_with (first | (go_at_call 39; refine (bit_any _ _ k rfl (by omega) _).mono ?_; rintro e w' ⟨rfl, rfl⟩) | (go_at_call 30; refine (movedLeft_any _ _ _ k n rfl rfl Hn.out hlt _).mono ?_; rintro e w1 ⟨rfl, hb1⟩) | (go_at_call 27; refine (sum_any _ _ 0 _ n rfl Hn.out (by decide) _).mono ?_; rintro e w2 ⟨rfl, hb2⟩))
        go_roundw
        case rel => exact ⟨k + 1, by omega, by go_num, by rw [HP.out], (hb.trans (hb1.mono hBs)).trans (hb2.mono (Nat.le_trans hBs hb1.size))⟩
        case measure => simp [intOf]; omega
      · have hbk : bit b k = 0 := by have := bit_01 b k; omega
        have HP := Lib.hid (show wrn n (a * (b % 2 ^ k)) = wrn n (a * (b % 2 ^ (k + 1))) by rw [emod_pow_succ, hbk, Int.zero_mul, Int.add_zero])
        go_wp2_with (first | (go_at_call 39; refine (bit_any _ _ k rfl (by omega) _).mono ?_; rintro e w' ⟨rfl, rfl⟩))
        go_roundw
        case rel => exact ⟨k + 1, by omega, by go_num, by rw [HP.out], hb⟩
        case measure => simp [intOf]; omega
    · obtain rfl : k = n := by omega
      go_wp2
      go_ret
      exact ⟨by show Ending.returned (.int .i64 (wrn k (a * (b % 2 ^ k)))) = _; rw [wrn_mul k Hn.out], hb⟩

/-! ### Quotient and rest -/
theorem div_top (X : Int) (j : Nat) : X / 2 ^ j = 2 * (X / 2 ^ (j + 1)) + X / 2 ^ j % 2 := by
  have hp := pow_pos j
  rw [Int.pow_succ, ← Int.ediv_ediv_of_nonneg (by omega)]
  omega
theorem div_yes (m t Y : Int) (hY : 0 < Y) (ht : 0 ≤ t ∧ t ≤ 1) (hge : Y ≤ m % Y * 2 + t) : (2 * m + t) / Y = m / Y * 2 + 1 ∧ (2 * m + t) % Y = m % Y * 2 + t - Y := by
  have h1 := Int.mul_ediv_add_emod m Y
  have h2 := Int.emod_lt_of_pos m hY
  have e : 2 * m + t = (m % Y * 2 + t - Y) + Y * (m / Y * 2 + 1) := by
    rw [Int.mul_add, Int.mul_one, ← Int.mul_assoc]; omega
  rw [e]
  constructor
  · rw [Int.add_mul_ediv_left _ _ (by omega), Int.ediv_eq_zero_of_lt (by omega) (by omega), Int.zero_add]
  · rw [Int.add_mul_emod_self_left, Int.emod_eq_of_lt (by omega) (by omega)]
theorem div_no (m t Y : Int) (hY : 0 < Y) (ht : 0 ≤ t ∧ t ≤ 1) (hge : m % Y * 2 + t < Y) : (2 * m + t) / Y = m / Y * 2 ∧ (2 * m + t) % Y = m % Y * 2 + t := by
  have h1 := Int.mul_ediv_add_emod m Y
  have h2 := Int.emod_nonneg m (show Y ≠ 0 by omega)
  have e : 2 * m + t = (m % Y * 2 + t) + Y * (m / Y * 2) := by
    rw [← Int.mul_assoc]; omega
  rw [e]
  constructor
  · rw [Int.add_mul_ediv_left _ _ (by omega), Int.ediv_eq_zero_of_lt (by omega) (by omega), Int.zero_add]
  · rw [Int.add_mul_emod_self_left, Int.emod_eq_of_lt (by omega) (by omega)]
theorem trunc (a b : Int) (hb : b ≠ 0) : (a < 0 ∧ b < 0 → a.tdiv b = a.natAbs / b.natAbs ∧ a.tmod b = -(a.natAbs % b.natAbs : Int)) ∧ (a < 0 ∧ ¬ b < 0 → a.tdiv b = -(a.natAbs / b.natAbs : Int) ∧ a.tmod b = -(a.natAbs % b.natAbs : Int))
    ∧ (¬ a < 0 ∧ b < 0 → a.tdiv b = -(a.natAbs / b.natAbs : Int) ∧ a.tmod b = a.natAbs % b.natAbs) ∧ (¬ a < 0 ∧ ¬ b < 0 → a.tdiv b = a.natAbs / b.natAbs ∧ a.tmod b = a.natAbs % b.natAbs) := by
  have p : ∀ x y : Int, 0 ≤ x → 0 ≤ y → x.tdiv y = x / y ∧ x.tmod y = x % y := fun x y hx hy => ⟨Int.tdiv_eq_ediv_of_nonneg hx, Int.tmod_eq_emod_of_nonneg hx⟩
  have na : ∀ x : Int, x < 0 → (x.natAbs : Int) = -x := fun x h => by omega
  have nb : ∀ x : Int, ¬ x < 0 → (x.natAbs : Int) = x := fun x h => by omega
  refine ⟨fun ⟨h1, h2⟩ => ?_, fun ⟨h1, h2⟩ => ?_, fun ⟨h1, h2⟩ => ?_, fun ⟨h1, h2⟩ => ?_⟩
  · rw [na a h1, na b h2]
    have q := p (-a) (-b) (by omega) (by omega)
    rw [← q.1, ← q.2, Int.tdiv_neg, Int.neg_tdiv, Int.tmod_neg, Int.neg_tmod]
    omega
  · rw [na a h1, nb b h2]
    have q := p (-a) b (by omega) (by omega)
    rw [← q.1, ← q.2, Int.neg_tdiv, Int.neg_tmod]
    omega
  · rw [nb a h1, na b h2]
    have q := p a (-b) (by omega) (by omega)
    rw [← q.1, ← q.2, Int.tdiv_neg, Int.tmod_neg]
    omega
  · rw [nb a h1, nb b h2]
    exact p a b (by omega) (by omega)
theorem ret2 {a b c d : Int} (h1 : a = c) (h2 : b = d) : Ending.returned (.tuple #[.int .i64 a, .int .i64 b]) = .returned (.tuple #[.int .i64 c, .int .i64 d]) := by rw [h1, h2]
theorem divided_0 (a N : Int) (w : World) :
    Calls Try.prog 29 #[.int .i64 a, .int .i64 0, .int .i64 N] w fun e w' => e = .returned (.tuple #[.int .i64 0, .int .i64 0]) ∧ Below w.heap.size w w' := by
  go_enter Try.func29, Try.ntmps29
  go_wp2
  go_ret2
  exact ⟨rfl, Below.refl _ _⟩
theorem divided_1 (a N : Int) (n : Nat) (hN : N = n) (hn : n = 32 ∨ n = 64) (ha : -9223372036854775808 ≤ a ∧ a ≤ 9223372036854775807) (w : World) :
    Calls Try.prog 29 #[.int .i64 a, .int .i64 (-1), .int .i64 N] w fun e w' => e = .returned (.tuple #[.int .i64 (wrn n (-a)), .int .i64 0]) ∧ Below w.heap.size w w' := by
  subst hN
  go_enter Try.func29, Try.ntmps29
  go_wp2_with fail
  refine (negative_any _ _ n rfl hn ha _).mono ?_
  rintro e w' ⟨rfl, hb⟩
  go_wp2
  go_ret2
  exact ⟨rfl, hb⟩
set_option maxHeartbeats 2000000 in
theorem divided_any (a b N : Int) (hb0 : b ≠ 0) (hb1 : b ≠ -1) (ha : -9223372036854775808 ≤ a ∧ a ≤ 9223372036854775807) (hb : -9223372036854775808 ≤ b ∧ b ≤ 9223372036854775807) (w : World) :
    Calls Try.prog 29 #[.int .i64 a, .int .i64 b, .int .i64 N] w fun e w' => e = .returned (.tuple #[.int .i64 (wrap64 (a.tdiv b)), .int .i64 (a.tmod b)]) ∧ w = w' := by
  obtain ⟨X, HX⟩ : ∃ X : Int, Hid (X = (a.natAbs : Int)) := ⟨_, rfl⟩
  obtain ⟨Y, HY⟩ : ∃ Y : Int, Hid (Y = (b.natAbs : Int)) := ⟨_, rfl⟩
  have hX : 0 ≤ X ∧ X ≤ 9223372036854775808 := by have := HX.out; omega
  have hY : 0 < Y ∧ Y ≤ 9223372036854775808 := by have := HY.out; omega
  have f0 : (b == 0) = false := by rw [beq_eq_false_iff_ne]; exact hb0
  have f1 : (b == -1) = false := by rw [beq_eq_false_iff_ne]; exact hb1
  go_enter Try.func29, Try.ntmps29
  go_wp2_with (go_at_call 41; refine (amount_any _ (by assumption) _).mono ?_; rintro e w' ⟨rfl, rfl⟩)
  rw [← HX.out, ← HY.out]
  go_loop [10, 11, 12] (fun Q R i => ∃ j : Nat, ∃ q r I : Int, j ≤ 64 ∧ Hid (I + 1 = j) ∧ i = .int .i64 I ∧ Q = .int .u64 q ∧ R = .int .u64 r ∧ Hid (q = X / 2 ^ j / Y ∧ r = X / 2 ^ j % Y) ∧ 0 ≤ q ∧ 0 ≤ r ∧ r < Y) (fun _ _ i => (intOf i + 1).toNat)
  case atStart =>
    have e : X / 2 ^ 64 = 0 := Int.ediv_eq_zero_of_lt (by omega) (by have : (2 : Int) ^ 64 = 18446744073709551616 := rfl
                                                                     omega)
    exact ⟨64, 0, 0, 63, by omega, rfl, rfl, rfl, rfl, ⟨by rw [e]; simp, by rw [e]; simp⟩, by omega, by omega, by omega⟩
  case round =>
    obtain ⟨j, q, r, I, hj, HI, rfl, rfl, rfl, HQ, hq, hr, hrY⟩ := hrel
    by_cases hj0 : j = 0
    · subst hj0
      obtain rfl : I = -1 := by have := HI.out; omega
      have HQ2 := Lib.hid (show q = X / Y ∧ r = X % Y by have := HQ.out; simpa using this)
      clear HQ HI
      have hr2 : r ≤ 9223372036854775807 := by omega
      have HT := Lib.hid (trunc a b hb0)
      have hqX : q ≤ 9223372036854775808 := by have := Int.ediv_le_self (a := X) Y hX.1; have := HQ2.out.1; omega
      by_cases sa : a < 0 <;> by_cases sb : b < 0
      · have HE := Lib.hid (HT.out.1 ⟨sa, sb⟩)
        clear HT
        go_wp2
        go_ret2
        refine ⟨?_, rfl⟩
        rw [HE.out.1, HE.out.2, ← HX.out, ← HY.out, ← HQ2.out.1, ← HQ2.out.2]
        refine ret2 ?_ ?_ <;> first | rfl | (simp; done) | (unfold wrap64; omega)
      · have HE := Lib.hid (HT.out.2.1 ⟨sa, sb⟩)
        clear HT
        go_wp2
        go_ret2
        refine ⟨?_, rfl⟩
        rw [HE.out.1, HE.out.2, ← HX.out, ← HY.out, ← HQ2.out.1, ← HQ2.out.2]
        refine ret2 ?_ ?_ <;> first | rfl | (simp; done) | (unfold wrap64; omega)
      · have HE := Lib.hid (HT.out.2.2.1 ⟨sa, sb⟩)
        clear HT
        go_wp2
        go_ret2
        refine ⟨?_, rfl⟩
        rw [HE.out.1, HE.out.2, ← HX.out, ← HY.out, ← HQ2.out.1, ← HQ2.out.2]
        refine ret2 ?_ ?_ <;> first | rfl | (simp; done) | (unfold wrap64; omega)
      · have HE := Lib.hid (HT.out.2.2.2 ⟨sa, sb⟩)
        clear HT
        go_wp2
        go_ret2
        refine ⟨?_, rfl⟩
        rw [HE.out.1, HE.out.2, ← HX.out, ← HY.out, ← HQ2.out.1, ← HQ2.out.2]
        refine ret2 ?_ ?_ <;> first | rfl | (simp; done) | (unfold wrap64; omega)
    · obtain ⟨i, rfl⟩ : ∃ i, j = i + 1 := ⟨j - 1, by omega⟩
      obtain rfl : I = i := by have := HI.out; omega
      have ht : 0 ≤ X / 2 ^ i % 2 ∧ X / 2 ^ i % 2 ≤ 1 := by omega
      have hq2 : q ≤ 4611686018427387904 := by
        have h1 : X / 2 ^ (i + 1) ≤ 4611686018427387904 := by
          have hp := pow_pos i
          rw [Int.pow_succ, Int.mul_comm, ← Int.ediv_ediv_of_nonneg (by omega)]
          have := Int.ediv_le_self (a := X / 2) (2 ^ i) (by omega)
          omega
        have h2 := Int.ediv_le_self (a := X / 2 ^ (i + 1)) Y (Int.ediv_nonneg (by omega) (by have := pow_pos (i + 1); omega))
        have := HQ.out.1
        omega
      have hm : 0 ≤ X / 2 ^ i := Int.ediv_nonneg (by omega) (by have := pow_pos i; omega)
      have hh : (r / 9223372036854775808 == 1) = false := by rw [beq_eq_false_iff_ne]; omega
      have HI2 := HI
      clear HI
      by_cases hge : Y ≤ r * 2 + X / 2 ^ i % 2
      · have HS := Lib.hid (show X / 2 ^ i / Y = q * 2 + 1 ∧ X / 2 ^ i % Y = r * 2 + X / 2 ^ i % 2 - Y by have h := div_yes (X / 2 ^ (i + 1)) (X / 2 ^ i % 2) Y hY.1 ht (by rw [← HQ.out.2]; exact hge); rw [← div_top X i, ← HQ.out.1, ← HQ.out.2] at h; exact h)
        go_wp2
        go_round
        case rel => exact ⟨i, _, _, (i : Int) - 1, by omega, (by show (i : Int) - 1 + 1 = i; omega), rfl, rfl, rfl, ⟨HS.out.1.symm, HS.out.2.symm⟩, by omega, by omega, by omega⟩
        case measure => simp [intOf]
      · have HS := Lib.hid (show X / 2 ^ i / Y = q * 2 ∧ X / 2 ^ i % Y = r * 2 + X / 2 ^ i % 2 by have h := div_no (X / 2 ^ (i + 1)) (X / 2 ^ i % 2) Y hY.1 ht (by rw [← HQ.out.2]; omega); rw [← div_top X i, ← HQ.out.1, ← HQ.out.2] at h; exact h)
        go_wp2
        go_round
        case rel => exact ⟨i, _, _, (i : Int) - 1, by omega, (by show (i : Int) - 1 + 1 = i; omega), rfl, rfl, rfl, ⟨HS.out.1.symm, HS.out.2.symm⟩, by omega, by omega, by omega⟩
        case measure => simp [intOf]
end Go.Proofs.Ytjhjpifdknhkeaa
