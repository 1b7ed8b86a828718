/- Plain facts, without any program: wraps are congruences; the bits of a number; what and, or, xor do to them. -/
import Derived.Test.YtjhjpifdknhkeaaMath
namespace Go.Proofs.Ytjhjpifdknhkeaa
open Go.RowKit

theorem wrap64_ex (x : Int) : ∃ k, wrap64 x = x + 18446744073709551616 * k := ⟨-((x + 9223372036854775808) / 18446744073709551616), by unfold wrap64; omega⟩
theorem wrap32_ex (x : Int) : ∃ k, wrap32 x = x + 4294967296 * k := ⟨-((x + 2147483648) / 4294967296), by unfold wrap32; omega⟩
theorem wrap64_of (x k : Int) : wrap64 (x + 18446744073709551616 * k) = wrap64 x := by unfold wrap64; omega
theorem wrap32_of (x k : Int) : wrap32 (x + 4294967296 * k) = wrap32 x := by unfold wrap32; omega
theorem wrap64_mul_l (x y : Int) : wrap64 (wrap64 x * y) = wrap64 (x * y) := by
  obtain ⟨k, hk⟩ := wrap64_ex x
  rw [hk, Int.add_mul, Int.mul_assoc, wrap64_of]
theorem wrap64_mul_r (x y : Int) : wrap64 (x * wrap64 y) = wrap64 (x * y) := by rw [Int.mul_comm, wrap64_mul_l, Int.mul_comm]
theorem wrap64_add_l (x y : Int) : wrap64 (wrap64 x + y) = wrap64 (x + y) := by unfold wrap64; omega
theorem wrap64_add_r (x y : Int) : wrap64 (x + wrap64 y) = wrap64 (x + y) := by unfold wrap64; omega
theorem wrap32_mul_l (x y : Int) : wrap32 (wrap32 x * y) = wrap32 (x * y) := by
  obtain ⟨k, hk⟩ := wrap32_ex x
  rw [hk, Int.add_mul, Int.mul_assoc, wrap32_of]
theorem wrap32_mul_r (x y : Int) : wrap32 (x * wrap32 y) = wrap32 (x * y) := by rw [Int.mul_comm, wrap32_mul_l, Int.mul_comm]
theorem wrap32_add_l (x y : Int) : wrap32 (wrap32 x + y) = wrap32 (x + y) := by unfold wrap32; omega
theorem wrap32_add_r (x y : Int) : wrap32 (x + wrap32 y) = wrap32 (x + y) := by unfold wrap32; omega
theorem wrap32_sub_l (x y : Int) : wrap32 (wrap32 x - y) = wrap32 (x - y) := by unfold wrap32; omega
theorem wrap32_sub_r (x y : Int) : wrap32 (x - wrap32 y) = wrap32 (x - y) := by unfold wrap32; omega
theorem wrap64_id {x : Int} (h : -9223372036854775808 ≤ x ∧ x ≤ 9223372036854775807) : wrap64 x = x := IntWalk.wrap64_in x h
theorem wrap32_id {x : Int} (h : -2147483648 ≤ x ∧ x ≤ 2147483647) : wrap32 x = x := IntWalk.wrap32_in x h

/-! ### Quotient and rest -/
theorem parts64 (a b : Int) (hb : b ≠ 0) (ha : -9223372036854775808 ≤ a ∧ a ≤ 9223372036854775807) :
    wrap64 (wrap64 (opL 109 a b * b) + opL 113 a b) = a := by
  have e1 : opL 109 a b = wrap64 (a.tdiv b) := if_neg hb
  have e2 : opL 113 a b = a.tmod b := if_neg hb
  rw [e1, e2, wrap64_mul_l, wrap64_add_l, Int.mul_comm, Int.mul_tdiv_add_tmod, wrap64_id ha]
theorem parts32 (a b : Int) (hb : b ≠ 0) (ha : -2147483648 ≤ a ∧ a ≤ 2147483647) :
    wrap32 (wrap32 (opI 108 a b * b) + opI 112 a b) = a := by
  have e1 : opI 108 a b = wrap32 (a.tdiv b) := if_neg hb
  have e2 : opI 112 a b = a.tmod b := if_neg hb
  rw [e1, e2, wrap32_mul_l, wrap32_add_l, Int.mul_comm, Int.mul_tdiv_add_tmod, wrap32_id ha]
theorem rest_near (a b : Int) (hb : b ≠ 0) : (0 ≤ a → 0 ≤ opL 113 a b) ∧ (a ≤ 0 → opL 113 a b ≤ 0) ∧ (0 < b → opL 113 a b < b ∧ -b < opL 113 a b) ∧ (b < 0 → opL 113 a b < -b ∧ b < opL 113 a b) := by
  have e2 : opL 113 a b = a.tmod b := if_neg hb
  rw [e2]
  refine ⟨fun h => Int.tmod_nonneg b h, fun h => ?_, fun h => ?_, fun h => ?_⟩
  · have := Int.tmod_nonneg b (show 0 ≤ -a by omega)
    rw [Int.neg_tmod] at this
    omega
  · refine ⟨Int.tmod_lt_of_pos a h, ?_⟩
    have := Int.tmod_lt_of_pos (-a) h
    rw [Int.neg_tmod] at this
    omega
  · have h1 := Int.tmod_lt_of_pos a (show 0 < -b by omega)
    have h2 := Int.tmod_lt_of_pos (-a) (show 0 < -b by omega)
    rw [Int.tmod_neg] at h1 h2
    rw [Int.neg_tmod] at h2
    omega

/-! ### Bits -/
def bit (x : Int) (i : Nat) : Int := x / 2 ^ i % 2
theorem pow_cast (n : Nat) : ((2 ^ n : Nat) : Int) = 2 ^ n := by simp
theorem pow_pos (n : Nat) : (0 : Int) < 2 ^ n := by have := Nat.two_pow_pos n; rw [← pow_cast]; omega
theorem bit_01 (x : Int) (i : Nat) : bit x i = 0 ∨ bit x i = 1 := by unfold bit; omega
theorem bit_of_mod (n : Nat) (x y : Int) (h : x % 2 ^ n = y % 2 ^ n) (i : Nat) (hi : i < n) : bit x i = bit y i := by
  obtain ⟨k, hk⟩ : ∃ k, x = y + 2 ^ n * k := by
    refine ⟨x / 2 ^ n - y / 2 ^ n, ?_⟩
    have h1 := Int.mul_ediv_add_emod x (2 ^ n)
    have h2 := Int.mul_ediv_add_emod y (2 ^ n)
    rw [Int.mul_sub]; omega
  obtain ⟨d, rfl⟩ : ∃ d, n = i + (d + 1) := ⟨n - i - 1, by omega⟩
  unfold bit
  rw [hk, Int.pow_add, Int.pow_succ, Int.mul_assoc, Int.mul_assoc, Int.add_mul_ediv_left _ _ (by have := pow_pos i; omega)]
  have : (2 : Int) ^ d * (2 * k) = 2 * (2 ^ d * k) := by rw [← Int.mul_assoc, Int.mul_comm (2 ^ d) 2, Int.mul_assoc]
  rw [this]
  omega
theorem bit_getLsb (n : Nat) (x : Int) (i : Nat) (hi : i < n) : bit x i = ((BitVec.ofInt n x).getLsbD i).toNat := by
  have e : x % 2 ^ n = ((x % ((2 ^ n : Nat) : Int)).toNat : Int) % 2 ^ n := by
    rw [Int.toNat_of_nonneg (Int.emod_nonneg _ (by rw [pow_cast]; have := pow_pos n; omega)), pow_cast, Int.emod_emod]
  rw [bit_of_mod n _ _ e i hi, BitVec.getLsbD, BitVec.toNat_ofInt, Nat.testBit_eq_decide_div_mod_eq]
  generalize (x % ((2 ^ n : Nat) : Int)).toNat = m
  unfold bit
  rw [← pow_cast]
  have e2 : ((m : Int) / ((2 ^ i : Nat) : Int) % 2) = ((m / 2 ^ i % 2 : Nat) : Int) := by simp
  rw [e2]
  by_cases h : m / 2 ^ i % 2 = 1
  · simp [h]
  · have : m / 2 ^ i % 2 = 0 := by omega
    simp [this]
theorem ofInt_wrap (k : IntKind) (x : Int) : BitVec.ofInt k.bits (k.wrap x) = BitVec.ofInt k.bits x := by
  apply BitVec.eq_of_toNat_eq
  rw [BitVec.toNat_ofInt, BitVec.toNat_ofInt]
  have hw : k.wrap x % ((2 ^ k.bits : Nat) : Int) = x % ((2 ^ k.bits : Nat) : Int) := by
    rw [pow_cast]
    unfold IntKind.wrap
    dsimp only
    split
    · rw [Int.sub_emod_right, Int.emod_emod]
    · rw [Int.emod_emod]
  rw [hw]
theorem bit_vec (k : IntKind) (r : BitVec k.bits) (i : Nat) (hi : i < k.bits) : bit (k.wrap r.toNat) i = ((r.getLsbD i).toNat : Int) := by
  rw [bit_getLsb k.bits _ i hi, ofInt_wrap]
  simp only [BitVec.ofInt_natCast, BitVec.ofNat_toNat, BitVec.setWidth_eq]
theorem bit_and (k : IntKind) (a b : Int) (i : Nat) (hi : i < k.bits) : bit (bits .and k a b) i = bit a i * bit b i := by
  rw [show bits _ k a b = k.wrap (BitVec.toNat _ : Nat) from rfl, bit_vec _ _ _ hi, bit_getLsb k.bits a i hi, bit_getLsb k.bits b i hi]
  simp only [BitVec.getLsbD_and]
  cases (BitVec.ofInt k.bits a).getLsbD i <;> cases (BitVec.ofInt k.bits b).getLsbD i <;> rfl
theorem bit_or (k : IntKind) (a b : Int) (i : Nat) (hi : i < k.bits) : bit (bits .or k a b) i = max (bit a i) (bit b i) := by
  rw [show bits _ k a b = k.wrap (BitVec.toNat _ : Nat) from rfl, bit_vec _ _ _ hi, bit_getLsb k.bits a i hi, bit_getLsb k.bits b i hi]
  simp only [BitVec.getLsbD_or]
  cases (BitVec.ofInt k.bits a).getLsbD i <;> cases (BitVec.ofInt k.bits b).getLsbD i <;> decide
theorem bit_xor (k : IntKind) (a b : Int) (i : Nat) (hi : i < k.bits) : bit (bits .xor k a b) i = (bit a i + bit b i) % 2 := by
  rw [show bits _ k a b = k.wrap (BitVec.toNat _ : Nat) from rfl, bit_vec _ _ _ hi, bit_getLsb k.bits a i hi, bit_getLsb k.bits b i hi]
  simp only [BitVec.getLsbD_xor]
  cases (BitVec.ofInt k.bits a).getLsbD i <;> cases (BitVec.ofInt k.bits b).getLsbD i <;> decide
theorem same_of_mod32 {x y : Int} (h : x % 2 ^ 32 = y % 2 ^ 32) (hx : -2147483648 ≤ x ∧ x ≤ 2147483647) (hy : -2147483648 ≤ y ∧ y ≤ 2147483647) : x = y := by
  simp at h; omega
theorem xor_back (a b : Int) (ha : -2147483648 ≤ a ∧ a ≤ 2147483647) : bits .xor .i32 (bits .xor .i32 a b) b = a := by
  show IntKind.i32.wrap ((BitVec.ofInt IntKind.i32.bits (IntKind.i32.wrap ((BitVec.ofInt IntKind.i32.bits a ^^^ BitVec.ofInt IntKind.i32.bits b).toNat : Nat)) ^^^ BitVec.ofInt IntKind.i32.bits b).toNat : Nat) = a
  rw [ofInt_wrap]
  simp only [BitVec.ofInt_natCast, BitVec.ofNat_toNat, BitVec.setWidth_eq]
  rw [BitVec.xor_assoc, BitVec.xor_self, BitVec.xor_zero, BitVec.toNat_ofInt, IntKind.wrap_i32]
  simp only [IntKind.bits]
  omega

/-! ### Shifts -/
theorem wrap64_mod (x : Int) : wrap64 x % 18446744073709551616 = x % 18446744073709551616 := by unfold wrap64; omega
theorem wrap32_mod (x : Int) : wrap32 x % 4294967296 = x % 4294967296 := by unfold wrap32; omega
theorem pow64 (m : Nat) (h : m ≤ 64) : (18446744073709551616 : Int) = 2 ^ m * 2 ^ (64 - m) := by
  rw [← Int.pow_add, show m + (64 - m) = 64 from by omega]; rfl
theorem left_right (a : Int) (m : Nat) (h : m ≤ 64) : wrap64 (a * 2 ^ m) % 18446744073709551616 / 2 ^ m = a % 2 ^ (64 - m) := by
  rw [wrap64_mod, pow64 m h, Int.mul_comm a, Int.mul_emod_mul_of_pos _ _ (pow_pos m), Int.mul_ediv_cancel_left _ (by have := pow_pos m; omega)]
theorem emod_pow_bd (a : Int) (m : Nat) : 0 ≤ a % 2 ^ m ∧ a % 2 ^ m < 2 ^ m := ⟨Int.emod_nonneg _ (by have := pow_pos m; omega), Int.emod_lt_of_pos _ (pow_pos m)⟩
theorem opL121 (a : Int) (m : Nat) (h : m < 64) : opL 121 a m = wrap64 (a * 2 ^ m) := by
  show wrap64 (a * 2 ^ ((m : Int) % 64).toNat) = _
  rw [show ((m : Int) % 64).toNat = m from by omega]
theorem opL123 (a : Int) (m : Nat) (h : m < 64) : opL 123 a m = a / 2 ^ m := by
  show a / 2 ^ ((m : Int) % 64).toNat = _
  rw [show ((m : Int) % 64).toNat = m from by omega]
theorem opL125 (a : Int) (m : Nat) (h : m < 64) : opL 125 a m = wrap64 (a % 18446744073709551616 / 2 ^ m) := by
  show wrap64 (a % 18446744073709551616 / 2 ^ ((m : Int) % 64).toNat) = _
  rw [show ((m : Int) % 64).toNat = m from by omega]
theorem moves63 (a : Int) : opL 125 (opL 121 a 63) 63 = a % 2 := by
  rw [show (63 : Int) = ((63 : Nat) : Int) from rfl, opL121 _ _ (by decide), opL125 _ _ (by decide), left_right _ _ (by decide)]
  have := emod_pow_bd a (64 - 63)
  rw [wrap64_id (by simp at this ⊢; omega)]
  rfl
theorem moves_back (a : Int) (m : Nat) (h0 : 1 ≤ m) (h : m < 64) : opL 125 (opL 121 a m) m = a % 2 ^ (64 - m) := by
  rw [opL121 _ _ h, opL125 _ _ h, left_right _ _ (by omega)]
  have h1 := emod_pow_bd a (64 - m)
  have h2 : (2 : Int) ^ (64 - m) ≤ 2 ^ 63 := by
    rw [← pow_cast, ← pow_cast]; exact_mod_cast Nat.pow_le_pow_right (by decide) (by omega)
  rw [wrap64_id (by simp at h2; omega)]
theorem moves_none (a : Int) (ha : -9223372036854775808 ≤ a ∧ a ≤ 9223372036854775807) : opL 125 (opL 121 a 0) 0 = a := by
  rw [show (0 : Int) = ((0 : Nat) : Int) from rfl, opL121 _ _ (by decide), opL125 _ _ (by decide), left_right _ _ (by decide)]
  simp [wrap64]; omega
theorem moves_more (a : Int) (m : Nat) (h : m ≤ 62) : opL 121 (opL 121 a m) 1 = opL 121 a ((m : Int) + 1) := by
  rw [show (1 : Int) = ((1 : Nat) : Int) from rfl, show (m : Int) + ((1 : Nat) : Int) = ((m + 1 : Nat) : Int) from by omega, opL121 _ _ (by omega), opL121 _ _ (by omega), opL121 _ _ (by omega), wrap64_mul_l, Int.pow_succ, Int.mul_assoc]
  rfl
theorem moves_right (a : Int) (m : Nat) (h : m ≤ 62) : opL 123 (opL 123 a m) 1 = opL 123 a ((m : Int) + 1) := by
  rw [show (1 : Int) = ((1 : Nat) : Int) from rfl, show (m : Int) + ((1 : Nat) : Int) = ((m + 1 : Nat) : Int) from by omega, opL123 _ _ (by omega), opL123 _ _ (by omega), opL123 _ _ (by omega), Int.pow_succ, Int.ediv_ediv_of_nonneg (by have := pow_pos m; omega)]
  rfl
theorem moves_round (a : Int) (m : Nat) (h : m < 64) : opL 121 a ((m : Int) + 64) = opL 121 a m := by
  rw [opL121 a m h]
  show wrap64 (a * 2 ^ (((m : Int) + 64) % 64).toNat) = _
  rw [show (((m : Int) + 64) % 64).toNat = m from by omega]
theorem and_low (a : Int) (m : Nat) (h0 : 1 ≤ m) (h : m ≤ 63) : bits .and .i64 a (2 ^ m - 1) = a % 2 ^ m := by
  have hp : (2 : Nat) ^ m ≤ 2 ^ 63 := Nat.pow_le_pow_right (by decide) h
  have hq := Nat.two_pow_pos m
  refine and_mask .i64 a m _ ?_ ?_ (by simp [IntKind.bits]; omega)
  · rw [BitVec.toNat_ofInt]
    rw [← pow_cast]
    simp only [IntKind.bits]
    omega
  · intro x h0 h1
    rw [IntKind.wrap_i64]
    rw [← pow_cast] at h1
    omega
end Go.Proofs.Ytjhjpifdknhkeaa
