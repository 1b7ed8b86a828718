/- Texts of this claim, joined: CNmMath, CNmBits. -/
import Derived.WalkKit
import Derived.WalkLawsBesides
import Derived.OpenShut
/- Plain facts about whole numbers, without any program: what the bit operations, wraps and shifts of package num come to. -/
namespace Go.Proofs.Ytbkeneadoccodaa.Nm
open Go.RowKit
theorem and_mask (k : IntKind) (n : Int) (m : Nat) (M : Int) (hM : (BitVec.ofInt k.bits M).toNat = 2 ^ m - 1) (hk : ∀ x : Int, 0 ≤ x → x < 2 ^ m → k.wrap x = x) (hm : m ≤ k.bits) : bits .and k n M = n % 2 ^ m := by
 have key : (BitVec.ofInt k.bits n &&& BitVec.ofInt k.bits M).toNat = (n % ((2 ^ k.bits : Nat) : Int)).toNat % 2 ^ m := by
  rw [BitVec.toNat_and, BitVec.toNat_ofInt, hM, Nat.and_two_pow_sub_one_eq_mod]
 show k.wrap ((BitVec.ofInt k.bits n &&& BitVec.ofInt k.bits M).toNat : Nat) = n % 2 ^ m
 have h2 : (((n % ((2 ^ k.bits : Nat) : Int)).toNat % 2 ^ m : Nat) : Int) = n % 2 ^ m := by
  have hpos : (0 : Int) < ((2 ^ k.bits : Nat) : Int) := by exact_mod_cast Nat.two_pow_pos _
  rw [Int.natCast_emod, Int.toNat_of_nonneg (Int.emod_nonneg _ (by omega))]
  have hd : ((2 ^ m : Nat) : Int) ∣ ((2 ^ k.bits : Nat) : Int) := by
   exact_mod_cast Nat.pow_dvd_pow 2 hm
  rw [Int.emod_emod_of_dvd _ hd]
  simp
 rw [key, h2, hk]
 ·exact Int.emod_nonneg _ (by have := Nat.two_pow_pos m; have : ((2 ^ m : Nat) : Int) = 2 ^ m := (by simp); omega)
 ·exact Int.emod_lt_of_pos _ (by have := Nat.two_pow_pos m; have : ((2 ^ m : Nat) : Int) = 2 ^ m := (by simp); omega)
theorem and1 (n : Int) : bits .and .i64 n 1 = n % 2 := and_mask .i64 n 1 1 (by decide) (by intro x h0 h1; rw [IntKind.wrap_i64]; omega) (by decide)
theorem and63 (n : Int) : bits .and .i64 n 63 = n % 64 := and_mask .i64 n 6 63 (by decide) (by intro x h0 h1; rw [IntKind.wrap_i64]; omega) (by decide)
theorem and31 (n : Int) : bits .and .i32 n 31 = n % 32 := and_mask .i32 n 5 31 (by decide) (by intro x h0 h1; rw [IntKind.wrap_i32]; omega) (by decide)
def quo (wr : Int → Int) (a b : Int) : Int := if b = 0 then 0 else wr (a.tdiv b)
def rst (a b : Int) : Int := if b = 0 then 0 else a.tmod b
def cmpI (c a b : Int) : Int :=
 if c = 96 then wrap32 (a + b) else if c = 100 then wrap32 (a - b) else if c = 104 then wrap32 (a * b)
 else if c = 108 then quo wrap32 a b else if c = 112 then rst a b
 else if c = 120 then wrap32 (a * 2 ^ (b % 32).toNat) else if c = 122 then a / 2 ^ (b % 32).toNat
 else if c = 126 then bits .and .i32 a b else if c = 128 then bits .or .i32 a b else if c = 130 then bits .xor .i32 a b else 0
def cmpL (c a b : Int) : Int :=
 if c = 96 then wrap64 (a + b) else if c = 100 then wrap64 (a - b) else if c = 104 then wrap64 (a * b)
 else if c = 108 then quo wrap64 a b else if c = 112 then rst a b
 else if c = 120 then wrap64 (a * 2 ^ (b % 64).toNat) else if c = 122 then a / 2 ^ (b % 64).toNat
 else if c = 126 then bits .and .i64 a b else if c = 128 then bits .or .i64 a b else if c = 130 then bits .xor .i64 a b else 0
def opI (c a b : Int) : Int := if c = 124 then wrap32 (a % 4294967296 / 2 ^ (b % 32).toNat) else cmpI c a b
def opL (c a b : Int) : Int :=
 if c % 2 = 0 then 0 else if c = 125 then wrap64 (a % 18446744073709551616 / 2 ^ (b % 64).toNat) else cmpL (c - 1) a b
theorem IntKind_wrap_i8 (n : Int) : IntKind.i8.wrap n = (n + 128) % 256 - 128 := by
 simp [IntKind.wrap, IntKind.bits, IntKind.signed]; split <;> omega
theorem IntKind_wrap_i16 (n : Int) : IntKind.i16.wrap n = (n + 32768) % 65536 - 32768 := by
 simp [IntKind.wrap, IntKind.bits, IntKind.signed]; split <;> omega
theorem IntKind_wrap_u16 (n : Int) : IntKind.u16.wrap n = n % 65536 := by simp [IntKind.wrap, IntKind.bits, IntKind.signed]
theorem wrap32_bd (n : Int) : -2147483648 ≤ wrap32 n ∧ wrap32 n ≤ 2147483647 := by unfold wrap32; omega
theorem wrap64_bd (n : Int) : -9223372036854775808 ≤ wrap64 n ∧ wrap64 n ≤ 9223372036854775807 := by unfold wrap64; omega
theorem tmod_in {a b lo hi : Int} (h : lo ≤ a ∧ a ≤ hi) (h0 : lo ≤ 0) (h1 : 0 ≤ hi) : lo ≤ a.tmod b ∧ a.tmod b ≤ hi := by
 by_cases ha : 0 ≤ a
 ·have := Int.tmod_nonneg b ha
  have h2 : a.tmod b ≤ a := by
   obtain ⟨x, rfl⟩ := Int.eq_ofNat_of_zero_le ha
   obtain ⟨y, hy⟩ := Int.eq_nat_or_neg b
   rcases hy with rfl | rfl
   ·rw [← Int.ofNat_tmod]; exact_mod_cast Nat.mod_le _ _
   ·rw [Int.tmod_neg, ← Int.ofNat_tmod]; exact_mod_cast Nat.mod_le _ _
  omega
 ·have hn : a = -(-a) := by omega
  have h3 := Int.tmod_nonneg b (show 0 ≤ -a by omega)
  have h2 : (-a).tmod b ≤ -a := by
   obtain ⟨x, hx⟩ := Int.eq_ofNat_of_zero_le (show 0 ≤ -a by omega)
   rw [hx]
   obtain ⟨y, hy⟩ := Int.eq_nat_or_neg b
   rcases hy with rfl | rfl
   ·rw [← Int.ofNat_tmod]; exact_mod_cast Nat.mod_le _ _
   ·rw [Int.tmod_neg, ← Int.ofNat_tmod]; exact_mod_cast Nat.mod_le _ _
  rw [Int.neg_tmod] at h2 h3
  omega
theorem ediv_pow_in {a lo hi : Int} (k : Nat) (h : lo ≤ a ∧ a ≤ hi) (h0 : lo ≤ 0) (h1 : 0 ≤ hi) : lo ≤ a / 2 ^ k ∧ a / 2 ^ k ≤ hi := by
 have hp : (0 : Int) < 2 ^ k := by have := Nat.two_pow_pos k; have : ((2 ^ k : Nat) : Int) = 2 ^ k := (by simp); omega
 constructor
 ·refine (Int.le_ediv_iff_mul_le hp).2 ?_
  have : lo * 2 ^ k ≤ lo * 1 := Int.mul_le_mul_of_nonpos_left h0 (by omega)
  omega
 ·refine Int.le_trans ?_ (show max a 0 ≤ hi by omega)
  by_cases ha : 0 ≤ a
  ·exact Int.le_trans (Int.ediv_le_self _ ha) (by omega)
  ·have := Int.ediv_neg_of_neg_of_pos (show a < 0 by omega) hp
   omega
theorem bits32_in (op : BinOp) (a b : Int) : -2147483648 ≤ bits op .i32 a b ∧ bits op .i32 a b ≤ 2147483647 := bounds_i32 (wf_bits op .i32 a b)
theorem bits64_in (op : BinOp) (a b : Int) : -9223372036854775808 ≤ bits op .i64 a b ∧ bits op .i64 a b ≤ 9223372036854775807 := bounds_i64 (wf_bits op .i64 a b)
theorem ite_in {p : Prop} [Decidable p] {lo hi x y : Int} (hx : lo ≤ x ∧ x ≤ hi) (hy : lo ≤ y ∧ y ≤ hi) : lo ≤ (if p then x else y) ∧ (if p then x else y) ≤ hi := by
 by_cases hp : p
 ·rw [if_pos hp]; exact hx
 ·rw [if_neg hp]; exact hy
theorem opI_in (c a b : Int) (h : -2147483648 ≤ a ∧ a ≤ 2147483647) : -2147483648 ≤ opI c a b ∧ opI c a b ≤ 2147483647 := by
 unfold opI cmpI quo rst
 repeat' (with_reducible refine ite_in ?_ ?_)
 all_goals first
  | (with_reducible exact wrap32_bd _)
  | exact bits32_in _ _ _
  | exact tmod_in h (by omega) (by omega)
  | exact ediv_pow_in _ h (by omega) (by omega)
  | omega
theorem opL_in (c a b : Int) (h : -9223372036854775808 ≤ a ∧ a ≤ 9223372036854775807) : -9223372036854775808 ≤ opL c a b ∧ opL c a b ≤ 9223372036854775807 := by
 unfold opL cmpL quo rst
 repeat' (with_reducible refine ite_in ?_ ?_)
 all_goals first
  | (with_reducible exact wrap64_bd _)
  | exact bits64_in _ _ _
  | exact tmod_in h (by omega) (by omega)
  | exact ediv_pow_in _ h (by omega) (by omega)
  | omega
def cmp3 (a b : Int) : Int := if a < b then -1 else if b < a then 1 else 0
def two (c a b : Int) : Int := if c = 148 then cmp3 a b else if c % 2 = 0 then opI c (wrap32 a) (wrap32 b) else opL c a b
def wrap16 (n : Int) : Int := (n + 32768) % 65536 - 32768
def wrap8 (n : Int) : Int := (n + 128) % 256 - 128
def one (c a : Int) : Int :=
 if c = 116 then wrap32 (- wrap32 a) else if c = 117 then wrap64 (- a) else if c = 133 ∨ c = 136 then wrap32 a
 else if c = 145 then wrap8 a else if c = 146 then a % 65536 else if c = 147 then wrap16 a else 0
def cnd (c a b : Int) : Bool :=
 if c = 0 then a == b else if c = 1 then a != b else if c = 2 then decide (a < b) else if c = 3 then decide (b ≤ a)
 else if c = 4 then decide (b < a) else if c = 5 then decide (a ≤ b) else false
end Go.Proofs.Ytbkeneadoccodaa.Nm
/- Plain facts, without any program: wraps are congruences; the bits of a number; what and, or, xor do to them. -/
namespace Go.Proofs.Ytbkeneadoccodaa.Nm
open Go.RowKit
theorem wrap64_of (x k : Int) : wrap64 (x + 18446744073709551616 * k) = wrap64 x := by unfold wrap64; omega
theorem wrap32_of (x k : Int) : wrap32 (x + 4294967296 * k) = wrap32 x := by unfold wrap32; omega
theorem wrap64_add_l (x y : Int) : wrap64 (wrap64 x + y) = wrap64 (x + y) := by unfold wrap64; omega
theorem wrap64_add_r (x y : Int) : wrap64 (x + wrap64 y) = wrap64 (x + y) := by unfold wrap64; omega
theorem wrap64_id {x : Int} (h : -9223372036854775808 ≤ x ∧ x ≤ 9223372036854775807) : wrap64 x = x := IntWalk.wrap64_in x h
theorem wrap32_id {x : Int} (h : -2147483648 ≤ x ∧ x ≤ 2147483647) : wrap32 x = x := IntWalk.wrap32_in x h
def bit (x : Int) (i : Nat) : Int := x / 2 ^ i % 2
theorem pow_cast (n : Nat) : ((2 ^ n : Nat) : Int) = 2 ^ n := by simp
theorem pow_pos (n : Nat) : (0 : Int) < 2 ^ n := by have := Nat.two_pow_pos n; rw [← pow_cast]; omega
theorem bit_01 (x : Int) (i : Nat) : bit x i = 0 ∨ bit x i = 1 := by unfold bit; omega
theorem bit_of_mod (n : Nat) (x y : Int) (h : x % 2 ^ n = y % 2 ^ n) (i : Nat) (hi : i < n) : bit x i = bit y i := by
 obtain ⟨k, hk⟩ : ∃ k, x = y + 2 ^ n * k := by
  refine ⟨x / 2 ^ n - y / 2 ^ n, ?_⟩
  have h1 := Int.mul_ediv_add_emod x (2 ^ n)
  have h2 := Int.mul_ediv_add_emod y (2 ^ n)
  rw [Int.mul_sub]; omega
 obtain ⟨d, rfl⟩ : ∃ d, n = i + (d + 1) := ⟨n - i - 1, by omega⟩
 unfold bit
 rw [hk, Int.pow_add, Int.pow_succ, Int.mul_assoc, Int.mul_assoc, Int.add_mul_ediv_left _ _ (by have := pow_pos i; omega)]
 have : (2 : Int) ^ d * (2 * k) = 2 * (2 ^ d * k) := by rw [← Int.mul_assoc, Int.mul_comm (2 ^ d) 2, Int.mul_assoc]
 rw [this]
 omega
theorem bit_getLsb (n : Nat) (x : Int) (i : Nat) (hi : i < n) : bit x i = ((BitVec.ofInt n x).getLsbD i).toNat := by
 have e : x % 2 ^ n = ((x % ((2 ^ n : Nat) : Int)).toNat : Int) % 2 ^ n := by
  rw [Int.toNat_of_nonneg (Int.emod_nonneg _ (by rw [pow_cast]; have := pow_pos n; omega)), pow_cast, Int.emod_emod]
 rw [bit_of_mod n _ _ e i hi, BitVec.getLsbD, BitVec.toNat_ofInt, Nat.testBit_eq_decide_div_mod_eq]
 generalize (x % ((2 ^ n : Nat) : Int)).toNat = m
 unfold bit
 rw [← pow_cast]
 have e2 : ((m : Int) / ((2 ^ i : Nat) : Int) % 2) = ((m / 2 ^ i % 2 : Nat) : Int) := by simp
 rw [e2]
 by_cases h : m / 2 ^ i % 2 = 1
 ·simp [h]
 ·have : m / 2 ^ i % 2 = 0 := by omega
  simp [this]
theorem ofInt_wrap (k : IntKind) (x : Int) : BitVec.ofInt k.bits (k.wrap x) = BitVec.ofInt k.bits x := by
 apply BitVec.eq_of_toNat_eq
 rw [BitVec.toNat_ofInt, BitVec.toNat_ofInt]
 have hw : k.wrap x % ((2 ^ k.bits : Nat) : Int) = x % ((2 ^ k.bits : Nat) : Int) := by
  rw [pow_cast]
  unfold IntKind.wrap
  dsimp only
  split
  ·rw [Int.sub_emod_right, Int.emod_emod]
  ·rw [Int.emod_emod]
 rw [hw]
theorem bit_vec (k : IntKind) (r : BitVec k.bits) (i : Nat) (hi : i < k.bits) : bit (k.wrap r.toNat) i = ((r.getLsbD i).toNat : Int) := by
 rw [bit_getLsb k.bits _ i hi, ofInt_wrap]
 simp only [BitVec.ofInt_natCast, BitVec.ofNat_toNat, BitVec.setWidth_eq]
theorem bit_and (k : IntKind) (a b : Int) (i : Nat) (hi : i < k.bits) : bit (bits .and k a b) i = bit a i * bit b i := by
 rw [show bits _ k a b = k.wrap (BitVec.toNat _ : Nat) from rfl, bit_vec _ _ _ hi, bit_getLsb k.bits a i hi, bit_getLsb k.bits b i hi]
 simp only [BitVec.getLsbD_and]
 cases (BitVec.ofInt k.bits a).getLsbD i <;> cases (BitVec.ofInt k.bits b).getLsbD i <;> rfl
theorem bit_or (k : IntKind) (a b : Int) (i : Nat) (hi : i < k.bits) : bit (bits .or k a b) i = max (bit a i) (bit b i) := by
 rw [show bits _ k a b = k.wrap (BitVec.toNat _ : Nat) from rfl, bit_vec _ _ _ hi, bit_getLsb k.bits a i hi, bit_getLsb k.bits b i hi]
 simp only [BitVec.getLsbD_or]
 cases (BitVec.ofInt k.bits a).getLsbD i <;> cases (BitVec.ofInt k.bits b).getLsbD i <;> decide
theorem bit_xor (k : IntKind) (a b : Int) (i : Nat) (hi : i < k.bits) : bit (bits .xor k a b) i = (bit a i + bit b i) % 2 := by
 rw [show bits _ k a b = k.wrap (BitVec.toNat _ : Nat) from rfl, bit_vec _ _ _ hi, bit_getLsb k.bits a i hi, bit_getLsb k.bits b i hi]
 simp only [BitVec.getLsbD_xor]
 cases (BitVec.ofInt k.bits a).getLsbD i <;> cases (BitVec.ofInt k.bits b).getLsbD i <;> decide
theorem wrap64_mod (x : Int) : wrap64 x % 18446744073709551616 = x % 18446744073709551616 := by unfold wrap64; omega
theorem emod_pow_bd (a : Int) (m : Nat) : 0 ≤ a % 2 ^ m ∧ a % 2 ^ m < 2 ^ m := ⟨Int.emod_nonneg _ (by have := pow_pos m; omega), Int.emod_lt_of_pos _ (pow_pos m)⟩
end Go.Proofs.Ytbkeneadoccodaa.Nm
