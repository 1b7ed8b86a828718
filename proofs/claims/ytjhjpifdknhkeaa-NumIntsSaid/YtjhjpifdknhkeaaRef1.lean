/- Contracts of the document's own answers for layer 1: cut, bit, bits, amount, made. -/
import Derived.Test.YtjhjpifdknhkeaaRows
import Derived.Test.YtjhjpifdknhkeaaBits
import Derived.WalkKit
import Derived.Outline
import Derived.WalkLawsBesides
import Derived.LoopTactic
import Derived.LoopN
import Derived.Deep.QuietTactic
import Derived.BigQuiet
import Derived.Lib.Hide
namespace Go.Proofs.Ytjhjpifdknhkeaa
open Go.RowKit
set_option linter.unusedVariables false

theorem tmod_bd (a m : Int) (hm : 0 < m) : -m < a.tmod m ∧ a.tmod m < m := by
  have h1 := Int.tmod_lt_of_pos a hm
  have h2 := Int.tmod_lt_of_pos (-a) hm
  rw [Int.neg_tmod] at h2
  omega
theorem tmod_up (a m : Int) (hm : 0 < m) : (a.tmod m + m).tmod m = a % m := by
  have hb := tmod_bd a m hm
  rw [Int.tmod_eq_emod_of_nonneg (by omega), Int.add_emod_right]
  have h := Int.mul_tdiv_add_tmod a m
  have h2 : a % m = (a.tmod m + m * a.tdiv m) % m := by rw [Int.add_comm, h]
  rw [h2, Int.add_mul_emod_self_left]
def wrn (n : Nat) (x : Int) : Int := if n = 64 then wrap64 x else if n = 32 then wrap32 x else if n = 16 then wrap16 x else wrap8 x
theorem cut_any (a N : Int) (n : Nat) (hN : N = n) (hn : n = 8 ∨ n = 16 ∨ n = 32 ∨ n = 64) (ha : -9223372036854775808 ≤ a ∧ a ≤ 9223372036854775807) (w : World) : Calls Try.prog 37 #[.int .i64 a, .int .i64 N] w fun e w' => e = .returned (.int .i64 (wrn n a)) ∧ w = w' := by
  subst hN
  rcases hn with rfl | rfl | rfl | rfl
  · have h1 := tmod_bd a 256 (by decide)
    have h2 := tmod_up a 256 (by decide)
    by_cases h : 128 ≤ a % 256
    all_goals
      have E := Lib.hid (show wrn 8 a = if 128 ≤ a % 256 then a % 256 - 256 else a % 256 by show wrap8 a = _; unfold wrap8; split <;> omega)
      go_enter Try.func37, Try.ntmps37
      go_wp2
      go_ret
      refine ⟨congrArg (fun n => Ending.returned (Value.int .i64 n)) ?_, rfl⟩
      rw [E.out]
      first | exact (if_pos h).symm | exact (if_neg (by omega)).symm
  · have h1 := tmod_bd a 65536 (by decide)
    have h2 := tmod_up a 65536 (by decide)
    by_cases h : 32768 ≤ a % 65536
    all_goals
      have E := Lib.hid (show wrn 16 a = if 32768 ≤ a % 65536 then a % 65536 - 65536 else a % 65536 by show wrap16 a = _; unfold wrap16; split <;> omega)
      go_enter Try.func37, Try.ntmps37
      go_wp2
      go_ret
      refine ⟨congrArg (fun n => Ending.returned (Value.int .i64 n)) ?_, rfl⟩
      rw [E.out]
      first | exact (if_pos h).symm | exact (if_neg (by omega)).symm
  · have h1 := tmod_bd a 4294967296 (by decide)
    have h2 := tmod_up a 4294967296 (by decide)
    by_cases h : 2147483648 ≤ a % 4294967296
    all_goals
      have E := Lib.hid (show wrn 32 a = if 2147483648 ≤ a % 4294967296 then a % 4294967296 - 4294967296 else a % 4294967296 by show wrap32 a = _; unfold wrap32; split <;> omega)
      go_enter Try.func37, Try.ntmps37
      go_wp2
      go_ret
      refine ⟨congrArg (fun n => Ending.returned (Value.int .i64 n)) ?_, rfl⟩
      rw [E.out]
      first | exact (if_pos h).symm | exact (if_neg (by omega)).symm
  · have E := Lib.hid (show wrn 64 a = a from wrap64_id ha)
    go_enter Try.func37, Try.ntmps37
    go_wp2
    go_ret
    exact ⟨by rw [E.out]; rfl, rfl⟩
theorem bit_any (a K : Int) (k : Nat) (hK : K = k) (hk : k < 64) (w : World) : Calls Try.prog 39 #[.int .i64 a, .int .i64 K] w fun e w' => e = .returned (.int .i64 (bit a k)) ∧ w = w' := by
  subst hK
  have h1 := and1 (a / 2 ^ k)
  go_enter Try.func39, Try.ntmps39
  go_wp2
  go_ret
  exact ⟨rfl, rfl⟩
theorem amount_any (a : Int) (ha : -9223372036854775808 ≤ a ∧ a ≤ 9223372036854775807) (w : World) : Calls Try.prog 41 #[.int .i64 a] w fun e w' => e = .returned (.int .u64 (a.natAbs : Int)) ∧ w = w' := by
  by_cases h : a < 0
  · have E := Lib.hid (show (a.natAbs : Int) = -(a + 1) + 1 by omega)
    go_enter Try.func41, Try.ntmps41
    go_wp2
    go_ret
    exact ⟨by rw [E.out]; rfl, rfl⟩
  · have E := Lib.hid (show (a.natAbs : Int) = a by omega)
    go_enter Try.func41, Try.ntmps41
    go_wp2
    go_ret
    exact ⟨by rw [E.out]; rfl, rfl⟩
/-- A number made of bits, from the lowest. -/
def mk (f : Nat → Int) : Nat → Int
  | 0 => 0
  | k + 1 => mk f k + f k * 2 ^ k
theorem mk_bd (f : Nat → Int) (hf : ∀ i, f i = 0 ∨ f i = 1) (k : Nat) : 0 ≤ mk f k ∧ mk f k < 2 ^ k := by
  induction k with
  | zero => simp [mk]
  | succ k ih =>
    have hp := pow_pos k
    rw [Int.pow_succ]
    rcases hf k with h | h <;> simp only [mk, h] <;> omega
theorem bit_high (x : Int) (k i : Nat) (h : 0 ≤ x ∧ x < 2 ^ k) (hi : k ≤ i) : bit x i = 0 := by
  have : (2 : Int) ^ k ≤ 2 ^ i := by rw [← pow_cast, ← pow_cast]; exact_mod_cast Nat.pow_le_pow_right (by decide) hi
  unfold bit
  rw [Int.ediv_eq_zero_of_lt h.1 (by omega)]
  rfl
theorem bit_low (c : Int) (k i : Nat) (hi : i < k) : bit (c * 2 ^ k) i = 0 := by
  obtain ⟨d, rfl⟩ : ∃ d, k = i + (d + 1) := ⟨k - i - 1, by omega⟩
  unfold bit
  rw [Int.pow_add, Int.pow_succ, Int.mul_comm c, Int.mul_assoc, Int.mul_ediv_cancel_left _ (by have := pow_pos i; omega)]
  rw [Int.mul_comm ((2 : Int) ^ d) 2, Int.mul_assoc]
  omega
theorem or_apart (x y : Int) (h : ∀ i, i < 64 → bit x i = 0 ∨ bit y i = 0) : bits .or .i64 x y = wrap64 (x + y) := by
  have ha : BitVec.ofInt 64 x &&& BitVec.ofInt 64 y = 0#64 := by
    apply BitVec.eq_of_getLsbD_eq
    intro i hi
    rw [BitVec.getLsbD_and, BitVec.getLsbD_zero]
    rcases h i hi with h | h <;> rw [bit_getLsb 64 _ i hi] at h
    · cases hb : (BitVec.ofInt 64 x).getLsbD i
      · rfl
      · rw [hb] at h; simp at h
    · cases hb : (BitVec.ofInt 64 y).getLsbD i
      · simp
      · rw [hb] at h; simp at h
  show IntKind.i64.wrap ((BitVec.ofInt 64 x ||| BitVec.ofInt 64 y).toNat : Nat) = _
  rw [← BitVec.add_eq_or_of_and_eq_zero _ _ ha, ← BitVec.ofInt_add, BitVec.toNat_ofInt, IntKind.wrap_i64]
  unfold wrap64
  omega
theorem bit_wrap64 (x : Int) (i : Nat) (hi : i < 64) : bit (wrap64 x) i = bit x i :=
  bit_of_mod 64 _ _ (by have := wrap64_mod x; exact this) i hi
theorem mk_step (f : Nat → Int) (hf : ∀ i, f i = 0 ∨ f i = 1) (k : Nat) (hk : k < 64) : bits .or .i64 (wrap64 (mk f k)) (wrap64 (f k * 2 ^ k)) = wrap64 (mk f (k + 1)) := by
  rw [or_apart, wrap64_add_l, wrap64_add_r]
  · rfl
  · intro i hi
    rw [bit_wrap64 _ _ hi, bit_wrap64 _ _ hi]
    by_cases h : i < k
    · exact .inr (bit_low _ _ _ h)
    · exact .inl (bit_high _ _ _ (mk_bd f hf k) (by omega))
theorem emod_pow_succ (y : Int) (k : Nat) : y % 2 ^ (k + 1) = y % 2 ^ k + bit y k * 2 ^ k := by
  have hp := pow_pos k
  unfold bit
  have h1 := Int.mul_ediv_add_emod y (2 ^ k)
  have h2 := Int.mul_ediv_add_emod (y / 2 ^ k) 2
  have hb := emod_pow_bd y k
  have hm : y = y % 2 ^ k + y / 2 ^ k % 2 * 2 ^ k + 2 ^ (k + 1) * (y / 2 ^ k / 2) := by
    have e : y / 2 ^ k = y / 2 ^ k % 2 + 2 * (y / 2 ^ k / 2) := by omega
    have e2 : (2 : Int) ^ k * (y / 2 ^ k) = y / 2 ^ k % 2 * 2 ^ k + 2 ^ (k + 1) * (y / 2 ^ k / 2) := by
      rw [Int.pow_succ]
      generalize y / 2 ^ k / 2 = q at e ⊢
      generalize y / 2 ^ k % 2 = r at e ⊢
      rw [e, Int.mul_add, Int.mul_assoc, Int.mul_comm r]
    omega
  have hlt : y % 2 ^ k + y / 2 ^ k % 2 * 2 ^ k < 2 ^ (k + 1) := by
    rw [Int.pow_succ]
    have : y / 2 ^ k % 2 = 0 ∨ y / 2 ^ k % 2 = 1 := by omega
    rcases this with h | h <;> rw [h] <;> omega
  have hnn : 0 ≤ y % 2 ^ k + y / 2 ^ k % 2 * 2 ^ k := by
    have : y / 2 ^ k % 2 = 0 ∨ y / 2 ^ k % 2 = 1 := by omega
    rcases this with h | h <;> rw [h] <;> omega
  conv => lhs; rw [hm]
  rw [Int.add_mul_emod_self_left]
  exact Int.emod_eq_of_lt hnn hlt
theorem mk_bit (y : Int) (k : Nat) : mk (bit y) k = y % 2 ^ k := by
  induction k with
  | zero => simp [mk]
  | succ k ih => rw [emod_pow_succ, ← ih]; rfl
theorem wrn_mod (n : Nat) (hn : n = 32 ∨ n = 64) (y : Int) : wrn n (wrap64 (y % 2 ^ n)) = wrn n y := by
  rcases hn with rfl | rfl
  · show wrap32 (wrap64 (y % 2 ^ 32)) = wrap32 y
    have : (2 : Int) ^ 32 = 4294967296 := rfl
    rw [this]; unfold wrap32 wrap64; omega
  · show wrap64 (wrap64 (y % 2 ^ 64)) = wrap64 y
    have : (2 : Int) ^ 64 = 18446744073709551616 := rfl
    rw [this]; unfold wrap64; omega
/-- Bits of a number, laid as words, make the number, cut to as many bits. -/
theorem made_any (y : Int) (g cap n : Nat) (N : Int) (hN : N = n) (hn : n = 32 ∨ n = 64) (w : World) (hc : ∀ i, i < n → w.cell? ⟨g, i, none⟩ = some (.int .i64 (bit y i))) :
    Calls Try.prog 40 #[.slice (some ⟨g, 0, none⟩) n cap, .int .i64 N] w fun e w' => e = .returned (.int .i64 (wrn n y)) ∧ w = w' := by
  subst hN
  have hn64 : n ≤ 64 := by omega
  have Hn := Lib.hid hn
  clear hn
  go_enter Try.func40, Try.ntmps40
  go_wp2
  go_loop [5, 6] (fun x i => ∃ k : Nat, k ≤ n ∧ i = .int .i64 k ∧ x = .int .i64 (wrap64 (mk (bit y) k))) (fun _ i => n - (intOf i).toNat)
  case atStart => exact ⟨0, by omega, rfl, by simp [mk, wrap64]⟩
  case round =>
    obtain ⟨k, hk, rfl, rfl⟩ := hrel
    by_cases hlt : k < n
    · have hst := mk_step (bit y) (bit_01 y) k (by omega)
      have hck := hc k hlt
      clear hc
      go_wp2
      go_round
      case rel => exact ⟨k + 1, by omega, by go_num, rfl⟩
      case measure => simp [intOf]; omega
    · obtain rfl : k = n := by omega
      go_wp2_with fail
      refine (cut_any _ _ k rfl (by have := Hn.out; omega) (wrap64_bd _) _).mono ?_
      rintro e w' ⟨rfl, rfl⟩
      go_wp2
      go_ret
      exact ⟨by rw [mk_bit, wrn_mod _ Hn.out]; rfl, rfl⟩
end Go.Proofs.Ytjhjpifdknhkeaa
