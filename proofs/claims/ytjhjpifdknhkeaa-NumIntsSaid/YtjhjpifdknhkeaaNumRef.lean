/- Walks of the statements NumInts, NumLongs, NumWords: package num against the document's own answers. -/
import Derived.Test.YtjhjpifdknhkeaaRef5
import Derived.Test.YtjhjpifdknhkeaaNumHold
namespace Go.Proofs.Ytjhjpifdknhkeaa
open Go.RowKit
set_option linter.unusedVariables false

theorem opI_odd (c a b : Int) (h : ¬ c % 2 = 0) : opI c a b = 0 := by
  unfold opI cmpI
  rw [if_neg (by omega), if_neg (by omega), if_neg (by omega), if_neg (by omega), if_neg (by omega), if_neg (by omega), if_neg (by omega), if_neg (by omega), if_neg (by omega), if_neg (by omega), if_neg (by omega)]
theorem NumInts_walk (c a b : Int) (wc : (Lit.int .i64 c).wf = true) (wa : (Lit.int .i32 a).wf = true) (wb : (Lit.int .i32 b).wf = true) (w : World) :
    Calls Try.prog 3 #[.int .i64 c, .int .i32 a, .int .i32 b] w fun e w' => e = .returned (.bool true) ∧ Below w.heap.size w w' := by
  have hc := bounds_i64 wc
  have ha := bounds_i32 wa
  have hb := bounds_i32 wb
  have hm := and1 c
  have hop := opI_in c a b ha
  by_cases he : c % 2 = 0
  · go_enter Try.func3, Try.ntmps3
    go_wp2_with (first | (go_at_call 12; refine (holds_any _).mono ?_; rintro e w' ⟨rfl, rfl⟩) | (go_at_call 13; refine (make32_any _ _ _ ha hb _).mono ?_; rintro e w' ⟨rfl, h1⟩) | (go_at_call 14; refine (int_any _ _ _ _).mono ?_; rintro e w' ⟨rfl, rfl⟩))
    go_ret
    exact ⟨rfl, h1⟩
  · have hz := opI_odd c a b he
    go_enter Try.func3, Try.ntmps3
    go_wp2_with (first | (go_at_call 12; refine (holds_any _).mono ?_; rintro e w' ⟨rfl, rfl⟩) | (go_at_call 14; refine (int_any _ _ _ _).mono ?_; rintro e w' ⟨rfl, rfl⟩))
    go_ret
    exact ⟨rfl, Below.refl _ _⟩
theorem mk_congr (f g : Nat → Int) (n : Nat) (h : ∀ i, i < n → f i = g i) : mk f n = mk g n := by
  induction n with
  | zero => rfl
  | succ n ih =>
    show mk f n + f n * 2 ^ n = mk g n + g n * 2 ^ n
    rw [ih (fun i hi => h i (by omega)), h n (by omega)]
theorem eq_of_bits (x y : Int) (hx : -9223372036854775808 ≤ x ∧ x ≤ 9223372036854775807) (hy : -9223372036854775808 ≤ y ∧ y ≤ 9223372036854775807) (h : ∀ i, i < 64 → bit x i = bit y i) : x = y := by
  have e : x % 2 ^ 64 = y % 2 ^ 64 := by rw [← mk_bit, ← mk_bit]; exact mk_congr _ _ _ h
  have p : (2 : Int) ^ 64 = 18446744073709551616 := rfl
  rw [p] at e
  omega
theorem bit_andNot (k : IntKind) (a b : Int) (i : Nat) (hi : i < k.bits) : bit (bits .andNot k a b) i = bit a i * (1 - bit b i) := by
  rw [show bits .andNot k a b = k.wrap (BitVec.toNat (BitVec.ofInt k.bits a &&& ~~~ (BitVec.ofInt k.bits b)) : Nat) from rfl, bit_vec _ _ _ hi, bit_getLsb k.bits a i hi, bit_getLsb k.bits b i hi]
  simp only [BitVec.getLsbD_and, BitVec.getLsbD_not]
  cases (BitVec.ofInt k.bits a).getLsbD i <;> cases (BitVec.ofInt k.bits b).getLsbD i <;> simp [hi]
theorem andNot1 (n : Int) (hn : -9223372036854775808 ≤ n ∧ n ≤ 9223372036854775807) (h : ¬ n % 2 = 0) : bits .andNot .i64 n 1 = n - 1 := by
  refine eq_of_bits _ _ (bits64_in _ _ _) (by omega) fun i hi => ?_
  rw [bit_andNot .i64 _ _ i hi]
  by_cases h0 : i = 0
  · subst h0
    unfold bit
    simp
    omega
  · obtain ⟨j, rfl⟩ : ∃ j, i = j + 1 := ⟨i - 1, by omega⟩
    rw [bit_high 1 1 (j + 1) (by decide) (by omega)]
    unfold bit
    have hp := pow_pos j
    rw [Int.pow_succ, Int.mul_comm (2 ^ j), ← Int.ediv_ediv_of_nonneg (by omega), ← Int.ediv_ediv_of_nonneg (by omega), show (n - 1) / 2 = n / 2 from by omega]
    omega
theorem NumLongs_walk (c a b : Int) (wc : (Lit.int .i64 c).wf = true) (wa : (Lit.int .i64 a).wf = true) (wb : (Lit.int .i64 b).wf = true) (w : World) :
    Calls Try.prog 4 #[.int .i64 c, .int .i64 a, .int .i64 b] w fun e w' => e = .returned (.bool true) ∧ Below w.heap.size w w' := by
  have hc := bounds_i64 wc
  have ha := bounds_i64 wa
  have hb := bounds_i64 wb
  have hm := and1 c
  by_cases he : c % 2 = 0
  · have hz : opL c a b = 0 := by unfold opL; rw [if_pos he]
    go_enter Try.func4, Try.ntmps4
    go_wp2_with (first | (go_at_call 12; refine (holds_any _).mono ?_; rintro e w' ⟨rfl, rfl⟩) | (go_at_call 15; refine (long_any _ _ _ hc.1 hc.2 _).mono ?_; rintro e w' ⟨rfl, rfl⟩))
    go_ret
    exact ⟨rfl, Below.refl _ _⟩
  · have hn := andNot1 c hc he
    go_enter Try.func4, Try.ntmps4
    go_wp2_with (first | (go_at_call 12; refine (holds_any _).mono ?_; rintro e w' ⟨rfl, rfl⟩) | (go_at_call 13; refine (make64_any _ _ _ (by omega) ha hb _).mono ?_; rintro e w' ⟨rfl, h1⟩) | (go_at_call 15; refine (long_any _ _ _ hc.1 hc.2 _).mono ?_; rintro e w' ⟨rfl, rfl⟩))
    go_ret
    exact ⟨rfl, h1⟩
theorem NumWords_walk (c a b : Int) (wc : (Lit.int .i64 c).wf = true) (wa : (Lit.int .i64 a).wf = true) (wb : (Lit.int .i64 b).wf = true) (w : World) :
    Calls Try.prog 5 #[.int .i64 c, .int .i64 a, .int .i64 b] w fun e w' => e = .returned (.bool true) ∧ Below w.heap.size w w' := by
  have hc := bounds_i64 wc
  have ha := bounds_i64 wa
  have hb := bounds_i64 wb
  go_enter Try.func5, Try.ntmps5
  go_wp2_with (first | (go_at_call 12; refine (holds_any _).mono ?_; rintro e w' ⟨rfl, rfl⟩) | (go_at_call 16; refine (kinds_any _ hc _).mono ?_; rintro e w' ⟨rfl, rfl⟩) | (go_at_call 17; refine (refKinds_any _ hc _).mono ?_; rintro e w' ⟨rfl, rfl⟩) | (go_at_call 18; refine (two_any _ _ _ hc.1 hc.2 _).mono ?_; rintro e w' ⟨rfl, rfl⟩) | (go_at_call 19; refine (refTwo_any _ _ _ hc ha hb _).mono ?_; rintro e w' ⟨rfl, h1⟩) | (go_at_call 20; refine (one_any _ _ _).mono ?_; rintro e w' ⟨rfl, rfl⟩) | (go_at_call 21; refine (refOne_any _ _ ha _).mono ?_; rintro e w' ⟨rfl, h2⟩))
  go_ret
  exact ⟨rfl, h1.trans (h2.mono h1.size)⟩
end Go.Proofs.Ytjhjpifdknhkeaa
