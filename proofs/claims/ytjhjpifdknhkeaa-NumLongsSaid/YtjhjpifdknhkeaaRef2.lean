/- Contracts of the document's own answers for layer 1: sum, negative, moved, logic. -/
import Derived.Test.YtjhjpifdknhkeaaRef1
namespace Go.Proofs.Ytjhjpifdknhkeaa
open Go.RowKit
set_option linter.unusedVariables false

theorem info64 : (Try.prog.info? 2).map (fun i => (i.zero, i.size, i.bytes)) = some (some (.int .i64 0), 1, 8) := by kernel_rfl
/-- The words 0 or 1 that a number's lowest bits are. -/
def bl (f : Nat → Int) (k : Nat) : List Value := (List.range k).map fun i => .int .i64 (f i)
theorem bl_len (f : Nat → Int) (k : Nat) : (bl f k).length = k := by simp [bl]
theorem bl_succ (f : Nat → Int) (k : Nat) : bl f (k + 1) = bl f k ++ [.int .i64 (f k)] := by simp [bl, List.range_succ]
theorem bl_get (f : Nat → Int) (k i : Nat) (h : i < k) : (bl f k)[i]? = some (.int .i64 (f i)) := by simp [bl, h]
theorem own_open {w : World} {B e : Nat} {v : Value} {f : Nat → Int} {n : Nat} (hn : 0 < n) (h : w.ownsRow B e 1 v n (bl f n)) :
    ∃ g cap, v = .slice (some ⟨g, 0, none⟩) n cap ∧ ∀ i, i < n → w.cell? ⟨g, i, none⟩ = some (.int .i64 (f i)) := by
  rcases h.2 with ⟨_, h0⟩ | ⟨g, cap, cur, rfl, _, hgg, _, _, _, htake⟩
  · omega
  · refine ⟨g, cap, rfl, fun i hi => ?_⟩
    have hc := h.cells (g := g) rfl i _ (bl_get f n i hi)
    have hadd : (⟨g, 0, none⟩ : Addr).add i = ⟨g, i, none⟩ := by unfold Addr.add; split <;> simp_all
    rwa [hadd] at hc
/-- One word more behind the row: what an append leaves. -/
theorem push_rel {w0 wr w1 : World} {o : Obj} {B e k : Nat} {v v' : Value} {f : Nat → Int} (hB : B = w0.heap.size) (hown : wr.ownsRow B e 1 v k (bl f k)) (hb : Below B w0 wr)
    (h1 : w1.ownsRow B e 1 v' (k + 1) (bl f k ++ [.int .i64 (f k)])) (hg : (wr.alloc o).grownBy w1 v.ownBlock) : w1.ownsRow B e 1 v' (k + 1) (bl f (k + 1)) ∧ Below B w0 w1 := by
  have hs := hb.size
  refine ⟨by rw [bl_succ]; exact h1, (hb.alloc (by omega) o).grown hg (by simp; omega) (fun j hj => (hown.lt j hj).1)⟩

/-- The carry into place k. -/
def cr (a b c : Int) (k : Nat) : Int := (a % 2 ^ k + b % 2 ^ k + c) / 2 ^ k
theorem cr_zero (a b c : Int) : cr a b c 0 = c := by simp [cr]
theorem cr_bd (a b c : Int) (hc : 0 ≤ c ∧ c ≤ 1) (k : Nat) : 0 ≤ cr a b c k ∧ cr a b c k ≤ 1 := by
  have h1 := emod_pow_bd a k
  have h2 := emod_pow_bd b k
  have hp := pow_pos k
  unfold cr
  refine ⟨Int.ediv_nonneg (by omega) (by omega), ?_⟩
  have : (a % 2 ^ k + b % 2 ^ k + c) / 2 ^ k < 2 := by
    refine Int.ediv_lt_of_lt_mul hp ?_
    omega
  omega
theorem cr_succ (a b c : Int) (k : Nat) : cr a b c (k + 1) = (bit a k + bit b k + cr a b c k) / 2 := by
  have hp := pow_pos k
  unfold cr
  rw [emod_pow_succ, emod_pow_succ, Int.pow_succ, ← Int.ediv_ediv_of_nonneg (by omega)]
  have e : a % 2 ^ k + bit a k * 2 ^ k + (b % 2 ^ k + bit b k * 2 ^ k) + c = (a % 2 ^ k + b % 2 ^ k + c) + 2 ^ k * (bit a k + bit b k) := by
    rw [Int.mul_add, Int.mul_comm _ (bit a k), Int.mul_comm _ (bit b k)]; omega
  rw [e, Int.add_mul_ediv_left _ _ (by omega)]
  congr 1
  omega
theorem bit_sum (a b c : Int) (k : Nat) : bit (a + b + c) k = (bit a k + bit b k + cr a b c k) % 2 := by
  have hp := pow_pos k
  have h1 := Int.mul_ediv_add_emod a (2 ^ k)
  have h2 := Int.mul_ediv_add_emod b (2 ^ k)
  have e : a + b + c = (a % 2 ^ k + b % 2 ^ k + c) + 2 ^ k * (a / 2 ^ k + b / 2 ^ k) := by
    rw [Int.mul_add]; omega
  have e2 : (a + b + c) / 2 ^ k = cr a b c k + (a / 2 ^ k + b / 2 ^ k) := by
    rw [e, Int.add_mul_ediv_left _ _ (by omega)]; rfl
  unfold bit
  rw [e2]
  omega
set_option maxHeartbeats 1000000 in
theorem sum_any (a b c N : Int) (n : Nat) (hN : N = n) (hn : n = 32 ∨ n = 64) (hc : 0 ≤ c ∧ c ≤ 1) (w : World) :
    Calls Try.prog 27 #[.int .i64 a, .int .i64 b, .int .i64 c, .int .i64 N] w fun e w' => e = .returned (.int .i64 (wrn n (a + b + c))) ∧ Below w.heap.size w w' := by
  subst hN
  obtain ⟨i0, hi, hz0, hz1, hz2⟩ := info_parts info64
  have hn64 : n ≤ 64 := by omega
  have hn0 : 0 < n := by omega
  have Hn := Lib.hid hn
  clear hn
  obtain ⟨B, HB⟩ : ∃ B, Hid (B = w.heap.size) := ⟨_, rfl⟩
  obtain ⟨y, HY⟩ : ∃ y, Hid (y = a + b + c) := ⟨_, rfl⟩
  rw [← HB.out, ← HY.out]
  go_enter Try.func27, Try.ntmps27
  go_wp2
  go_loopw [2, 9, 10] (fun t v i wr => ∃ k : Nat, k ≤ n ∧ i = .int .i64 k ∧ t = .int .i64 (cr a b c k) ∧ wr.ownsRow B 2 1 v k (bl (bit y) k) ∧ Below B w wr) (fun _ _ i _ => n - (intOf i).toNat)
  case atStart => exact ⟨0, by omega, rfl, by rw [cr_zero], World.ownsRow_nil _ _ _ _, Below.refl _ _⟩
  case round =>
    obtain ⟨k, hk, rfl, rfl, hown, hb⟩ := hrel
    have hBs : B ≤ wr.heap.size := by have := hb.size; rw [HB.out]; exact this
    by_cases hlt : k < n
    · have h1 : 0 ≤ bit a k ∧ bit a k ≤ 1 := by have := bit_01 a k; omega
      have h2 : 0 ≤ bit b k ∧ bit b k ≤ 1 := by have := bit_01 b k; omega
      have h3 := cr_bd a b c hc k
      have hbs : (bit a k + bit b k + cr a b c k) % 2 = bit y k := by rw [HY.out, bit_sum]
      have HC := Lib.hid (cr_succ a b c k)
      go_wp2_with (first | (go_at_call 39; refine (bit_any _ _ k rfl (by omega) _).mono ?_; rintro e w' ⟨rfl, rfl⟩) | (at_builtin; refine wpList_append_own _ rfl (.tmp 26) (.tmp 29) 56 rfl B 2 i0 (.int .i64 0) 1 8 Try.underlying56 hi hz0 hz1 hz2 rfl (by decide) _ _ _ rfl (hown.alloc _) ⟨wr.heap.size, 0, none⟩ 1 1 [.int .i64 (bit y k)] rfl rfl ?c1 ?c2 ?c3 ?c4 ?c5 ?_))
      case c1 =>
        intro j u hj
        match j, hj with
        | 0, hj => simp at hj; subst hj; simp [Addr.add]
      case c2 => intro u hu; simp at hu; subst hu; rfl
      case c3 => unfold maxLen; omega
      case c4 => omega
      case c5 => simp; omega
      intro v' w1 hown' hgrow _
      have R := push_rel HB.out hown hb hown' hgrow
      clear hown' hgrow hown hb
      go_wp2
      go_roundw
      case rel => exact ⟨k + 1, by omega, by go_num, by rw [HC.out], R.1, R.2⟩
      case measure => simp [intOf]; omega
    · obtain rfl : k = n := by omega
      obtain ⟨g, cap, rfl, hcell⟩ := own_open hn0 hown
      clear hown
      go_wp2_with fail
      refine (made_any y g cap k _ rfl Hn.out _ hcell).mono ?_
      rintro e w' ⟨rfl, rfl⟩
      clear hcell
      go_wp2
      go_ret
      exact ⟨rfl, hb⟩
/-! ### More -/
theorem wrn_bd (n : Nat) (x : Int) : -9223372036854775808 ≤ wrn n x ∧ wrn n x ≤ 9223372036854775807 := by
  unfold wrn wrap64 wrap32 wrap16 wrap8
  split
  · omega
  · split
    · omega
    · split <;> omega
theorem not_i64 (a : Int) (ha : -9223372036854775808 ≤ a ∧ a ≤ 9223372036854775807) : bits .xor .i64 (-1) a = -1 - a := by
  show IntKind.i64.wrap ((BitVec.ofInt 64 (-1) ^^^ BitVec.ofInt 64 a).toNat : Nat) = _
  have e : BitVec.ofInt 64 (-1) = BitVec.allOnes 64 := by decide
  rw [e, BitVec.allOnes_xor, BitVec.toNat_not, BitVec.toNat_ofInt, IntKind.wrap_i64]
  omega
theorem negative_any (a N : Int) (n : Nat) (hN : N = n) (hn : n = 32 ∨ n = 64) (ha : -9223372036854775808 ≤ a ∧ a ≤ 9223372036854775807) (w : World) :
    Calls Try.prog 38 #[.int .i64 a, .int .i64 N] w fun e w' => e = .returned (.int .i64 (wrn n (-a))) ∧ Below w.heap.size w w' := by
  subst hN
  have e : 0 + (-1 - a) + 1 = -a := by omega
  rw [← e]
  clear e
  have h1 := not_i64 a ha
  go_enter Try.func38, Try.ntmps38
  go_wp2_with fail
  refine (sum_any 0 _ 1 _ n rfl hn (by decide) _).mono ?_
  rintro e w' ⟨rfl, hb⟩
  go_wp2
  go_ret
  exact ⟨by rw [Int.zero_add]; rfl, hb⟩
theorem bit_shl_lo (a : Int) (m k : Nat) (h : k < m) : bit (a * 2 ^ m) k = 0 := bit_low a m k h
theorem bit_shl_hi (a : Int) (m k : Nat) (h : m ≤ k) : bit (a * 2 ^ m) k = bit a (k - m) := by
  obtain ⟨d, rfl⟩ : ∃ d, k = m + d := ⟨k - m, by omega⟩
  unfold bit
  have hp := pow_pos m
  rw [Int.pow_add, Int.mul_comm a, ← Int.ediv_ediv_of_nonneg (by omega), Int.mul_ediv_cancel_left _ (by omega), show m + d - m = d from by omega]
theorem bit_shr (a : Int) (m k : Nat) : bit (a / 2 ^ m) k = bit a (k + m) := by
  unfold bit
  have hp := pow_pos m
  rw [Int.ediv_ediv_of_nonneg (by omega), ← Int.pow_add, Nat.add_comm]
theorem bit_sign (a : Int) (n i : Nat) (hn : 0 < n) (ha : -2 ^ (n - 1) ≤ a ∧ a < 2 ^ (n - 1)) (hi : n - 1 ≤ i) : bit a i = bit a (n - 1) := by
  have hp : (2 : Int) ^ (n - 1) ≤ 2 ^ i := by rw [← pow_cast, ← pow_cast]; exact_mod_cast Nat.pow_le_pow_right (by decide) hi
  have hq := pow_pos (n - 1)
  unfold bit
  by_cases h : 0 ≤ a
  · rw [Int.ediv_eq_zero_of_lt h (by omega), Int.ediv_eq_zero_of_lt h (by omega)]
  · have e : ∀ p : Int, 0 < p → -p ≤ a → a / p = -1 := fun p h0 h1 => by
      have h2 : a / p < 0 := Int.ediv_neg_of_neg_of_pos (by omega) h0
      have h3 : -1 ≤ a / p := (Int.le_ediv_iff_mul_le h0).2 (by omega)
      omega
    rw [e _ (by omega) (by omega), e _ (by omega) (by omega)]
theorem bit_zero_hi (a : Int) (n i : Nat) (h : n ≤ i) : bit (a % 2 ^ n) i = 0 := bit_high _ n i (emod_pow_bd a n) h
theorem bit_emod (a : Int) (n i : Nat) (h : i < n) : bit (a % 2 ^ n) i = bit a i := bit_of_mod n _ _ (Int.emod_emod _ _) i h
set_option maxHeartbeats 2000000 in
theorem movedLeft_any (a M N : Int) (m n : Nat) (hM : M = m) (hN : N = n) (hn : n = 32 ∨ n = 64) (hm : m < n) (w : World) :
    Calls Try.prog 30 #[.int .i64 a, .int .i64 M, .int .i64 N, .bool false, .bool false] w fun e w' => e = .returned (.int .i64 (wrn n (a * 2 ^ m))) ∧ Below w.heap.size w w' := by
  subst hN
  subst hM
  obtain ⟨i0, hi, hz0, hz1, hz2⟩ := info_parts info64
  have hn64 : n ≤ 64 := by omega
  have hn0 : 0 < n := by omega
  have Hn := Lib.hid hn
  clear hn
  obtain ⟨B, HB⟩ : ∃ B, Hid (B = w.heap.size) := ⟨_, rfl⟩
  obtain ⟨y, HY⟩ : ∃ y, Hid (y = a * 2 ^ m) := ⟨_, rfl⟩
  rw [← HB.out, ← HY.out]
  go_enter Try.func30, Try.ntmps30
  go_wp2
  go_loopw [11, 12] (fun v i wr => ∃ k : Nat, k ≤ n ∧ i = .int .i64 k ∧ wr.ownsRow B 2 1 v k (bl (bit y) k) ∧ Below B w wr) (fun _ i _ => n - (intOf i).toNat)
  case atStart => exact ⟨0, by omega, rfl, World.ownsRow_nil _ _ _ _, Below.refl _ _⟩
  case round =>
    obtain ⟨k, hk, rfl, hown, hb⟩ := hrel
    have hBs : B ≤ wr.heap.size := by have := hb.size; rw [HB.out]; exact this
    by_cases hlt : k < n
    · by_cases hc : k < m
      · have HK := Lib.hid (show bit y k = 0 by rw [HY.out]; exact bit_shl_lo a m k hc)
        go_wp2_with (first | (at_builtin; refine wpList_append_own _ rfl (.tmp 45) (.tmp 47) 56 rfl B 2 i0 (.int .i64 0) 1 8 Try.underlying56 hi hz0 hz1 hz2 rfl (by decide) _ _ _ rfl (hown.alloc _) ⟨wr.heap.size, 0, none⟩ 1 1 [.int .i64 (0)] rfl rfl ?c1 ?c2 ?c3 ?c4 ?c5 ?_))
        case c1 =>
          intro j u hj
          match j, hj with
          | 0, hj => simp at hj; subst hj; simp [Addr.add]
        case c2 => intro u hu; simp at hu; subst hu; rfl
        case c3 => unfold maxLen; omega
        case c4 => omega
        case c5 => simp; omega
        intro v' w1 hown' hgrow _
        rw [← HK.out] at hown'
        have R := push_rel HB.out hown hb hown' hgrow
        clear hown' hgrow hown hb
        go_wp2
        go_roundw
        case rel => exact ⟨k + 1, by omega, by go_num, R.1, R.2⟩
        case measure => simp [intOf]; omega
      · have HK := Lib.hid (show bit y k = bit a (k - m) by rw [HY.out]; exact bit_shl_hi a m k (by omega))
        go_wp2_with (first | (go_at_call 39; refine (bit_any _ _ (k - m) (by omega) (by omega) _).mono ?_; rintro e w' ⟨rfl, rfl⟩) | (at_builtin; refine wpList_append_own _ rfl (.tmp 45) (.tmp 47) 56 rfl B 2 i0 (.int .i64 0) 1 8 Try.underlying56 hi hz0 hz1 hz2 rfl (by decide) _ _ _ rfl (hown.alloc _) ⟨wr.heap.size, 0, none⟩ 1 1 [.int .i64 (bit a (k - m))] rfl rfl ?c1 ?c2 ?c3 ?c4 ?c5 ?_))
        case c1 =>
          intro j u hj
          match j, hj with
          | 0, hj => simp at hj; subst hj; simp [Addr.add]
        case c2 => intro u hu; simp at hu; subst hu; rfl
        case c3 => unfold maxLen; omega
        case c4 => omega
        case c5 => simp; omega
        intro v' w1 hown' hgrow _
        rw [← HK.out] at hown'
        have R := push_rel HB.out hown hb hown' hgrow
        clear hown' hgrow hown hb
        go_wp2
        go_roundw
        case rel => exact ⟨k + 1, by omega, by go_num, R.1, R.2⟩
        case measure => simp [intOf]; omega
    · obtain rfl : k = n := by omega
      obtain ⟨g, cap, rfl, hcell⟩ := own_open hn0 hown
      clear hown
      go_wp2_with fail
      refine (made_any y g cap k _ rfl Hn.out _ hcell).mono ?_
      rintro e w' ⟨rfl, rfl⟩
      clear hcell
      go_wp2
      go_ret
      exact ⟨rfl, hb⟩
set_option maxHeartbeats 2000000 in
theorem movedRight_any (a M N : Int) (m n : Nat) (hM : M = m) (hN : N = n) (hn : n = 32 ∨ n = 64) (hm : m < n) (ha : -2 ^ (n - 1) ≤ a ∧ a < 2 ^ (n - 1)) (w : World) :
    Calls Try.prog 30 #[.int .i64 a, .int .i64 M, .int .i64 N, .bool true, .bool true] w fun e w' => e = .returned (.int .i64 (wrn n (a / 2 ^ m))) ∧ Below w.heap.size w w' := by
  subst hN
  subst hM
  have HA := Lib.hid ha
  clear ha
  obtain ⟨i0, hi, hz0, hz1, hz2⟩ := info_parts info64
  have hn64 : n ≤ 64 := by omega
  have hn0 : 0 < n := by omega
  have Hn := Lib.hid hn
  clear hn
  obtain ⟨B, HB⟩ : ∃ B, Hid (B = w.heap.size) := ⟨_, rfl⟩
  obtain ⟨y, HY⟩ : ∃ y, Hid (y = a / 2 ^ m) := ⟨_, rfl⟩
  rw [← HB.out, ← HY.out]
  go_enter Try.func30, Try.ntmps30
  go_wp2
  go_loopw [11, 12] (fun v i wr => ∃ k : Nat, k ≤ n ∧ i = .int .i64 k ∧ wr.ownsRow B 2 1 v k (bl (bit y) k) ∧ Below B w wr) (fun _ i _ => n - (intOf i).toNat)
  case atStart => exact ⟨0, by omega, rfl, World.ownsRow_nil _ _ _ _, Below.refl _ _⟩
  case round =>
    obtain ⟨k, hk, rfl, hown, hb⟩ := hrel
    have hBs : B ≤ wr.heap.size := by have := hb.size; rw [HB.out]; exact this
    by_cases hlt : k < n
    · by_cases hc : k + m < n
      · have HK := Lib.hid (show bit y k = bit a (k + m) by rw [HY.out]; exact bit_shr a m k)
        go_wp2_with (first | (go_at_call 39; refine (bit_any _ _ (k + m) (by omega) (by omega) _).mono ?_; rintro e w' ⟨rfl, rfl⟩) | (at_builtin; refine wpList_append_own _ rfl (.tmp 45) (.tmp 47) 56 rfl B 2 i0 (.int .i64 0) 1 8 Try.underlying56 hi hz0 hz1 hz2 rfl (by decide) _ _ _ rfl (hown.alloc _) ⟨wr.heap.size, 0, none⟩ 1 1 [.int .i64 (bit a (k + m))] rfl rfl ?c1 ?c2 ?c3 ?c4 ?c5 ?_))
        case c1 =>
          intro j u hj
          match j, hj with
          | 0, hj => simp at hj; subst hj; simp [Addr.add]
        case c2 => intro u hu; simp at hu; subst hu; rfl
        case c3 => unfold maxLen; omega
        case c4 => omega
        case c5 => simp; omega
        intro v' w1 hown' hgrow _
        rw [← HK.out] at hown'
        have R := push_rel HB.out hown hb hown' hgrow
        clear hown' hgrow hown hb
        go_wp2
        go_roundw
        case rel => exact ⟨k + 1, by omega, by go_num, R.1, R.2⟩
        case measure => simp [intOf]; omega
      · have HK := Lib.hid (show bit y k = bit a (n - 1) by rw [HY.out]; rw [bit_shr]; exact bit_sign a n (k + m) hn0 HA.out (by omega))
        go_wp2_with (first | (go_at_call 39; refine (bit_any _ _ (n - 1) (by omega) (by omega) _).mono ?_; rintro e w' ⟨rfl, rfl⟩) | (at_builtin; refine wpList_append_own _ rfl (.tmp 45) (.tmp 47) 56 rfl B 2 i0 (.int .i64 0) 1 8 Try.underlying56 hi hz0 hz1 hz2 rfl (by decide) _ _ _ rfl (hown.alloc _) ⟨wr.heap.size, 0, none⟩ 1 1 [.int .i64 (bit a (n - 1))] rfl rfl ?c1 ?c2 ?c3 ?c4 ?c5 ?_))
        case c1 =>
          intro j u hj
          match j, hj with
          | 0, hj => simp at hj; subst hj; simp [Addr.add]
        case c2 => intro u hu; simp at hu; subst hu; rfl
        case c3 => unfold maxLen; omega
        case c4 => omega
        case c5 => simp; omega
        intro v' w1 hown' hgrow _
        rw [← HK.out] at hown'
        have R := push_rel HB.out hown hb hown' hgrow
        clear hown' hgrow hown hb
        go_wp2
        go_roundw
        case rel => exact ⟨k + 1, by omega, by go_num, R.1, R.2⟩
        case measure => simp [intOf]; omega
    · obtain rfl : k = n := by omega
      obtain ⟨g, cap, rfl, hcell⟩ := own_open hn0 hown
      clear hown
      go_wp2_with fail
      refine (made_any y g cap k _ rfl Hn.out _ hcell).mono ?_
      rintro e w' ⟨rfl, rfl⟩
      clear hcell
      go_wp2
      go_ret
      exact ⟨rfl, hb⟩
set_option maxHeartbeats 2000000 in
theorem movedZero_any (a M N : Int) (m n : Nat) (hM : M = m) (hN : N = n) (hn : n = 32 ∨ n = 64) (hm : m < n) (w : World) :
    Calls Try.prog 30 #[.int .i64 a, .int .i64 M, .int .i64 N, .bool true, .bool false] w fun e w' => e = .returned (.int .i64 (wrn n (a % 2 ^ n / 2 ^ m))) ∧ Below w.heap.size w w' := by
  subst hN
  subst hM
  obtain ⟨i0, hi, hz0, hz1, hz2⟩ := info_parts info64
  have hn64 : n ≤ 64 := by omega
  have hn0 : 0 < n := by omega
  have Hn := Lib.hid hn
  clear hn
  obtain ⟨B, HB⟩ : ∃ B, Hid (B = w.heap.size) := ⟨_, rfl⟩
  obtain ⟨y, HY⟩ : ∃ y, Hid (y = a % 2 ^ n / 2 ^ m) := ⟨_, rfl⟩
  rw [← HB.out, ← HY.out]
  go_enter Try.func30, Try.ntmps30
  go_wp2
  go_loopw [11, 12] (fun v i wr => ∃ k : Nat, k ≤ n ∧ i = .int .i64 k ∧ wr.ownsRow B 2 1 v k (bl (bit y) k) ∧ Below B w wr) (fun _ i _ => n - (intOf i).toNat)
  case atStart => exact ⟨0, by omega, rfl, World.ownsRow_nil _ _ _ _, Below.refl _ _⟩
  case round =>
    obtain ⟨k, hk, rfl, hown, hb⟩ := hrel
    have hBs : B ≤ wr.heap.size := by have := hb.size; rw [HB.out]; exact this
    by_cases hlt : k < n
    · by_cases hc : k + m < n
      · have HK := Lib.hid (show bit y k = bit a (k + m) by rw [HY.out]; rw [bit_shr]; exact bit_emod a n (k + m) hc)
        go_wp2_with (first | (go_at_call 39; refine (bit_any _ _ (k + m) (by omega) (by omega) _).mono ?_; rintro e w' ⟨rfl, rfl⟩) | (at_builtin; refine wpList_append_own _ rfl (.tmp 45) (.tmp 47) 56 rfl B 2 i0 (.int .i64 0) 1 8 Try.underlying56 hi hz0 hz1 hz2 rfl (by decide) _ _ _ rfl (hown.alloc _) ⟨wr.heap.size, 0, none⟩ 1 1 [.int .i64 (bit a (k + m))] rfl rfl ?c1 ?c2 ?c3 ?c4 ?c5 ?_))
        case c1 =>
          intro j u hj
          match j, hj with
          | 0, hj => simp at hj; subst hj; simp [Addr.add]
        case c2 => intro u hu; simp at hu; subst hu; rfl
        case c3 => unfold maxLen; omega
        case c4 => omega
        case c5 => simp; omega
        intro v' w1 hown' hgrow _
        rw [← HK.out] at hown'
        have R := push_rel HB.out hown hb hown' hgrow
        clear hown' hgrow hown hb
        go_wp2
        go_roundw
        case rel => exact ⟨k + 1, by omega, by go_num, R.1, R.2⟩
        case measure => simp [intOf]; omega
      · have HK := Lib.hid (show bit y k = 0 by rw [HY.out]; rw [bit_shr]; exact bit_zero_hi a n (k + m) (by omega))
        go_wp2_with (first | (at_builtin; refine wpList_append_own _ rfl (.tmp 45) (.tmp 47) 56 rfl B 2 i0 (.int .i64 0) 1 8 Try.underlying56 hi hz0 hz1 hz2 rfl (by decide) _ _ _ rfl (hown.alloc _) ⟨wr.heap.size, 0, none⟩ 1 1 [.int .i64 (0)] rfl rfl ?c1 ?c2 ?c3 ?c4 ?c5 ?_))
        case c1 =>
          intro j u hj
          match j, hj with
          | 0, hj => simp at hj; subst hj; simp [Addr.add]
        case c2 => intro u hu; simp at hu; subst hu; rfl
        case c3 => unfold maxLen; omega
        case c4 => omega
        case c5 => simp; omega
        intro v' w1 hown' hgrow _
        rw [← HK.out] at hown'
        have R := push_rel HB.out hown hb hown' hgrow
        clear hown' hgrow hown hb
        go_wp2
        go_roundw
        case rel => exact ⟨k + 1, by omega, by go_num, R.1, R.2⟩
        case measure => simp [intOf]; omega
    · obtain rfl : k = n := by omega
      obtain ⟨g, cap, rfl, hcell⟩ := own_open hn0 hown
      clear hown
      go_wp2_with fail
      refine (made_any y g cap k _ rfl Hn.out _ hcell).mono ?_
      rintro e w' ⟨rfl, rfl⟩
      clear hcell
      go_wp2
      go_ret
      exact ⟨rfl, hb⟩
set_option maxHeartbeats 2000000 in
theorem logic_and (a b N : Int) (q : IntKind) (n : Nat) (hq : q.bits = n) (hN : N = n) (hn : n = 32 ∨ n = 64) (w : World) :
    Calls Try.prog 31 #[.int .i64 0, .int .i64 a, .int .i64 b, .int .i64 N] w fun e w' => e = .returned (.int .i64 (wrn n (bits .and q a b))) ∧ Below w.heap.size w w' := by
  subst hN
  obtain ⟨i0, hi, hz0, hz1, hz2⟩ := info_parts info64
  have hn64 : n ≤ 64 := by omega
  have hn0 : 0 < n := by omega
  have Hn := Lib.hid hn
  clear hn
  obtain ⟨B, HB⟩ : ∃ B, Hid (B = w.heap.size) := ⟨_, rfl⟩
  obtain ⟨y, HY⟩ : ∃ y, Hid (y = bits .and q a b) := ⟨_, rfl⟩
  have HQ := Lib.hid hq
  clear hq
  rw [← HB.out, ← HY.out]
  go_enter Try.func31, Try.ntmps31
  go_wp2
  go_loopw [9, 10] (fun v i wr => ∃ k : Nat, k ≤ n ∧ i = .int .i64 k ∧ wr.ownsRow B 2 1 v k (bl (bit y) k) ∧ Below B w wr) (fun _ i _ => n - (intOf i).toNat)
  case atStart => exact ⟨0, by omega, rfl, World.ownsRow_nil _ _ _ _, Below.refl _ _⟩
  case round =>
    obtain ⟨k, hk, rfl, hown, hb⟩ := hrel
    have hBs : B ≤ wr.heap.size := by have := hb.size; rw [HB.out]; exact this
    by_cases hlt : k < n
    · have h1 : 0 ≤ bit a k ∧ bit a k ≤ 1 := by have := bit_01 a k; omega
      have h2 : 0 ≤ bit b k ∧ bit b k ≤ 1 := by have := bit_01 b k; omega
      have HK := Lib.hid (show bit y k = bit a k * bit b k by rw [HY.out, bit_and q a b k (by rw [HQ.out]; exact hlt)])
      have h4 := bit_01 y k
      have h3 : 0 ≤ bit a k * bit b k ∧ bit a k * bit b k ≤ 1 := by rw [← HK.out]; omega
      go_wp2_with (first | (go_at_call 39; refine (bit_any _ _ (k) (by omega) (by omega) _).mono ?_; rintro e w' ⟨rfl, rfl⟩) | (at_builtin; refine wpList_append_own _ rfl (.tmp 34) (.tmp 38) 56 rfl B 2 i0 (.int .i64 0) 1 8 Try.underlying56 hi hz0 hz1 hz2 rfl (by decide) _ _ _ rfl (hown.alloc _) ⟨wr.heap.size, 0, none⟩ 1 1 [.int .i64 (bit a k * bit b k)] rfl rfl ?c1 ?c2 ?c3 ?c4 ?c5 ?_))
      case c1 =>
        intro j u hj
        match j, hj with
        | 0, hj => simp at hj; subst hj; simp [Addr.add]
      case c2 => intro u hu; simp at hu; subst hu; rfl
      case c3 => unfold maxLen; omega
      case c4 => omega
      case c5 => simp; omega
      intro v' w1 hown' hgrow _
      rw [← HK.out] at hown'
      have R := push_rel HB.out hown hb hown' hgrow
      clear hown' hgrow hown hb
      go_wp2
      go_roundw
      case rel => exact ⟨k + 1, by omega, by go_num, R.1, R.2⟩
      case measure => simp [intOf]; omega
    · obtain rfl : k = n := by omega
      obtain ⟨g, cap, rfl, hcell⟩ := own_open hn0 hown
      clear hown
      go_wp2_with fail
      refine (made_any y g cap k _ rfl Hn.out _ hcell).mono ?_
      rintro e w' ⟨rfl, rfl⟩
      clear hcell
      go_wp2
      go_ret
      exact ⟨rfl, hb⟩
set_option maxHeartbeats 2000000 in
theorem logic_or (a b N : Int) (q : IntKind) (n : Nat) (hq : q.bits = n) (hN : N = n) (hn : n = 32 ∨ n = 64) (w : World) :
    Calls Try.prog 31 #[.int .i64 1, .int .i64 a, .int .i64 b, .int .i64 N] w fun e w' => e = .returned (.int .i64 (wrn n (bits .or q a b))) ∧ Below w.heap.size w w' := by
  subst hN
  obtain ⟨i0, hi, hz0, hz1, hz2⟩ := info_parts info64
  have hn64 : n ≤ 64 := by omega
  have hn0 : 0 < n := by omega
  have Hn := Lib.hid hn
  clear hn
  obtain ⟨B, HB⟩ : ∃ B, Hid (B = w.heap.size) := ⟨_, rfl⟩
  obtain ⟨y, HY⟩ : ∃ y, Hid (y = bits .or q a b) := ⟨_, rfl⟩
  have HQ := Lib.hid hq
  clear hq
  rw [← HB.out, ← HY.out]
  go_enter Try.func31, Try.ntmps31
  go_wp2
  go_loopw [9, 10] (fun v i wr => ∃ k : Nat, k ≤ n ∧ i = .int .i64 k ∧ wr.ownsRow B 2 1 v k (bl (bit y) k) ∧ Below B w wr) (fun _ i _ => n - (intOf i).toNat)
  case atStart => exact ⟨0, by omega, rfl, World.ownsRow_nil _ _ _ _, Below.refl _ _⟩
  case round =>
    obtain ⟨k, hk, rfl, hown, hb⟩ := hrel
    have hBs : B ≤ wr.heap.size := by have := hb.size; rw [HB.out]; exact this
    by_cases hlt : k < n
    · have h1 : 0 ≤ bit a k ∧ bit a k ≤ 1 := by have := bit_01 a k; omega
      have h2 : 0 ≤ bit b k ∧ bit b k ≤ 1 := by have := bit_01 b k; omega
      have HK := Lib.hid (show bit y k = (bit a k + bit b k + 1) / 2 by rw [HY.out, bit_or q a b k (by rw [HQ.out]; exact hlt)]; omega)
      have h4 := bit_01 y k
      have h3 : 0 ≤ (bit a k + bit b k + 1) / 2 ∧ (bit a k + bit b k + 1) / 2 ≤ 1 := by rw [← HK.out]; omega
      go_wp2_with (first | (go_at_call 39; refine (bit_any _ _ (k) (by omega) (by omega) _).mono ?_; rintro e w' ⟨rfl, rfl⟩) | (at_builtin; refine wpList_append_own _ rfl (.tmp 42) (.tmp 48) 56 rfl B 2 i0 (.int .i64 0) 1 8 Try.underlying56 hi hz0 hz1 hz2 rfl (by decide) _ _ _ rfl (hown.alloc _) ⟨wr.heap.size, 0, none⟩ 1 1 [.int .i64 ((bit a k + bit b k + 1) / 2)] rfl rfl ?c1 ?c2 ?c3 ?c4 ?c5 ?_))
      case c1 =>
        intro j u hj
        match j, hj with
        | 0, hj => simp at hj; subst hj; simp [Addr.add]
      case c2 => intro u hu; simp at hu; subst hu; rfl
      case c3 => unfold maxLen; omega
      case c4 => omega
      case c5 => simp; omega
      intro v' w1 hown' hgrow _
      rw [← HK.out] at hown'
      have R := push_rel HB.out hown hb hown' hgrow
      clear hown' hgrow hown hb
      go_wp2
      go_roundw
      case rel => exact ⟨k + 1, by omega, by go_num, R.1, R.2⟩
      case measure => simp [intOf]; omega
    · obtain rfl : k = n := by omega
      obtain ⟨g, cap, rfl, hcell⟩ := own_open hn0 hown
      clear hown
      go_wp2_with fail
      refine (made_any y g cap k _ rfl Hn.out _ hcell).mono ?_
      rintro e w' ⟨rfl, rfl⟩
      clear hcell
      go_wp2
      go_ret
      exact ⟨rfl, hb⟩
set_option maxHeartbeats 2000000 in
theorem logic_xor (a b N : Int) (q : IntKind) (n : Nat) (hq : q.bits = n) (hN : N = n) (hn : n = 32 ∨ n = 64) (w : World) :
    Calls Try.prog 31 #[.int .i64 2, .int .i64 a, .int .i64 b, .int .i64 N] w fun e w' => e = .returned (.int .i64 (wrn n (bits .xor q a b))) ∧ Below w.heap.size w w' := by
  subst hN
  obtain ⟨i0, hi, hz0, hz1, hz2⟩ := info_parts info64
  have hn64 : n ≤ 64 := by omega
  have hn0 : 0 < n := by omega
  have Hn := Lib.hid hn
  clear hn
  obtain ⟨B, HB⟩ : ∃ B, Hid (B = w.heap.size) := ⟨_, rfl⟩
  obtain ⟨y, HY⟩ : ∃ y, Hid (y = bits .xor q a b) := ⟨_, rfl⟩
  have HQ := Lib.hid hq
  clear hq
  rw [← HB.out, ← HY.out]
  go_enter Try.func31, Try.ntmps31
  go_wp2
  go_loopw [9, 10] (fun v i wr => ∃ k : Nat, k ≤ n ∧ i = .int .i64 k ∧ wr.ownsRow B 2 1 v k (bl (bit y) k) ∧ Below B w wr) (fun _ i _ => n - (intOf i).toNat)
  case atStart => exact ⟨0, by omega, rfl, World.ownsRow_nil _ _ _ _, Below.refl _ _⟩
  case round =>
    obtain ⟨k, hk, rfl, hown, hb⟩ := hrel
    have hBs : B ≤ wr.heap.size := by have := hb.size; rw [HB.out]; exact this
    by_cases hlt : k < n
    · have h1 : 0 ≤ bit a k ∧ bit a k ≤ 1 := by have := bit_01 a k; omega
      have h2 : 0 ≤ bit b k ∧ bit b k ≤ 1 := by have := bit_01 b k; omega
      have HK := Lib.hid (show bit y k = (bit a k + bit b k) % 2 by rw [HY.out, bit_xor q a b k (by rw [HQ.out]; exact hlt)])
      have h4 := bit_01 y k
      have h3 : 0 ≤ (bit a k + bit b k) % 2 ∧ (bit a k + bit b k) % 2 ≤ 1 := by rw [← HK.out]; omega
      go_wp2_with (first | (go_at_call 39; refine (bit_any _ _ (k) (by omega) (by omega) _).mono ?_; rintro e w' ⟨rfl, rfl⟩) | (at_builtin; refine wpList_append_own _ rfl (.tmp 25) (.tmp 30) 56 rfl B 2 i0 (.int .i64 0) 1 8 Try.underlying56 hi hz0 hz1 hz2 rfl (by decide) _ _ _ rfl (hown.alloc _) ⟨wr.heap.size, 0, none⟩ 1 1 [.int .i64 ((bit a k + bit b k) % 2)] rfl rfl ?c1 ?c2 ?c3 ?c4 ?c5 ?_))
      case c1 =>
        intro j u hj
        match j, hj with
        | 0, hj => simp at hj; subst hj; simp [Addr.add]
      case c2 => intro u hu; simp at hu; subst hu; rfl
      case c3 => unfold maxLen; omega
      case c4 => omega
      case c5 => simp; omega
      intro v' w1 hown' hgrow _
      rw [← HK.out] at hown'
      have R := push_rel HB.out hown hb hown' hgrow
      clear hown' hgrow hown hb
      go_wp2
      go_roundw
      case rel => exact ⟨k + 1, by omega, by go_num, R.1, R.2⟩
      case measure => simp [intOf]; omega
    · obtain rfl : k = n := by omega
      obtain ⟨g, cap, rfl, hcell⟩ := own_open hn0 hown
      clear hown
      go_wp2_with fail
      refine (made_any y g cap k _ rfl Hn.out _ hcell).mono ?_
      rintro e w' ⟨rfl, rfl⟩
      clear hcell
      go_wp2
      go_ret
      exact ⟨rfl, hb⟩
end Go.Proofs.Ytjhjpifdknhkeaa
