/- Texts of this claim, joined: CNmRef1, CNmRef2, CNmRef3, CNmRef4, CNmRef5. -/
import Derived.Test.YtbkeneadoccodaaProg
import Derived.Test.YtbkeneadoccodaaM12
import Derived.WalkKit
import Derived.Outline
import Derived.WalkLawsBesides
import Derived.LoopTactic
import Derived.LoopN
import Derived.Deep.QuietTactic
import Derived.BigQuiet
import Derived.Lib.Hide
import Derived.Test.YtbkeneadoccodaaJCNmNum
/- Contracts of the document's own answers for layer 1: cut, bit, bits, amount, made. -/
namespace Go.Proofs.Ytbkeneadoccodaa.Nm
open Go.RowKit
set_option linter.unusedVariables false
set_option maxRecDepth 100000 in
theorem tmod_bd (a m : Int) (hm : 0 < m) : -m < a.tmod m ∧ a.tmod m < m := by
 have h1 := Int.tmod_lt_of_pos a hm
 have h2 := Int.tmod_lt_of_pos (-a) hm
 rw [Int.neg_tmod] at h2
 omega
set_option maxRecDepth 100000 in
theorem tmod_up (a m : Int) (hm : 0 < m) : (a.tmod m + m).tmod m = a % m := by
 have hb := tmod_bd a m hm
 rw [Int.tmod_eq_emod_of_nonneg (by omega), Int.add_emod_right]
 have h := Int.mul_tdiv_add_tmod a m
 have h2 : a % m = (a.tmod m + m * a.tdiv m) % m := by rw [Int.add_comm, h]
 rw [h2, Int.add_mul_emod_self_left]
def wrn (n : Nat) (x : Int) : Int := if n = 64 then wrap64 x else if n = 32 then wrap32 x else if n = 16 then wrap16 x else wrap8 x
set_option maxRecDepth 100000 in
theorem cut_any (a N : Int) (n : Nat) (hN : N = n) (hn : n = 8 ∨ n = 16 ∨ n = 32 ∨ n = 64) (ha : -9223372036854775808 ≤ a ∧ a ≤ 9223372036854775807) (w : World) : Calls Try.prog 35 #[.int .i64 a, .int .i64 N] w fun e w' => e = .returned (.int .i64 (wrn n a)) ∧ w = w' := by
 subst hN
 rcases hn with rfl | rfl | rfl | rfl
 ·have h1 := tmod_bd a 256 (by decide)
  have h2 := tmod_up a 256 (by decide)
  by_cases h : 128 ≤ a % 256
  all_goals
   have E := Lib.hid (show wrn 8 a = if 128 ≤ a % 256 then a % 256 - 256 else a % 256 by show wrap8 a = _; unfold wrap8; split <;> omega)
   go_enter Try.func35, Try.ntmps35
   go_wp2
   go_ret
   refine ⟨congrArg (fun n => Ending.returned (Value.int .i64 n)) ?_, rfl⟩
   rw [E.out]
   first | exact (if_pos h).symm | exact (if_neg (by omega)).symm
 ·have h1 := tmod_bd a 65536 (by decide)
  have h2 := tmod_up a 65536 (by decide)
  by_cases h : 32768 ≤ a % 65536
  all_goals
   have E := Lib.hid (show wrn 16 a = if 32768 ≤ a % 65536 then a % 65536 - 65536 else a % 65536 by show wrap16 a = _; unfold wrap16; split <;> omega)
   go_enter Try.func35, Try.ntmps35
   go_wp2
   go_ret
   refine ⟨congrArg (fun n => Ending.returned (Value.int .i64 n)) ?_, rfl⟩
   rw [E.out]
   first | exact (if_pos h).symm | exact (if_neg (by omega)).symm
 ·have h1 := tmod_bd a 4294967296 (by decide)
  have h2 := tmod_up a 4294967296 (by decide)
  by_cases h : 2147483648 ≤ a % 4294967296
  all_goals
   have E := Lib.hid (show wrn 32 a = if 2147483648 ≤ a % 4294967296 then a % 4294967296 - 4294967296 else a % 4294967296 by show wrap32 a = _; unfold wrap32; split <;> omega)
   go_enter Try.func35, Try.ntmps35
   go_wp2
   go_ret
   refine ⟨congrArg (fun n => Ending.returned (Value.int .i64 n)) ?_, rfl⟩
   rw [E.out]
   first | exact (if_pos h).symm | exact (if_neg (by omega)).symm
 ·have E := Lib.hid (show wrn 64 a = a from wrap64_id ha)
  go_enter Try.func35, Try.ntmps35
  go_wp2
  go_ret
  exact ⟨by rw [E.out]; rfl, rfl⟩
set_option maxRecDepth 100000 in
theorem bit_any (a K : Int) (k : Nat) (hK : K = k) (hk : k < 64) (w : World) : Calls Try.prog 104 #[.int .i64 a, .int .i64 K] w fun e w' => e = .returned (.int .i64 (bit a k)) ∧ w = w' := by
 subst hK
 have h1 := and1 (a / 2 ^ k)
 go_enter Try.func104, Try.ntmps104
 go_wp2
 go_ret
 exact ⟨rfl, rfl⟩
set_option maxRecDepth 100000 in
theorem amount_any (a : Int) (ha : -9223372036854775808 ≤ a ∧ a ≤ 9223372036854775807) (w : World) : Calls Try.prog 107 #[.int .i64 a] w fun e w' => e = .returned (.int .u64 (a.natAbs : Int)) ∧ w = w' := by
 by_cases h : a < 0
 ·have E := Lib.hid (show (a.natAbs : Int) = -(a + 1) + 1 by omega)
  go_enter Try.func107, Try.ntmps107
  go_wp2
  go_ret
  exact ⟨by rw [E.out]; rfl, rfl⟩
 ·have E := Lib.hid (show (a.natAbs : Int) = a by omega)
  go_enter Try.func107, Try.ntmps107
  go_wp2
  go_ret
  exact ⟨by rw [E.out]; rfl, rfl⟩
def mk (f : Nat → Int) : Nat → Int
 | 0 => 0
 | k + 1 => mk f k + f k * 2 ^ k
set_option maxRecDepth 100000 in
theorem mk_bd (f : Nat → Int) (hf : ∀ i, f i = 0 ∨ f i = 1) (k : Nat) : 0 ≤ mk f k ∧ mk f k < 2 ^ k := by
 induction k with
 | zero => simp [mk]
 | succ k ih =>
  have hp := pow_pos k
  rw [Int.pow_succ]
  rcases hf k with h | h <;> simp only [mk, h] <;> omega
set_option maxRecDepth 100000 in
theorem bit_high (x : Int) (k i : Nat) (h : 0 ≤ x ∧ x < 2 ^ k) (hi : k ≤ i) : bit x i = 0 := by
 have : (2 : Int) ^ k ≤ 2 ^ i := by rw [← pow_cast, ← pow_cast]; exact_mod_cast Nat.pow_le_pow_right (by decide) hi
 unfold bit
 rw [Int.ediv_eq_zero_of_lt h.1 (by omega)]
 rfl
set_option maxRecDepth 100000 in
theorem bit_low (c : Int) (k i : Nat) (hi : i < k) : bit (c * 2 ^ k) i = 0 := by
 obtain ⟨d, rfl⟩ : ∃ d, k = i + (d + 1) := ⟨k - i - 1, by omega⟩
 unfold bit
 rw [Int.pow_add, Int.pow_succ, Int.mul_comm c, Int.mul_assoc, Int.mul_ediv_cancel_left _ (by have := pow_pos i; omega)]
 rw [Int.mul_comm ((2 : Int) ^ d) 2, Int.mul_assoc]
 omega
set_option maxRecDepth 100000 in
theorem or_apart (x y : Int) (h : ∀ i, i < 64 → bit x i = 0 ∨ bit y i = 0) : bits .or .i64 x y = wrap64 (x + y) := by
 have ha : BitVec.ofInt 64 x &&& BitVec.ofInt 64 y = 0#64 := by
  apply BitVec.eq_of_getLsbD_eq
  intro i hi
  rw [BitVec.getLsbD_and, BitVec.getLsbD_zero]
  rcases h i hi with h | h <;> rw [bit_getLsb 64 _ i hi] at h
  ·cases hb : (BitVec.ofInt 64 x).getLsbD i
   ·rfl
   ·rw [hb] at h; simp at h
  ·cases hb : (BitVec.ofInt 64 y).getLsbD i
   ·simp
   ·rw [hb] at h; simp at h
 show IntKind.i64.wrap ((BitVec.ofInt 64 x ||| BitVec.ofInt 64 y).toNat : Nat) = _
 rw [← BitVec.add_eq_or_of_and_eq_zero _ _ ha, ← BitVec.ofInt_add, BitVec.toNat_ofInt, IntKind.wrap_i64]
 unfold wrap64
 omega
set_option maxRecDepth 100000 in
theorem bit_wrap64 (x : Int) (i : Nat) (hi : i < 64) : bit (wrap64 x) i = bit x i :=
 bit_of_mod 64 _ _ (by have := wrap64_mod x; exact this) i hi
set_option maxRecDepth 100000 in
theorem mk_step (f : Nat → Int) (hf : ∀ i, f i = 0 ∨ f i = 1) (k : Nat) (hk : k < 64) : bits .or .i64 (wrap64 (mk f k)) (wrap64 (f k * 2 ^ k)) = wrap64 (mk f (k + 1)) := by
 rw [or_apart, wrap64_add_l, wrap64_add_r]
 ·rfl
 ·intro i hi
  rw [bit_wrap64 _ _ hi, bit_wrap64 _ _ hi]
  by_cases h : i < k
  ·exact .inr (bit_low _ _ _ h)
  ·exact .inl (bit_high _ _ _ (mk_bd f hf k) (by omega))
set_option maxRecDepth 100000 in
theorem emod_pow_succ (y : Int) (k : Nat) : y % 2 ^ (k + 1) = y % 2 ^ k + bit y k * 2 ^ k := by
 have hp := pow_pos k
 unfold bit
 have h1 := Int.mul_ediv_add_emod y (2 ^ k)
 have h2 := Int.mul_ediv_add_emod (y / 2 ^ k) 2
 have hb := emod_pow_bd y k
 have hm : y = y % 2 ^ k + y / 2 ^ k % 2 * 2 ^ k + 2 ^ (k + 1) * (y / 2 ^ k / 2) := by
  have e : y / 2 ^ k = y / 2 ^ k % 2 + 2 * (y / 2 ^ k / 2) := by omega
  have e2 : (2 : Int) ^ k * (y / 2 ^ k) = y / 2 ^ k % 2 * 2 ^ k + 2 ^ (k + 1) * (y / 2 ^ k / 2) := by
   rw [Int.pow_succ]
   generalize y / 2 ^ k / 2 = q at e ⊢
   generalize y / 2 ^ k % 2 = r at e ⊢
   rw [e, Int.mul_add, Int.mul_assoc, Int.mul_comm r]
  omega
 have hlt : y % 2 ^ k + y / 2 ^ k % 2 * 2 ^ k < 2 ^ (k + 1) := by
  rw [Int.pow_succ]
  have : y / 2 ^ k % 2 = 0 ∨ y / 2 ^ k % 2 = 1 := by omega
  rcases this with h | h <;> rw [h] <;> omega
 have hnn : 0 ≤ y % 2 ^ k + y / 2 ^ k % 2 * 2 ^ k := by
  have : y / 2 ^ k % 2 = 0 ∨ y / 2 ^ k % 2 = 1 := by omega
  rcases this with h | h <;> rw [h] <;> omega
 conv => lhs; rw [hm]
 rw [Int.add_mul_emod_self_left]
 exact Int.emod_eq_of_lt hnn hlt
set_option maxRecDepth 100000 in
theorem mk_bit (y : Int) (k : Nat) : mk (bit y) k = y % 2 ^ k := by
 induction k with
 | zero => simp [mk]
 | succ k ih => rw [emod_pow_succ, ← ih]; rfl
set_option maxRecDepth 100000 in
theorem wrn_mod (n : Nat) (hn : n = 32 ∨ n = 64) (y : Int) : wrn n (wrap64 (y % 2 ^ n)) = wrn n y := by
 rcases hn with rfl | rfl
 ·show wrap32 (wrap64 (y % 2 ^ 32)) = wrap32 y
  have : (2 : Int) ^ 32 = 4294967296 := rfl
  rw [this]; unfold wrap32 wrap64; omega
 ·show wrap64 (wrap64 (y % 2 ^ 64)) = wrap64 y
  have : (2 : Int) ^ 64 = 18446744073709551616 := rfl
  rw [this]; unfold wrap64; omega
theorem made_any (y : Int) (g cap n : Nat) (N : Int) (hN : N = n) (hn : n = 32 ∨ n = 64) (w : World) (hc : ∀ i, i < n → w.cell? ⟨g, i, none⟩ = some (.int .i64 (bit y i))) :
  Calls Try.prog 105 #[.slice (some ⟨g, 0, none⟩) n cap, .int .i64 N] w fun e w' => e = .returned (.int .i64 (wrn n y)) ∧ w = w' := by
 subst hN
 have hn64 : n ≤ 64 := by omega
 have Hn := Lib.hid hn
 clear hn
 go_enter Try.func105, Try.ntmps105
 go_wp2
 go_loop [5, 6] (fun x i => ∃ k : Nat, k ≤ n ∧ i = .int .i64 k ∧ x = .int .i64 (wrap64 (mk (bit y) k))) (fun _ i => n - (intOf i).toNat)
 case atStart => exact ⟨0, by omega, rfl, by simp [mk, wrap64]⟩
 case round =>
  obtain ⟨k, hk, rfl, rfl⟩ := hrel
  by_cases hlt : k < n
  ·have hst := mk_step (bit y) (bit_01 y) k (by omega)
   have hck := hc k hlt
   clear hc
   go_wp2
   go_round
   case rel => exact ⟨k + 1, by omega, by go_num, rfl⟩
   case measure => simp [intOf]; omega
  ·obtain rfl : k = n := by omega
   go_wp2_with fail
   refine (cut_any _ _ k rfl (by have := Hn.out; omega) (wrap64_bd _) _).mono ?_
   rintro e w' ⟨rfl, rfl⟩
   go_wp2
   go_ret
   exact ⟨by rw [mk_bit, wrn_mod _ Hn.out]; rfl, rfl⟩
end Go.Proofs.Ytbkeneadoccodaa.Nm
/- Contracts of the document's own answers for layer 1: sum, negative, moved, logic. -/
namespace Go.Proofs.Ytbkeneadoccodaa.Nm
open Go.RowKit
set_option linter.unusedVariables false
set_option maxRecDepth 100000 in
theorem info64 : (Try.prog.info? 2).map (fun i => (i.zero, i.size, i.bytes)) = some (some (.int .i64 0), 1, 8) := by kernel_rfl
def bl (f : Nat → Int) (k : Nat) : List Value := (List.range k).map fun i => .int .i64 (f i)
set_option maxRecDepth 100000 in
theorem bl_succ (f : Nat → Int) (k : Nat) : bl f (k + 1) = bl f k ++ [.int .i64 (f k)] := by simp [bl, List.range_succ]
set_option maxRecDepth 100000 in
theorem bl_get (f : Nat → Int) (k i : Nat) (h : i < k) : (bl f k)[i]? = some (.int .i64 (f i)) := by simp [bl, h]
set_option maxRecDepth 100000 in
theorem own_open {w : World} {B e : Nat} {v : Value} {f : Nat → Int} {n : Nat} (hn : 0 < n) (h : w.ownsRow B e 1 v n (bl f n)) :
  ∃ g cap, v = .slice (some ⟨g, 0, none⟩) n cap ∧ ∀ i, i < n → w.cell? ⟨g, i, none⟩ = some (.int .i64 (f i)) := by
 rcases h.2 with ⟨_, h0⟩ | ⟨g, cap, cur, rfl, _, hgg, _, _, _, htake⟩
 ·omega
 ·refine ⟨g, cap, rfl, fun i hi => ?_⟩
  have hc := h.cells (g := g) rfl i _ (bl_get f n i hi)
  have hadd : (⟨g, 0, none⟩ : Addr).add i = ⟨g, i, none⟩ := by unfold Addr.add; split <;> simp_all
  rwa [hadd] at hc
theorem push_rel {w0 wr w1 : World} {o : Obj} {B e k : Nat} {v v' : Value} {f : Nat → Int} (hB : B = w0.heap.size) (hown : wr.ownsRow B e 1 v k (bl f k)) (hb : Below B w0 wr)
  (h1 : w1.ownsRow B e 1 v' (k + 1) (bl f k ++ [.int .i64 (f k)])) (hg : (wr.alloc o).grownBy w1 v.ownBlock) : w1.ownsRow B e 1 v' (k + 1) (bl f (k + 1)) ∧ Below B w0 w1 := by
 have hs := hb.size
 refine ⟨by rw [bl_succ]; exact h1, (hb.alloc (by omega) o).grown hg (by simp; omega) (fun j hj => (hown.lt j hj).1)⟩
def cr (a b c : Int) (k : Nat) : Int := (a % 2 ^ k + b % 2 ^ k + c) / 2 ^ k
set_option maxRecDepth 100000 in
theorem cr_zero (a b c : Int) : cr a b c 0 = c := by simp [cr]
set_option maxRecDepth 100000 in
theorem cr_bd (a b c : Int) (hc : 0 ≤ c ∧ c ≤ 1) (k : Nat) : 0 ≤ cr a b c k ∧ cr a b c k ≤ 1 := by
 have h1 := emod_pow_bd a k
 have h2 := emod_pow_bd b k
 have hp := pow_pos k
 unfold cr
 refine ⟨Int.ediv_nonneg (by omega) (by omega), ?_⟩
 have : (a % 2 ^ k + b % 2 ^ k + c) / 2 ^ k < 2 := by
  refine Int.ediv_lt_of_lt_mul hp ?_
  omega
 omega
set_option maxRecDepth 100000 in
theorem cr_succ (a b c : Int) (k : Nat) : cr a b c (k + 1) = (bit a k + bit b k + cr a b c k) / 2 := by
 have hp := pow_pos k
 unfold cr
 rw [emod_pow_succ, emod_pow_succ, Int.pow_succ, ← Int.ediv_ediv_of_nonneg (by omega)]
 have e : a % 2 ^ k + bit a k * 2 ^ k + (b % 2 ^ k + bit b k * 2 ^ k) + c = (a % 2 ^ k + b % 2 ^ k + c) + 2 ^ k * (bit a k + bit b k) := by
  rw [Int.mul_add, Int.mul_comm _ (bit a k), Int.mul_comm _ (bit b k)]; omega
 rw [e, Int.add_mul_ediv_left _ _ (by omega)]
 congr 1
 omega
set_option maxRecDepth 100000 in
theorem bit_sum (a b c : Int) (k : Nat) : bit (a + b + c) k = (bit a k + bit b k + cr a b c k) % 2 := by
 have hp := pow_pos k
 have h1 := Int.mul_ediv_add_emod a (2 ^ k)
 have h2 := Int.mul_ediv_add_emod b (2 ^ k)
 have e : a + b + c = (a % 2 ^ k + b % 2 ^ k + c) + 2 ^ k * (a / 2 ^ k + b / 2 ^ k) := by
  rw [Int.mul_add]; omega
 have e2 : (a + b + c) / 2 ^ k = cr a b c k + (a / 2 ^ k + b / 2 ^ k) := by
  rw [e, Int.add_mul_ediv_left _ _ (by omega)]; rfl
 unfold bit
 rw [e2]
 omega
set_option maxHeartbeats 1000000 in
set_option maxRecDepth 100000 in
theorem sum_any (a b c N : Int) (n : Nat) (hN : N = n) (hn : n = 32 ∨ n = 64) (hc : 0 ≤ c ∧ c ≤ 1) (w : World) :
  Calls Try.prog 72 #[.int .i64 a, .int .i64 b, .int .i64 c, .int .i64 N] w fun e w' => e = .returned (.int .i64 (wrn n (a + b + c))) ∧ Below w.heap.size w w' := by
 subst hN
 obtain ⟨i0, hi, hz0, hz1, hz2⟩ := info_parts info64
 have hn64 : n ≤ 64 := by omega
 have hn0 : 0 < n := by omega
 have Hn := Lib.hid hn
 clear hn
 obtain ⟨B, HB⟩ : ∃ B, Hid (B = w.heap.size) := ⟨_, rfl⟩
 obtain ⟨y, HY⟩ : ∃ y, Hid (y = a + b + c) := ⟨_, rfl⟩
 rw [← HB.out, ← HY.out]
 go_enter Try.func72, Try.ntmps72
 go_wp2
 go_loopw [2, 9, 10] (fun t v i wr => ∃ k : Nat, k ≤ n ∧ i = .int .i64 k ∧ t = .int .i64 (cr a b c k) ∧ wr.ownsRow B 2 1 v k (bl (bit y) k) ∧ Below B w wr) (fun _ _ i _ => n - (intOf i).toNat)
 case atStart => exact ⟨0, by omega, rfl, by rw [cr_zero], World.ownsRow_nil _ _ _ _, Below.refl _ _⟩
 case round =>
  obtain ⟨k, hk, rfl, rfl, hown, hb⟩ := hrel
  have hBs : B ≤ wr.heap.size := by have := hb.size; rw [HB.out]; exact this
  by_cases hlt : k < n
  ·have h1 : 0 ≤ bit a k ∧ bit a k ≤ 1 := by have := bit_01 a k; omega
   have h2 : 0 ≤ bit b k ∧ bit b k ≤ 1 := by have := bit_01 b k; omega
   have h3 := cr_bd a b c hc k
   have hbs : (bit a k + bit b k + cr a b c k) % 2 = bit y k := by rw [HY.out, bit_sum]
   have HC := Lib.hid (cr_succ a b c k)
   go_wp2_with (first | (go_at_call 104; refine (bit_any _ _ k rfl (by omega) _).mono ?_; rintro e w' ⟨rfl, rfl⟩) | (at_builtin; refine wpList_append_own _ rfl (.tmp 26) (.tmp 29) 35 rfl B 2 i0 (.int .i64 0) 1 8 Try.underlying35 hi hz0 hz1 hz2 rfl (by decide) _ _ _ rfl (hown.alloc _) ⟨wr.heap.size, 0, none⟩ 1 1 [.int .i64 (bit y k)] rfl rfl ?c1 ?c2 ?c3 ?c4 ?c5 ?_))
   case c1 =>
    intro j u hj
    match j, hj with
    | 0, hj => simp at hj; subst hj; simp [Addr.add]
   case c2 => intro u hu; simp at hu; subst hu; rfl
   case c3 => unfold maxLen; omega
   case c4 => omega
   case c5 => simp; omega
   intro v' w1 hown' hgrow _
   have R := push_rel HB.out hown hb hown' hgrow
   clear hown' hgrow hown hb
   go_wp2
   go_roundw
   case rel => exact ⟨k + 1, by omega, by go_num, by rw [HC.out], R.1, R.2⟩
   case measure => simp [intOf]; omega
  ·obtain rfl : k = n := by omega
   obtain ⟨g, cap, rfl, hcell⟩ := own_open hn0 hown
   clear hown
   go_wp2_with fail
   refine (made_any y g cap k _ rfl Hn.out _ hcell).mono ?_
   rintro e w' ⟨rfl, rfl⟩
   clear hcell
   go_wp2
   go_ret
   exact ⟨rfl, hb⟩
set_option maxRecDepth 100000 in
theorem not_i64 (a : Int) (ha : -9223372036854775808 ≤ a ∧ a ≤ 9223372036854775807) : bits .xor .i64 (-1) a = -1 - a := by
 show IntKind.i64.wrap ((BitVec.ofInt 64 (-1) ^^^ BitVec.ofInt 64 a).toNat : Nat) = _
 have e : BitVec.ofInt 64 (-1) = BitVec.allOnes 64 := by decide
 rw [e, BitVec.allOnes_xor, BitVec.toNat_not, BitVec.toNat_ofInt, IntKind.wrap_i64]
 omega
set_option maxRecDepth 100000 in
theorem negative_any (a N : Int) (n : Nat) (hN : N = n) (hn : n = 32 ∨ n = 64) (ha : -9223372036854775808 ≤ a ∧ a ≤ 9223372036854775807) (w : World) :
  Calls Try.prog 106 #[.int .i64 a, .int .i64 N] w fun e w' => e = .returned (.int .i64 (wrn n (-a))) ∧ Below w.heap.size w w' := by
 subst hN
 have e : 0 + (-1 - a) + 1 = -a := by omega
 rw [← e]
 clear e
 have h1 := not_i64 a ha
 go_enter Try.func106, Try.ntmps106
 go_wp2_with fail
 refine (sum_any 0 _ 1 _ n rfl hn (by decide) _).mono ?_
 rintro e w' ⟨rfl, hb⟩
 go_wp2
 go_ret
 exact ⟨by rw [Int.zero_add]; rfl, hb⟩
set_option maxRecDepth 100000 in
theorem bit_shl_lo (a : Int) (m k : Nat) (h : k < m) : bit (a * 2 ^ m) k = 0 := bit_low a m k h
set_option maxRecDepth 100000 in
theorem bit_shl_hi (a : Int) (m k : Nat) (h : m ≤ k) : bit (a * 2 ^ m) k = bit a (k - m) := by
 obtain ⟨d, rfl⟩ : ∃ d, k = m + d := ⟨k - m, by omega⟩
 unfold bit
 have hp := pow_pos m
 rw [Int.pow_add, Int.mul_comm a, ← Int.ediv_ediv_of_nonneg (by omega), Int.mul_ediv_cancel_left _ (by omega), show m + d - m = d from by omega]
set_option maxRecDepth 100000 in
theorem bit_shr (a : Int) (m k : Nat) : bit (a / 2 ^ m) k = bit a (k + m) := by
 unfold bit
 have hp := pow_pos m
 rw [Int.ediv_ediv_of_nonneg (by omega), ← Int.pow_add, Nat.add_comm]
set_option maxRecDepth 100000 in
theorem bit_sign (a : Int) (n i : Nat) (hn : 0 < n) (ha : -2 ^ (n - 1) ≤ a ∧ a < 2 ^ (n - 1)) (hi : n - 1 ≤ i) : bit a i = bit a (n - 1) := by
 have hp : (2 : Int) ^ (n - 1) ≤ 2 ^ i := by rw [← pow_cast, ← pow_cast]; exact_mod_cast Nat.pow_le_pow_right (by decide) hi
 have hq := pow_pos (n - 1)
 unfold bit
 by_cases h : 0 ≤ a
 ·rw [Int.ediv_eq_zero_of_lt h (by omega), Int.ediv_eq_zero_of_lt h (by omega)]
 ·have e : ∀ p : Int, 0 < p → -p ≤ a → a / p = -1 := fun p h0 h1 => by
   have h2 : a / p < 0 := Int.ediv_neg_of_neg_of_pos (by omega) h0
   have h3 : -1 ≤ a / p := (Int.le_ediv_iff_mul_le h0).2 (by omega)
   omega
  rw [e _ (by omega) (by omega), e _ (by omega) (by omega)]
set_option maxRecDepth 100000 in
theorem bit_zero_hi (a : Int) (n i : Nat) (h : n ≤ i) : bit (a % 2 ^ n) i = 0 := bit_high _ n i (emod_pow_bd a n) h
set_option maxRecDepth 100000 in
theorem bit_emod (a : Int) (n i : Nat) (h : i < n) : bit (a % 2 ^ n) i = bit a i := bit_of_mod n _ _ (Int.emod_emod _ _) i h
set_option maxHeartbeats 2000000 in
set_option maxRecDepth 100000 in
theorem movedLeft_any (a M N : Int) (m n : Nat) (hM : M = m) (hN : N = n) (hn : n = 32 ∨ n = 64) (hm : m < n) (w : World) :
  Calls Try.prog 75 #[.int .i64 a, .int .i64 M, .int .i64 N, .bool false, .bool false] w fun e w' => e = .returned (.int .i64 (wrn n (a * 2 ^ m))) ∧ Below w.heap.size w w' := by
 subst hN
 subst hM
 obtain ⟨i0, hi, hz0, hz1, hz2⟩ := info_parts info64
 have hn64 : n ≤ 64 := by omega
 have hn0 : 0 < n := by omega
 have Hn := Lib.hid hn
 clear hn
 obtain ⟨B, HB⟩ : ∃ B, Hid (B = w.heap.size) := ⟨_, rfl⟩
 obtain ⟨y, HY⟩ : ∃ y, Hid (y = a * 2 ^ m) := ⟨_, rfl⟩
 rw [← HB.out, ← HY.out]
 go_enter Try.func75, Try.ntmps75
 go_wp2
 go_loopw [11, 12] (fun v i wr => ∃ k : Nat, k ≤ n ∧ i = .int .i64 k ∧ wr.ownsRow B 2 1 v k (bl (bit y) k) ∧ Below B w wr) (fun _ i _ => n - (intOf i).toNat)
 case atStart => exact ⟨0, by omega, rfl, World.ownsRow_nil _ _ _ _, Below.refl _ _⟩
 case round =>
  obtain ⟨k, hk, rfl, hown, hb⟩ := hrel
  have hBs : B ≤ wr.heap.size := by have := hb.size; rw [HB.out]; exact this
  by_cases hlt : k < n
  ·by_cases hc : k < m
   ·have HK := Lib.hid (show bit y k = 0 by rw [HY.out]; exact bit_shl_lo a m k hc)
    go_wp2_with (first | (at_builtin; refine wpList_append_own _ rfl (.tmp 45) (.tmp 47) 35 rfl B 2 i0 (.int .i64 0) 1 8 Try.underlying35 hi hz0 hz1 hz2 rfl (by decide) _ _ _ rfl (hown.alloc _) ⟨wr.heap.size, 0, none⟩ 1 1 [.int .i64 (0)] rfl rfl ?c1 ?c2 ?c3 ?c4 ?c5 ?_))
    case c1 =>
     intro j u hj
     match j, hj with
     | 0, hj => simp at hj; subst hj; simp [Addr.add]
    case c2 => intro u hu; simp at hu; subst hu; rfl
    case c3 => unfold maxLen; omega
    case c4 => omega
    case c5 => simp; omega
    intro v' w1 hown' hgrow _
    rw [← HK.out] at hown'
    have R := push_rel HB.out hown hb hown' hgrow
    clear hown' hgrow hown hb
    go_wp2
    go_roundw
    case rel => exact ⟨k + 1, by omega, by go_num, R.1, R.2⟩
    case measure => simp [intOf]; omega
   ·have HK := Lib.hid (show bit y k = bit a (k - m) by rw [HY.out]; exact bit_shl_hi a m k (by omega))
    go_wp2_with (first | (go_at_call 104; refine (bit_any _ _ (k - m) (by omega) (by omega) _).mono ?_; rintro e w' ⟨rfl, rfl⟩) | (at_builtin; refine wpList_append_own _ rfl (.tmp 45) (.tmp 47) 35 rfl B 2 i0 (.int .i64 0) 1 8 Try.underlying35 hi hz0 hz1 hz2 rfl (by decide) _ _ _ rfl (hown.alloc _) ⟨wr.heap.size, 0, none⟩ 1 1 [.int .i64 (bit a (k - m))] rfl rfl ?c1 ?c2 ?c3 ?c4 ?c5 ?_))
    case c1 =>
     intro j u hj
     match j, hj with
     | 0, hj => simp at hj; subst hj; simp [Addr.add]
    case c2 => intro u hu; simp at hu; subst hu; rfl
    case c3 => unfold maxLen; omega
    case c4 => omega
    case c5 => simp; omega
    intro v' w1 hown' hgrow _
    rw [← HK.out] at hown'
    have R := push_rel HB.out hown hb hown' hgrow
    clear hown' hgrow hown hb
    go_wp2
    go_roundw
    case rel => exact ⟨k + 1, by omega, by go_num, R.1, R.2⟩
    case measure => simp [intOf]; omega
  ·obtain rfl : k = n := by omega
   obtain ⟨g, cap, rfl, hcell⟩ := own_open hn0 hown
   clear hown
   go_wp2_with fail
   refine (made_any y g cap k _ rfl Hn.out _ hcell).mono ?_
   rintro e w' ⟨rfl, rfl⟩
   clear hcell
   go_wp2
   go_ret
   exact ⟨rfl, hb⟩
set_option maxHeartbeats 2000000 in
set_option maxRecDepth 100000 in
theorem movedRight_any (a M N : Int) (m n : Nat) (hM : M = m) (hN : N = n) (hn : n = 32 ∨ n = 64) (hm : m < n) (ha : -2 ^ (n - 1) ≤ a ∧ a < 2 ^ (n - 1)) (w : World) :
  Calls Try.prog 75 #[.int .i64 a, .int .i64 M, .int .i64 N, .bool true, .bool true] w fun e w' => e = .returned (.int .i64 (wrn n (a / 2 ^ m))) ∧ Below w.heap.size w w' := by
 subst hN
 subst hM
 have HA := Lib.hid ha
 clear ha
 obtain ⟨i0, hi, hz0, hz1, hz2⟩ := info_parts info64
 have hn64 : n ≤ 64 := by omega
 have hn0 : 0 < n := by omega
 have Hn := Lib.hid hn
 clear hn
 obtain ⟨B, HB⟩ : ∃ B, Hid (B = w.heap.size) := ⟨_, rfl⟩
 obtain ⟨y, HY⟩ : ∃ y, Hid (y = a / 2 ^ m) := ⟨_, rfl⟩
 rw [← HB.out, ← HY.out]
 go_enter Try.func75, Try.ntmps75
 go_wp2
 go_loopw [11, 12] (fun v i wr => ∃ k : Nat, k ≤ n ∧ i = .int .i64 k ∧ wr.ownsRow B 2 1 v k (bl (bit y) k) ∧ Below B w wr) (fun _ i _ => n - (intOf i).toNat)
 case atStart => exact ⟨0, by omega, rfl, World.ownsRow_nil _ _ _ _, Below.refl _ _⟩
 case round =>
  obtain ⟨k, hk, rfl, hown, hb⟩ := hrel
  have hBs : B ≤ wr.heap.size := by have := hb.size; rw [HB.out]; exact this
  by_cases hlt : k < n
  ·by_cases hc : k + m < n
   ·have HK := Lib.hid (show bit y k = bit a (k + m) by rw [HY.out]; exact bit_shr a m k)
    go_wp2_with (first | (go_at_call 104; refine (bit_any _ _ (k + m) (by omega) (by omega) _).mono ?_; rintro e w' ⟨rfl, rfl⟩) | (at_builtin; refine wpList_append_own _ rfl (.tmp 45) (.tmp 47) 35 rfl B 2 i0 (.int .i64 0) 1 8 Try.underlying35 hi hz0 hz1 hz2 rfl (by decide) _ _ _ rfl (hown.alloc _) ⟨wr.heap.size, 0, none⟩ 1 1 [.int .i64 (bit a (k + m))] rfl rfl ?c1 ?c2 ?c3 ?c4 ?c5 ?_))
    case c1 =>
     intro j u hj
     match j, hj with
     | 0, hj => simp at hj; subst hj; simp [Addr.add]
    case c2 => intro u hu; simp at hu; subst hu; rfl
    case c3 => unfold maxLen; omega
    case c4 => omega
    case c5 => simp; omega
    intro v' w1 hown' hgrow _
    rw [← HK.out] at hown'
    have R := push_rel HB.out hown hb hown' hgrow
    clear hown' hgrow hown hb
    go_wp2
    go_roundw
    case rel => exact ⟨k + 1, by omega, by go_num, R.1, R.2⟩
    case measure => simp [intOf]; omega
   ·have HK := Lib.hid (show bit y k = bit a (n - 1) by rw [HY.out]; rw [bit_shr]; exact bit_sign a n (k + m) hn0 HA.out (by omega))
    go_wp2_with (first | (go_at_call 104; refine (bit_any _ _ (n - 1) (by omega) (by omega) _).mono ?_; rintro e w' ⟨rfl, rfl⟩) | (at_builtin; refine wpList_append_own _ rfl (.tmp 45) (.tmp 47) 35 rfl B 2 i0 (.int .i64 0) 1 8 Try.underlying35 hi hz0 hz1 hz2 rfl (by decide) _ _ _ rfl (hown.alloc _) ⟨wr.heap.size, 0, none⟩ 1 1 [.int .i64 (bit a (n - 1))] rfl rfl ?c1 ?c2 ?c3 ?c4 ?c5 ?_))
    case c1 =>
     intro j u hj
     match j, hj with
     | 0, hj => simp at hj; subst hj; simp [Addr.add]
    case c2 => intro u hu; simp at hu; subst hu; rfl
    case c3 => unfold maxLen; omega
    case c4 => omega
    case c5 => simp; omega
    intro v' w1 hown' hgrow _
    rw [← HK.out] at hown'
    have R := push_rel HB.out hown hb hown' hgrow
    clear hown' hgrow hown hb
    go_wp2
    go_roundw
    case rel => exact ⟨k + 1, by omega, by go_num, R.1, R.2⟩
    case measure => simp [intOf]; omega
  ·obtain rfl : k = n := by omega
   obtain ⟨g, cap, rfl, hcell⟩ := own_open hn0 hown
   clear hown
   go_wp2_with fail
   refine (made_any y g cap k _ rfl Hn.out _ hcell).mono ?_
   rintro e w' ⟨rfl, rfl⟩
   clear hcell
   go_wp2
   go_ret
   exact ⟨rfl, hb⟩
set_option maxHeartbeats 2000000 in
set_option maxRecDepth 100000 in
theorem movedZero_any (a M N : Int) (m n : Nat) (hM : M = m) (hN : N = n) (hn : n = 32 ∨ n = 64) (hm : m < n) (w : World) :
  Calls Try.prog 75 #[.int .i64 a, .int .i64 M, .int .i64 N, .bool true, .bool false] w fun e w' => e = .returned (.int .i64 (wrn n (a % 2 ^ n / 2 ^ m))) ∧ Below w.heap.size w w' := by
 subst hN
 subst hM
 obtain ⟨i0, hi, hz0, hz1, hz2⟩ := info_parts info64
 have hn64 : n ≤ 64 := by omega
 have hn0 : 0 < n := by omega
 have Hn := Lib.hid hn
 clear hn
 obtain ⟨B, HB⟩ : ∃ B, Hid (B = w.heap.size) := ⟨_, rfl⟩
 obtain ⟨y, HY⟩ : ∃ y, Hid (y = a % 2 ^ n / 2 ^ m) := ⟨_, rfl⟩
 rw [← HB.out, ← HY.out]
 go_enter Try.func75, Try.ntmps75
 go_wp2
 go_loopw [11, 12] (fun v i wr => ∃ k : Nat, k ≤ n ∧ i = .int .i64 k ∧ wr.ownsRow B 2 1 v k (bl (bit y) k) ∧ Below B w wr) (fun _ i _ => n - (intOf i).toNat)
 case atStart => exact ⟨0, by omega, rfl, World.ownsRow_nil _ _ _ _, Below.refl _ _⟩
 case round =>
  obtain ⟨k, hk, rfl, hown, hb⟩ := hrel
  have hBs : B ≤ wr.heap.size := by have := hb.size; rw [HB.out]; exact this
  by_cases hlt : k < n
  ·by_cases hc : k + m < n
   ·have HK := Lib.hid (show bit y k = bit a (k + m) by rw [HY.out]; rw [bit_shr]; exact bit_emod a n (k + m) hc)
    go_wp2_with (first | (go_at_call 104; refine (bit_any _ _ (k + m) (by omega) (by omega) _).mono ?_; rintro e w' ⟨rfl, rfl⟩) | (at_builtin; refine wpList_append_own _ rfl (.tmp 45) (.tmp 47) 35 rfl B 2 i0 (.int .i64 0) 1 8 Try.underlying35 hi hz0 hz1 hz2 rfl (by decide) _ _ _ rfl (hown.alloc _) ⟨wr.heap.size, 0, none⟩ 1 1 [.int .i64 (bit a (k + m))] rfl rfl ?c1 ?c2 ?c3 ?c4 ?c5 ?_))
    case c1 =>
     intro j u hj
     match j, hj with
     | 0, hj => simp at hj; subst hj; simp [Addr.add]
    case c2 => intro u hu; simp at hu; subst hu; rfl
    case c3 => unfold maxLen; omega
    case c4 => omega
    case c5 => simp; omega
    intro v' w1 hown' hgrow _
    rw [← HK.out] at hown'
    have R := push_rel HB.out hown hb hown' hgrow
    clear hown' hgrow hown hb
    go_wp2
    go_roundw
    case rel => exact ⟨k + 1, by omega, by go_num, R.1, R.2⟩
    case measure => simp [intOf]; omega
   ·have HK := Lib.hid (show bit y k = 0 by rw [HY.out]; rw [bit_shr]; exact bit_zero_hi a n (k + m) (by omega))
    go_wp2_with (first | (at_builtin; refine wpList_append_own _ rfl (.tmp 45) (.tmp 47) 35 rfl B 2 i0 (.int .i64 0) 1 8 Try.underlying35 hi hz0 hz1 hz2 rfl (by decide) _ _ _ rfl (hown.alloc _) ⟨wr.heap.size, 0, none⟩ 1 1 [.int .i64 (0)] rfl rfl ?c1 ?c2 ?c3 ?c4 ?c5 ?_))
    case c1 =>
     intro j u hj
     match j, hj with
     | 0, hj => simp at hj; subst hj; simp [Addr.add]
    case c2 => intro u hu; simp at hu; subst hu; rfl
    case c3 => unfold maxLen; omega
    case c4 => omega
    case c5 => simp; omega
    intro v' w1 hown' hgrow _
    rw [← HK.out] at hown'
    have R := push_rel HB.out hown hb hown' hgrow
    clear hown' hgrow hown hb
    go_wp2
    go_roundw
    case rel => exact ⟨k + 1, by omega, by go_num, R.1, R.2⟩
    case measure => simp [intOf]; omega
  ·obtain rfl : k = n := by omega
   obtain ⟨g, cap, rfl, hcell⟩ := own_open hn0 hown
   clear hown
   go_wp2_with fail
   refine (made_any y g cap k _ rfl Hn.out _ hcell).mono ?_
   rintro e w' ⟨rfl, rfl⟩
   clear hcell
   go_wp2
   go_ret
   exact ⟨rfl, hb⟩
set_option maxHeartbeats 2000000 in
set_option maxRecDepth 100000 in
theorem logic_and (a b N : Int) (q : IntKind) (n : Nat) (hq : q.bits = n) (hN : N = n) (hn : n = 32 ∨ n = 64) (w : World) :
  Calls Try.prog 76 #[.int .i64 0, .int .i64 a, .int .i64 b, .int .i64 N] w fun e w' => e = .returned (.int .i64 (wrn n (bits .and q a b))) ∧ Below w.heap.size w w' := by
 subst hN
 obtain ⟨i0, hi, hz0, hz1, hz2⟩ := info_parts info64
 have hn64 : n ≤ 64 := by omega
 have hn0 : 0 < n := by omega
 have Hn := Lib.hid hn
 clear hn
 obtain ⟨B, HB⟩ : ∃ B, Hid (B = w.heap.size) := ⟨_, rfl⟩
 obtain ⟨y, HY⟩ : ∃ y, Hid (y = bits .and q a b) := ⟨_, rfl⟩
 have HQ := Lib.hid hq
 clear hq
 rw [← HB.out, ← HY.out]
 go_enter Try.func76, Try.ntmps76
 go_wp2
 go_loopw [9, 10] (fun v i wr => ∃ k : Nat, k ≤ n ∧ i = .int .i64 k ∧ wr.ownsRow B 2 1 v k (bl (bit y) k) ∧ Below B w wr) (fun _ i _ => n - (intOf i).toNat)
 case atStart => exact ⟨0, by omega, rfl, World.ownsRow_nil _ _ _ _, Below.refl _ _⟩
 case round =>
  obtain ⟨k, hk, rfl, hown, hb⟩ := hrel
  have hBs : B ≤ wr.heap.size := by have := hb.size; rw [HB.out]; exact this
  by_cases hlt : k < n
  ·have h1 : 0 ≤ bit a k ∧ bit a k ≤ 1 := by have := bit_01 a k; omega
   have h2 : 0 ≤ bit b k ∧ bit b k ≤ 1 := by have := bit_01 b k; omega
   have HK := Lib.hid (show bit y k = bit a k * bit b k by rw [HY.out, bit_and q a b k (by rw [HQ.out]; exact hlt)])
   have h4 := bit_01 y k
   have h3 : 0 ≤ bit a k * bit b k ∧ bit a k * bit b k ≤ 1 := by rw [← HK.out]; omega
   go_wp2_with (first | (go_at_call 104; refine (bit_any _ _ (k) (by omega) (by omega) _).mono ?_; rintro e w' ⟨rfl, rfl⟩) | (at_builtin; refine wpList_append_own _ rfl (.tmp 34) (.tmp 38) 35 rfl B 2 i0 (.int .i64 0) 1 8 Try.underlying35 hi hz0 hz1 hz2 rfl (by decide) _ _ _ rfl (hown.alloc _) ⟨wr.heap.size, 0, none⟩ 1 1 [.int .i64 (bit a k * bit b k)] rfl rfl ?c1 ?c2 ?c3 ?c4 ?c5 ?_))
   case c1 =>
    intro j u hj
    match j, hj with
    | 0, hj => simp at hj; subst hj; simp [Addr.add]
   case c2 => intro u hu; simp at hu; subst hu; rfl
   case c3 => unfold maxLen; omega
   case c4 => omega
   case c5 => simp; omega
   intro v' w1 hown' hgrow _
   rw [← HK.out] at hown'
   have R := push_rel HB.out hown hb hown' hgrow
   clear hown' hgrow hown hb
   go_wp2
   go_roundw
   case rel => exact ⟨k + 1, by omega, by go_num, R.1, R.2⟩
   case measure => simp [intOf]; omega
  ·obtain rfl : k = n := by omega
   obtain ⟨g, cap, rfl, hcell⟩ := own_open hn0 hown
   clear hown
   go_wp2_with fail
   refine (made_any y g cap k _ rfl Hn.out _ hcell).mono ?_
   rintro e w' ⟨rfl, rfl⟩
   clear hcell
   go_wp2
   go_ret
   exact ⟨rfl, hb⟩
set_option maxHeartbeats 2000000 in
set_option maxRecDepth 100000 in
theorem logic_or (a b N : Int) (q : IntKind) (n : Nat) (hq : q.bits = n) (hN : N = n) (hn : n = 32 ∨ n = 64) (w : World) :
  Calls Try.prog 76 #[.int .i64 1, .int .i64 a, .int .i64 b, .int .i64 N] w fun e w' => e = .returned (.int .i64 (wrn n (bits .or q a b))) ∧ Below w.heap.size w w' := by
 subst hN
 obtain ⟨i0, hi, hz0, hz1, hz2⟩ := info_parts info64
 have hn64 : n ≤ 64 := by omega
 have hn0 : 0 < n := by omega
 have Hn := Lib.hid hn
 clear hn
 obtain ⟨B, HB⟩ : ∃ B, Hid (B = w.heap.size) := ⟨_, rfl⟩
 obtain ⟨y, HY⟩ : ∃ y, Hid (y = bits .or q a b) := ⟨_, rfl⟩
 have HQ := Lib.hid hq
 clear hq
 rw [← HB.out, ← HY.out]
 go_enter Try.func76, Try.ntmps76
 go_wp2
 go_loopw [9, 10] (fun v i wr => ∃ k : Nat, k ≤ n ∧ i = .int .i64 k ∧ wr.ownsRow B 2 1 v k (bl (bit y) k) ∧ Below B w wr) (fun _ i _ => n - (intOf i).toNat)
 case atStart => exact ⟨0, by omega, rfl, World.ownsRow_nil _ _ _ _, Below.refl _ _⟩
 case round =>
  obtain ⟨k, hk, rfl, hown, hb⟩ := hrel
  have hBs : B ≤ wr.heap.size := by have := hb.size; rw [HB.out]; exact this
  by_cases hlt : k < n
  ·have h1 : 0 ≤ bit a k ∧ bit a k ≤ 1 := by have := bit_01 a k; omega
   have h2 : 0 ≤ bit b k ∧ bit b k ≤ 1 := by have := bit_01 b k; omega
   have HK := Lib.hid (show bit y k = (bit a k + bit b k + 1) / 2 by rw [HY.out, bit_or q a b k (by rw [HQ.out]; exact hlt)]; omega)
   have h4 := bit_01 y k
   have h3 : 0 ≤ (bit a k + bit b k + 1) / 2 ∧ (bit a k + bit b k + 1) / 2 ≤ 1 := by rw [← HK.out]; omega
   go_wp2_with (first | (go_at_call 104; refine (bit_any _ _ (k) (by omega) (by omega) _).mono ?_; rintro e w' ⟨rfl, rfl⟩) | (at_builtin; refine wpList_append_own _ rfl (.tmp 42) (.tmp 48) 35 rfl B 2 i0 (.int .i64 0) 1 8 Try.underlying35 hi hz0 hz1 hz2 rfl (by decide) _ _ _ rfl (hown.alloc _) ⟨wr.heap.size, 0, none⟩ 1 1 [.int .i64 ((bit a k + bit b k + 1) / 2)] rfl rfl ?c1 ?c2 ?c3 ?c4 ?c5 ?_))
   case c1 =>
    intro j u hj
    match j, hj with
    | 0, hj => simp at hj; subst hj; simp [Addr.add]
   case c2 => intro u hu; simp at hu; subst hu; rfl
   case c3 => unfold maxLen; omega
   case c4 => omega
   case c5 => simp; omega
   intro v' w1 hown' hgrow _
   rw [← HK.out] at hown'
   have R := push_rel HB.out hown hb hown' hgrow
   clear hown' hgrow hown hb
   go_wp2
   go_roundw
   case rel => exact ⟨k + 1, by omega, by go_num, R.1, R.2⟩
   case measure => simp [intOf]; omega
  ·obtain rfl : k = n := by omega
   obtain ⟨g, cap, rfl, hcell⟩ := own_open hn0 hown
   clear hown
   go_wp2_with fail
   refine (made_any y g cap k _ rfl Hn.out _ hcell).mono ?_
   rintro e w' ⟨rfl, rfl⟩
   clear hcell
   go_wp2
   go_ret
   exact ⟨rfl, hb⟩
set_option maxHeartbeats 2000000 in
set_option maxRecDepth 100000 in
theorem logic_xor (a b N : Int) (q : IntKind) (n : Nat) (hq : q.bits = n) (hN : N = n) (hn : n = 32 ∨ n = 64) (w : World) :
  Calls Try.prog 76 #[.int .i64 2, .int .i64 a, .int .i64 b, .int .i64 N] w fun e w' => e = .returned (.int .i64 (wrn n (bits .xor q a b))) ∧ Below w.heap.size w w' := by
 subst hN
 obtain ⟨i0, hi, hz0, hz1, hz2⟩ := info_parts info64
 have hn64 : n ≤ 64 := by omega
 have hn0 : 0 < n := by omega
 have Hn := Lib.hid hn
 clear hn
 obtain ⟨B, HB⟩ : ∃ B, Hid (B = w.heap.size) := ⟨_, rfl⟩
 obtain ⟨y, HY⟩ : ∃ y, Hid (y = bits .xor q a b) := ⟨_, rfl⟩
 have HQ := Lib.hid hq
 clear hq
 rw [← HB.out, ← HY.out]
 go_enter Try.func76, Try.ntmps76
 go_wp2
 go_loopw [9, 10] (fun v i wr => ∃ k : Nat, k ≤ n ∧ i = .int .i64 k ∧ wr.ownsRow B 2 1 v k (bl (bit y) k) ∧ Below B w wr) (fun _ i _ => n - (intOf i).toNat)
 case atStart => exact ⟨0, by omega, rfl, World.ownsRow_nil _ _ _ _, Below.refl _ _⟩
 case round =>
  obtain ⟨k, hk, rfl, hown, hb⟩ := hrel
  have hBs : B ≤ wr.heap.size := by have := hb.size; rw [HB.out]; exact this
  by_cases hlt : k < n
  ·have h1 : 0 ≤ bit a k ∧ bit a k ≤ 1 := by have := bit_01 a k; omega
   have h2 : 0 ≤ bit b k ∧ bit b k ≤ 1 := by have := bit_01 b k; omega
   have HK := Lib.hid (show bit y k = (bit a k + bit b k) % 2 by rw [HY.out, bit_xor q a b k (by rw [HQ.out]; exact hlt)])
   have h4 := bit_01 y k
   have h3 : 0 ≤ (bit a k + bit b k) % 2 ∧ (bit a k + bit b k) % 2 ≤ 1 := by rw [← HK.out]; omega
   go_wp2_with (first | (go_at_call 104; refine (bit_any _ _ (k) (by omega) (by omega) _).mono ?_; rintro e w' ⟨rfl, rfl⟩) | (at_builtin; refine wpList_append_own _ rfl (.tmp 25) (.tmp 30) 35 rfl B 2 i0 (.int .i64 0) 1 8 Try.underlying35 hi hz0 hz1 hz2 rfl (by decide) _ _ _ rfl (hown.alloc _) ⟨wr.heap.size, 0, none⟩ 1 1 [.int .i64 ((bit a k + bit b k) % 2)] rfl rfl ?c1 ?c2 ?c3 ?c4 ?c5 ?_))
   case c1 =>
    intro j u hj
    match j, hj with
    | 0, hj => simp at hj; subst hj; simp [Addr.add]
   case c2 => intro u hu; simp at hu; subst hu; rfl
   case c3 => unfold maxLen; omega
   case c4 => omega
   case c5 => simp; omega
   intro v' w1 hown' hgrow _
   rw [← HK.out] at hown'
   have R := push_rel HB.out hown hb hown' hgrow
   clear hown' hgrow hown hb
   go_wp2
   go_roundw
   case rel => exact ⟨k + 1, by omega, by go_num, R.1, R.2⟩
   case measure => simp [intOf]; omega
  ·obtain rfl : k = n := by omega
   obtain ⟨g, cap, rfl, hcell⟩ := own_open hn0 hown
   clear hown
   go_wp2_with fail
   refine (made_any y g cap k _ rfl Hn.out _ hcell).mono ?_
   rintro e w' ⟨rfl, rfl⟩
   clear hcell
   go_wp2
   go_ret
   exact ⟨rfl, hb⟩
end Go.Proofs.Ytbkeneadoccodaa.Nm
/- Contracts of the document's own answers for layer 1: product, divided. -/
namespace Go.Proofs.Ytbkeneadoccodaa.Nm
open Go.RowKit
set_option linter.unusedVariables false
set_option maxRecDepth 100000 in
theorem wrn_zero (n : Nat) (hn : n = 32 ∨ n = 64) : wrn n 0 = 0 := by
 rcases hn with rfl | rfl <;> decide +kernel
set_option maxRecDepth 100000 in
theorem wrn_add (n : Nat) (hn : n = 32 ∨ n = 64) (x y : Int) : wrn n (wrn n x + wrn n y) = wrn n (x + y) := by
 rcases hn with rfl | rfl
 ·show wrap32 (wrap32 x + wrap32 y) = wrap32 (x + y); unfold wrap32; omega
 ·show wrap64 (wrap64 x + wrap64 y) = wrap64 (x + y); unfold wrap64; omega
set_option maxRecDepth 100000 in
theorem wrn_mul (n : Nat) (hn : n = 32 ∨ n = 64) (a b : Int) : wrn n (a * (b % 2 ^ n)) = wrn n (a * b) := by
 have h := Int.mul_ediv_add_emod b (2 ^ n)
 have e : a * (b % 2 ^ n) = a * b + 2 ^ n * (- (a * (b / 2 ^ n))) := by
  have : b % 2 ^ n = b - 2 ^ n * (b / 2 ^ n) := by omega
  rw [this, Int.mul_sub, Int.mul_neg, ← Int.mul_assoc, Int.mul_comm a (2 ^ n), Int.mul_assoc]
  omega
 rw [e]
 rcases hn with rfl | rfl
 ·exact wrap32_of _ _
 ·exact wrap64_of _ _
set_option maxHeartbeats 1000000 in
set_option maxRecDepth 100000 in
theorem product_any (a b N : Int) (n : Nat) (hN : N = n) (hn : n = 32 ∨ n = 64) (w : World) :
  Calls Try.prog 73 #[.int .i64 a, .int .i64 b, .int .i64 N] w fun e w' => e = .returned (.int .i64 (wrn n (a * b))) ∧ Below w.heap.size w w' := by
 subst hN
 have hn64 : n ≤ 64 := by omega
 have Hn := Lib.hid hn
 clear hn
 obtain ⟨B, HB⟩ : ∃ B, Hid (B = w.heap.size) := ⟨_, rfl⟩
 rw [← HB.out]
 go_enter Try.func73, Try.ntmps73
 go_wp2
 go_loopw [7, 8] (fun x i wr => ∃ k : Nat, k ≤ n ∧ i = .int .i64 k ∧ x = .int .i64 (wrn n (a * (b % 2 ^ k))) ∧ Below B w wr) (fun _ i _ => n - (intOf i).toNat)
 case atStart => exact ⟨0, by omega, rfl, by simp [wrn_zero n Hn.out], Below.refl _ _⟩
 case round =>
  obtain ⟨k, hk, rfl, rfl, hb⟩ := hrel
  have hBs : B ≤ wr.heap.size := by have := hb.size; rw [HB.out]; exact this
  by_cases hlt : k < n
  ·by_cases hbk : bit b k = 1
   ·have HP := Lib.hid (show wrn n (wrn n (a * (b % 2 ^ k)) + wrn n (a * 2 ^ k)) = wrn n (a * (b % 2 ^ (k + 1))) by rw [wrn_add n Hn.out, ← Int.mul_add, emod_pow_succ, hbk, Int.one_mul])
    go_wp2_with (first | (go_at_call 104; refine (bit_any _ _ k rfl (by omega) _).mono ?_; rintro e w' ⟨rfl, rfl⟩) | (go_at_call 75; refine (movedLeft_any _ _ _ k n rfl rfl Hn.out hlt _).mono ?_; rintro e w1 ⟨rfl, hb1⟩) | (go_at_call 72; refine (sum_any _ _ 0 _ n rfl Hn.out (by decide) _).mono ?_; rintro e w2 ⟨rfl, hb2⟩))
    go_roundw
    case rel => exact ⟨k + 1, by omega, by go_num, by rw [HP.out], (hb.trans (hb1.mono hBs)).trans (hb2.mono (Nat.le_trans hBs hb1.size))⟩
    case measure => simp [intOf]; omega
   ·have hbk : bit b k = 0 := by have := bit_01 b k; omega
    have HP := Lib.hid (show wrn n (a * (b % 2 ^ k)) = wrn n (a * (b % 2 ^ (k + 1))) by rw [emod_pow_succ, hbk, Int.zero_mul, Int.add_zero])
    go_wp2_with (first | (go_at_call 104; refine (bit_any _ _ k rfl (by omega) _).mono ?_; rintro e w' ⟨rfl, rfl⟩))
    go_roundw
    case rel => exact ⟨k + 1, by omega, by go_num, by rw [HP.out], hb⟩
    case measure => simp [intOf]; omega
  ·obtain rfl : k = n := by omega
   go_wp2
   go_ret
   exact ⟨by show Ending.returned (.int .i64 (wrn k (a * (b % 2 ^ k)))) = _; rw [wrn_mul k Hn.out], hb⟩
theorem div_top (X : Int) (j : Nat) : X / 2 ^ j = 2 * (X / 2 ^ (j + 1)) + X / 2 ^ j % 2 := by
 have hp := pow_pos j
 rw [Int.pow_succ, ← Int.ediv_ediv_of_nonneg (by omega)]
 omega
set_option maxRecDepth 100000 in
theorem div_yes (m t Y : Int) (hY : 0 < Y) (ht : 0 ≤ t ∧ t ≤ 1) (hge : Y ≤ m % Y * 2 + t) : (2 * m + t) / Y = m / Y * 2 + 1 ∧ (2 * m + t) % Y = m % Y * 2 + t - Y := by
 have h1 := Int.mul_ediv_add_emod m Y
 have h2 := Int.emod_lt_of_pos m hY
 have e : 2 * m + t = (m % Y * 2 + t - Y) + Y * (m / Y * 2 + 1) := by
  rw [Int.mul_add, Int.mul_one, ← Int.mul_assoc]; omega
 rw [e]
 constructor
 ·rw [Int.add_mul_ediv_left _ _ (by omega), Int.ediv_eq_zero_of_lt (by omega) (by omega), Int.zero_add]
 ·rw [Int.add_mul_emod_self_left, Int.emod_eq_of_lt (by omega) (by omega)]
set_option maxRecDepth 100000 in
theorem div_no (m t Y : Int) (hY : 0 < Y) (ht : 0 ≤ t ∧ t ≤ 1) (hge : m % Y * 2 + t < Y) : (2 * m + t) / Y = m / Y * 2 ∧ (2 * m + t) % Y = m % Y * 2 + t := by
 have h1 := Int.mul_ediv_add_emod m Y
 have h2 := Int.emod_nonneg m (show Y ≠ 0 by omega)
 have e : 2 * m + t = (m % Y * 2 + t) + Y * (m / Y * 2) := by
  rw [← Int.mul_assoc]; omega
 rw [e]
 constructor
 ·rw [Int.add_mul_ediv_left _ _ (by omega), Int.ediv_eq_zero_of_lt (by omega) (by omega), Int.zero_add]
 ·rw [Int.add_mul_emod_self_left, Int.emod_eq_of_lt (by omega) (by omega)]
set_option maxRecDepth 100000 in
theorem trunc (a b : Int) (hb : b ≠ 0) : (a < 0 ∧ b < 0 → a.tdiv b = a.natAbs / b.natAbs ∧ a.tmod b = -(a.natAbs % b.natAbs : Int)) ∧ (a < 0 ∧ ¬ b < 0 → a.tdiv b = -(a.natAbs / b.natAbs : Int) ∧ a.tmod b = -(a.natAbs % b.natAbs : Int))
  ∧ (¬ a < 0 ∧ b < 0 → a.tdiv b = -(a.natAbs / b.natAbs : Int) ∧ a.tmod b = a.natAbs % b.natAbs) ∧ (¬ a < 0 ∧ ¬ b < 0 → a.tdiv b = a.natAbs / b.natAbs ∧ a.tmod b = a.natAbs % b.natAbs) := by
 have p : ∀ x y : Int, 0 ≤ x → 0 ≤ y → x.tdiv y = x / y ∧ x.tmod y = x % y := fun x y hx hy => ⟨Int.tdiv_eq_ediv_of_nonneg hx, Int.tmod_eq_emod_of_nonneg hx⟩
 have na : ∀ x : Int, x < 0 → (x.natAbs : Int) = -x := fun x h => by omega
 have nb : ∀ x : Int, ¬ x < 0 → (x.natAbs : Int) = x := fun x h => by omega
 refine ⟨fun ⟨h1, h2⟩ => ?_, fun ⟨h1, h2⟩ => ?_, fun ⟨h1, h2⟩ => ?_, fun ⟨h1, h2⟩ => ?_⟩
 ·rw [na a h1, na b h2]
  have q := p (-a) (-b) (by omega) (by omega)
  rw [← q.1, ← q.2, Int.tdiv_neg, Int.neg_tdiv, Int.tmod_neg, Int.neg_tmod]
  omega
 ·rw [na a h1, nb b h2]
  have q := p (-a) b (by omega) (by omega)
  rw [← q.1, ← q.2, Int.neg_tdiv, Int.neg_tmod]
  omega
 ·rw [nb a h1, na b h2]
  have q := p a (-b) (by omega) (by omega)
  rw [← q.1, ← q.2, Int.tdiv_neg, Int.tmod_neg]
  omega
 ·rw [nb a h1, nb b h2]
  exact p a b (by omega) (by omega)
set_option maxRecDepth 100000 in
theorem ret2 {a b c d : Int} (h1 : a = c) (h2 : b = d) : Ending.returned (.tuple #[.int .i64 a, .int .i64 b]) = .returned (.tuple #[.int .i64 c, .int .i64 d]) := by rw [h1, h2]
set_option maxRecDepth 100000 in
theorem divided_0 (a N : Int) (w : World) :
  Calls Try.prog 74 #[.int .i64 a, .int .i64 0, .int .i64 N] w fun e w' => e = .returned (.tuple #[.int .i64 0, .int .i64 0]) ∧ Below w.heap.size w w' := by
 go_enter Try.func74, Try.ntmps74
 go_wp2
 go_ret2
 exact ⟨rfl, Below.refl _ _⟩
set_option maxRecDepth 100000 in
theorem divided_1 (a N : Int) (n : Nat) (hN : N = n) (hn : n = 32 ∨ n = 64) (ha : -9223372036854775808 ≤ a ∧ a ≤ 9223372036854775807) (w : World) :
  Calls Try.prog 74 #[.int .i64 a, .int .i64 (-1), .int .i64 N] w fun e w' => e = .returned (.tuple #[.int .i64 (wrn n (-a)), .int .i64 0]) ∧ Below w.heap.size w w' := by
 subst hN
 go_enter Try.func74, Try.ntmps74
 go_wp2_with fail
 refine (negative_any _ _ n rfl hn ha _).mono ?_
 rintro e w' ⟨rfl, hb⟩
 go_wp2
 go_ret2
 exact ⟨rfl, hb⟩
set_option maxHeartbeats 2000000 in
set_option maxRecDepth 100000 in
theorem divided_any (a b N : Int) (hb0 : b ≠ 0) (hb1 : b ≠ -1) (ha : -9223372036854775808 ≤ a ∧ a ≤ 9223372036854775807) (hb : -9223372036854775808 ≤ b ∧ b ≤ 9223372036854775807) (w : World) :
    Calls Try.prog 74 #[.int .i64 a, .int .i64 b, .int .i64 N] w fun e w' => e = .returned (.tuple #[.int .i64 (wrap64 (a.tdiv b)), .int .i64 (a.tmod b)]) ∧ w = w' := by
  obtain ⟨X, HX⟩ : ∃ X : Int, Hid (X = (a.natAbs : Int)) := ⟨_, rfl⟩
  obtain ⟨Y, HY⟩ : ∃ Y : Int, Hid (Y = (b.natAbs : Int)) := ⟨_, rfl⟩
  have hX : 0 ≤ X ∧ X ≤ 9223372036854775808 := by have := HX.out; omega
  have hY : 0 < Y ∧ Y ≤ 9223372036854775808 := by have := HY.out; omega
  have f0 : (b == 0) = false := by rw [beq_eq_false_iff_ne]; exact hb0
  have f1 : (b == -1) = false := by rw [beq_eq_false_iff_ne]; exact hb1
  go_enter Try.func74, Try.ntmps74
  go_wp2_with (go_at_call 107; refine (amount_any _ (by assumption) _).mono ?_; rintro e w' ⟨rfl, rfl⟩)
  rw [← HX.out, ← HY.out]
  go_loop [10, 11, 12] (fun Q R i => ∃ j : Nat, ∃ q r I : Int, j ≤ 64 ∧ Hid (I + 1 = j) ∧ i = .int .i64 I ∧ Q = .int .u64 q ∧ R = .int .u64 r ∧ Hid (q = X / 2 ^ j / Y ∧ r = X / 2 ^ j % Y) ∧ 0 ≤ q ∧ 0 ≤ r ∧ r < Y) (fun _ _ i => (intOf i + 1).toNat)
  case atStart =>
    have e : X / 2 ^ 64 = 0 := Int.ediv_eq_zero_of_lt (by omega) (by have : (2 : Int) ^ 64 = 18446744073709551616 := rfl
                                                                     omega)
    exact ⟨64, 0, 0, 63, by omega, rfl, rfl, rfl, rfl, ⟨by rw [e]; simp, by rw [e]; simp⟩, by omega, by omega, by omega⟩
  case round =>
    obtain ⟨j, q, r, I, hj, HI, rfl, rfl, rfl, HQ, hq, hr, hrY⟩ := hrel
    by_cases hj0 : j = 0
    · subst hj0
      obtain rfl : I = -1 := by have := HI.out; omega
      have HQ2 := Lib.hid (show q = X / Y ∧ r = X % Y by have := HQ.out; simpa using this)
      clear HQ HI
      have hr2 : r ≤ 9223372036854775807 := by omega
      have HT := Lib.hid (trunc a b hb0)
      have hqX : q ≤ 9223372036854775808 := by have := Int.ediv_le_self (a := X) Y hX.1; have := HQ2.out.1; omega
      by_cases sa : a < 0 <;> by_cases sb : b < 0
      · have HE := Lib.hid (HT.out.1 ⟨sa, sb⟩)
        clear HT
        go_wp2
        go_ret2
        refine ⟨?_, rfl⟩
        rw [HE.out.1, HE.out.2, ← HX.out, ← HY.out, ← HQ2.out.1, ← HQ2.out.2]
        refine ret2 ?_ ?_ <;> first | rfl | (simp; done) | (unfold wrap64; omega)
      · have HE := Lib.hid (HT.out.2.1 ⟨sa, sb⟩)
        clear HT
        go_wp2
        go_ret2
        refine ⟨?_, rfl⟩
        rw [HE.out.1, HE.out.2, ← HX.out, ← HY.out, ← HQ2.out.1, ← HQ2.out.2]
        refine ret2 ?_ ?_ <;> first | rfl | (simp; done) | (unfold wrap64; omega)
      · have HE := Lib.hid (HT.out.2.2.1 ⟨sa, sb⟩)
        clear HT
        go_wp2
        go_ret2
        refine ⟨?_, rfl⟩
        rw [HE.out.1, HE.out.2, ← HX.out, ← HY.out, ← HQ2.out.1, ← HQ2.out.2]
        refine ret2 ?_ ?_ <;> first | rfl | (simp; done) | (unfold wrap64; omega)
      · have HE := Lib.hid (HT.out.2.2.2 ⟨sa, sb⟩)
        clear HT
        go_wp2
        go_ret2
        refine ⟨?_, rfl⟩
        rw [HE.out.1, HE.out.2, ← HX.out, ← HY.out, ← HQ2.out.1, ← HQ2.out.2]
        refine ret2 ?_ ?_ <;> first | rfl | (simp; done) | (unfold wrap64; omega)
    · obtain ⟨i, rfl⟩ : ∃ i, j = i + 1 := ⟨j - 1, by omega⟩
      obtain rfl : I = i := by have := HI.out; omega
      have ht : 0 ≤ X / 2 ^ i % 2 ∧ X / 2 ^ i % 2 ≤ 1 := by omega
      have hq2 : q ≤ 4611686018427387904 := by
        have h1 : X / 2 ^ (i + 1) ≤ 4611686018427387904 := by
          have hp := pow_pos i
          rw [Int.pow_succ, Int.mul_comm, ← Int.ediv_ediv_of_nonneg (by omega)]
          have := Int.ediv_le_self (a := X / 2) (2 ^ i) (by omega)
          omega
        have h2 := Int.ediv_le_self (a := X / 2 ^ (i + 1)) Y (Int.ediv_nonneg (by omega) (by have := pow_pos (i + 1); omega))
        have := HQ.out.1
        omega
      have hm : 0 ≤ X / 2 ^ i := Int.ediv_nonneg (by omega) (by have := pow_pos i; omega)
      have hh : (r / 9223372036854775808 == 1) = false := by rw [beq_eq_false_iff_ne]; omega
      have HI2 := HI
      clear HI
      by_cases hge : Y ≤ r * 2 + X / 2 ^ i % 2
      · have HS := Lib.hid (show X / 2 ^ i / Y = q * 2 + 1 ∧ X / 2 ^ i % Y = r * 2 + X / 2 ^ i % 2 - Y by have h := div_yes (X / 2 ^ (i + 1)) (X / 2 ^ i % 2) Y hY.1 ht (by rw [← HQ.out.2]; exact hge); rw [← div_top X i, ← HQ.out.1, ← HQ.out.2] at h; exact h)
        go_wp2
        go_round
        case rel => exact ⟨i, _, _, (i : Int) - 1, by omega, (by show (i : Int) - 1 + 1 = i; omega), rfl, rfl, rfl, ⟨HS.out.1.symm, HS.out.2.symm⟩, by omega, by omega, by omega⟩
        case measure => simp [intOf]
      · have HS := Lib.hid (show X / 2 ^ i / Y = q * 2 ∧ X / 2 ^ i % Y = r * 2 + X / 2 ^ i % 2 by have h := div_no (X / 2 ^ (i + 1)) (X / 2 ^ i % 2) Y hY.1 ht (by rw [← HQ.out.2]; omega); rw [← div_top X i, ← HQ.out.1, ← HQ.out.2] at h; exact h)
        go_wp2
        go_round
        case rel => exact ⟨i, _, _, (i : Int) - 1, by omega, (by show (i : Int) - 1 + 1 = i; omega), rfl, rfl, rfl, ⟨HS.out.1.symm, HS.out.2.symm⟩, by omega, by omega, by omega⟩
        case measure => simp [intOf]
end Go.Proofs.Ytbkeneadoccodaa.Nm
/- Contracts of the document's own answers for layer 1: Make. -/
namespace Go.Proofs.Ytbkeneadoccodaa.Nm
open Go.RowKit
set_option linter.unusedVariables false
set_option maxRecDepth 100000 in
theorem and31w (n : Int) : bits .and .i64 n 31 = n % 32 := and_mask .i64 n 5 31 (by decide) (by intro x h0 h1; rw [IntKind.wrap_i64]; omega) (by decide)
set_option maxRecDepth 100000 in
theorem and63w (n : Int) : bits .and .i64 n 63 = n % 64 := and63 n
set_option maxRecDepth 100000 in
theorem wrn32 (x : Int) : wrn 32 x = wrap32 x := rfl
set_option maxRecDepth 100000 in
theorem wrn64 (x : Int) : wrn 64 x = wrap64 x := rfl
set_option maxRecDepth 100000 in
theorem tdiv_in (a b : Int) (hb0 : b ≠ 0) (hb1 : b ≠ -1) (ha : -2147483648 ≤ a ∧ a ≤ 2147483647) : -2147483648 ≤ a.tdiv b ∧ a.tdiv b ≤ 2147483647 := by
 have key : ∀ x y : Int, 0 ≤ x → 0 ≤ y → 0 ≤ x / y ∧ x / y ≤ x ∧ (2 ≤ y → x / y ≤ x / 2) := fun x y hx hy =>
  ⟨Int.ediv_nonneg hx hy, Int.ediv_le_self _ hx, fun h2 => by
   refine Int.le_of_lt_add_one (Int.ediv_lt_of_lt_mul (by omega) ?_)
   have h3 : x < 2 * (x / 2 + 1) := by omega
   have h4 : 2 * (x / 2 + 1) ≤ y * (x / 2 + 1) := Int.mul_le_mul_of_nonneg_right h2 (by omega)
   rw [Int.mul_comm y] at h4
   omega⟩
 obtain ⟨h1, h2, h3, h4⟩ := trunc a b hb0
 have hk := key (a.natAbs : Int) (b.natAbs : Int) (by omega) (by omega)
 by_cases sa : a < 0 <;> by_cases sb : b < 0
 ·rw [(h1 ⟨sa, sb⟩).1]; have := hk.2.2 (by omega); omega
 ·rw [(h2 ⟨sa, sb⟩).1]; omega
 ·rw [(h3 ⟨sa, sb⟩).1]; omega
 ·rw [(h4 ⟨sa, sb⟩).1]; omega
set_option maxRecDepth 100000 in
theorem bits_false (w : World) : Calls Try.prog 71 #[.bool false] w fun e w' => e = .returned (.int .i64 32) ∧ w = w' := by
 go_enter Try.func71, Try.ntmps71
 go_wp2
 go_ret
 exact ⟨rfl, rfl⟩
set_option maxRecDepth 100000 in
theorem bits_true (w : World) : Calls Try.prog 71 #[.bool true] w fun e w' => e = .returned (.int .i64 64) ∧ w = w' := by
 go_enter Try.func71, Try.ntmps71
 go_wp2
 go_ret
 exact ⟨rfl, rfl⟩
set_option maxRecDepth 100000 in
theorem make32_96 (a b : Int) (ha : -2147483648 ≤ a ∧ a ≤ 2147483647) (hb : -2147483648 ≤ b ∧ b ≤ 2147483647) (w : World) :
  Calls Try.prog 34 #[.int .i64 96, .int .i64 a, .int .i64 b, .bool false] w fun e w' => e = .returned (.int .i64 (opI 96 a b)) ∧ Below w.heap.size w w' := by
 have hm := and31w b
 have HG := Lib.hid (show opI 96 a b = wrn 32 (a + b) by rw [wrn32]; rfl)
 go_enter Try.func34, Try.ntmps34
 go_wp2_with (first | (go_at_call 71; refine (bits_false _).mono ?_; rintro e w' ⟨rfl, rfl⟩) | (go_at_call 72; refine (sum_any _ _ 0 _ 32 rfl (by decide) (by decide) _).mono ?_; rintro e w' ⟨rfl, h1⟩))
 go_ret
 exact ⟨by rw [HG.out]; rfl, h1⟩
set_option maxRecDepth 100000 in
theorem make32_100 (a b : Int) (ha : -2147483648 ≤ a ∧ a ≤ 2147483647) (hb : -2147483648 ≤ b ∧ b ≤ 2147483647) (w : World) :
  Calls Try.prog 34 #[.int .i64 100, .int .i64 a, .int .i64 b, .bool false] w fun e w' => e = .returned (.int .i64 (opI 100 a b)) ∧ Below w.heap.size w w' := by
 have hm := and31w b
 have hnb := not_i64 b (by omega)
 have HG := Lib.hid (show opI 100 a b = wrn 32 (a + (-1 - b) + 1) by show wrap32 (a - b) = wrap32 _; congr 1; omega)
 go_enter Try.func34, Try.ntmps34
 go_wp2_with (first | (go_at_call 71; refine (bits_false _).mono ?_; rintro e w' ⟨rfl, rfl⟩) | (go_at_call 72; refine (sum_any _ _ 1 _ 32 rfl (by decide) (by decide) _).mono ?_; rintro e w' ⟨rfl, h1⟩))
 go_ret
 exact ⟨by rw [HG.out]; rfl, h1⟩
set_option maxRecDepth 100000 in
theorem make32_104 (a b : Int) (ha : -2147483648 ≤ a ∧ a ≤ 2147483647) (hb : -2147483648 ≤ b ∧ b ≤ 2147483647) (w : World) :
  Calls Try.prog 34 #[.int .i64 104, .int .i64 a, .int .i64 b, .bool false] w fun e w' => e = .returned (.int .i64 (opI 104 a b)) ∧ Below w.heap.size w w' := by
 have hm := and31w b
 have HG := Lib.hid (show opI 104 a b = wrn 32 (a * b) by rw [wrn32]; rfl)
 go_enter Try.func34, Try.ntmps34
 go_wp2_with (first | (go_at_call 71; refine (bits_false _).mono ?_; rintro e w' ⟨rfl, rfl⟩) | (go_at_call 73; refine (product_any _ _ _ 32 rfl (by decide) _).mono ?_; rintro e w' ⟨rfl, h1⟩))
 go_ret
 exact ⟨by rw [HG.out]; rfl, h1⟩
set_option maxRecDepth 100000 in
theorem make32_120 (a b : Int) (ha : -2147483648 ≤ a ∧ a ≤ 2147483647) (hb : -2147483648 ≤ b ∧ b ≤ 2147483647) (w : World) :
  Calls Try.prog 34 #[.int .i64 120, .int .i64 a, .int .i64 b, .bool false] w fun e w' => e = .returned (.int .i64 (opI 120 a b)) ∧ Below w.heap.size w w' := by
 have hm := and31w b
 have HG := Lib.hid (show opI 120 a b = wrn 32 (a * 2 ^ (b % 32).toNat) by rw [wrn32]; rfl)
 go_enter Try.func34, Try.ntmps34
 go_wp2_with (first | (go_at_call 71; refine (bits_false _).mono ?_; rintro e w' ⟨rfl, rfl⟩) | (go_at_call 75; refine (movedLeft_any _ _ _ (b % 32).toNat 32 (by omega) rfl (by decide) (by omega) _).mono ?_; rintro e w' ⟨rfl, h1⟩))
 go_ret
 exact ⟨by rw [HG.out]; rfl, h1⟩
set_option maxRecDepth 100000 in
theorem make32_122 (a b : Int) (ha : -2147483648 ≤ a ∧ a ≤ 2147483647) (hb : -2147483648 ≤ b ∧ b ≤ 2147483647) (w : World) :
  Calls Try.prog 34 #[.int .i64 122, .int .i64 a, .int .i64 b, .bool false] w fun e w' => e = .returned (.int .i64 (opI 122 a b)) ∧ Below w.heap.size w w' := by
 have hm := and31w b
 have HG := Lib.hid (show opI 122 a b = wrn 32 (a / 2 ^ (b % 32).toNat) by exact (wrap32_id (ediv_pow_in _ ha (by omega) (by omega))).symm)
 go_enter Try.func34, Try.ntmps34
 go_wp2_with (first | (go_at_call 71; refine (bits_false _).mono ?_; rintro e w' ⟨rfl, rfl⟩) | (go_at_call 75; refine (movedRight_any _ _ _ (b % 32).toNat 32 (by omega) rfl (by decide) (by omega) (by simp; omega) _).mono ?_; rintro e w' ⟨rfl, h1⟩))
 go_ret
 exact ⟨by rw [HG.out]; rfl, h1⟩
set_option maxRecDepth 100000 in
theorem make32_124 (a b : Int) (ha : -2147483648 ≤ a ∧ a ≤ 2147483647) (hb : -2147483648 ≤ b ∧ b ≤ 2147483647) (w : World) :
  Calls Try.prog 34 #[.int .i64 124, .int .i64 a, .int .i64 b, .bool false] w fun e w' => e = .returned (.int .i64 (opI 124 a b)) ∧ Below w.heap.size w w' := by
 have hm := and31w b
 have HG := Lib.hid (show opI 124 a b = wrn 32 (a % 2 ^ 32 / 2 ^ (b % 32).toNat) by rw [wrn32]; rfl)
 go_enter Try.func34, Try.ntmps34
 go_wp2_with (first | (go_at_call 71; refine (bits_false _).mono ?_; rintro e w' ⟨rfl, rfl⟩) | (go_at_call 75; refine (movedZero_any _ _ _ (b % 32).toNat 32 (by omega) rfl (by decide) (by omega) _).mono ?_; rintro e w' ⟨rfl, h1⟩))
 go_ret
 exact ⟨by rw [HG.out]; rfl, h1⟩
set_option maxRecDepth 100000 in
theorem make32_126 (a b : Int) (ha : -2147483648 ≤ a ∧ a ≤ 2147483647) (hb : -2147483648 ≤ b ∧ b ≤ 2147483647) (w : World) :
  Calls Try.prog 34 #[.int .i64 126, .int .i64 a, .int .i64 b, .bool false] w fun e w' => e = .returned (.int .i64 (opI 126 a b)) ∧ Below w.heap.size w w' := by
 have hm := and31w b
 have HG := Lib.hid (show opI 126 a b = wrn 32 (bits .and .i32 a b) by show bits .and .i32 a b = _; exact (wrap32_id (bits32_in _ a b)).symm)
 go_enter Try.func34, Try.ntmps34
 go_wp2_with (first | (go_at_call 71; refine (bits_false _).mono ?_; rintro e w' ⟨rfl, rfl⟩) | (go_at_call 76; refine (logic_and _ _ _ .i32 32 rfl rfl (by decide) _).mono ?_; rintro e w' ⟨rfl, h1⟩))
 go_ret
 exact ⟨by rw [HG.out]; rfl, h1⟩
set_option maxRecDepth 100000 in
theorem make32_128 (a b : Int) (ha : -2147483648 ≤ a ∧ a ≤ 2147483647) (hb : -2147483648 ≤ b ∧ b ≤ 2147483647) (w : World) :
  Calls Try.prog 34 #[.int .i64 128, .int .i64 a, .int .i64 b, .bool false] w fun e w' => e = .returned (.int .i64 (opI 128 a b)) ∧ Below w.heap.size w w' := by
 have hm := and31w b
 have HG := Lib.hid (show opI 128 a b = wrn 32 (bits .or .i32 a b) by show bits .or .i32 a b = _; exact (wrap32_id (bits32_in _ a b)).symm)
 go_enter Try.func34, Try.ntmps34
 go_wp2_with (first | (go_at_call 71; refine (bits_false _).mono ?_; rintro e w' ⟨rfl, rfl⟩) | (go_at_call 76; refine (logic_or _ _ _ .i32 32 rfl rfl (by decide) _).mono ?_; rintro e w' ⟨rfl, h1⟩))
 go_ret
 exact ⟨by rw [HG.out]; rfl, h1⟩
set_option maxRecDepth 100000 in
theorem make32_130 (a b : Int) (ha : -2147483648 ≤ a ∧ a ≤ 2147483647) (hb : -2147483648 ≤ b ∧ b ≤ 2147483647) (w : World) :
  Calls Try.prog 34 #[.int .i64 130, .int .i64 a, .int .i64 b, .bool false] w fun e w' => e = .returned (.int .i64 (opI 130 a b)) ∧ Below w.heap.size w w' := by
 have hm := and31w b
 have HG := Lib.hid (show opI 130 a b = wrn 32 (bits .xor .i32 a b) by show bits .xor .i32 a b = _; exact (wrap32_id (bits32_in _ a b)).symm)
 go_enter Try.func34, Try.ntmps34
 go_wp2_with (first | (go_at_call 71; refine (bits_false _).mono ?_; rintro e w' ⟨rfl, rfl⟩) | (go_at_call 76; refine (logic_xor _ _ _ .i32 32 rfl rfl (by decide) _).mono ?_; rintro e w' ⟨rfl, h1⟩))
 go_ret
 exact ⟨by rw [HG.out]; rfl, h1⟩
set_option maxRecDepth 100000 in
theorem make32_108 (a b : Int) (ha : -2147483648 ≤ a ∧ a ≤ 2147483647) (hb : -2147483648 ≤ b ∧ b ≤ 2147483647) (w : World) :
  Calls Try.prog 34 #[.int .i64 108, .int .i64 a, .int .i64 b, .bool false] w fun e w' => e = .returned (.int .i64 (opI 108 a b)) ∧ Below w.heap.size w w' := by
 have hm := and31w b
 by_cases hb0 : b = 0
 ·subst hb0
  go_enter Try.func34, Try.ntmps34
  go_wp2_with (first | (go_at_call 71; refine (bits_false _).mono ?_; rintro e w' ⟨rfl, rfl⟩) | (go_at_call 74; refine (divided_0 _ _ _).mono ?_; rintro e w' ⟨rfl, h1⟩))
  go_ret
  exact ⟨rfl, h1⟩
 by_cases hb1 : b = -1
 ·subst hb1
  have HG := Lib.hid (show opI 108 a (-1) = wrn 32 (-a) by show wrap32 (a.tdiv (-1)) = wrap32 (-a); rw [Int.tdiv_neg, Int.tdiv_one])
  go_enter Try.func34, Try.ntmps34
  go_wp2_with (first | (go_at_call 71; refine (bits_false _).mono ?_; rintro e w' ⟨rfl, rfl⟩) | (go_at_call 74; refine (divided_1 _ _ 32 rfl (by decide) (by omega) _).mono ?_; rintro e w' ⟨rfl, h1⟩))
  go_ret
  exact ⟨by rw [HG.out]; rfl, h1⟩
 have HG := Lib.hid (show opI 108 a b = wrap64 (a.tdiv b) by rw [show opI 108 a b = wrap32 (a.tdiv b) from if_neg hb0]; rw [wrap32_id (tdiv_in a b hb0 hb1 ha), wrap64_id (by have := tdiv_in a b hb0 hb1 ha; omega)])
 go_enter Try.func34, Try.ntmps34
 go_wp2_with (first | (go_at_call 71; refine (bits_false _).mono ?_; rintro e w' ⟨rfl, rfl⟩) | (go_at_call 74; refine (divided_any _ _ _ hb0 hb1 (by omega) (by omega) _).mono ?_; rintro e w' ⟨rfl, rfl⟩))
 go_ret
 exact ⟨by rw [HG.out]; rfl, Below.refl _ _⟩
set_option maxRecDepth 100000 in
theorem make32_112 (a b : Int) (ha : -2147483648 ≤ a ∧ a ≤ 2147483647) (hb : -2147483648 ≤ b ∧ b ≤ 2147483647) (w : World) :
  Calls Try.prog 34 #[.int .i64 112, .int .i64 a, .int .i64 b, .bool false] w fun e w' => e = .returned (.int .i64 (opI 112 a b)) ∧ Below w.heap.size w w' := by
 have hm := and31w b
 by_cases hb0 : b = 0
 ·subst hb0
  go_enter Try.func34, Try.ntmps34
  go_wp2_with (first | (go_at_call 71; refine (bits_false _).mono ?_; rintro e w' ⟨rfl, rfl⟩) | (go_at_call 74; refine (divided_0 _ _ _).mono ?_; rintro e w' ⟨rfl, h1⟩))
  go_ret
  exact ⟨rfl, h1⟩
 by_cases hb1 : b = -1
 ·subst hb1
  have HG := Lib.hid (show opI 112 a (-1) = 0 by show a.tmod (-1) = 0; rw [Int.tmod_neg, Int.tmod_one])
  go_enter Try.func34, Try.ntmps34
  go_wp2_with (first | (go_at_call 71; refine (bits_false _).mono ?_; rintro e w' ⟨rfl, rfl⟩) | (go_at_call 74; refine (divided_1 _ _ 32 rfl (by decide) (by omega) _).mono ?_; rintro e w' ⟨rfl, h1⟩))
  go_ret
  exact ⟨by rw [HG.out]; rfl, h1⟩
 have HG := Lib.hid (show opI 112 a b = a.tmod b by exact if_neg hb0)
 go_enter Try.func34, Try.ntmps34
 go_wp2_with (first | (go_at_call 71; refine (bits_false _).mono ?_; rintro e w' ⟨rfl, rfl⟩) | (go_at_call 74; refine (divided_any _ _ _ hb0 hb1 (by omega) (by omega) _).mono ?_; rintro e w' ⟨rfl, rfl⟩))
 go_ret
 exact ⟨by rw [HG.out]; rfl, Below.refl _ _⟩
set_option maxRecDepth 100000 in
theorem make32_any (c a b : Int) (ha : -2147483648 ≤ a ∧ a ≤ 2147483647) (hb : -2147483648 ≤ b ∧ b ≤ 2147483647) (w : World) :
  Calls Try.prog 34 #[.int .i64 c, .int .i64 a, .int .i64 b, .bool false] w fun e w' => e = .returned (.int .i64 (opI (c) a b)) ∧ Below w.heap.size w w' := by
 by_cases h96 : c = 96
 ·subst h96; exact make32_96 a b ha hb w
 by_cases h100 : c = 100
 ·subst h100; exact make32_100 a b ha hb w
 by_cases h104 : c = 104
 ·subst h104; exact make32_104 a b ha hb w
 by_cases h108 : c = 108
 ·subst h108; exact make32_108 a b ha hb w
 by_cases h112 : c = 112
 ·subst h112; exact make32_112 a b ha hb w
 by_cases h120 : c = 120
 ·subst h120; exact make32_120 a b ha hb w
 by_cases h122 : c = 122
 ·subst h122; exact make32_122 a b ha hb w
 by_cases h124 : c = 124
 ·subst h124; exact make32_124 a b ha hb w
 by_cases h126 : c = 126
 ·subst h126; exact make32_126 a b ha hb w
 by_cases h128 : c = 128
 ·subst h128; exact make32_128 a b ha hb w
 by_cases h130 : c = 130
 ·subst h130; exact make32_130 a b ha hb w
 have HG := Lib.hid (show opI (c) a b = 0 by unfold opI cmpI; simp [*]; done)
 have hm := and31w b
 go_enter Try.func34, Try.ntmps34
 go_wp2_with (first | (go_at_call 71; refine (bits_false _).mono ?_; rintro e w' ⟨rfl, rfl⟩))
 go_ret
 exact ⟨by rw [HG.out]; rfl, Below.refl _ _⟩
set_option maxRecDepth 100000 in
theorem make64_96 (a b : Int) (ha : -9223372036854775808 ≤ a ∧ a ≤ 9223372036854775807) (hb : -9223372036854775808 ≤ b ∧ b ≤ 9223372036854775807) (w : World) :
  Calls Try.prog 34 #[.int .i64 96, .int .i64 a, .int .i64 b, .bool true] w fun e w' => e = .returned (.int .i64 (opL 97 a b)) ∧ Below w.heap.size w w' := by
 have hm := and63w b
 have HG := Lib.hid (show opL 97 a b = wrn 64 (a + b) by rw [wrn64]; rfl)
 go_enter Try.func34, Try.ntmps34
 go_wp2_with (first | (go_at_call 71; refine (bits_true _).mono ?_; rintro e w' ⟨rfl, rfl⟩) | (go_at_call 72; refine (sum_any _ _ 0 _ 64 rfl (by decide) (by decide) _).mono ?_; rintro e w' ⟨rfl, h1⟩))
 go_ret
 exact ⟨by rw [HG.out]; rfl, h1⟩
set_option maxRecDepth 100000 in
theorem make64_100 (a b : Int) (ha : -9223372036854775808 ≤ a ∧ a ≤ 9223372036854775807) (hb : -9223372036854775808 ≤ b ∧ b ≤ 9223372036854775807) (w : World) :
  Calls Try.prog 34 #[.int .i64 100, .int .i64 a, .int .i64 b, .bool true] w fun e w' => e = .returned (.int .i64 (opL 101 a b)) ∧ Below w.heap.size w w' := by
 have hm := and63w b
 have hnb := not_i64 b (by omega)
 have HG := Lib.hid (show opL 101 a b = wrn 64 (a + (-1 - b) + 1) by show wrap64 (a - b) = wrap64 _; congr 1; omega)
 go_enter Try.func34, Try.ntmps34
 go_wp2_with (first | (go_at_call 71; refine (bits_true _).mono ?_; rintro e w' ⟨rfl, rfl⟩) | (go_at_call 72; refine (sum_any _ _ 1 _ 64 rfl (by decide) (by decide) _).mono ?_; rintro e w' ⟨rfl, h1⟩))
 go_ret
 exact ⟨by rw [HG.out]; rfl, h1⟩
set_option maxRecDepth 100000 in
theorem make64_104 (a b : Int) (ha : -9223372036854775808 ≤ a ∧ a ≤ 9223372036854775807) (hb : -9223372036854775808 ≤ b ∧ b ≤ 9223372036854775807) (w : World) :
  Calls Try.prog 34 #[.int .i64 104, .int .i64 a, .int .i64 b, .bool true] w fun e w' => e = .returned (.int .i64 (opL 105 a b)) ∧ Below w.heap.size w w' := by
 have hm := and63w b
 have HG := Lib.hid (show opL 105 a b = wrn 64 (a * b) by rw [wrn64]; rfl)
 go_enter Try.func34, Try.ntmps34
 go_wp2_with (first | (go_at_call 71; refine (bits_true _).mono ?_; rintro e w' ⟨rfl, rfl⟩) | (go_at_call 73; refine (product_any _ _ _ 64 rfl (by decide) _).mono ?_; rintro e w' ⟨rfl, h1⟩))
 go_ret
 exact ⟨by rw [HG.out]; rfl, h1⟩
set_option maxRecDepth 100000 in
theorem make64_120 (a b : Int) (ha : -9223372036854775808 ≤ a ∧ a ≤ 9223372036854775807) (hb : -9223372036854775808 ≤ b ∧ b ≤ 9223372036854775807) (w : World) :
  Calls Try.prog 34 #[.int .i64 120, .int .i64 a, .int .i64 b, .bool true] w fun e w' => e = .returned (.int .i64 (opL 121 a b)) ∧ Below w.heap.size w w' := by
 have hm := and63w b
 have HG := Lib.hid (show opL 121 a b = wrn 64 (a * 2 ^ (b % 64).toNat) by rw [wrn64]; rfl)
 go_enter Try.func34, Try.ntmps34
 go_wp2_with (first | (go_at_call 71; refine (bits_true _).mono ?_; rintro e w' ⟨rfl, rfl⟩) | (go_at_call 75; refine (movedLeft_any _ _ _ (b % 64).toNat 64 (by omega) rfl (by decide) (by omega) _).mono ?_; rintro e w' ⟨rfl, h1⟩))
 go_ret
 exact ⟨by rw [HG.out]; rfl, h1⟩
set_option maxRecDepth 100000 in
theorem make64_122 (a b : Int) (ha : -9223372036854775808 ≤ a ∧ a ≤ 9223372036854775807) (hb : -9223372036854775808 ≤ b ∧ b ≤ 9223372036854775807) (w : World) :
  Calls Try.prog 34 #[.int .i64 122, .int .i64 a, .int .i64 b, .bool true] w fun e w' => e = .returned (.int .i64 (opL 123 a b)) ∧ Below w.heap.size w w' := by
 have hm := and63w b
 have HG := Lib.hid (show opL 123 a b = wrn 64 (a / 2 ^ (b % 64).toNat) by exact (wrap64_id (ediv_pow_in _ ha (by omega) (by omega))).symm)
 go_enter Try.func34, Try.ntmps34
 go_wp2_with (first | (go_at_call 71; refine (bits_true _).mono ?_; rintro e w' ⟨rfl, rfl⟩) | (go_at_call 75; refine (movedRight_any _ _ _ (b % 64).toNat 64 (by omega) rfl (by decide) (by omega) (by simp; omega) _).mono ?_; rintro e w' ⟨rfl, h1⟩))
 go_ret
 exact ⟨by rw [HG.out]; rfl, h1⟩
set_option maxRecDepth 100000 in
theorem make64_124 (a b : Int) (ha : -9223372036854775808 ≤ a ∧ a ≤ 9223372036854775807) (hb : -9223372036854775808 ≤ b ∧ b ≤ 9223372036854775807) (w : World) :
  Calls Try.prog 34 #[.int .i64 124, .int .i64 a, .int .i64 b, .bool true] w fun e w' => e = .returned (.int .i64 (opL 125 a b)) ∧ Below w.heap.size w w' := by
 have hm := and63w b
 have HG := Lib.hid (show opL 125 a b = wrn 64 (a % 2 ^ 64 / 2 ^ (b % 64).toNat) by rw [wrn64]; rfl)
 go_enter Try.func34, Try.ntmps34
 go_wp2_with (first | (go_at_call 71; refine (bits_true _).mono ?_; rintro e w' ⟨rfl, rfl⟩) | (go_at_call 75; refine (movedZero_any _ _ _ (b % 64).toNat 64 (by omega) rfl (by decide) (by omega) _).mono ?_; rintro e w' ⟨rfl, h1⟩))
 go_ret
 exact ⟨by rw [HG.out]; rfl, h1⟩
set_option maxRecDepth 100000 in
theorem make64_126 (a b : Int) (ha : -9223372036854775808 ≤ a ∧ a ≤ 9223372036854775807) (hb : -9223372036854775808 ≤ b ∧ b ≤ 9223372036854775807) (w : World) :
  Calls Try.prog 34 #[.int .i64 126, .int .i64 a, .int .i64 b, .bool true] w fun e w' => e = .returned (.int .i64 (opL 127 a b)) ∧ Below w.heap.size w w' := by
 have hm := and63w b
 have HG := Lib.hid (show opL 127 a b = wrn 64 (bits .and .i64 a b) by show bits .and .i64 a b = _; exact (wrap64_id (bits64_in _ a b)).symm)
 go_enter Try.func34, Try.ntmps34
 go_wp2_with (first | (go_at_call 71; refine (bits_true _).mono ?_; rintro e w' ⟨rfl, rfl⟩) | (go_at_call 76; refine (logic_and _ _ _ .i64 64 rfl rfl (by decide) _).mono ?_; rintro e w' ⟨rfl, h1⟩))
 go_ret
 exact ⟨by rw [HG.out]; rfl, h1⟩
set_option maxRecDepth 100000 in
theorem make64_128 (a b : Int) (ha : -9223372036854775808 ≤ a ∧ a ≤ 9223372036854775807) (hb : -9223372036854775808 ≤ b ∧ b ≤ 9223372036854775807) (w : World) :
  Calls Try.prog 34 #[.int .i64 128, .int .i64 a, .int .i64 b, .bool true] w fun e w' => e = .returned (.int .i64 (opL 129 a b)) ∧ Below w.heap.size w w' := by
 have hm := and63w b
 have HG := Lib.hid (show opL 129 a b = wrn 64 (bits .or .i64 a b) by show bits .or .i64 a b = _; exact (wrap64_id (bits64_in _ a b)).symm)
 go_enter Try.func34, Try.ntmps34
 go_wp2_with (first | (go_at_call 71; refine (bits_true _).mono ?_; rintro e w' ⟨rfl, rfl⟩) | (go_at_call 76; refine (logic_or _ _ _ .i64 64 rfl rfl (by decide) _).mono ?_; rintro e w' ⟨rfl, h1⟩))
 go_ret
 exact ⟨by rw [HG.out]; rfl, h1⟩
set_option maxRecDepth 100000 in
theorem make64_130 (a b : Int) (ha : -9223372036854775808 ≤ a ∧ a ≤ 9223372036854775807) (hb : -9223372036854775808 ≤ b ∧ b ≤ 9223372036854775807) (w : World) :
  Calls Try.prog 34 #[.int .i64 130, .int .i64 a, .int .i64 b, .bool true] w fun e w' => e = .returned (.int .i64 (opL 131 a b)) ∧ Below w.heap.size w w' := by
 have hm := and63w b
 have HG := Lib.hid (show opL 131 a b = wrn 64 (bits .xor .i64 a b) by show bits .xor .i64 a b = _; exact (wrap64_id (bits64_in _ a b)).symm)
 go_enter Try.func34, Try.ntmps34
 go_wp2_with (first | (go_at_call 71; refine (bits_true _).mono ?_; rintro e w' ⟨rfl, rfl⟩) | (go_at_call 76; refine (logic_xor _ _ _ .i64 64 rfl rfl (by decide) _).mono ?_; rintro e w' ⟨rfl, h1⟩))
 go_ret
 exact ⟨by rw [HG.out]; rfl, h1⟩
set_option maxRecDepth 100000 in
theorem make64_108 (a b : Int) (ha : -9223372036854775808 ≤ a ∧ a ≤ 9223372036854775807) (hb : -9223372036854775808 ≤ b ∧ b ≤ 9223372036854775807) (w : World) :
  Calls Try.prog 34 #[.int .i64 108, .int .i64 a, .int .i64 b, .bool true] w fun e w' => e = .returned (.int .i64 (opL 109 a b)) ∧ Below w.heap.size w w' := by
 have hm := and63w b
 by_cases hb0 : b = 0
 ·subst hb0
  go_enter Try.func34, Try.ntmps34
  go_wp2_with (first | (go_at_call 71; refine (bits_true _).mono ?_; rintro e w' ⟨rfl, rfl⟩) | (go_at_call 74; refine (divided_0 _ _ _).mono ?_; rintro e w' ⟨rfl, h1⟩))
  go_ret
  exact ⟨rfl, h1⟩
 by_cases hb1 : b = -1
 ·subst hb1
  have HG := Lib.hid (show opL 109 a (-1) = wrn 64 (-a) by show wrap64 (a.tdiv (-1)) = wrap64 (-a); rw [Int.tdiv_neg, Int.tdiv_one])
  go_enter Try.func34, Try.ntmps34
  go_wp2_with (first | (go_at_call 71; refine (bits_true _).mono ?_; rintro e w' ⟨rfl, rfl⟩) | (go_at_call 74; refine (divided_1 _ _ 64 rfl (by decide) (by omega) _).mono ?_; rintro e w' ⟨rfl, h1⟩))
  go_ret
  exact ⟨by rw [HG.out]; rfl, h1⟩
 have HG := Lib.hid (show opL 109 a b = wrap64 (a.tdiv b) by rw [show opL 109 a b = wrap64 (a.tdiv b) from if_neg hb0])
 go_enter Try.func34, Try.ntmps34
 go_wp2_with (first | (go_at_call 71; refine (bits_true _).mono ?_; rintro e w' ⟨rfl, rfl⟩) | (go_at_call 74; refine (divided_any _ _ _ hb0 hb1 (by omega) (by omega) _).mono ?_; rintro e w' ⟨rfl, rfl⟩))
 go_ret
 exact ⟨by rw [HG.out]; rfl, Below.refl _ _⟩
set_option maxRecDepth 100000 in
theorem make64_112 (a b : Int) (ha : -9223372036854775808 ≤ a ∧ a ≤ 9223372036854775807) (hb : -9223372036854775808 ≤ b ∧ b ≤ 9223372036854775807) (w : World) :
  Calls Try.prog 34 #[.int .i64 112, .int .i64 a, .int .i64 b, .bool true] w fun e w' => e = .returned (.int .i64 (opL 113 a b)) ∧ Below w.heap.size w w' := by
 have hm := and63w b
 by_cases hb0 : b = 0
 ·subst hb0
  go_enter Try.func34, Try.ntmps34
  go_wp2_with (first | (go_at_call 71; refine (bits_true _).mono ?_; rintro e w' ⟨rfl, rfl⟩) | (go_at_call 74; refine (divided_0 _ _ _).mono ?_; rintro e w' ⟨rfl, h1⟩))
  go_ret
  exact ⟨rfl, h1⟩
 by_cases hb1 : b = -1
 ·subst hb1
  have HG := Lib.hid (show opL 113 a (-1) = 0 by show a.tmod (-1) = 0; rw [Int.tmod_neg, Int.tmod_one])
  go_enter Try.func34, Try.ntmps34
  go_wp2_with (first | (go_at_call 71; refine (bits_true _).mono ?_; rintro e w' ⟨rfl, rfl⟩) | (go_at_call 74; refine (divided_1 _ _ 64 rfl (by decide) (by omega) _).mono ?_; rintro e w' ⟨rfl, h1⟩))
  go_ret
  exact ⟨by rw [HG.out]; rfl, h1⟩
 have HG := Lib.hid (show opL 113 a b = a.tmod b by exact if_neg hb0)
 go_enter Try.func34, Try.ntmps34
 go_wp2_with (first | (go_at_call 71; refine (bits_true _).mono ?_; rintro e w' ⟨rfl, rfl⟩) | (go_at_call 74; refine (divided_any _ _ _ hb0 hb1 (by omega) (by omega) _).mono ?_; rintro e w' ⟨rfl, rfl⟩))
 go_ret
 exact ⟨by rw [HG.out]; rfl, Below.refl _ _⟩
set_option maxRecDepth 100000 in
theorem make64_any (c a b : Int) (he : c % 2 = 0) (ha : -9223372036854775808 ≤ a ∧ a ≤ 9223372036854775807) (hb : -9223372036854775808 ≤ b ∧ b ≤ 9223372036854775807) (w : World) :
  Calls Try.prog 34 #[.int .i64 c, .int .i64 a, .int .i64 b, .bool true] w fun e w' => e = .returned (.int .i64 (opL (c + 1) a b)) ∧ Below w.heap.size w w' := by
 by_cases h96 : c = 96
 ·subst h96; exact make64_96 a b ha hb w
 by_cases h100 : c = 100
 ·subst h100; exact make64_100 a b ha hb w
 by_cases h104 : c = 104
 ·subst h104; exact make64_104 a b ha hb w
 by_cases h108 : c = 108
 ·subst h108; exact make64_108 a b ha hb w
 by_cases h112 : c = 112
 ·subst h112; exact make64_112 a b ha hb w
 by_cases h120 : c = 120
 ·subst h120; exact make64_120 a b ha hb w
 by_cases h122 : c = 122
 ·subst h122; exact make64_122 a b ha hb w
 by_cases h124 : c = 124
 ·subst h124; exact make64_124 a b ha hb w
 by_cases h126 : c = 126
 ·subst h126; exact make64_126 a b ha hb w
 by_cases h128 : c = 128
 ·subst h128; exact make64_128 a b ha hb w
 by_cases h130 : c = 130
 ·subst h130; exact make64_130 a b ha hb w
 have HG := Lib.hid (show opL (c + 1) a b = 0 by unfold opL cmpL; simp [*]; omega)
 have hm := and63w b
 go_enter Try.func34, Try.ntmps34
 go_wp2_with (first | (go_at_call 71; refine (bits_true _).mono ?_; rintro e w' ⟨rfl, rfl⟩))
 go_ret
 exact ⟨by rw [HG.out]; rfl, Below.refl _ _⟩
end Go.Proofs.Ytbkeneadoccodaa.Nm
/- Contracts of the document's own answers for layer 1: Two, One, Kinds; num.Kinds. -/
namespace Go.Proofs.Ytbkeneadoccodaa.Nm
open Go.RowKit
set_option linter.unusedVariables false
set_option maxRecDepth 100000 in
theorem refTwo_any (c a b : Int) (hc : -9223372036854775808 ≤ c ∧ c ≤ 9223372036854775807) (ha : -9223372036854775808 ≤ a ∧ a ≤ 9223372036854775807) (hb : -9223372036854775808 ≤ b ∧ b ≤ 9223372036854775807) (w : World) :
  Calls Try.prog 14 #[.int .i64 c, .int .i64 a, .int .i64 b] w fun e w' => e = .returned (.int .i64 (two c a b)) ∧ Below w.heap.size w w' := by
 have hm := and1 c
 by_cases h : c = 148
 ·subst h
  rcases Int.lt_trichotomy a b with h | h | h
  ·have HG := Lib.hid (show two 148 a b = -1 by show cmp3 a b = -1; unfold cmp3; split <;> (try split) <;> omega)
   go_enter Try.func14, Try.ntmps14
   go_wp2
   go_ret
   exact ⟨by rw [HG.out]; rfl, Below.refl _ _⟩
  ·have HG := Lib.hid (show two 148 a b = 0 by show cmp3 a b = 0; unfold cmp3; split <;> (try split) <;> omega)
   subst h
   go_enter Try.func14, Try.ntmps14
   go_wp2
   go_ret
   exact ⟨by rw [HG.out]; rfl, Below.refl _ _⟩
  ·have HG := Lib.hid (show two 148 a b = 1 by show cmp3 a b = 1; unfold cmp3; split <;> (try split) <;> omega)
   go_enter Try.func14, Try.ntmps14
   go_wp2
   go_ret
   exact ⟨by rw [HG.out]; rfl, Below.refl _ _⟩
 by_cases he : c % 2 = 0
 ·have HG := Lib.hid (show two c a b = opI c (wrn 32 a) (wrn 32 b) by unfold two; rw [if_neg h, if_pos he]; rfl)
  have hwa : -2147483648 ≤ wrn 32 a ∧ wrn 32 a ≤ 2147483647 := wrap32_bd a
  have hwb : -2147483648 ≤ wrn 32 b ∧ wrn 32 b ≤ 2147483647 := wrap32_bd b
  go_enter Try.func14, Try.ntmps14
  go_wp2_with (first | (go_at_call 35; refine (cut_any _ _ 32 rfl (by decide) (by omega) _).mono ?_; rintro e w' ⟨rfl, rfl⟩) | (go_at_call 34; refine (make32_any _ _ _ (by omega) (by omega) _).mono ?_; rintro e w' ⟨rfl, h1⟩))
  go_ret
  exact ⟨by rw [HG.out]; rfl, h1⟩
 ·have HG := Lib.hid (show two c a b = opL c a b by unfold two; rw [if_neg h, if_neg he])
  have h3 : -9223372036854775808 ≤ c - 1 := by omega
  go_enter Try.func14, Try.ntmps14
  go_wp2_with (first | (go_at_call 34; refine (make64_any _ _ _ (by omega) (by omega) (by omega) _).mono ?_; rintro e w' ⟨rfl, h1⟩))
  go_ret
  exact ⟨by rw [HG.out]; rfl, h1⟩
def knd (c : Int) : Int × Int × Int :=
 if c = 121 ∨ c = 123 ∨ c = 125 then (2, 1, 2)
 else if (96 ≤ c ∧ c ≤ 113 ∧ c % 4 < 2) ∨ (120 ≤ c ∧ c ≤ 131) then (if c % 2 = 0 then (1, 1, 1) else (2, 2, 2))
 else if c = 148 then (2, 2, 1) else if c = 116 ∨ (145 ≤ c ∧ c ≤ 147) then (1, 0, 1) else if c = 117 then (2, 0, 2) else if c = 133 then (1, 0, 2) else if c = 136 then (2, 0, 1) else (0, 0, 0)
set_option maxRecDepth 100000 in
theorem knd_none (c : Int) (h : c ≠ 96 ∧ c ≠ 97 ∧ c ≠ 100 ∧ c ≠ 101 ∧ c ≠ 104 ∧ c ≠ 105 ∧ c ≠ 108 ∧ c ≠ 109 ∧ c ≠ 112 ∧ c ≠ 113 ∧ c ≠ 116 ∧ c ≠ 117 ∧ c ≠ 120 ∧ c ≠ 121 ∧ c ≠ 122 ∧ c ≠ 123 ∧ c ≠ 124 ∧ c ≠ 125 ∧ c ≠ 126 ∧ c ≠ 127 ∧ c ≠ 128 ∧ c ≠ 129 ∧ c ≠ 130 ∧ c ≠ 131 ∧ c ≠ 133 ∧ c ≠ 136 ∧ c ≠ 145 ∧ c ≠ 146 ∧ c ≠ 147 ∧ c ≠ 148) : knd c = (0, 0, 0) := by
 unfold knd
 rw [if_neg (by omega), if_neg (by omega), if_neg (by omega), if_neg (by omega), if_neg (by omega), if_neg (by omega), if_neg (by omega)]
set_option maxRecDepth 100000 in
theorem knd_cases (c : Int) : c = 96 ∨ c = 97 ∨ c = 100 ∨ c = 101 ∨ c = 104 ∨ c = 105 ∨ c = 108 ∨ c = 109 ∨ c = 112 ∨ c = 113 ∨ c = 116 ∨ c = 117 ∨ c = 120 ∨ c = 121 ∨ c = 122 ∨ c = 123 ∨ c = 124 ∨ c = 125 ∨ c = 126 ∨ c = 127 ∨ c = 128 ∨ c = 129 ∨ c = 130 ∨ c = 131 ∨ c = 133 ∨ c = 136 ∨ c = 145 ∨ c = 146 ∨ c = 147 ∨ c = 148 ∨ (c ≠ 96 ∧ c ≠ 97 ∧ c ≠ 100 ∧ c ≠ 101 ∧ c ≠ 104 ∧ c ≠ 105 ∧ c ≠ 108 ∧ c ≠ 109 ∧ c ≠ 112 ∧ c ≠ 113 ∧ c ≠ 116 ∧ c ≠ 117 ∧ c ≠ 120 ∧ c ≠ 121 ∧ c ≠ 122 ∧ c ≠ 123 ∧ c ≠ 124 ∧ c ≠ 125 ∧ c ≠ 126 ∧ c ≠ 127 ∧ c ≠ 128 ∧ c ≠ 129 ∧ c ≠ 130 ∧ c ≠ 131 ∧ c ≠ 133 ∧ c ≠ 136 ∧ c ≠ 145 ∧ c ≠ 146 ∧ c ≠ 147 ∧ c ≠ 148) := by omega
set_option maxRecDepth 100000 in
theorem computes_any (c : Int) (w : World) : Calls Try.prog 130 #[.int .i64 c] w fun e w' => e = .returned (.bool (decide (c = 96 ∨ c = 100 ∨ c = 104 ∨ c = 108 ∨ c = 112 ∨ c = 120 ∨ c = 122 ∨ c = 124 ∨ c = 126 ∨ c = 128 ∨ c = 130))) ∧ w = w' := by
  have hc : c = 96 ∨ c = 100 ∨ c = 104 ∨ c = 108 ∨ c = 112 ∨ c = 120 ∨ c = 122 ∨ c = 124 ∨ c = 126 ∨ c = 128 ∨ c = 130 ∨ ¬ (c = 96 ∨ c = 100 ∨ c = 104 ∨ c = 108 ∨ c = 112 ∨ c = 120 ∨ c = 122 ∨ c = 124 ∨ c = 126 ∨ c = 128 ∨ c = 130) := by omega
  rcases hc with rfl | rfl | rfl | rfl | rfl | rfl | rfl | rfl | rfl | rfl | rfl | hn
  all_goals first
    | (go_enter Try.func130, Try.ntmps130; go_wp2; go_ret; exact ⟨rfl, rfl⟩)
    | (have HN := Lib.hid (decide_eq_false hn)
       rw [HN.out]
       have g : c ≠ 96 ∧ c ≠ 100 ∧ c ≠ 104 ∧ c ≠ 108 ∧ c ≠ 112 ∧ c ≠ 120 ∧ c ≠ 122 ∧ c ≠ 124 ∧ c ≠ 126 ∧ c ≠ 128 ∧ c ≠ 130 := by omega
       clear hn
       obtain ⟨_, _, _, _, _, _, _, _, _, _, _⟩ := g
       go_enter Try.func130, Try.ntmps130
       go_wp2
       go_ret
       exact ⟨rfl, rfl⟩)
set_option maxRecDepth 100000 in
theorem computes_no (c : Int) (hn : ¬ (c = 96 ∨ c = 100 ∨ c = 104 ∨ c = 108 ∨ c = 112 ∨ c = 120 ∨ c = 122 ∨ c = 124 ∨ c = 126 ∨ c = 128 ∨ c = 130)) (w : World) : Calls Try.prog 130 #[.int .i64 c] w fun e w' => e = .returned (.bool false) ∧ w = w' := by
 have h := computes_any c w
 rw [decide_eq_false hn] at h
 exact h
set_option maxRecDepth 100000 in
theorem odd_yes (c : Int) (h : c % 2 = 1) (w : World) : Calls Try.prog 95 #[.int .i64 c] w fun e w' => e = .returned (.bool true) ∧ w = w' := by
 have k := odd_any c w
 rw [show (c % 2 == 1) = true from by rw [beq_iff_eq]; exact h] at k
 exact k
set_option maxRecDepth 100000 in
theorem odd_no (c : Int) (h : ¬ c % 2 = 1) (w : World) : Calls Try.prog 95 #[.int .i64 c] w fun e w' => e = .returned (.bool false) ∧ w = w' := by
 have k := odd_any c w
 rw [show (c % 2 == 1) = false from by rw [beq_eq_false_iff_ne]; exact h] at k
 exact k
set_option maxHeartbeats 4000000 in
set_option maxRecDepth 100000 in
theorem kinds_any (c : Int) (hc : -9223372036854775808 ≤ c ∧ c ≤ 9223372036854775807) (w : World) : Calls Try.prog 122 #[.int .i64 c] w fun e w' => e = .returned (.tuple #[.int .i64 (knd c).1, .int .i64 (knd c).2.1, .int .i64 (knd c).2.2]) ∧ w = w' := by
  rcases knd_cases c with rfl | rfl | rfl | rfl | rfl | rfl | rfl | rfl | rfl | rfl | rfl | rfl | rfl | rfl | rfl | rfl | rfl | rfl | rfl | rfl | rfl | rfl | rfl | rfl | rfl | rfl | rfl | rfl | rfl | rfl | hn
  all_goals first
    | (go_enter Try.func122, Try.ntmps122; go_wp2_with (first | (go_at_call 95; refine (odd_any _ _).mono ?_; rintro e w' ⟨rfl, rfl⟩) | (go_at_call 130; refine (computes_any _ _).mono ?_; rintro e w' ⟨rfl, rfl⟩)); go_ret3; exact ⟨rfl, rfl⟩)
    | (have HN := Lib.hid (knd_none c hn)
       rw [HN.out]
       have hk : c ≠ 116 ∧ c ≠ 117 ∧ c ≠ 133 ∧ c ≠ 136 ∧ c ≠ 145 ∧ c ≠ 146 ∧ c ≠ 147 ∧ c ≠ 148 ∧ c ≠ 121 ∧ c ≠ 123 ∧ c ≠ 125 := by omega
       by_cases ho : c % 2 = 1
       · have hn1 : ¬ (c - 1 = 96 ∨ c - 1 = 100 ∨ c - 1 = 104 ∨ c - 1 = 108 ∨ c - 1 = 112 ∨ c - 1 = 120 ∨ c - 1 = 122 ∨ c - 1 = 124 ∨ c - 1 = 126 ∨ c - 1 = 128 ∨ c - 1 = 130) := by omega
         have hn0 : ¬ (c = 96 ∨ c = 100 ∨ c = 104 ∨ c = 108 ∨ c = 112 ∨ c = 120 ∨ c = 122 ∨ c = 124 ∨ c = 126 ∨ c = 128 ∨ c = 130) := by omega
         have H1 := Lib.hid hn1
         have H0 := Lib.hid hn0
         clear hn hn1 hn0
         obtain ⟨_, _, _, _, _, _, _, _, _, _, _⟩ := hk
         go_enter Try.func122, Try.ntmps122
         go_wp2_with (first | (go_at_call 95; refine (odd_yes _ ho _).mono ?_; rintro e w' ⟨rfl, rfl⟩) | (go_at_call 130; (with_reducible refine (computes_no (c - 1) H1.out _).mono ?_); rintro e w' ⟨rfl, rfl⟩) | (go_at_call 130; (with_reducible refine (computes_no c H0.out _).mono ?_); rintro e w' ⟨rfl, rfl⟩))
         go_ret3
         exact ⟨rfl, rfl⟩
       · have hn0 : ¬ (c = 96 ∨ c = 100 ∨ c = 104 ∨ c = 108 ∨ c = 112 ∨ c = 120 ∨ c = 122 ∨ c = 124 ∨ c = 126 ∨ c = 128 ∨ c = 130) := by omega
         have H0 := Lib.hid hn0
         clear hn hn0
         obtain ⟨_, _, _, _, _, _, _, _, _, _, _⟩ := hk
         go_enter Try.func122, Try.ntmps122
         go_wp2_with (first | (go_at_call 95; refine (odd_no _ ho _).mono ?_; rintro e w' ⟨rfl, rfl⟩) | (go_at_call 130; refine (computes_no _ H0.out _).mono ?_; rintro e w' ⟨rfl, rfl⟩))
         go_ret3
         exact ⟨rfl, rfl⟩)
set_option maxHeartbeats 4000000 in
set_option maxRecDepth 100000 in
theorem refKinds_any (c : Int) (hc : -9223372036854775808 ≤ c ∧ c ≤ 9223372036854775807) (w : World) : Calls Try.prog 52 #[.int .i64 c] w fun e w' => e = .returned (.tuple #[.int .i64 (knd c).1, .int .i64 (knd c).2.1, .int .i64 (knd c).2.2]) ∧ w = w' := by
  rcases knd_cases c with rfl | rfl | rfl | rfl | rfl | rfl | rfl | rfl | rfl | rfl | rfl | rfl | rfl | rfl | rfl | rfl | rfl | rfl | rfl | rfl | rfl | rfl | rfl | rfl | rfl | rfl | rfl | rfl | rfl | rfl | hn
  all_goals first
    | (go_enter Try.func52, Try.ntmps52; go_wp2; go_ret3; exact ⟨rfl, rfl⟩)
    | (have HN := Lib.hid (knd_none c hn)
       rw [HN.out]
       have hk : c ≠ 116 ∧ c ≠ 117 ∧ c ≠ 133 ∧ c ≠ 136 ∧ c ≠ 145 ∧ c ≠ 146 ∧ c ≠ 147 ∧ c ≠ 148 ∧ c ≠ 121 ∧ c ≠ 123 ∧ c ≠ 125 := by omega
       have hr : c < 96 ∨ (96 ≤ c ∧ c ≤ 113 ∧ 2 ≤ c % 4) ∨ (113 < c ∧ c < 120) ∨ (131 < c ∧ c < 145) ∨ 147 < c := by omega
       clear hn
       have q116 : (c == 116) = false := (by rw [beq_eq_false_iff_ne]; omega); have q117 : (c == 117) = false := (by rw [beq_eq_false_iff_ne]; omega); have q133 : (c == 133) = false := (by rw [beq_eq_false_iff_ne]; omega); have q136 : (c == 136) = false := (by rw [beq_eq_false_iff_ne]; omega); have q148 : (c == 148) = false := (by rw [beq_eq_false_iff_ne]; omega); have q121 : (c == 121) = false := (by rw [beq_eq_false_iff_ne]; omega); have q123 : (c == 123) = false := (by rw [beq_eq_false_iff_ne]; omega); have q125 : (c == 125) = false := (by rw [beq_eq_false_iff_ne]; omega)
       obtain ⟨_, _, _, _, _, _, _, _, _, _, _⟩ := hk
       rcases hr with hr | ⟨h1, h2, h3⟩ | ⟨h1, h2⟩ | ⟨h1, h2⟩ | hr
       all_goals
         go_enter Try.func52, Try.ntmps52
         go_wp2
         go_ret3
         exact ⟨rfl, rfl⟩)
end Go.Proofs.Ytbkeneadoccodaa.Nm
