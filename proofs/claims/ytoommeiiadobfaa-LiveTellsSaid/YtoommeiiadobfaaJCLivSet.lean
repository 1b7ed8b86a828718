/- Sets of registers that stand together: the program's setOf, without, has; isAt. -/
import Derived.Test.YtoommeiiadobfaaM16
import Derived.Test.YtoommeiiadobfaaJCLivSp0
import Derived.Test.YtoommeiiadobfaaM14
namespace Go.Proofs.Ytoommeiiadobfaa
open Go.RowKit Go
set_option linter.unusedVariables false
set_option linter.unusedSimpArgs false
theorem without_c (a b : Mk) (w : World) : Calls Try.prog 57 #[.int .u64 (a.toNat : Int), .int .u64 (b.toNat : Int)] w fun e w' => e = .returned (.int .u64 ((a &&& ~~~b).toNat : Int)) ∧ w' = w := by
 have h := andNot_u a b
 obtain ⟨z, hz⟩ : ∃ z : Int, ((a &&& ~~~b).toNat : Int) = z := ⟨_, rfl⟩
 rw [hz] at h ⊢
 clear hz
 go_enter Try.func57, Try.ntmps57
 go_wp2_with fail
 go_ret
 exact ⟨rfl, rfl⟩
theorem isAt_c (i n : Int) (z : Bool) (w : World) (hz : Hid ((decide (0 ≤ i) && decide (i < n)) = z)) : Calls Try.prog 31 #[.int .i64 i, .int .i64 n] w fun e w' => e = .returned (.bool z) ∧ w' = w := by
 by_cases h0 : 0 ≤ i
 ·by_cases h1 : i < n
  ·have e : z = true := by rw [← hz.out]; simp [h0, h1]
   subst e
   go_enter Try.func31, Try.ntmps31
   go_wp2_with fail
   go_ret
   exact ⟨rfl, rfl⟩
  ·have e : z = false := by rw [← hz.out]; simp [h1]
   subst e
   go_enter Try.func31, Try.ntmps31
   go_wp2_with fail
   go_ret
   exact ⟨rfl, rfl⟩
 ·have e : z = false := by rw [← hz.out]; simp [h0]
  subst e
  go_enter Try.func31, Try.ntmps31
  go_wp2_with fail
  go_ret
  exact ⟨rfl, rfl⟩
theorem has_bit (s : Mk) (i : Nat) : (bits .and .u64 ((s.toNat : Int) / 2 ^ i) 1 == 1) = s.getLsbD i := by
 have h1 : ((s.toNat : Int) / 2 ^ i) = ((s >>> i).toNat : Int) := by
  rw [BitVec.toNat_ushiftRight, Nat.shiftRight_eq_div_pow]
  simp
 have h2 := and_u (s >>> i) 1
 have h3 : (((1 : Mk).toNat : Nat) : Int) = 1 := rfl
 rw [h3] at h2
 rw [h1, h2, Bool.eq_iff_iff]
 simp only [beq_iff_eq]
 have h4 : (s >>> i &&& 1).getLsbD 0 = s.getLsbD i := by
  rw [BitVec.getLsbD_and, BitVec.getLsbD_ushiftRight]
  simp
 have h5 : (s >>> i &&& 1).toNat = if s.getLsbD i then 1 else 0 := by
  rw [← h4]
  have h6 : s >>> i &&& 1 = (if (s >>> i &&& 1).getLsbD 0 then (1 : Mk) else 0) := by
   apply BitVec.eq_of_getLsbD_eq
   intro k hk
   by_cases e : k = 0
   ·subst e
    cases (s >>> i &&& 1).getLsbD 0 <;> rfl
   ·rw [BitVec.getLsbD_and]
    have h7 : (1 : Mk).getLsbD k = false := by
     cases hb : (1 : Mk).getLsbD k with
     | false => rfl
     | true => exact absurd (one_bit hb) e
    rw [h7, Bool.and_false]
    split
    ·exact h7.symm
    ·simp
  conv => lhs; rw [h6]
  cases (s >>> i &&& 1).getLsbD 0 <;> rfl
 rw [h5]
 cases s.getLsbD i <;> simp
theorem has_c (s : Mk) (i : Nat) (hi : i < 64) (w : World) : Calls Try.prog 32 #[.int .u64 (s.toNat : Int), .int .i64 (i : Int)] w fun e w' => e = .returned (.bool (s.getLsbD i)) ∧ w' = w := by
 have h2 : IntKind.u64.wrap (i : Int) = (i : Int) := IntWalk.u64_in _ (by omega)
 have HB := lhid (has_bit s i)
 go_enter Try.func32, Try.ntmps32
 go_wp2_with fail
 go_ret
 exact ⟨by rw [← HB.out]; rfl, rfl⟩
set_option maxHeartbeats 8000000 in
set_option maxRecDepth 100000 in
theorem setOf_c {P : Nat → Prop} (F : Nat) (rv : Value) (l : List Int) (w : World) (h : Hid (RdX P 1 NuE w rv l)) (hF : Hid (F ≤ 1099511627776)) (hp : Hid (∀ r ∈ l, I64 r)) :
  Calls Try.prog 54 #[.int .i64 (F : Int), rv] w fun e w' => ∃ U : Mk, e = .returned (.int .u64 (U.toNat : Int)) ∧ (∀ b, U.getLsbD b = true ↔ b < 64 ∧ ((F + b : Nat) : Int) ∈ l) ∧ w' = w := by
 obtain ⟨A, cap, hA⟩ := h.out.shape
 subst hA
 have hll := h.out.len
 have hF2 := hF.out
 have hw64 : wrap64 ((F : Int) + 64) = (F : Int) + 64 := IntWalk.wrap64_in _ (by omega)
 go_enter Try.func54, Try.ntmps54
 go_wp2_with fail
 go_loopg [5, 10] l.length (fun g u s wr => ∃ (U : Mk) (k : Nat), g = l.length - k ∧ u = .int .u64 (U.toNat : Int) ∧ s = .int .i64 k ∧ k ≤ l.length ∧ Hid (∀ b, U.getLsbD b = true ↔ b < 64 ∧ ((F + b : Nat) : Int) ∈ l.take k) ∧ wr = w)
 case atStart => exact ⟨0, 0, rfl, rfl, rfl, Nat.zero_le _, lhid (fun b => by simp), rfl⟩
 case round =>
  obtain ⟨U, k, rfl, rfl, rfl, hk, HUB, rfl⟩ := hrel
  by_cases hlt : k < l.length
  ·obtain ⟨z, hz⟩ : ∃ z, l[k]? = some z := ⟨_, List.getElem?_eq_getElem hlt⟩
   obtain ⟨g, o, c1, h1, _, h2, h3⟩ := h.out.at' hz
   have h2 : c1 = [.int .i64 z] := h2
   subst h2 h1
   have c0 := h3 0 _ rfl
   rw [Nat.add_zero, Nat.mul_one] at c0
   have k3 : (k : Int) < l.length := by omega
   have hwk : wrap64 ((k : Int) + 1) = ((k + 1 : Nat) : Int) := by rw [IntWalk.wrap64_in _ (by omega)]; omega
   have hzi := hp.out z (List.mem_of_getElem? hz)
   have HZ := lhid hz
   clear h3 hz
   unfold I64 at hzi
   by_cases hin : (F : Int) ≤ z ∧ z < F + 64
   ·obtain ⟨d, hd⟩ : ∃ d : Nat, z = (F : Int) + d := ⟨(z - F).toNat, by omega⟩
    have hd64 : d < 64 := by omega
    have t1 : (F : Int) ≤ z := hin.1
    have t2 : z < (F : Int) + 64 := hin.2
    have t3 : wrap64 (z - F) = (d : Int) := by rw [IntWalk.wrap64_in _ (by omega)]; omega
    have t4 : IntKind.u64.wrap (d : Int) = (d : Int) := IntWalk.u64_in _ (by omega)
    have t5 := u64_pow d
    have hb : BitVec.ofNat 64 (2 ^ d) = bitN z F := by unfold bitN; rw [if_pos (by omega)]; congr 2; omega
    rw [hb] at t5
    have t6 : IntKind.u64.wrap ((2 : Int) ^ (z.toNat - F)) = ((bitN z F).toNat : Int) := by rw [show z.toNat - F = d by omega]; exact t5
    have hor := or_u U (bitN z F)
    obtain ⟨V, hV⟩ : ∃ V, U ||| bitN z F = V := ⟨_, rfl⟩
    have HV : Hid (∀ b, V.getLsbD b = true ↔ b < 64 ∧ ((F + b : Nat) : Int) ∈ l.take (k + 1)) := lhid (fun b => by
     rw [← hV, BitVec.getLsbD_or, Bool.or_eq_true, HUB.out b, bitN_get, take_snoc HZ.out]
     simp only [Bool.and_eq_true, decide_eq_true_eq, List.mem_append, List.mem_singleton]
     constructor
     ·rintro (⟨h1, h2⟩ | ⟨h1, h2⟩)
      ·exact ⟨h1, .inl h2⟩
      ·exact ⟨h1, .inr (by omega)⟩
     ·rintro ⟨h1, h2 | h2⟩
      ·exact .inl ⟨h1, h2⟩
      ·exact .inr ⟨h1, by omega⟩)
    rw [hV] at hor
    clear hV hb hin hzi hd
    go_wp2_with fail
    go_roundg (l.length - (k + 1))
    case measure => omega
    case rel => exact ⟨V, k + 1, rfl, by first | rfl | rw [hor], by first | rfl | rw [hwk], by omega, HV, rfl⟩
   ·have HV : Hid (∀ b, U.getLsbD b = true ↔ b < 64 ∧ ((F + b : Nat) : Int) ∈ l.take (k + 1)) := lhid (fun b => by
     rw [HUB.out b, take_snoc HZ.out]
     simp only [List.mem_append, List.mem_singleton]
     constructor
     ·rintro ⟨h1, h2⟩; exact ⟨h1, .inl h2⟩
     ·rintro ⟨h1, h2 | h2⟩
      ·exact ⟨h1, h2⟩
      ·exact absurd ⟨by omega, by omega⟩ hin)
    by_cases t1 : (F : Int) ≤ z
    ·have t2 : ¬ z < (F : Int) + 64 := fun h => hin ⟨t1, h⟩
     clear hin hzi
     go_wp2_with fail
     go_roundg (l.length - (k + 1))
     case measure => omega
     case rel => exact ⟨U, k + 1, rfl, rfl, by first | rfl | rw [hwk], by omega, HV, rfl⟩
    ·clear hin hzi
     go_wp2_with fail
     go_roundg (l.length - (k + 1))
     case measure => omega
     case rel => exact ⟨U, k + 1, rfl, rfl, by first | rfl | rw [hwk], by omega, HV, rfl⟩
  ·have k3 : ¬ (k : Int) < l.length := by omega
   have hke : k = l.length := by omega
   subst hke
   clear hlt
   go_wp2_with fail
   go_ret
   exact ⟨U, rfl, fun b => by have h1 := HUB.out b; rwa [List.take_length] at h1, rfl⟩
end Go.Proofs.Ytoommeiiadobfaa
