/- Contracts of the reader's Take, Left and Num, and of cutOff. -/
import Derived.Test.YtgihfcimngogfaaGreatM1
import Derived.Test.YtgihfcimngogfaaGreatProg
import Derived.WalkKit
import Derived.ProofKit
import Derived.OpenShut
import Derived.IntWalk
import Derived.BigQuiet
import Derived.Deep.QuietTactic
namespace Go.Proofs.YtgihfcimngogfaaGreat
open Go.RowKit Go
set_option linter.unusedVariables false
theorem ret_tx {a b : ByteArray} (h : a = b) : Ending.returned (.string a) = .returned (.string b) := by rw [h]
theorem tx_extract (l : Bs) (a b : Nat) : (tx l).extract a b = tx ((l.drop a).take (b - a)) := by
 rw [Lib.extract_eq, tx_list]
 rfl
theorem tx_front (l : Bs) (a : Nat) : (tx l).extract 0 a = tx (l.take a) := by
 rw [tx_extract]
 rfl
theorem tx_tail (l : Bs) (a : Nat) : (tx l).extract a (tx l).size = tx (l.drop a) := by
 rw [tx_extract, tx_size, List.take_of_length_le (by simp)]
set_option maxHeartbeats 1000000 in
set_option maxRecDepth 100000 in
theorem take_no (R : Nat) (s : St) (n : Int) (w : World) (h : Rdr w R s) (hn : n < 0 ∨ (s.1.length : Int) < n) :
  Calls Tryz.prog 56 #[.pointer (some ⟨R, 0, none⟩), .int .i64 n] w fun e w' => e = .returned (.string (tx (takeL s n))) ∧ Rdr w' R (takeS s n) ∧ Only R w w' := by
 have c0 := h.c0
 have c1 := h.c1
 have f0 := h.fz 0
 have f1 := h.fz 1
 have hr := (h.set0 []).set1 true
 have HR := lhid hr
 clear hr
 rw [takeL_no hn, takeS_no hn]
 rw [← tx_size] at hn
 by_cases h0 : n < 0
 ·go_enter Tryz.func56, Tryz.ntmps56
  go_wp2_with (fail)
  go_ret
  exact ⟨rfl, HR.out, ((Only.refl R w).own 0 _).own 1 _⟩
 ·have h1 : ((tx s.1).size : Int) < n := by omega
  clear hn
  go_enter Tryz.func56, Tryz.ntmps56
  go_wp2_with (fail)
  go_ret
  exact ⟨rfl, HR.out, ((Only.refl R w).own 0 _).own 1 _⟩
set_option maxHeartbeats 1000000 in
set_option maxRecDepth 100000 in
theorem take_yes (R : Nat) (s : St) (k : Nat) (w : World) (h : Rdr w R s) (hn : k ≤ s.1.length) :
  Calls Tryz.prog 56 #[.pointer (some ⟨R, 0, none⟩), .int .i64 k] w fun e w' => e = .returned (.string (tx (s.1.take k))) ∧ Rdr w' R (s.1.drop k, s.2) ∧ Only R w w' := by
 have c0 := h.c0
 have f0 := h.fz 0
 have hr := h.set0 (s.1.drop k)
 have HR := lhid hr
 clear hr
 rw [← tx_size] at hn
 have h0 : (0 : Int) ≤ k := by omega
 have h1 : ¬ ((tx s.1).size : Int) < k := by omega
 have h2 : (k : Int) ≤ (tx s.1).size := by omega
 go_enter Tryz.func56, Tryz.ntmps56
 go_wp2_with (fail)
 go_ret
 refine ⟨ret_tx (tx_front _ _), ?_, (Only.refl R w).own 0 _⟩
 rw [tx_tail]
 exact HR.out
theorem take_any (R : Nat) (s : St) (n : Int) (w : World) (h : Rdr w R s) :
  Calls Tryz.prog 56 #[.pointer (some ⟨R, 0, none⟩), .int .i64 n] w fun e w' => e = .returned (.string (tx (takeL s n))) ∧ Rdr w' R (takeS s n) ∧ Only R w w' := by
 by_cases hn : n < 0 ∨ (s.1.length : Int) < n
 ·exact take_no R s n w h hn
 ·rw [takeL_yes hn, takeS_yes hn]
  obtain ⟨k, rfl⟩ := Int.eq_ofNat_of_zero_le (by omega : 0 ≤ n)
  exact take_yes R s k w h (by omega)
set_option maxHeartbeats 1000000 in
set_option maxRecDepth 100000 in
theorem left_any (R : Nat) (s : St) (w : World) (h : Rdr w R s) :
  Calls Tryz.prog 59 #[.pointer (some ⟨R, 0, none⟩)] w fun e w' => e = .returned (.tuple #[.int .i64 (tx s.1).size, .bool (!s.2)]) ∧ ∃ n, w' = w.drewN n := by
 have c0 := h.c0
 have c1 := h.c1
 go_enter Tryz.func59, Tryz.ntmps59
 go_wp2_with (fail)
 go_quiet (fail)
 go_wp2
 go_ret2
 exact ⟨rfl, _, rfl⟩
theorem left_r (R : Nat) (s : St) (n : Int) (b : Bool) (w : World) (h : Hid (Rdr w R s)) (hn : Hid ((s.1.length : Int) = n)) (hb : Hid ((!s.2) = b)) :
  Calls Tryz.prog 59 #[.pointer (some ⟨R, 0, none⟩)] w fun e w' => e = .returned (.tuple #[.int .i64 n, .bool b]) ∧ ∃ n, w' = w.drewN n := by
 rw [← hn.out, ← hb.out, ← tx_size]
 exact left_any R s w h.out
set_option maxHeartbeats 1000000 in
set_option maxRecDepth 100000 in
theorem cutOff_any (R : Nat) (s : St) (b : Bool) (w : World) (h : Hid (Rdr w R s)) (hb : Hid (s.2 = b)) :
  Calls Tryz.prog 104 #[.pointer (some ⟨R, 0, none⟩)] w fun e w' => e = .returned (.bool b) ∧ ∃ n, w' = w.drewN n := by
 have hl : Hid ((s.1.length : Int) = s.1.length) := lhid rfl
 cases b
 ·have H2 : Hid ((!s.2) = true) := lhid (by rw [hb.out]; rfl)
  go_enter Tryz.func104, Tryz.ntmps104
  go_wp2_with (go_at_call 59; (with_reducible refine (left_r R s _ _ _ h hl H2).mono ?_); rintro e w' ⟨rfl, n, rfl⟩)
  go_ret
  exact ⟨rfl, n, rfl⟩
 ·have H2 : Hid ((!s.2) = false) := lhid (by rw [hb.out]; rfl)
  go_enter Tryz.func104, Tryz.ntmps104
  go_wp2_with (go_at_call 59; (with_reducible refine (left_r R s _ _ _ h hl H2).mono ?_); rintro e w' ⟨rfl, n, rfl⟩)
  go_ret
  exact ⟨rfl, n, rfl⟩
set_option maxHeartbeats 1000000 in
set_option maxRecDepth 100000 in
theorem num_out (v : Value) (n : Int) (w : World) (hn : n < 1 ∨ 8 < n) :
  Calls Tryz.prog 103 #[v, .int .i64 n] w fun e w' => e = .returned (.int .u64 0) ∧ w = w' := by
 by_cases h0 : n < 1
 all_goals
  go_enter Tryz.func103, Tryz.ntmps103
  go_wp2_with (fail)
  go_ret
  exact ⟨rfl, rfl⟩
theorem tx_at (l : Bs) (k : Nat) (h : k < (tx l).size) : (tx l)[k] = l[k]'(by rwa [tx_size] at h) := by
 unfold tx
 rfl
theorem be_take_succ (l : Bs) (k : Nat) (h : k < (tx l).size) : beB (l.take (k + 1)) = beB (l.take k) * 256 + ((tx l)[k]).toNat := by
 rw [tx_at]
 rw [List.take_succ_eq_append_getElem (by rwa [tx_size] at h), beB_snoc]
theorem or_shift (x : Nat) (c : UInt8) : (x * 256) ||| c.toNat = x * 256 + c.toNat := by
 have h := Nat.two_pow_add_eq_or_of_lt (b := c.toNat) (i := 8) c.toNat_lt x
 rw [Nat.mul_comm] at h
 rw [← h]
theorem or_u64 (a b : Nat) (ha : a < 18446744073709551616) (hb : b < 18446744073709551616) : bits .or .u64 (a : Int) (b : Int) = ((a ||| b : Nat) : Int) := by
 show IntKind.u64.wrap ((BitVec.ofInt 64 a ||| BitVec.ofInt 64 b).toNat : Nat) = _
 have h : a ||| b < 2 ^ 64 := Nat.or_lt_two_pow (by omega) (by omega)
 rw [BitVec.toNat_or, BitVec.ofInt_natCast, BitVec.ofInt_natCast, BitVec.toNat_ofNat, BitVec.toNat_ofNat, Nat.mod_eq_of_lt (by omega), Nat.mod_eq_of_lt (by omega), IntWalk.u64_in _ (by omega)]
theorem be_step (l : Bs) (k : Nat) (h : k < (tx l).size) (h8 : (tx l).size ≤ 8) :
  bits .or .u64 (IntKind.u64.wrap (↑(beB (l.take k)) * 256)) (IntKind.u64.wrap ↑((tx l)[k]).toNat) = ↑(beB (l.take (k + 1))) := by
 have h1 : beB (l.take k) < 256 ^ 7 := Nat.lt_of_lt_of_le (beB_lt _ _ rfl) (pow_mono _ 7 (by rw [List.length_take]; omega))
 have h2 := ((tx l)[k]).toNat_lt
 have h3 : (256 : Nat) ^ 7 = 72057594037927936 := by decide
 rw [h3] at h1
 rw [IntWalk.u64_in _ (by omega), IntWalk.u64_in _ (by omega), show (↑(beB (l.take k)) * 256 : Int) = ((beB (l.take k) * 256 : Nat) : Int) by simp, or_u64 _ _ (by omega) (by omega), or_shift, be_take_succ l k h]
theorem ref_step (l : Bs) (k : Nat) (h : k < (tx l).size) (h8 : (tx l).size ≤ 8) :
  IntKind.u64.wrap (IntKind.u64.wrap (↑(beB (l.take k)) * 256) + IntKind.u64.wrap ↑((tx l)[k]).toNat) = ↑(beB (l.take (k + 1))) := by
 have h1 : beB (l.take k) < 256 ^ 7 := Nat.lt_of_lt_of_le (beB_lt _ _ rfl) (pow_mono _ 7 (by rw [List.length_take]; omega))
 have h2 := ((tx l)[k]).toNat_lt
 have h3 : (256 : Nat) ^ 7 = 72057594037927936 := by decide
 rw [h3] at h1
 rw [IntWalk.u64_in (↑(beB (l.take k)) * 256) (by omega), IntWalk.u64_in ↑((tx l)[k]).toNat (by omega), IntWalk.u64_in _ (by omega), be_take_succ l k h]
 simp
theorem val_int {k : IntKind} {a b : Int} (h : a = b) : Value.int k a = Value.int k b := by rw [h]
set_option maxHeartbeats 2000000 in
set_option maxRecDepth 100000 in
theorem num_in (R : Nat) (s : St) (n : Int) (w : World) (h : Rdr w R s) (hn : ¬ (n < 1 ∨ 8 < n)) :
  Calls Tryz.prog 103 #[.pointer (some ⟨R, 0, none⟩), .int .i64 n] w fun e w' => e = .returned (.int .u64 (beB (takeL s n))) ∧ Rdr w' R (takeS s n) ∧ Only R w w' := by
 have h1 : ¬ n < 1 := by omega
 have h2 : ¬ 8 < n := by omega
 have hl := takeL_len s n
 obtain ⟨l, hll⟩ : ∃ l, takeL s n = l := ⟨_, rfl⟩
 have HL := lhid hll
 rw [hll] at hl ⊢
 have hlen : l.length ≤ 8 := by omega
 have hsz : (tx l).size ≤ 8 := by rw [tx_size]; exact hlen
 clear hll hl hlen hn
 have HR := lhid h
 clear h
 go_enter Tryz.func103, Tryz.ntmps103
 go_wp2_with (go_at_call 56; (with_reducible refine (take_any R s n _ HR.out).mono ?_); rintro e w' ⟨rfl, hr, ho⟩; rw [HL.out]; have HR2 := lhid hr; have HO := lhid ho; clear hr ho)
 go_loop [19, 6] (fun i x => ∃ k : Nat, k ≤ (tx l).size ∧ i = .int .i64 k ∧ x = .int .u64 (beB (l.take k))) (fun i _ => (tx l).size - (intOf i).toNat)
 case atStart => exact ⟨0, Nat.zero_le _, rfl, rfl⟩
 case round =>
  obtain ⟨k, hk, rfl, rfl⟩ := hrel
  by_cases hlt : k < (tx l).size
  ·go_wp2_with fail
   go_round
   case rel =>
    exact ⟨k + 1, by omega, by go_num, val_int (be_step l k hlt hsz)⟩
   case measure => simp [intOf]; omega
  ·have hke : l.take k = l := List.take_of_length_le (by rw [← tx_size]; omega)
   rw [hke]
   go_wp2_with fail
   go_ret
   exact ⟨rfl, HR2.out, HO.out⟩
theorem num_any (R : Nat) (s : St) (n : Int) (w : World) (h : Rdr w R s) :
  Calls Tryz.prog 103 #[.pointer (some ⟨R, 0, none⟩), .int .i64 n] w fun e w' => e = .returned (.int .u64 (numN s n)) ∧ Rdr w' R (numS s n) ∧ Only R w w' := by
 by_cases hn : n < 1 ∨ 8 < n
 ·rw [numN_no hn, numS_no hn]
  refine (num_out _ n w hn).mono ?_
  rintro e w' ⟨rfl, rfl⟩
  exact ⟨rfl, h, Only.refl _ _⟩
 ·rw [numN_yes hn, numS_yes hn]
  exact num_in R s n w h hn
end Go.Proofs.YtgihfcimngogfaaGreat
