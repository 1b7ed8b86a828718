/- Texts of this claim, joined: InName, DescName. -/
import Derived.Test.YtifgkpfieapdjaaProg
import Derived.Test.YtifgkpfieapdjaaDescMath
import Derived.WalkKit
import Derived.ProofKit
import Derived.OpenShut
import Derived.Lib.Hide
/- Contracts of desc.inName and desc.inMethodName: for all bytes they answer inN and inM. -/
namespace Go.Proofs.Ytifgkpfieapdjaa
open Go.RowKit Go
set_option linter.unusedVariables false


theorem ret_bool {a b : Bool} (h : a = b) : Ending.returned (.bool a) = .returned (.bool b) := by rw [h]
theorem u8_eq (c : UInt8) (n : Nat) (h : n < 256) : (c == n.toUInt8) = decide ((c.toNat : Int) = n) := by
  rw [Bool.eq_iff_iff]
  simp only [beq_iff_eq, decide_eq_true_eq]
  constructor
  · rintro rfl
    simp
    omega
  · intro e
    apply UInt8.toNat_inj.1
    simp
    omega
theorem inN_iff (c : UInt8) : inN c = true ↔ (97 ≤ (c.toNat : Int) ∧ (c.toNat : Int) ≤ 122) ∨ (65 ≤ (c.toNat : Int) ∧ (c.toNat : Int) ≤ 90) ∨ (48 ≤ (c.toNat : Int) ∧ (c.toNat : Int) ≤ 57) ∨ (c.toNat : Int) = 95 ∨ (c.toNat : Int) = 36 ∨ (c.toNat : Int) = 47 := by
  have e1 := u8_eq c 95 (by omega)
  have e2 := u8_eq c 36 (by omega)
  have e3 := u8_eq c 47 (by omega)
  unfold inN
  rw [show ((95 : UInt8)) = (95 : Nat).toUInt8 from rfl, show ((36 : UInt8)) = (36 : Nat).toUInt8 from rfl, show ((47 : UInt8)) = (47 : Nat).toUInt8 from rfl, e1, e2, e3]
  simp only [UInt8.le_iff_toNat_le, Bool.or_eq_true, Bool.and_eq_true, decide_eq_true_eq]
  simp
  omega
theorem inM_iff (c : UInt8) : inM c = true ↔ (c.toNat : Int) = 60 ∨ (c.toNat : Int) = 62 := by
  have e1 := u8_eq c 60 (by omega)
  have e2 := u8_eq c 62 (by omega)
  unfold inM
  rw [show ((60 : UInt8)) = (60 : Nat).toUInt8 from rfl, show ((62 : UInt8)) = (62 : Nat).toUInt8 from rfl, e1, e2]
  simp

set_option maxHeartbeats 1000000 in
set_option maxRecDepth 100000 in
theorem inName_any (c : UInt8) (w : World) :
    Calls Try.prog 125 #[.int .u8 c.toNat] w fun e w' => e = .returned (.bool (inN c)) ∧ w = w' := by
  have hi := inN_iff c
  go_enter Try.func125, Try.ntmps125
  revert hi
  generalize inN c = bb
  intro hi
  have HI := hi
  clear hi
  go_wp2
  all_goals
    go_ret
    refine ⟨ret_bool ?_, rfl⟩
    rw [Bool.eq_iff_iff, HI]
    first | done | (simp; done) | (simp; omega) | (simp at *; omega)

set_option maxHeartbeats 1000000 in
set_option maxRecDepth 100000 in
theorem inMethodName_any (c : UInt8) (w : World) :
    Calls Try.prog 126 #[.int .u8 c.toNat] w fun e w' => e = .returned (.bool (inM c)) ∧ w = w' := by
  go_enter Try.func126, Try.ntmps126
  go_wp2
  all_goals
    go_ret
    refine ⟨ret_bool ?_, rfl⟩
    rw [Bool.eq_iff_iff, inM_iff]
    first | done | (simp; done) | (simp; omega) | (simp at *; omega)
end Go.Proofs.Ytifgkpfieapdjaa
/- Contract of desc.Name: for all texts it answers nameB. -/
namespace Go.Proofs.Ytifgkpfieapdjaa
open Go.RowKit
set_option linter.unusedVariables false

theorem all_take_succ (p : UInt8 → Bool) (s : ByteArray) (k : Nat) (h : k < s.size) : (s.data.toList.take (k + 1)).all p = ((s.data.toList.take k).all p && p s[k]) := by
  have e : s.data.toList.take (k + 1) = s.data.toList.take k ++ [s[k]] := by
    rw [List.take_succ_eq_append_getElem (by simpa using h)]; rfl
  rw [e, List.all_append]
  simp
theorem all_of_bad (p : UInt8 → Bool) (s : ByteArray) (k : Nat) (h : k < s.size) (hb : p s[k] = false) : s.data.toList.all p = false := by
  rw [List.all_eq_false]
  refine ⟨s[k], ?_, by simp [hb]⟩
  have : s[k] = s.data.toList[k]'(by simpa using h) := by simp; rfl
  rw [this]
  exact List.getElem_mem _
theorem size_len (s : ByteArray) : s.data.toList.length = s.size := by simp

def allB (l : Bs) (m : Bool) : Bool := l.all (okc m)
theorem allB_succ (s : ByteArray) (m : Bool) (k : Nat) (h : k < s.size) : allB (s.data.toList.take (k + 1)) m = (allB (s.data.toList.take k) m && okc m s[k]) := all_take_succ _ s k h
theorem allB_bad (s : ByteArray) (m : Bool) (k : Nat) (h : k < s.size) (hb : okc m s[k] = false) : allB s.data.toList m = false := all_of_bad _ s k h hb
theorem allB_nil (m : Bool) : allB [] m = true := rfl
theorem nameB_out (s : ByteArray) (m : Bool) (h : s.size < 1 ∨ 60 < s.size) : nameB s.data.toList m = false := by
  unfold nameB
  rw [size_len, Bool.and_eq_false_iff, Bool.and_eq_false_iff, decide_eq_false_iff_not, decide_eq_false_iff_not]
  omega
theorem nameB_in (s : ByteArray) (m : Bool) (h1 : ¬ s.size < 1) (h2 : ¬ 60 < s.size) : nameB s.data.toList m = allB s.data.toList m := by
  unfold nameB allB
  rw [size_len, decide_eq_true (by omega), decide_eq_true (by omega)]
  rfl

set_option maxHeartbeats 1000000 in
set_option maxRecDepth 100000 in
theorem name_core (s : ByteArray) (b m : Bool) (HB : Hid (b = m)) (w : World) (hs : s.size ≤ maxLen) :
    Calls Try.prog 118 #[.string s, .bool m] w fun e w' => e = .returned (.bool (nameB s.data.toList b)) ∧ w = w' := by
  unfold maxLen at hs
  by_cases h1 : s.size < 1
  · rw [nameB_out s b (.inl h1)]
    go_enter Try.func118, Try.ntmps118
    go_wp2_with (fail)
    go_ret
    exact ⟨rfl, rfl⟩
  by_cases h2 : 60 < s.size
  · rw [nameB_out s b (.inr h2)]
    go_enter Try.func118, Try.ntmps118
    go_wp2_with (fail)
    go_ret
    exact ⟨rfl, rfl⟩
  rw [nameB_in s b h1 h2]
  cases m
  all_goals
    go_enter Try.func118, Try.ntmps118
    go_wp2_with (fail)
    go_loop [16, 5] (fun n i => ∃ k : Nat, k ≤ s.size ∧ n = .int .i64 k ∧ allB (s.data.toList.take k) b = true) (fun n _ => s.size - (intOf n).toNat)
    case atStart => exact ⟨0, Nat.zero_le _, rfl, allB_nil _⟩
    case round =>
      obtain ⟨k, hk, rfl, hall⟩ := hrel
      have HA := Lib.hid hall
      clear hall
      by_cases hlt : k < s.size
      · cases hN : inN s[k] <;> cases hM : inM s[k]
        all_goals
          go_wp2_with (first | (go_at_call 125; refine (inName_any _ _).mono ?_; rintro e w' ⟨rfl, rfl⟩) | (go_at_call 126; refine (inMethodName_any _ _).mono ?_; rintro e w' ⟨rfl, rfl⟩))
          first
          | (go_ret
             refine ⟨ret_bool ?_, rfl⟩
             rw [allB_bad s b k hlt (by unfold okc; rw [HB.out, hN, hM]; rfl)])
          | (go_round
             case rel => exact ⟨k + 1, by omega, by go_num, by rw [allB_succ s b k hlt, HA.out]; unfold okc; rw [HB.out, hN, hM]; rfl⟩
             case measure => simp [intOf]; omega)
      · go_wp2_with (fail)
        go_ret
        refine ⟨ret_bool ?_, rfl⟩
        have hke : s.data.toList.take k = s.data.toList := List.take_of_length_le (by rw [size_len]; omega)
        have := HA.out
        rw [hke] at this
        exact this.symm
theorem name_any (s : ByteArray) (m : Bool) (w : World) (hs : s.size ≤ maxLen) :
    Calls Try.prog 118 #[.string s, .bool m] w fun e w' => e = .returned (.bool (nameB s.data.toList m)) ∧ w = w' := name_core s m m (Lib.hid rfl) w hs
end Go.Proofs.Ytifgkpfieapdjaa
