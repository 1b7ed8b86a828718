/- Contracts of desc.inName and desc.inMethodName: for all bytes they answer inN and inM. -/
import Derived.Test.YthaijdcgmcfpiaaProg
import Derived.Test.YthaijdcgmcfpiaaDescMath
import Derived.WalkKit
import Derived.ProofKit
import Derived.OpenShut
import Derived.Lib.Hide
namespace Go.Proofs.Ythaijdcgmcfpiaa
open Go.RowKit Go
set_option linter.unusedVariables false


theorem ret_bool {a b : Bool} (h : a = b) : Ending.returned (.bool a) = .returned (.bool b) := by rw [h]
theorem u8_eq (c : UInt8) (n : Nat) (h : n < 256) : (c == n.toUInt8) = decide ((c.toNat : Int) = n) := by
  rw [Bool.eq_iff_iff]
  simp only [beq_iff_eq, decide_eq_true_eq]
  constructor
  · rintro rfl
    simp
    omega
  · intro e
    apply UInt8.toNat_inj.1
    simp
    omega
theorem inN_iff (c : UInt8) : inN c = true ↔ (97 ≤ (c.toNat : Int) ∧ (c.toNat : Int) ≤ 122) ∨ (65 ≤ (c.toNat : Int) ∧ (c.toNat : Int) ≤ 90) ∨ (48 ≤ (c.toNat : Int) ∧ (c.toNat : Int) ≤ 57) ∨ (c.toNat : Int) = 95 ∨ (c.toNat : Int) = 36 ∨ (c.toNat : Int) = 47 := by
  have e1 := u8_eq c 95 (by omega)
  have e2 := u8_eq c 36 (by omega)
  have e3 := u8_eq c 47 (by omega)
  unfold inN
  rw [show ((95 : UInt8)) = (95 : Nat).toUInt8 from rfl, show ((36 : UInt8)) = (36 : Nat).toUInt8 from rfl, show ((47 : UInt8)) = (47 : Nat).toUInt8 from rfl, e1, e2, e3]
  simp only [UInt8.le_iff_toNat_le, Bool.or_eq_true, Bool.and_eq_true, decide_eq_true_eq]
  simp
  omega
theorem inM_iff (c : UInt8) : inM c = true ↔ (c.toNat : Int) = 60 ∨ (c.toNat : Int) = 62 := by
  have e1 := u8_eq c 60 (by omega)
  have e2 := u8_eq c 62 (by omega)
  unfold inM
  rw [show ((60 : UInt8)) = (60 : Nat).toUInt8 from rfl, show ((62 : UInt8)) = (62 : Nat).toUInt8 from rfl, e1, e2]
  simp

set_option maxHeartbeats 1000000 in
set_option maxRecDepth 100000 in
theorem inName_any (c : UInt8) (w : World) :
    Calls Try.prog 112 #[.int .u8 c.toNat] w fun e w' => e = .returned (.bool (inN c)) ∧ w = w' := by
  have hi := inN_iff c
  go_enter Try.func112, Try.ntmps112
  revert hi
  generalize inN c = bb
  intro hi
  have HI := hi
  clear hi
  go_wp2
  all_goals
    go_ret
    refine ⟨ret_bool ?_, rfl⟩
    rw [Bool.eq_iff_iff, HI]
    first | done | (simp; done) | (simp; omega) | (simp at *; omega)

set_option maxHeartbeats 1000000 in
set_option maxRecDepth 100000 in
theorem inMethodName_any (c : UInt8) (w : World) :
    Calls Try.prog 113 #[.int .u8 c.toNat] w fun e w' => e = .returned (.bool (inM c)) ∧ w = w' := by
  go_enter Try.func113, Try.ntmps113
  go_wp2
  all_goals
    go_ret
    refine ⟨ret_bool ?_, rfl⟩
    rw [Bool.eq_iff_iff, inM_iff]
    first | done | (simp; done) | (simp; omega) | (simp at *; omega)
end Go.Proofs.Ythaijdcgmcfpiaa
