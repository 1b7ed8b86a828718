/- Walks of the statements of layer 1 that need package num alone: each returns true for all arguments and leaves the world as it was but for new blocks. -/
import Derived.Test.YtjhjpifdknhkeaaNum
import Derived.Test.YtjhjpifdknhkeaaBits
import Derived.OpenShut
namespace Go.Proofs.Ytjhjpifdknhkeaa
open Go.RowKit
set_option linter.unusedVariables false

theorem holds_any (w : World) : Calls Try.prog 12 #[] w fun e w' => e = .returned (.bool true) ∧ w = w' := by
  have e1 : opI 108 (-7) 2 = -3 := by decide +kernel
  have e2 : opI 112 (-7) 2 = -1 := by decide +kernel
  have e3 : opI 120 1 33 = 2 := by decide +kernel
  have e4 : opL 125 (-1) 63 = 1 := by decide +kernel
  have e5 : one 146 (-1) = 65535 := by decide +kernel
  go_enter Try.func12, Try.ntmps12
  go_wp2_with (first | (go_at_call 14; refine (int_any _ _ _ _).mono ?_; rintro e w' ⟨rfl, rfl⟩) | (go_at_call 15; refine (long_any _ _ _ (by decide) (by decide) _).mono ?_; rintro e w' ⟨rfl, rfl⟩) | (go_at_call 20; refine (one_any _ _ _).mono ?_; rintro e w' ⟨rfl, rfl⟩))
  go_ret
  exact ⟨rfl, rfl⟩

end Go.Proofs.Ytjhjpifdknhkeaa
