/- Replace in plain words: what goes back is what it was. No program in this text. -/
import Derived.Test.YtoommeiiadobfaaDM2
namespace Go.Proofs.Ytoommeiiadobfaa
open Go.RowKit Go
set_option linter.unusedVariables false
theorem u0 {x : InI} (h : rk x.op = 0) : usesI x = [] := by
 unfold usesI
 rw [h]
 rfl
end Go.Proofs.Ytoommeiiadobfaa
