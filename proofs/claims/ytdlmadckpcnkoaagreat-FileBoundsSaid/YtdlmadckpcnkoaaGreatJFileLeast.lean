/- The smallest class: what the document writes of it is parsed as it. No program in this text. -/
import Derived.Test.YtdlmadckpcnkoaaGreatM9
import Derived.Test.YtdlmadckpcnkoaaGreatM1
import Derived.KernelRfl
namespace Go.Proofs.YtdlmadckpcnkoaaGreat
open Go Go.RowKit
set_option linter.unusedVariables false

def objB : Bs := [79, 98, 106, 101, 99, 116]
def leastC : Cls := ⟨0, [97], objB, [], [⟨0, 0, [], [], []⟩, ⟨1, 0, [97], [], []⟩, ⟨1, 0, objB, [], []⟩, ⟨7, 0, [97], [], []⟩, ⟨7, 0, objB, [], []⟩], [], []⟩
theorem least_bytes : wBare (clI leastC) = ([82, 69, 71, 76, 0, 5, 1, 0, 1, 97, 1, 0, 6, 79, 98, 106, 101, 99, 116, 7, 0, 1, 7, 0, 2, 0, 0, 0, 3, 0, 4, 0, 0, 0, 0, 0, 0], false) := by decide +kernel
theorem least_par : parP [82, 69, 71, 76, 0, 5, 1, 0, 1, 97, 1, 0, 6, 79, 98, 106, 101, 99, 116, 7, 0, 1, 7, 0, 2, 0, 0, 0, 3, 0, 4, 0, 0, 0, 0, 0, 0] = .ok leastC [] := by kernel_rfl
theorem least_more : parP ([82, 69, 71, 76, 0, 5, 1, 0, 1, 97, 1, 0, 6, 79, 98, 106, 101, 99, 116, 7, 0, 1, 7, 0, 2, 0, 0, 0, 3, 0, 4, 0, 0, 0, 0, 0, 0] ++ [0]) = .er 11 := by kernel_rfl
end Go.Proofs.YtdlmadckpcnkoaaGreat
