/- The walk of law 10's InsChecks. -/
import Derived.Test.YtifgkpfieapdjaaJInsRChk5
import Derived.Test.YtifgkpfieapdjaaM6
import Derived.Deep.Cut
namespace Go.Proofs.Ytifgkpfieapdjaa
open Go.RowKit Go
set_option linter.unusedVariables false
set_option linter.unusedSimpArgs false

theorem rcheck_r {P : Nat → Prop} (f : FuI) (fa fb fd fe : Value) (c : Int) (w : World) (h : Hid (FuV P w f fa fb fd fe)) (hq : Hid (FuQ f)) (hcap : Hid (∀ A n cap, fb = .slice A n cap → n ≤ cap ∧ cap ≤ maxLen)) (hc : Hid (chkN f = c)) :
    Calls Try.prog 17 #[fuL fa fb f.ret fd fe] w fun e w' => e = .returned (.int .i64 c) ∧ Below w.heap.size w w' := by
  have := rcheck_any f fa fb fd fe w h hq hcap
  rwa [hc.out] at this
end Go.Proofs.Ytifgkpfieapdjaa
