/- Texts of this claim, joined: CInsRepl0, CInsChecks. -/
import Derived.Test.YtoommeiiadobfaaM2
import Derived.Test.YtoommeiiadobfaaJCInsRChk5
import Derived.Test.YtoommeiiadobfaaM8
import Derived.Deep.Cut
/- Replace in plain words: what goes back is what it was. No program in this text. -/
namespace Go.Proofs.Ytoommeiiadobfaa
open Go.RowKit Go
set_option linter.unusedVariables false
theorem u0 {x : InI} (h : rk x.op = 0) : usesI x = [] := by
 unfold usesI
 rw [h]
 rfl
end Go.Proofs.Ytoommeiiadobfaa
/- The walk of law 10's InsChecks. -/
namespace Go.Proofs.Ytoommeiiadobfaa
open Go.RowKit Go
set_option linter.unusedVariables false
set_option linter.unusedSimpArgs false
theorem rcheck_r {P : Nat → Prop} (f : FuI) (fa fb fd fe : Value) (c : Int) (w : World) (h : Hid (FuV P w f fa fb fd fe)) (hq : Hid (FuQ f)) (hcap : Hid (∀ A n cap, fb = .slice A n cap → n ≤ cap ∧ cap ≤ maxLen)) (hc : Hid (chkN f = c)) :
  Calls Try.prog 9 #[fuL fa fb f.ret fd fe] w fun e w' => e = .returned (.int .i64 c) ∧ Below w.heap.size w w' := by
 have := rcheck_any f fa fb fd fe w h hq hcap
 rwa [hc.out] at this
end Go.Proofs.Ytoommeiiadobfaa
