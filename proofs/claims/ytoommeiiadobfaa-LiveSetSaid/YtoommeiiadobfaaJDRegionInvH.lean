/- A region that draws its order, by one relation that every operation keeps, behind loads that were taken first: no program in this text. -/
import Derived.Test.YtoommeiiadobfaaDM15
import Derived.OrdersHeld
namespace Go.Proofs.Ytoommeiiadobfaa
open Go
set_option linter.unusedVariables false
theorem wpAnyH_inv {P : Program} {md : Region.Mode} {ops : Array Oper} {Q : Exit → Act → World → Prop} {S : World → Prop} (I : Array Bool → Act → World → Prop)
  (hS : ∀ (listed : Array Bool) (a : Act) (w : World), I listed a w → S w)
  (hstep : ∀ (listed : Array Bool) (a : Act) (w : World) (i : Nat), listed.size = ops.size → I listed a w → i ∈ Region.ready md ops listed → wpOp P ops Q i (fun a' w' => I (listed.setIfInBounds i true) a' w') a w)
  (hend : ∀ (listed : Array Bool) (a : Act) (w : World), listed.size = ops.size → Region.ready md ops listed = [] → I listed a w → Q .normal a w) :
  ∀ (fuel : Nat) (listed : Array Bool) (a : Act) (w : World), listed.size = ops.size → listed.toList.count false ≤ fuel → I listed a w → wpAnyH P md ops Q S fuel listed a w
 | 0, listed, a, w, hs, hc, hI => by
  have hr := ready_none (md := md) hs (by omega)
  exact ⟨hr, hend listed a w hs hr hI⟩
 | fuel + 1, listed, a, w, hs, hc, hI => by
  refine ⟨fun hr => hend listed a w hs hr hI, fun i hi => wpOp_mono (fun a' w' h' => ⟨hS _ _ _ h', ?_⟩) (hstep listed a w i hs hI hi)⟩
  obtain ⟨h1, h2⟩ := ready_unlisted hi hs
  refine wpAnyH_inv I hS hstep hend fuel _ a' w' (by simpa using hs) ?_ h'
  have hl : (listed.setIfInBounds i true).toList = listed.toList.set i true := by simp
  have h3 : listed.toList[i]'(by simpa using h1) = false := by simpa using h2
  rw [hl, List.count_set (by simpa using h1), h3]
  have h4 : listed.toList.count false - 1 + 0 ≤ fuel := by omega
  exact h4
end Go.Proofs.Ytoommeiiadobfaa
