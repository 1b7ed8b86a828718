/- Texts of this claim, joined: CQuietC, CQuietT. -/
import Derived.Test.YtbkeneadoccodaaProg
import Derived.BigQuiet
import Derived.WalkKit
import Derived.Lib.Hide
import Derived.OrdersHeld
import Derived.Deep.RegionHeld3
/- A region that draws its order, walked once in the order of the text: its callees keep a class of worlds. No program. -/
namespace Go.Proofs.Ytbkeneadoccodaa
open Go.RowKit Go
set_option linter.unusedVariables false
theorem wp_region_quiet_c {P : Program} {C : World → Prop} {id : Nat} {Q : Exit → Act → World → Prop} {a : Act} {w : World} {l : List Oper} (hm : P.follows .mixedOrders = true) (hB : Region.lexB .any l.toArray = true) (hC : C w.drew)
  (h : wpQuiet P l.toArray C (fun a' => ∀ w', C w' → Q .normal a' w') l a) : (Code.region id l.toArray true).wp P Q a w :=
 wp_region_quiet (C := C) hm hB hC (by simpa using h)
theorem quiet_of_run {P : Program} {o : Oper} {a : Act} {C : World → Prop} {K : Act → Prop} {v : Value} (h : ∀ w, C w → (execOp a.eval o).run P w = .ok (.value v) w) (hk : K (a.put o.dst v)) : o.quiet P a C K :=
 ⟨v, fun w hw => by
  unfold Oper.quietAt
  rw [h w hw]
  exact ⟨rfl, rfl⟩, hk⟩
theorem quiet_of_call {P : Program} {o : Oper} {a : Act} {C : World → Prop} {K : Act → Prop} {v : Value} {f : FuncId} {args : Array Value} (h : ∀ w, C w → (execOp a.eval o).run P w = .ok (.enter f args) w) (hc : ∀ w, C w → Calls P f args w fun e w' => e = .returned v ∧ C w') (hk : K (a.put o.dst v)) : o.quiet P a C K :=
 ⟨v, fun w hw => by
  unfold Oper.quietAt
  rw [h w hw]
  exact ⟨rfl, hc w hw⟩, hk⟩
end Go.Proofs.Ytbkeneadoccodaa
/- A region that draws its order: what is left of it, walked once in the order of the text. No program. -/
namespace Go.Proofs.Ytbkeneadoccodaa
open Go.RowKit Go
set_option linter.unusedVariables false
theorem wpAnyH_of_quiet {P : Program} {C S : World → Prop} {md : Region.Mode} {ops : Array Oper} {Q : Act → Prop} {Q' : Exit → Act → World → Prop} (hQ : ∀ a w, C w → Q a → Q' .normal a w) (hS : ∀ w, C w → S w) : ∀ (fuel : Nat) (listed : Array Bool) (a : Act) (w : World), C w →
  wpAnyQ P md ops C Q fuel listed a → wpAnyH P md ops Q' S fuel listed a w
 | 0, _, _, _, hw, h => ⟨h.1, hQ _ _ hw h.2⟩
 | fuel + 1, _, _, _, hw, h => ⟨fun h0 => hQ _ _ hw (h.1 h0), fun i hi => wpOp_of_qOp hw (fun a' w' hw' hk => ⟨hS _ hw', wpAnyH_of_quiet hQ hS fuel _ a' w' hw' hk⟩) (h.2 i hi)⟩
theorem wpAnyH_quiet_tail {P : Program} {C : World → Prop} {md : Region.Mode} {L : List Oper} {Q : Exit → Act → World → Prop} {fuel : Nat} {listed : Array Bool} {a : Act} {w : World} (k : Nat) (hf : (L.drop k).length = fuel) (hs : Region.noSelect L.toArray = true) (hB : Region.lexFrom md L.toArray fuel k listed = true) (hC : C w)
  (h : wpQuiet P L.toArray C (fun a' => ∀ w', C w' → Q .normal a' w') (L.drop k) a) : wpAnyH P md L.toArray Q C fuel listed a w := by
 subst hf
 refine wpAnyH_of_quiet (C := C) (Q := fun a' => ∀ w', C w' → Q .normal a' w') (fun _ w' hw' h => h w' hw') (fun _ h => h) _ _ _ _ hC ?_
 refine wpAnyQ_lex hs (L.drop k) k listed a (fun j => ?_) hB h
 rw [List.getElem?_drop]
 simp
end Go.Proofs.Ytbkeneadoccodaa
