/-
  PROVED: reglet/regletlaw15.FoldForms returns true for all arguments, and every argument reads afterwards as before. Conditions: none beyond the given row's.
  The walk is in YtbkeneadoccodaaFolForms.
-/
import Derived.Test.YtbkeneadoccodaaRows
import Derived.Test.YtbkeneadoccodaaM17
import Derived.Test.YtbkeneadoccodaaM18
import Derived.WalkKit
import Derived.ProofKit
import Derived.OpenShut
import Derived.SizedLaws
import Derived.Carry
namespace Go.Proofs.Ytbkeneadoccodaa.foldForms
open Go.ChangeShapes Go.WideShapes Go.ChangeAt Go.RowKit
open Go.ChangeMaps (open_string shut_string)
set_option linter.unusedVariables false
theorem own : ownKnob Try.prog.godebug = none := by kernel_rfl
theorem laidOut : laidOutB Try.prog = true := by kernel_rfl
set_option maxRecDepth 100000 in
theorem lifted (os : Os) (started : os.Started) (H : Type) (enc : TypeId × Value → H) :
  ReturnsInHanded {} Try.checked os 4 .any (Rows.foldFormsSpec.pre6 enc Try.prog Try.f4 Rows.foldFormsRow.domain false) (Rows.foldFormsSpec.post enc Try.prog Try.f4 false true false false) := by
 refine returnsInHanded_of_change_sized (C := Try.checked) own started (by kernel_rfl) Try.func4
  (ChangeSpec.witness6 (enc := enc) (C := Try.checked) false ⟨#[], #[.agg #[.slice none 0 0, .slice none 0 0, .int .i64 0, .slice none 0 0, .slice none 0 0]], []⟩ 8 (by kernel_rfl) (by kernel_rfl) (by kernel_rfl) (by kernel_rfl)) ?_
 intro W base args ds gs before hval0 hW hcnd hsz0 _
 have hsz : (DataW.weightsEach Try.prog (Try.f4.params.toList ++ Rows.foldFormsSpec.plain.varTypes Try.prog) (ds ++ gs)).all (· ≤ reachBytes) = true := hsz0
 clear hsz0
 have hval : ∀ (j : Nat) t v, Try.f4.params[j]? = some t → args[j]? = some v → Value.okWide Try.prog W .any base t v := hval0
 have hW' := hW
 obtain ⟨p, q, hA0, hV, rfl, hfz, hnd⟩ := hW
 have hA : DataW.TrodAll enc Try.prog W 0 (fun _ => true) true Try.f4.params.toList args.toList ds p := hA0
 rw [Try.params4] at hA hval hsz
 obtain ⟨v0, vs0, d0, ds0, p0, q0q, hargs, rfl, rfl, h0, r0⟩ := trodAll_cons hA
 obtain ⟨rfl, rfl, rfl⟩ := trodAll_nil r0
 obtain rfl : args = #[v0] := by cases args; simp_all
 obtain ⟨rfl, rfl⟩ := trodVars_none hV
 have h0k := h0
 obtain ⟨cs0, rfl, hcs0⟩ := okWide_struct Try.underlying27 (hval 0 27 v0 rfl rfl)
 obtain ⟨y0, rfl⟩ : ∃ y : List Value, cs0 = y.toArray := ⟨cs0.toList, by simp⟩
 have g0 : ∃ (x : FuI) (a b d e : Value), y0 = [a, b, .int .i64 x.ret, d, e] ∧ FuV Tru W x a b d e ∧ FuQ2 x ∧ Capd a ∧ Capd b ∧ Capd d ∧ Capd e := by
  obtain ⟨fuel, hf⟩ := h0
  exact fu_each fuel y0 d0 p0 (by have e := hcs0; simp only [List.size_toArray] at e; exact e.trans (by kernel_rfl)) hf (wgh_arg hsz (j := 0) rfl rfl)
 obtain ⟨X0, fa0, fb0, fd0, fe0, rfl, u0, q0, ca0, cb0, cd0, ce0⟩ := g0
 clear hA0 hval0
 simp only [List.append_nil] at hW'
 have hlt : ∀ x ∈ p0, x.block < W.heap.size := fun x hx => by have := hW'.lt x (by first | simpa using hx | simp [hx]); simpa using this
 refine (FoldForms_walk X0 fa0 fb0 fd0 fe0 W (lhid u0) (lhid q0.q) (lhid cb0) (lhid ⟨q0.regsL, q0.paramsL, q0.codeL, q0.rowsL, fun x hx => (q0.code x hx).args⟩) (lhid (fun r hr => (q0.rows r hr).2.2)) (lhid (fun x hx => inq_uses (q0.code x hx))) (lhid (fun x hx => ⟨(q0.code x hx).a, (q0.code x hx).b, (q0.code x hx).dst⟩))).mono fun e W' ⟨he, hg⟩ => ?_
 subst he
 exact ⟨_, rfl, _, _, _, [], _, [], hW', trodAll_cons_mk (shut_bool Try.underlying4 _) trodAll_mk0, (trodAll_cons_mk (Below.trod laidOut (by kernel_rfl) (of_decide_eq_true (by kernel_rfl)) h0k hg (fun x hx => hlt x (by simp [hx]))) trodAll_mk0), rfl, hg.frame _, fun h => by cases h⟩
theorem over : Rows.foldFormsRow.holds Try.pinned (OpenSpec.ofChange Rows.foldFormsSpec) :=
 OpenClaim.holds_of_wide 4 Try.f4 rfl rfl rfl rfl rfl rfl rfl ⟨rfl, rfl, rfl, rfl, rfl⟩ rfl rfl rfl rfl rfl (by kernel_rfl) Try.func4 (by kernel_rfl)
  (of_decide_eq_true (by kernel_rfl)) (by unfold Func.isWrapper; first | (rw [if_pos (by decide +kernel)]; kernel_rfl) | (rw [if_neg (by decide +kernel)]; exact ⟨rfl, rfl⟩))
  (fun os started H enc _ => lifted os started H enc)
theorem proved : Rows.FoldFormsSaid :=
 over
#print axioms proved
end Go.Proofs.Ytbkeneadoccodaa.foldForms
