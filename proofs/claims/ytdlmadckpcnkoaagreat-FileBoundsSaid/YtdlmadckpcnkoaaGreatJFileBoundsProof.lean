/-
  PROVED: reglet/regletlaw04.FileBounds returns true for all arguments, and every argument reads afterwards as before. Conditions: none beyond the given row's.
  The walk is in YtdlmadckpcnkoaaGreatFileLaw2.
-/
import Derived.Test.YtdlmadckpcnkoaaGreatRows
import Derived.Test.YtdlmadckpcnkoaaGreatJFileBounds
import Derived.Test.YtdlmadckpcnkoaaGreatJFileRef8
import Derived.Test.YtdlmadckpcnkoaaGreatJPoolOpen
import Derived.WalkKit
import Derived.ProofKit
import Derived.OpenShut
import Derived.SizedLaws
import Derived.Carry
namespace Go.Proofs.YtdlmadckpcnkoaaGreat
open Go.RowKit Go
set_option linter.unusedVariables false

theorem FileBounds_all (v : Value) (l : Bs) (w : World) (h : RdB w v l) :
    Calls Tryz.prog 5 #[v] w fun e w' => e = .returned (.bool true) ∧ Below w.heap.size w w' :=
  FileBounds_walk (lhid fun v l w h => rparse_any v l w h) v l w h
end Go.Proofs.YtdlmadckpcnkoaaGreat
namespace Go.Proofs.YtdlmadckpcnkoaaGreat.fileBounds
open Go.ChangeShapes Go.WideShapes Go.ChangeAt Go.RowKit
open Go.ChangeMaps (open_string shut_string)
set_option linter.unusedVariables false

theorem own : ownKnob Tryz.prog.godebug = none := by kernel_rfl
theorem laidOut : laidOutB Tryz.prog = true := by kernel_rfl
theorem cells5 : Tryz.prog.cellsOf 5 = 1 := by kernel_rfl

set_option maxRecDepth 100000 in
theorem lifted (os : Os) (started : os.Started) (H : Type) (enc : TypeId × Value → H) :
    ReturnsInHanded {} Tryz.checked os 5 .any (Rows.fileBoundsSpec.pre6 enc Tryz.prog Tryz.f5 Rows.fileBoundsRow.domain false) (Rows.fileBoundsSpec.post enc Tryz.prog Tryz.f5 false true false false) := by
  refine returnsInHanded_of_change_sized (C := Tryz.checked) own started (by kernel_rfl) Tryz.func5
    (ChangeSpec.witness6 (enc := enc) (C := Tryz.checked) false ⟨#[], #[.slice none 0 0], []⟩ 8 (by kernel_rfl) (by kernel_rfl) (by kernel_rfl) (by kernel_rfl)) ?_
  intro W base args ds gs before hval0 hW hcnd hsz0 _
  clear hsz0
  have hval : ∀ (j : Nat) t v, Tryz.f5.params[j]? = some t → args[j]? = some v → Value.okWide Tryz.prog W .any base t v := hval0
  have hW' := hW
  obtain ⟨p, q, hA0, hV, rfl, hfz, hnd⟩ := hW
  have hA : DataW.TrodAll enc Tryz.prog W 0 (fun _ => true) true Tryz.f5.params.toList args.toList ds p := hA0
  rw [Tryz.params5] at hA hval
  obtain ⟨v0, vs0, d0, ds0, p0, q0, hargs, rfl, rfl, h0, r0⟩ := trodAll_cons hA
  obtain ⟨rfl, rfl, rfl⟩ := trodAll_nil r0
  obtain rfl : args = #[v0] := by cases args; simp_all
  obtain ⟨rfl, rfl⟩ := trodVars_none hV
  have h0k := h0
  have g0 : ∃ L0 : Bs, RdB W v0 L0 := by
    have hv := hval 0 22 v0 rfl rfl
    obtain ⟨a, len, cap, rfl⟩ := okWide_slice Tryz.underlying22 hv
    obtain ⟨fuel, hf⟩ := h0
    exact open_bytes Tryz.underlying22 Tryz.underlying5 cells5 (okWide_spot Tryz.underlying22 hv) hf
  obtain ⟨L0, u0⟩ := g0
  clear hA0 hval0
  simp only [List.append_nil] at hW'
  have hlt : ∀ x ∈ p0, x.block < W.heap.size := fun x hx => by have := hW'.lt x (by first | simpa using hx | simp [hx]); simpa using this
  refine (FileBounds_all v0 L0 W u0).mono fun e W' ⟨he, hg⟩ => ?_
  subst he
  exact ⟨_, rfl, _, _, _, [], _, [], hW', trodAll_cons_mk (shut_bool Tryz.underlying4 _) trodAll_mk0, (trodAll_cons_mk (Below.trod laidOut (by kernel_rfl) (of_decide_eq_true (by kernel_rfl)) h0k hg (fun x hx => hlt x (by simp [hx]))) trodAll_mk0), rfl, hg.frame _, fun h => by cases h⟩

theorem over : Rows.fileBoundsRow.holds Tryz.pinned (OpenSpec.ofChange Rows.fileBoundsSpec) :=
  OpenClaim.holds_of_wide 5 Tryz.f5 rfl rfl rfl rfl rfl rfl rfl ⟨rfl, rfl, rfl, rfl, rfl⟩ rfl rfl rfl rfl rfl (by kernel_rfl) Tryz.func5 (by kernel_rfl)
    (of_decide_eq_true (by kernel_rfl)) (by unfold Func.isWrapper; first | (rw [if_pos (by decide +kernel)]; kernel_rfl) | (rw [if_neg (by decide +kernel)]; exact ⟨rfl, rfl⟩))
    (fun os started H enc _ => lifted os started H enc)

/-- THE STATEMENT -/
theorem proved : Rows.FileBoundsSaid :=
  over
#print axioms proved
end Go.Proofs.YtdlmadckpcnkoaaGreat.fileBounds
