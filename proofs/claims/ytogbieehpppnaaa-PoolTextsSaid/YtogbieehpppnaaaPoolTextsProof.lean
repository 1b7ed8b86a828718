/-
  PROVED: reglet/regletlaw03.PoolTexts returns true for all arguments, and every argument reads afterwards as before. Conditions: none beyond the given row's.
  The walk is in YtogbieehpppnaaaPoolTexts.
-/
import Derived.Test.YtogbieehpppnaaaRows
import Derived.Test.YtogbieehpppnaaaPoolTexts
import Derived.Test.YtogbieehpppnaaaPoolOpenT
import Derived.WalkKit
import Derived.ProofKit
import Derived.OpenShut
import Derived.SizedLaws
import Derived.Carry
namespace Go.Proofs.Ytogbieehpppnaaa.poolTexts
open Go.ChangeShapes Go.WideShapes Go.ChangeAt Go.RowKit
open Go.ChangeMaps (open_string shut_string)
set_option linter.unusedVariables false

theorem own : ownKnob Try.prog.godebug = none := by kernel_rfl
theorem laidOut : laidOutB Try.prog = true := by kernel_rfl
theorem cells2 : Try.prog.cellsOf 2 = 1 := by kernel_rfl
theorem bytes2 : Try.prog.bytesOf 2 = 8 := by kernel_rfl
theorem cells9 : Try.prog.cellsOf 9 = 1 := by kernel_rfl
theorem bytes9 : Try.prog.bytesOf 9 = 16 := by kernel_rfl

set_option maxRecDepth 100000 in
theorem lifted (os : Os) (started : os.Started) (H : Type) (enc : TypeId × Value → H) :
    ReturnsInHanded {} Try.checked os 5 .any (Rows.poolTextsSpec.pre6 enc Try.prog Try.f5 Rows.poolTextsRow.domain false) (Rows.poolTextsSpec.post enc Try.prog Try.f5 false true false false) := by
  refine returnsInHanded_of_change_sized (C := Try.checked) own started (by kernel_rfl) Try.func5
    (ChangeSpec.witness6 (enc := enc) (C := Try.checked) false ⟨#[], #[.slice none 0 0, .slice none 0 0], []⟩ 8 (by kernel_rfl) (by kernel_rfl) (by kernel_rfl) (by kernel_rfl)) ?_
  intro W base args ds gs before hval0 hW hcnd hsz0 _
  have hsz : (DataW.weightsEach Try.prog (Try.f5.params.toList ++ Rows.poolTextsSpec.plain.varTypes Try.prog) (ds ++ gs)).all (· ≤ reachBytes) = true := hsz0
  clear hsz0
  have hval : ∀ (j : Nat) t v, Try.f5.params[j]? = some t → args[j]? = some v → Value.okWide Try.prog W .any base t v := hval0
  have hW' := hW
  obtain ⟨p, q, hA0, hV, rfl, hfz, hnd⟩ := hW
  have hA : DataW.TrodAll enc Try.prog W 0 (fun _ => true) true Try.f5.params.toList args.toList ds p := hA0
  rw [Try.params5] at hA hval hsz
  obtain ⟨v0, vs0, d0, ds0, p0, q0, hargs, rfl, rfl, h0, r0⟩ := trodAll_cons hA
  obtain ⟨v1, vs1, d1, ds1, p1, q1, rfl, rfl, rfl, h1, r1⟩ := trodAll_cons r0
  obtain ⟨rfl, rfl, rfl⟩ := trodAll_nil r1
  obtain rfl : args = #[v0, v1] := by cases args; simp_all
  obtain ⟨rfl, rfl⟩ := trodVars_none hV
  have h0k := h0
  have g0 : ∃ L0 : List ByteArray, RdT W v0 L0 ∧ Long d0 L0.length := by
    have hv := hval 0 44 v0 rfl rfl
    obtain ⟨a, len, cap, rfl⟩ := okWide_slice Try.underlying44 hv
    obtain ⟨fuel, hf⟩ := h0
    exact open_texts Try.underlying44 Try.underlying9 cells9 (okWide_spot Try.underlying44 hv) hf
  obtain ⟨L0, u0, m0⟩ := g0
  have n0 : L0.length ≤ 140737488355328 := long_bound m0 hsz (j := 0) (t := 44) (e := 9) rfl rfl Try.underlying44 (by rw [bytes9]; decide)
  have h1k := h1
  have g1 : ∃ L1 : List Int, RdI W v1 L1 ∧ Long d1 L1.length ∧ ∀ z ∈ L1, -9223372036854775808 ≤ z ∧ z ≤ 9223372036854775807 := by
    have hv := hval 1 45 v1 rfl rfl
    obtain ⟨a, len, cap, rfl⟩ := okWide_slice Try.underlying45 hv
    obtain ⟨fuel, hf⟩ := h1
    exact open_longs Try.underlying45 Try.underlying2 cells2 (okWide_spot Try.underlying45 hv) hf
  obtain ⟨L1, u1, m1, b1⟩ := g1
  have n1 : L1.length ≤ 140737488355328 := long_bound m1 hsz (j := 1) (t := 45) (e := 2) rfl rfl Try.underlying45 (by rw [bytes2]; decide)
  clear hA0 hval0
  simp only [List.append_nil] at hW'
  have hlt : ∀ x ∈ p0 ++ p1, x.block < W.heap.size := fun x hx => by have := hW'.lt x (by first | simpa using hx | simp [hx]); simpa using this
  refine (PoolTexts_walk v0 v1 L0 L1 W u0 u1 n0 n1 b1).mono fun e W' ⟨he, hg⟩ => ?_
  subst he
  exact ⟨_, rfl, _, _, _, [], _, [], hW', trodAll_cons_mk (shut_bool Try.underlying4 _) trodAll_mk0, (trodAll_cons_mk (Below.trod laidOut (by kernel_rfl) (of_decide_eq_true (by kernel_rfl)) h0k hg (fun x hx => hlt x (by simp [hx]))) (trodAll_cons_mk (Below.trod laidOut (by kernel_rfl) (of_decide_eq_true (by kernel_rfl)) h1k hg (fun x hx => hlt x (by simp [hx]))) trodAll_mk0)), rfl, hg.frame _, fun h => by cases h⟩

theorem over : Rows.poolTextsRow.holds Try.pinned (OpenSpec.ofChange Rows.poolTextsSpec) :=
  OpenClaim.holds_of_wide 5 Try.f5 rfl rfl rfl rfl rfl rfl rfl ⟨rfl, rfl, rfl, rfl, rfl⟩ rfl rfl rfl rfl rfl (by kernel_rfl) Try.func5 (by kernel_rfl)
    (of_decide_eq_true (by kernel_rfl)) (by unfold Func.isWrapper; first | (rw [if_pos (by decide +kernel)]; kernel_rfl) | (rw [if_neg (by decide +kernel)]; exact ⟨rfl, rfl⟩))
    (fun os started H enc _ => lifted os started H enc)

/-- THE STATEMENT -/
theorem proved : Rows.PoolTextsSaid :=
  over
#print axioms proved
end Go.Proofs.Ytogbieehpppnaaa.poolTexts
