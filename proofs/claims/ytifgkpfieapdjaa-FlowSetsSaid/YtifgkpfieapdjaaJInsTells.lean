/- The walk of law 10's InsTells. -/
import Derived.Test.YtifgkpfieapdjaaM6
import Derived.Test.YtifgkpfieapdjaaQuietT
namespace Go.Proofs.Ytifgkpfieapdjaa
open Go.RowKit Go
set_option linter.unusedVariables false
set_option linter.unusedSimpArgs false

theorem rints_b {P Q : Nat → Prop} (v u : Value) (l : List Int) (w : World) (h1 : Hid (RdX P 1 NuE w v l)) (h2 : Hid (RdX Q 1 NuE w u l)) :
    Calls Try.prog 34 #[v, u] w fun e w' => e = .returned (.bool true) ∧ Below w.heap.size w w' := by
  refine (rints_any v u l l w h1 h2).mono ?_
  rintro e w1 ⟨rfl, n, rfl⟩
  exact ⟨ret_bool (by simp), Below.drewN' (Below.refl _ _) n⟩
theorem usesI_len (x : InI) : (usesI x).length ≤ x.args.length + 3 := by
  unfold usesI
  split <;> first | (simp; done) | (split <;> simp; done) | omega | (simp only [List.length_cons, List.length_nil]; omega) | (split <;> simp only [List.length_cons, List.length_nil] <;> omega)
end Go.Proofs.Ytifgkpfieapdjaa
