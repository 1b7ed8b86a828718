/- An argument that is a list of Booleans. -/
import Derived.Test.YtkphpihggbbpkaaKinOpen
namespace Go.Proofs.Ytkphpihggbbpkaa
open Go.RowKit Go Go.ChangeShapes Go.WideShapes
set_option linter.unusedVariables false
set_option linter.unusedSimpArgs false

def BoE (_ : World) (b : Bool) (c : List Value) : Prop := c = [.bool b]
theorem ocbool : Try.prog.cellsOf 4 = 1 := by kernel_rfl
section
variable {H : Type} {enc : TypeId × Value → H} {w : World} {base : Nat}
theorem bo_each (fuel : Nat) (cs : List Value) (d : DataW H) (ps : List MemPlace) (hl : cs.length = 1) (h : DataW.trod enc Try.prog w base (fun _ => true) true fuel 4 cs = some (d, ps)) (hb : Rows.uptoBulk d ≤ 1048576) : ∃ x : Bool, BoE w x cs := by
  obtain ⟨b, rfl, hx⟩ := DataW.trod_bool Try.underlying4 h
  exact ⟨b, rfl⟩
theorem open_bools {fuel : Nat} {v : Value} {d : DataW H} {ps : List MemPlace} (h : DataW.trod enc Try.prog w base (fun _ => true) true fuel 40 [v] = some (d, ps)) (hb : Rows.uptoBulk d ≤ 1048576) : ∃ l : List Bool, RdX Tru 1 BoE w v l ∧ l.length ≤ 1048576 :=
  open_list (E := fun w x c => BoE w x c) Try.underlying40 ocbool (by omega) bo_each h hb
end
end Go.Proofs.Ytkphpihggbbpkaa
