/-
  DERIVED. GIVEN WITH THE SEED: THE CARDS: each row of YtkphpihggbbpkaaDoorRows.lean that lists a variable, with what it lists TIED to the program's text (the seventh form; the later family's looks); each row that meets fmt, with fmt's text TOLD by the authors' own Lean function (tested against real Go, not proved from fmt's source: count such statements apart). THE CARD IS WHAT COUNTS. Prove the row's statement (the work); the ties are given (YtkphpihggbbpkaaDoorTie.lean); close each card by the builder's one call (the guide's Derived/Test/ToyasCard.lean, 'card_holds'). Laid BY PROGRAM, IN A SANDBOX (cutbox-door.mjs). By AI agents, Wed Nov 11 2026. No macro, syntax, notation, axiom, sorry.
-/
import Derived.Test.YtkphpihggbbpkaaDoorRows
import GoSem.ClaimSeven
namespace Go.Proofs.YtkphpihggbbpkaaDoor
namespace Rows

/-- THE TIED CARD OF 'regletlaw07.KinFits'. -/
def kinFitsCard : Claim7 := { stood := { row := kinFitsRow, standIns := [], harness := (true, "3880f460818c881784438454c150cadeb09b623f0e720afa55cba6654428372e"), looks := false }, kinds := [], alts := [], laidByText := true, laidKinds := [.data, .pinned], laidTests := true, laidLooks := .later }
def KinFitsCardSaid : Prop := Claim7.holds Tryd.pinned (.plain (OpenSpec.ofChange kinFitsSpec)) kinFitsCard

/-- THE SECOND FORM's CARD OF 'regletlaw07.KinFits'. -/
def kinFitsUptoCard : Claim7 := { stood := { row := kinFitsUptoRow, standIns := [], harness := (true, "3880f460818c881784438454c150cadeb09b623f0e720afa55cba6654428372e"), looks := false }, kinds := [], alts := [], laidByText := true, laidKinds := [.data, .pinned], laidTests := true, laidLooks := .later }
def KinFitsUptoCardSaid : Prop := Claim7.holds Tryd.pinned (.plain (OpenSpec.upto kinFitsSpec)) kinFitsUptoCard
end Rows
end Go.Proofs.YtkphpihggbbpkaaDoor
