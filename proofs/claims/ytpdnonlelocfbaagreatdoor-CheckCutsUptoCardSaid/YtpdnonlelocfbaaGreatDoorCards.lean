/-
  DERIVED. GIVEN WITH THE SEED: THE CARDS: each row of YtpdnonlelocfbaaGreatDoorRows.lean that lists a variable, with what it lists TIED to the program's text (the seventh form; the later family's looks); each row that meets fmt, with fmt's text TOLD by the authors' own Lean function (tested against real Go, not proved from fmt's source: count such statements apart). THE CARD IS WHAT COUNTS. Prove the row's statement (the work); the ties are given (YtpdnonlelocfbaaGreatDoorTie.lean); close each card by the builder's one call (the guide's Derived/Test/ToyasCard.lean, 'card_holds'). Laid BY PROGRAM, IN A SANDBOX (cutbox-door.mjs). By AI agents, Wed Nov 11 2026. No macro, syntax, notation, axiom, sorry.
-/
import Derived.Test.YtpdnonlelocfbaaGreatDoorRows
import GoSem.ClaimSeven
namespace Go.Proofs.YtpdnonlelocfbaaGreatDoor
namespace Rows

/-- THE TIED CARD OF 'regletlaw08.CheckStates'. -/
def checkStatesCard : Claim7 := { stood := { row := checkStatesRow, standIns := [], harness := (true, "7b21aecf63e868885be4b23b1a12c1d411967ee9f4168f3f4dbcacaef52d0c76"), looks := true }, kinds := [], alts := [], laidByText := true, laidKinds := [.data, .pinned], laidTests := true, laidLooks := .later }
def CheckStatesCardSaid : Prop := Claim7.holds Tryz.pinned (.plain (OpenSpec.ofChange checkStatesSpec)) checkStatesCard

/-- THE TIED CARD OF 'regletlaw08.CheckCuts'. -/
def checkCutsCard : Claim7 := { stood := { row := checkCutsRow, standIns := [], harness := (true, "7b21aecf63e868885be4b23b1a12c1d411967ee9f4168f3f4dbcacaef52d0c76"), looks := true }, kinds := [], alts := [], laidByText := true, laidKinds := [.data, .pinned], laidTests := true, laidLooks := .later }
def CheckCutsCardSaid : Prop := Claim7.holds Tryz.pinned (.plain (OpenSpec.ofChange checkCutsSpec)) checkCutsCard

/-- THE TIED CARD OF 'regletlaw08.CheckStacks'. -/
def checkStacksCard : Claim7 := { stood := { row := checkStacksRow, standIns := [], harness := (true, "7b21aecf63e868885be4b23b1a12c1d411967ee9f4168f3f4dbcacaef52d0c76"), looks := true }, kinds := [], alts := [], laidByText := true, laidKinds := [.data, .pinned], laidTests := true, laidLooks := .later }
def CheckStacksCardSaid : Prop := Claim7.holds Tryz.pinned (.plain (OpenSpec.ofChange checkStacksSpec)) checkStacksCard

/-- THE TIED CARD OF 'regletlaw08.CheckNops'. -/
def checkNopsCard : Claim7 := { stood := { row := checkNopsRow, standIns := [], harness := (true, "7b21aecf63e868885be4b23b1a12c1d411967ee9f4168f3f4dbcacaef52d0c76"), looks := true }, kinds := [], alts := [], laidByText := true, laidKinds := [.data, .pinned], laidTests := true, laidLooks := .later }
def CheckNopsCardSaid : Prop := Claim7.holds Tryz.pinned (.plain (OpenSpec.ofChange checkNopsSpec)) checkNopsCard

/-- THE TIED CARD OF 'regletlaw09.LinkMethods'. -/
def linkMethodsCard : Claim7 := { stood := { row := linkMethodsRow, standIns := [], harness := (true, "7b21aecf63e868885be4b23b1a12c1d411967ee9f4168f3f4dbcacaef52d0c76"), looks := true }, kinds := [], alts := [], laidByText := true, laidKinds := [.data, .pinned], laidTests := true, laidLooks := .later }
def LinkMethodsCardSaid : Prop := Claim7.holds Tryz.pinned (.plain (OpenSpec.ofChange linkMethodsSpec)) linkMethodsCard

/-- THE TIED CARD OF 'regletlaw09.LinkBelow'. -/
def linkBelowCard : Claim7 := { stood := { row := linkBelowRow, standIns := [], harness := (true, "7b21aecf63e868885be4b23b1a12c1d411967ee9f4168f3f4dbcacaef52d0c76"), looks := true }, kinds := [], alts := [], laidByText := true, laidKinds := [.data, .pinned], laidTests := true, laidLooks := .later }
def LinkBelowCardSaid : Prop := Claim7.holds Tryz.pinned (.plain (OpenSpec.ofChange linkBelowSpec)) linkBelowCard

/-- THE TIED CARD OF 'regletlaw09.LinkNone'. -/
def linkNoneCard : Claim7 := { stood := { row := linkNoneRow, standIns := [], harness := (true, "7b21aecf63e868885be4b23b1a12c1d411967ee9f4168f3f4dbcacaef52d0c76"), looks := true }, kinds := [], alts := [], laidByText := true, laidKinds := [.data, .pinned], laidTests := true, laidLooks := .later }
def LinkNoneCardSaid : Prop := Claim7.holds Tryz.pinned (.plain (OpenSpec.ofChange linkNoneSpec)) linkNoneCard

/-- THE TIED CARD OF 'regletlaw09.LinkOrder'. -/
def linkOrderCard : Claim7 := { stood := { row := linkOrderRow, standIns := [], harness := (true, "7b21aecf63e868885be4b23b1a12c1d411967ee9f4168f3f4dbcacaef52d0c76"), looks := true }, kinds := [], alts := [], laidByText := true, laidKinds := [.data, .pinned], laidTests := true, laidLooks := .later }
def LinkOrderCardSaid : Prop := Claim7.holds Tryz.pinned (.plain (OpenSpec.ofChange linkOrderSpec)) linkOrderCard

/-- THE TIED CARD OF 'regletlaw09.LinkFields'. -/
def linkFieldsCard : Claim7 := { stood := { row := linkFieldsRow, standIns := [], harness := (true, "7b21aecf63e868885be4b23b1a12c1d411967ee9f4168f3f4dbcacaef52d0c76"), looks := true }, kinds := [], alts := [], laidByText := true, laidKinds := [.data, .pinned], laidTests := true, laidLooks := .later }
def LinkFieldsCardSaid : Prop := Claim7.holds Tryz.pinned (.plain (OpenSpec.ofChange linkFieldsSpec)) linkFieldsCard

/-- THE SECOND FORM's CARD OF 'regletlaw08.CheckStates'. -/
def checkStatesUptoCard : Claim7 := { stood := { row := checkStatesUptoRow, standIns := [], harness := (true, "7b21aecf63e868885be4b23b1a12c1d411967ee9f4168f3f4dbcacaef52d0c76"), looks := true }, kinds := [], alts := [], laidByText := true, laidKinds := [.data, .pinned], laidTests := true, laidLooks := .later }
def CheckStatesUptoCardSaid : Prop := Claim7.holds Tryz.pinned (.plain (OpenSpec.upto checkStatesSpec)) checkStatesUptoCard

/-- THE SECOND FORM's CARD OF 'regletlaw08.CheckCuts'. -/
def checkCutsUptoCard : Claim7 := { stood := { row := checkCutsUptoRow, standIns := [], harness := (true, "7b21aecf63e868885be4b23b1a12c1d411967ee9f4168f3f4dbcacaef52d0c76"), looks := true }, kinds := [], alts := [], laidByText := true, laidKinds := [.data, .pinned], laidTests := true, laidLooks := .later }
def CheckCutsUptoCardSaid : Prop := Claim7.holds Tryz.pinned (.plain (OpenSpec.upto checkCutsSpec)) checkCutsUptoCard

/-- THE SECOND FORM's CARD OF 'regletlaw08.CheckStacks'. -/
def checkStacksUptoCard : Claim7 := { stood := { row := checkStacksUptoRow, standIns := [], harness := (true, "7b21aecf63e868885be4b23b1a12c1d411967ee9f4168f3f4dbcacaef52d0c76"), looks := true }, kinds := [], alts := [], laidByText := true, laidKinds := [.data, .pinned], laidTests := true, laidLooks := .later }
def CheckStacksUptoCardSaid : Prop := Claim7.holds Tryz.pinned (.plain (OpenSpec.upto checkStacksSpec)) checkStacksUptoCard

/-- THE SECOND FORM's CARD OF 'regletlaw08.CheckNops'. -/
def checkNopsUptoCard : Claim7 := { stood := { row := checkNopsUptoRow, standIns := [], harness := (true, "7b21aecf63e868885be4b23b1a12c1d411967ee9f4168f3f4dbcacaef52d0c76"), looks := true }, kinds := [], alts := [], laidByText := true, laidKinds := [.data, .pinned], laidTests := true, laidLooks := .later }
def CheckNopsUptoCardSaid : Prop := Claim7.holds Tryz.pinned (.plain (OpenSpec.upto checkNopsSpec)) checkNopsUptoCard

/-- THE SECOND FORM's CARD OF 'regletlaw09.LinkMethods'. -/
def linkMethodsUptoCard : Claim7 := { stood := { row := linkMethodsUptoRow, standIns := [], harness := (true, "7b21aecf63e868885be4b23b1a12c1d411967ee9f4168f3f4dbcacaef52d0c76"), looks := true }, kinds := [], alts := [], laidByText := true, laidKinds := [.data, .pinned], laidTests := true, laidLooks := .later }
def LinkMethodsUptoCardSaid : Prop := Claim7.holds Tryz.pinned (.plain (OpenSpec.upto linkMethodsSpec)) linkMethodsUptoCard

/-- THE SECOND FORM's CARD OF 'regletlaw09.LinkBelow'. -/
def linkBelowUptoCard : Claim7 := { stood := { row := linkBelowUptoRow, standIns := [], harness := (true, "7b21aecf63e868885be4b23b1a12c1d411967ee9f4168f3f4dbcacaef52d0c76"), looks := true }, kinds := [], alts := [], laidByText := true, laidKinds := [.data, .pinned], laidTests := true, laidLooks := .later }
def LinkBelowUptoCardSaid : Prop := Claim7.holds Tryz.pinned (.plain (OpenSpec.upto linkBelowSpec)) linkBelowUptoCard

/-- THE SECOND FORM's CARD OF 'regletlaw09.LinkNone'. -/
def linkNoneUptoCard : Claim7 := { stood := { row := linkNoneUptoRow, standIns := [], harness := (true, "7b21aecf63e868885be4b23b1a12c1d411967ee9f4168f3f4dbcacaef52d0c76"), looks := true }, kinds := [], alts := [], laidByText := true, laidKinds := [.data, .pinned], laidTests := true, laidLooks := .later }
def LinkNoneUptoCardSaid : Prop := Claim7.holds Tryz.pinned (.plain (OpenSpec.upto linkNoneSpec)) linkNoneUptoCard

/-- THE SECOND FORM's CARD OF 'regletlaw09.LinkOrder'. -/
def linkOrderUptoCard : Claim7 := { stood := { row := linkOrderUptoRow, standIns := [], harness := (true, "7b21aecf63e868885be4b23b1a12c1d411967ee9f4168f3f4dbcacaef52d0c76"), looks := true }, kinds := [], alts := [], laidByText := true, laidKinds := [.data, .pinned], laidTests := true, laidLooks := .later }
def LinkOrderUptoCardSaid : Prop := Claim7.holds Tryz.pinned (.plain (OpenSpec.upto linkOrderSpec)) linkOrderUptoCard

/-- THE SECOND FORM's CARD OF 'regletlaw09.LinkFields'. -/
def linkFieldsUptoCard : Claim7 := { stood := { row := linkFieldsUptoRow, standIns := [], harness := (true, "7b21aecf63e868885be4b23b1a12c1d411967ee9f4168f3f4dbcacaef52d0c76"), looks := true }, kinds := [], alts := [], laidByText := true, laidKinds := [.data, .pinned], laidTests := true, laidLooks := .later }
def LinkFieldsUptoCardSaid : Prop := Claim7.holds Tryz.pinned (.plain (OpenSpec.upto linkFieldsSpec)) linkFieldsUptoCard
end Rows
end Go.Proofs.YtpdnonlelocfbaaGreatDoor
