/-
  NARROWER THAN 'FOR EVERY INPUT', by the rows' own cells (each row's printed sentence says how): CheckStates: laid · CheckCuts: laid · CheckStacks: laid · CheckNops: laid · LinkMethods: laid · LinkBelow: laid · LinkNone: laid · LinkOrder: laid · LinkFields: laid.
  DERIVED. THE GIVEN ROWS OF THIS SEAT. 9 by the template 'for every input the law returns true; each argument reads behind the call as it read before'; 0 by the template 'total and deterministic' (their statements: YtpdnonlelocfbaaGreatDoorTotals.lean).
  GIVEN WITH THE SEED: the statements are not yours to turn. If you find one false, say at which input.
  Laid BY PROGRAM, IN A SANDBOX (cutbox-rows.mjs): the forced cells as the released guide's own fill.sh prints them over the translation 93e3913c05f054d3… (all of the seat's roots in one cut). By AI agents, Wed Nov 11 2026. No macro, syntax, notation, axiom, sorry.
-/
import Derived.Test.YtpdnonlelocfbaaGreatDoorChecked
import GoSem.PinnedTables
import GoSem.Claim
import GoSem.ClaimJoined
import GoSem.ClaimMapViews
import Derived.JoinedTies
import Derived.KernelRfl
namespace Go.Proofs.YtpdnonlelocfbaaGreatDoor
/- THE CELL 'sum', in the pinned program and in every row, IS THE sha256 OF THE DUMP (.gsa) THAT YtpdnonlelocfbaaGreatDoorProg.lean LOADS. Nothing in Lean hashes anything: it is a label: what it is worth is what the hold of that sum in a sandbox is worth. -/
noncomputable def Tryz.pinned : Pinned := { name := "ytpdnonlelocfbaagreatdoor", sum := "93e3913c05f054d3d87dec5f229cbfdbfe5ecfc4df8f4a82e677b561ec1baec7", checked := Tryz.checked }
namespace Rows
def none {H : Type} : Left H := { results := [], args := [] }

/- WHAT THE LISTED PACKAGE-LEVEL VARIABLES READ AS WHEN THE CALL BEGINS. Each datum BY PROGRAM (the guide's laid-datum.mjs) off the statement by which the dump's own 'gosem.cut.vars' lays the variable. In a bare row this is a premise. The card (YtpdnonlelocfbaaGreatDoorCards.lean) ties it to the program's text. -/
def laid_unicode_utf8_acceptRanges {H : Type} : DataW H := .agg [.agg [.lit (.int .u8 128), .lit (.int .u8 191)], .agg [.lit (.int .u8 160), .lit (.int .u8 191)], .agg [.lit (.int .u8 128), .lit (.int .u8 159)], .agg [.lit (.int .u8 144), .lit (.int .u8 191)], .agg [.lit (.int .u8 128), .lit (.int .u8 143)], .agg [.lit (.int .u8 0), .lit (.int .u8 0)], .agg [.lit (.int .u8 0), .lit (.int .u8 0)], .agg [.lit (.int .u8 0), .lit (.int .u8 0)], .agg [.lit (.int .u8 0), .lit (.int .u8 0)], .agg [.lit (.int .u8 0), .lit (.int .u8 0)], .agg [.lit (.int .u8 0), .lit (.int .u8 0)], .agg [.lit (.int .u8 0), .lit (.int .u8 0)], .agg [.lit (.int .u8 0), .lit (.int .u8 0)], .agg [.lit (.int .u8 0), .lit (.int .u8 0)], .agg [.lit (.int .u8 0), .lit (.int .u8 0)], .agg [.lit (.int .u8 0), .lit (.int .u8 0)]]
/-- One of Go's own tables, pinned by name: the form's constant. -/
def laid_unicode_utf8_first : DataW Unit := Go.Pinned.utf8First

/-- 'regletlaw08.CheckStates': WHATEVER THE INPUT: true; the input reads as it did. -/
def checkStatesSpec : ChangeSpec := { name := "checkStates", fn := fun _ => fun
  | [d1, d2, d3] => { results := [.lit (.bool true)], args := [d1, d2, d3] }
  | _ => none }
def checkStatesRow : OpenClaim := { program := "ytpdnonlelocfbaagreatdoor", sum := "93e3913c05f054d3d87dec5f229cbfdbfe5ecfc4df8f4a82e677b561ec1baec7", func := "reglet/regletlaw08.CheckStates", spec := "checkStates", inPlace := ["internal/bytealg.IndexByteString", "internal/bytealg.IndexString"], unfollowed := true, recurses := true, named := ["internal/bytealg.MaxLen", "unicode/utf8.first", "unicode/utf8.acceptRanges"], plainKeys := false, apart := false, laid := [("unicode/utf8.acceptRanges", laid_unicode_utf8_acceptRanges), ("unicode/utf8.first", laid_unicode_utf8_first)] }
def CheckStatesSaid : Prop := checkStatesRow.holds Tryz.pinned (OpenSpec.ofChange checkStatesSpec)

/-- ITS FALSE NEIGHBOUR: 'it returns false'. Refute it at one input. -/
def checkStatesWrong : ChangeSpec := { name := "checkStates", fn := fun _ => fun
  | [d1, d2, d3] => { results := [.lit (.bool false)], args := [d1, d2, d3] }
  | _ => none }
def CheckStatesWrongFalsely : Prop := checkStatesRow.holds Tryz.pinned (OpenSpec.ofChange checkStatesWrong)

/-- 'regletlaw08.CheckCuts': WHATEVER THE INPUT: true; the input reads as it did. -/
def checkCutsSpec : ChangeSpec := { name := "checkCuts", fn := fun _ => fun
  | [d1, d2, d3] => { results := [.lit (.bool true)], args := [d1, d2, d3] }
  | _ => none }
def checkCutsRow : OpenClaim := { program := "ytpdnonlelocfbaagreatdoor", sum := "93e3913c05f054d3d87dec5f229cbfdbfe5ecfc4df8f4a82e677b561ec1baec7", func := "reglet/regletlaw08.CheckCuts", spec := "checkCuts", inPlace := ["internal/bytealg.IndexByteString", "internal/bytealg.IndexString"], unfollowed := true, recurses := true, named := ["internal/bytealg.MaxLen", "unicode/utf8.first", "unicode/utf8.acceptRanges"], plainKeys := false, apart := false, laid := [("unicode/utf8.acceptRanges", laid_unicode_utf8_acceptRanges), ("unicode/utf8.first", laid_unicode_utf8_first)] }
def CheckCutsSaid : Prop := checkCutsRow.holds Tryz.pinned (OpenSpec.ofChange checkCutsSpec)

/-- ITS FALSE NEIGHBOUR: 'it returns false'. Refute it at one input. -/
def checkCutsWrong : ChangeSpec := { name := "checkCuts", fn := fun _ => fun
  | [d1, d2, d3] => { results := [.lit (.bool false)], args := [d1, d2, d3] }
  | _ => none }
def CheckCutsWrongFalsely : Prop := checkCutsRow.holds Tryz.pinned (OpenSpec.ofChange checkCutsWrong)

/-- 'regletlaw08.CheckStacks': WHATEVER THE INPUT: true; the input reads as it did. -/
def checkStacksSpec : ChangeSpec := { name := "checkStacks", fn := fun _ => fun
  | [d1, d2] => { results := [.lit (.bool true)], args := [d1, d2] }
  | _ => none }
def checkStacksRow : OpenClaim := { program := "ytpdnonlelocfbaagreatdoor", sum := "93e3913c05f054d3d87dec5f229cbfdbfe5ecfc4df8f4a82e677b561ec1baec7", func := "reglet/regletlaw08.CheckStacks", spec := "checkStacks", inPlace := ["internal/bytealg.IndexByteString", "internal/bytealg.IndexString"], unfollowed := true, recurses := true, named := ["internal/bytealg.MaxLen", "unicode/utf8.first", "unicode/utf8.acceptRanges"], plainKeys := false, apart := false, laid := [("unicode/utf8.acceptRanges", laid_unicode_utf8_acceptRanges), ("unicode/utf8.first", laid_unicode_utf8_first)] }
def CheckStacksSaid : Prop := checkStacksRow.holds Tryz.pinned (OpenSpec.ofChange checkStacksSpec)

/-- ITS FALSE NEIGHBOUR: 'it returns false'. Refute it at one input. -/
def checkStacksWrong : ChangeSpec := { name := "checkStacks", fn := fun _ => fun
  | [d1, d2] => { results := [.lit (.bool false)], args := [d1, d2] }
  | _ => none }
def CheckStacksWrongFalsely : Prop := checkStacksRow.holds Tryz.pinned (OpenSpec.ofChange checkStacksWrong)

/-- 'regletlaw08.CheckNops': WHATEVER THE INPUT: true; the input reads as it did. -/
def checkNopsSpec : ChangeSpec := { name := "checkNops", fn := fun _ => fun
  | [d1, d2, d3] => { results := [.lit (.bool true)], args := [d1, d2, d3] }
  | _ => none }
def checkNopsRow : OpenClaim := { program := "ytpdnonlelocfbaagreatdoor", sum := "93e3913c05f054d3d87dec5f229cbfdbfe5ecfc4df8f4a82e677b561ec1baec7", func := "reglet/regletlaw08.CheckNops", spec := "checkNops", inPlace := ["internal/bytealg.IndexByteString", "internal/bytealg.IndexString"], unfollowed := true, recurses := true, named := ["internal/bytealg.MaxLen", "unicode/utf8.first", "unicode/utf8.acceptRanges"], plainKeys := false, apart := false, laid := [("unicode/utf8.acceptRanges", laid_unicode_utf8_acceptRanges), ("unicode/utf8.first", laid_unicode_utf8_first)] }
def CheckNopsSaid : Prop := checkNopsRow.holds Tryz.pinned (OpenSpec.ofChange checkNopsSpec)

/-- ITS FALSE NEIGHBOUR: 'it returns false'. Refute it at one input. -/
def checkNopsWrong : ChangeSpec := { name := "checkNops", fn := fun _ => fun
  | [d1, d2, d3] => { results := [.lit (.bool false)], args := [d1, d2, d3] }
  | _ => none }
def CheckNopsWrongFalsely : Prop := checkNopsRow.holds Tryz.pinned (OpenSpec.ofChange checkNopsWrong)

/-- 'regletlaw09.LinkMethods': WHATEVER THE INPUT: true; the input reads as it did. -/
def linkMethodsSpec : ChangeSpec := { name := "linkMethods", fn := fun _ => fun
  | [d1, d2] => { results := [.lit (.bool true)], args := [d1, d2] }
  | _ => none }
def linkMethodsRow : OpenClaim := { program := "ytpdnonlelocfbaagreatdoor", sum := "93e3913c05f054d3d87dec5f229cbfdbfe5ecfc4df8f4a82e677b561ec1baec7", func := "reglet/regletlaw09.LinkMethods", spec := "linkMethods", inPlace := ["slices.overlaps[int]", "internal/bytealg.IndexByteString", "internal/bytealg.IndexString", "maps.clone"], unfollowed := true, recurses := true, named := ["internal/bytealg.MaxLen", "unicode/utf8.first", "unicode/utf8.acceptRanges"], plainKeys := false, apart := false, laid := [("unicode/utf8.acceptRanges", laid_unicode_utf8_acceptRanges), ("unicode/utf8.first", laid_unicode_utf8_first)] }
def LinkMethodsSaid : Prop := linkMethodsRow.holds Tryz.pinned (OpenSpec.ofChange linkMethodsSpec)

/-- ITS FALSE NEIGHBOUR: 'it returns false'. Refute it at one input. -/
def linkMethodsWrong : ChangeSpec := { name := "linkMethods", fn := fun _ => fun
  | [d1, d2] => { results := [.lit (.bool false)], args := [d1, d2] }
  | _ => none }
def LinkMethodsWrongFalsely : Prop := linkMethodsRow.holds Tryz.pinned (OpenSpec.ofChange linkMethodsWrong)

/-- 'regletlaw09.LinkBelow': WHATEVER THE INPUT: true; the input reads as it did. -/
def linkBelowSpec : ChangeSpec := { name := "linkBelow", fn := fun _ => fun
  | [d] => { results := [.lit (.bool true)], args := [d] }
  | _ => none }
def linkBelowRow : OpenClaim := { program := "ytpdnonlelocfbaagreatdoor", sum := "93e3913c05f054d3d87dec5f229cbfdbfe5ecfc4df8f4a82e677b561ec1baec7", func := "reglet/regletlaw09.LinkBelow", spec := "linkBelow", inPlace := ["slices.overlaps[int]", "internal/bytealg.IndexByteString", "internal/bytealg.IndexString", "maps.clone"], unfollowed := true, recurses := true, named := ["internal/bytealg.MaxLen", "unicode/utf8.first", "unicode/utf8.acceptRanges"], plainKeys := false, apart := false, laid := [("unicode/utf8.acceptRanges", laid_unicode_utf8_acceptRanges), ("unicode/utf8.first", laid_unicode_utf8_first)] }
def LinkBelowSaid : Prop := linkBelowRow.holds Tryz.pinned (OpenSpec.ofChange linkBelowSpec)

/-- ITS FALSE NEIGHBOUR: 'it returns false'. Refute it at one input. -/
def linkBelowWrong : ChangeSpec := { name := "linkBelow", fn := fun _ => fun
  | [d] => { results := [.lit (.bool false)], args := [d] }
  | _ => none }
def LinkBelowWrongFalsely : Prop := linkBelowRow.holds Tryz.pinned (OpenSpec.ofChange linkBelowWrong)

/-- 'regletlaw09.LinkNone': WHATEVER THE INPUT: true; the input reads as it did. -/
def linkNoneSpec : ChangeSpec := { name := "linkNone", fn := fun _ => fun
  | [d1, d2] => { results := [.lit (.bool true)], args := [d1, d2] }
  | _ => none }
def linkNoneRow : OpenClaim := { program := "ytpdnonlelocfbaagreatdoor", sum := "93e3913c05f054d3d87dec5f229cbfdbfe5ecfc4df8f4a82e677b561ec1baec7", func := "reglet/regletlaw09.LinkNone", spec := "linkNone", inPlace := ["slices.overlaps[int]", "internal/bytealg.IndexByteString", "internal/bytealg.IndexString", "maps.clone"], unfollowed := true, recurses := true, named := ["internal/bytealg.MaxLen", "unicode/utf8.first", "unicode/utf8.acceptRanges"], plainKeys := false, apart := false, laid := [("unicode/utf8.acceptRanges", laid_unicode_utf8_acceptRanges), ("unicode/utf8.first", laid_unicode_utf8_first)] }
def LinkNoneSaid : Prop := linkNoneRow.holds Tryz.pinned (OpenSpec.ofChange linkNoneSpec)

/-- ITS FALSE NEIGHBOUR: 'it returns false'. Refute it at one input. -/
def linkNoneWrong : ChangeSpec := { name := "linkNone", fn := fun _ => fun
  | [d1, d2] => { results := [.lit (.bool false)], args := [d1, d2] }
  | _ => none }
def LinkNoneWrongFalsely : Prop := linkNoneRow.holds Tryz.pinned (OpenSpec.ofChange linkNoneWrong)

/-- 'regletlaw09.LinkOrder': WHATEVER THE INPUT: true; the input reads as it did. -/
def linkOrderSpec : ChangeSpec := { name := "linkOrder", fn := fun _ => fun
  | [d1, d2] => { results := [.lit (.bool true)], args := [d1, d2] }
  | _ => none }
def linkOrderRow : OpenClaim := { program := "ytpdnonlelocfbaagreatdoor", sum := "93e3913c05f054d3d87dec5f229cbfdbfe5ecfc4df8f4a82e677b561ec1baec7", func := "reglet/regletlaw09.LinkOrder", spec := "linkOrder", inPlace := ["slices.overlaps[int]", "internal/bytealg.IndexByteString", "internal/bytealg.IndexString", "maps.clone"], unfollowed := true, recurses := true, named := ["internal/bytealg.MaxLen", "unicode/utf8.first", "unicode/utf8.acceptRanges"], plainKeys := false, apart := false, laid := [("unicode/utf8.acceptRanges", laid_unicode_utf8_acceptRanges), ("unicode/utf8.first", laid_unicode_utf8_first)] }
def LinkOrderSaid : Prop := linkOrderRow.holds Tryz.pinned (OpenSpec.ofChange linkOrderSpec)

/-- ITS FALSE NEIGHBOUR: 'it returns false'. Refute it at one input. -/
def linkOrderWrong : ChangeSpec := { name := "linkOrder", fn := fun _ => fun
  | [d1, d2] => { results := [.lit (.bool false)], args := [d1, d2] }
  | _ => none }
def LinkOrderWrongFalsely : Prop := linkOrderRow.holds Tryz.pinned (OpenSpec.ofChange linkOrderWrong)

/-- 'regletlaw09.LinkFields': WHATEVER THE INPUT: true; the input reads as it did. -/
def linkFieldsSpec : ChangeSpec := { name := "linkFields", fn := fun _ => fun
  | [d1, d2] => { results := [.lit (.bool true)], args := [d1, d2] }
  | _ => none }
def linkFieldsRow : OpenClaim := { program := "ytpdnonlelocfbaagreatdoor", sum := "93e3913c05f054d3d87dec5f229cbfdbfe5ecfc4df8f4a82e677b561ec1baec7", func := "reglet/regletlaw09.LinkFields", spec := "linkFields", inPlace := ["slices.overlaps[int]", "internal/bytealg.IndexByteString", "internal/bytealg.IndexString", "maps.clone"], unfollowed := true, recurses := true, named := ["internal/bytealg.MaxLen", "unicode/utf8.first", "unicode/utf8.acceptRanges"], plainKeys := false, apart := false, laid := [("unicode/utf8.acceptRanges", laid_unicode_utf8_acceptRanges), ("unicode/utf8.first", laid_unicode_utf8_first)] }
def LinkFieldsSaid : Prop := linkFieldsRow.holds Tryz.pinned (OpenSpec.ofChange linkFieldsSpec)

/-- ITS FALSE NEIGHBOUR: 'it returns false'. Refute it at one input. -/
def linkFieldsWrong : ChangeSpec := { name := "linkFields", fn := fun _ => fun
  | [d1, d2] => { results := [.lit (.bool false)], args := [d1, d2] }
  | _ => none }
def LinkFieldsWrongFalsely : Prop := linkFieldsRow.holds Tryz.pinned (OpenSpec.ofChange linkFieldsWrong)

/- THE SECOND FORM. 'bulk': how many values and letters a reading holds, each counted each time it is reached (what is shared counts as often as it is met; a slice's spare places count too). A statement '..UptoSaid' is the law's where the arguments, and the package variables that the reading takes, are together of bulk at most 1048576: NARROWER than '..Said'. Prove '..Said' where nothing that the law and all that it calls make is longer than what came in: it says more and counts as full. Else prove '..UptoSaid'. A law counts once. -/
mutual
def uptoBulk {H : Type} : DataW H → Nat
  | .lit (.string bytes) => bytes.length + 1
  | .lit _ => 1
  | .nil => 1
  | .ptr d => uptoBulk d + 1
  | .slice elems spare => uptoBulkAll elems + uptoBulkAll spare + 1
  | .agg parts => uptoBulkAll parts + 1
  | .iface _ d => uptoBulk d + 1
  | .map entries => uptoBulkEntries entries + 1
  | .held _ => 1
def uptoBulkAll {H : Type} : List (DataW H) → Nat
  | [] => 0
  | d :: r => uptoBulk d + uptoBulkAll r
def uptoBulkEntries {H : Type} : List (Lit × DataW H) → Nat
  | [] => 0
  | x :: r => uptoBulkEntry x + uptoBulkEntries r
def uptoBulkEntry {H : Type} : Lit × DataW H → Nat
  | (.string bytes, d) => bytes.length + uptoBulk d + 1
  | (_, d) => uptoBulk d + 1
 end
def uptoSmall : (H : Type) → List (DataW H) → Bool := fun _ ds => decide (uptoBulkAll ds ≤ 1048576)
def OpenSpec.upto (s : _root_.Go.ChangeSpec) : _root_.Go.OpenSpec := { _root_.Go.OpenSpec.ofChange s with cond := some uptoSmall }

/-- 'regletlaw08.CheckStates', WHERE WHAT IT READS IS OF BULK AT MOST 1048576: true; the input reads as it did. -/
def checkStatesUptoRow : OpenClaim := { program := "ytpdnonlelocfbaagreatdoor", sum := "93e3913c05f054d3d87dec5f229cbfdbfe5ecfc4df8f4a82e677b561ec1baec7", func := "reglet/regletlaw08.CheckStates", spec := "checkStates", inPlace := ["internal/bytealg.IndexByteString", "internal/bytealg.IndexString"], unfollowed := true, recurses := true, named := ["internal/bytealg.MaxLen", "unicode/utf8.first", "unicode/utf8.acceptRanges"], plainKeys := false, apart := false, laid := [("unicode/utf8.acceptRanges", laid_unicode_utf8_acceptRanges), ("unicode/utf8.first", laid_unicode_utf8_first)], narrowed := true }
def CheckStatesUptoSaid : Prop := checkStatesUptoRow.holds Tryz.pinned (OpenSpec.upto checkStatesSpec)

/-- 'regletlaw08.CheckCuts', WHERE WHAT IT READS IS OF BULK AT MOST 1048576: true; the input reads as it did. -/
def checkCutsUptoRow : OpenClaim := { program := "ytpdnonlelocfbaagreatdoor", sum := "93e3913c05f054d3d87dec5f229cbfdbfe5ecfc4df8f4a82e677b561ec1baec7", func := "reglet/regletlaw08.CheckCuts", spec := "checkCuts", inPlace := ["internal/bytealg.IndexByteString", "internal/bytealg.IndexString"], unfollowed := true, recurses := true, named := ["internal/bytealg.MaxLen", "unicode/utf8.first", "unicode/utf8.acceptRanges"], plainKeys := false, apart := false, laid := [("unicode/utf8.acceptRanges", laid_unicode_utf8_acceptRanges), ("unicode/utf8.first", laid_unicode_utf8_first)], narrowed := true }
def CheckCutsUptoSaid : Prop := checkCutsUptoRow.holds Tryz.pinned (OpenSpec.upto checkCutsSpec)

/-- 'regletlaw08.CheckStacks', WHERE WHAT IT READS IS OF BULK AT MOST 1048576: true; the input reads as it did. -/
def checkStacksUptoRow : OpenClaim := { program := "ytpdnonlelocfbaagreatdoor", sum := "93e3913c05f054d3d87dec5f229cbfdbfe5ecfc4df8f4a82e677b561ec1baec7", func := "reglet/regletlaw08.CheckStacks", spec := "checkStacks", inPlace := ["internal/bytealg.IndexByteString", "internal/bytealg.IndexString"], unfollowed := true, recurses := true, named := ["internal/bytealg.MaxLen", "unicode/utf8.first", "unicode/utf8.acceptRanges"], plainKeys := false, apart := false, laid := [("unicode/utf8.acceptRanges", laid_unicode_utf8_acceptRanges), ("unicode/utf8.first", laid_unicode_utf8_first)], narrowed := true }
def CheckStacksUptoSaid : Prop := checkStacksUptoRow.holds Tryz.pinned (OpenSpec.upto checkStacksSpec)

/-- 'regletlaw08.CheckNops', WHERE WHAT IT READS IS OF BULK AT MOST 1048576: true; the input reads as it did. -/
def checkNopsUptoRow : OpenClaim := { program := "ytpdnonlelocfbaagreatdoor", sum := "93e3913c05f054d3d87dec5f229cbfdbfe5ecfc4df8f4a82e677b561ec1baec7", func := "reglet/regletlaw08.CheckNops", spec := "checkNops", inPlace := ["internal/bytealg.IndexByteString", "internal/bytealg.IndexString"], unfollowed := true, recurses := true, named := ["internal/bytealg.MaxLen", "unicode/utf8.first", "unicode/utf8.acceptRanges"], plainKeys := false, apart := false, laid := [("unicode/utf8.acceptRanges", laid_unicode_utf8_acceptRanges), ("unicode/utf8.first", laid_unicode_utf8_first)], narrowed := true }
def CheckNopsUptoSaid : Prop := checkNopsUptoRow.holds Tryz.pinned (OpenSpec.upto checkNopsSpec)

/-- 'regletlaw09.LinkMethods', WHERE WHAT IT READS IS OF BULK AT MOST 1048576: true; the input reads as it did. -/
def linkMethodsUptoRow : OpenClaim := { program := "ytpdnonlelocfbaagreatdoor", sum := "93e3913c05f054d3d87dec5f229cbfdbfe5ecfc4df8f4a82e677b561ec1baec7", func := "reglet/regletlaw09.LinkMethods", spec := "linkMethods", inPlace := ["slices.overlaps[int]", "internal/bytealg.IndexByteString", "internal/bytealg.IndexString", "maps.clone"], unfollowed := true, recurses := true, named := ["internal/bytealg.MaxLen", "unicode/utf8.first", "unicode/utf8.acceptRanges"], plainKeys := false, apart := false, laid := [("unicode/utf8.acceptRanges", laid_unicode_utf8_acceptRanges), ("unicode/utf8.first", laid_unicode_utf8_first)], narrowed := true }
def LinkMethodsUptoSaid : Prop := linkMethodsUptoRow.holds Tryz.pinned (OpenSpec.upto linkMethodsSpec)

/-- 'regletlaw09.LinkBelow', WHERE WHAT IT READS IS OF BULK AT MOST 1048576: true; the input reads as it did. -/
def linkBelowUptoRow : OpenClaim := { program := "ytpdnonlelocfbaagreatdoor", sum := "93e3913c05f054d3d87dec5f229cbfdbfe5ecfc4df8f4a82e677b561ec1baec7", func := "reglet/regletlaw09.LinkBelow", spec := "linkBelow", inPlace := ["slices.overlaps[int]", "internal/bytealg.IndexByteString", "internal/bytealg.IndexString", "maps.clone"], unfollowed := true, recurses := true, named := ["internal/bytealg.MaxLen", "unicode/utf8.first", "unicode/utf8.acceptRanges"], plainKeys := false, apart := false, laid := [("unicode/utf8.acceptRanges", laid_unicode_utf8_acceptRanges), ("unicode/utf8.first", laid_unicode_utf8_first)], narrowed := true }
def LinkBelowUptoSaid : Prop := linkBelowUptoRow.holds Tryz.pinned (OpenSpec.upto linkBelowSpec)

/-- 'regletlaw09.LinkNone', WHERE WHAT IT READS IS OF BULK AT MOST 1048576: true; the input reads as it did. -/
def linkNoneUptoRow : OpenClaim := { program := "ytpdnonlelocfbaagreatdoor", sum := "93e3913c05f054d3d87dec5f229cbfdbfe5ecfc4df8f4a82e677b561ec1baec7", func := "reglet/regletlaw09.LinkNone", spec := "linkNone", inPlace := ["slices.overlaps[int]", "internal/bytealg.IndexByteString", "internal/bytealg.IndexString", "maps.clone"], unfollowed := true, recurses := true, named := ["internal/bytealg.MaxLen", "unicode/utf8.first", "unicode/utf8.acceptRanges"], plainKeys := false, apart := false, laid := [("unicode/utf8.acceptRanges", laid_unicode_utf8_acceptRanges), ("unicode/utf8.first", laid_unicode_utf8_first)], narrowed := true }
def LinkNoneUptoSaid : Prop := linkNoneUptoRow.holds Tryz.pinned (OpenSpec.upto linkNoneSpec)

/-- 'regletlaw09.LinkOrder', WHERE WHAT IT READS IS OF BULK AT MOST 1048576: true; the input reads as it did. -/
def linkOrderUptoRow : OpenClaim := { program := "ytpdnonlelocfbaagreatdoor", sum := "93e3913c05f054d3d87dec5f229cbfdbfe5ecfc4df8f4a82e677b561ec1baec7", func := "reglet/regletlaw09.LinkOrder", spec := "linkOrder", inPlace := ["slices.overlaps[int]", "internal/bytealg.IndexByteString", "internal/bytealg.IndexString", "maps.clone"], unfollowed := true, recurses := true, named := ["internal/bytealg.MaxLen", "unicode/utf8.first", "unicode/utf8.acceptRanges"], plainKeys := false, apart := false, laid := [("unicode/utf8.acceptRanges", laid_unicode_utf8_acceptRanges), ("unicode/utf8.first", laid_unicode_utf8_first)], narrowed := true }
def LinkOrderUptoSaid : Prop := linkOrderUptoRow.holds Tryz.pinned (OpenSpec.upto linkOrderSpec)

/-- 'regletlaw09.LinkFields', WHERE WHAT IT READS IS OF BULK AT MOST 1048576: true; the input reads as it did. -/
def linkFieldsUptoRow : OpenClaim := { program := "ytpdnonlelocfbaagreatdoor", sum := "93e3913c05f054d3d87dec5f229cbfdbfe5ecfc4df8f4a82e677b561ec1baec7", func := "reglet/regletlaw09.LinkFields", spec := "linkFields", inPlace := ["slices.overlaps[int]", "internal/bytealg.IndexByteString", "internal/bytealg.IndexString", "maps.clone"], unfollowed := true, recurses := true, named := ["internal/bytealg.MaxLen", "unicode/utf8.first", "unicode/utf8.acceptRanges"], plainKeys := false, apart := false, laid := [("unicode/utf8.acceptRanges", laid_unicode_utf8_acceptRanges), ("unicode/utf8.first", laid_unicode_utf8_first)], narrowed := true }
def LinkFieldsUptoSaid : Prop := linkFieldsUptoRow.holds Tryz.pinned (OpenSpec.upto linkFieldsSpec)

end Rows
end Go.Proofs.YtpdnonlelocfbaaGreatDoor
