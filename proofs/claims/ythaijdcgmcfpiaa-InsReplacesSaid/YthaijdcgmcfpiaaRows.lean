/-
  No cell of these rows narrows 'for every input' (looked for: loops, veiled, ifaces, maps, wideKeys, modest, calm, conditions, laid).
  DERIVED. THE GIVEN ROWS OF THIS SEAT. 9 by the template 'for every input the law returns true; each argument reads behind the call as it read before'; 0 by the template 'total and deterministic' (their statements: YthaijdcgmcfpiaaTotals.lean).
  GIVEN WITH THE SEED: the statements are not yours to turn. If you find one false, say at which input.
  Laid BY PROGRAM, IN A SANDBOX (cutbox-rows.mjs): the forced cells as the released guide's own fill.sh prints them over the translation 1748037591b73ad3… (all of the seat's roots in one cut). By AI agents, Wed Nov 11 2026. No macro, syntax, notation, axiom, sorry.
-/
import Derived.Test.YthaijdcgmcfpiaaChecked
import GoSem.Claim
import GoSem.ClaimJoined
import GoSem.ClaimMapViews
import Derived.JoinedTies
import Derived.KernelRfl
namespace Go.Proofs.Ythaijdcgmcfpiaa
/- THE CELL 'sum', in the pinned program and in every row, IS THE sha256 OF THE DUMP (.gsa) THAT YthaijdcgmcfpiaaProg.lean LOADS. Nothing in Lean hashes anything: it is a label: what it is worth is what the hold of that sum in a sandbox is worth. -/
noncomputable def Try.pinned : Pinned := { name := "ythaijdcgmcfpiaa", sum := "1748037591b73ad376b651864d5ebf39c0c60ac2e00e459707ed6fb1b98e5dc0", checked := Try.checked }
namespace Rows
def none {H : Type} : Left H := { results := [], args := [] }

/-- 'regletlaw10.InsTells': WHATEVER THE INPUT: true; the input reads as it did. -/
def insTellsSpec : ChangeSpec := { name := "insTells", fn := fun _ => fun
  | [d] => { results := [.lit (.bool true)], args := [d] }
  | _ => none }
def insTellsRow : OpenClaim := { program := "ythaijdcgmcfpiaa", sum := "1748037591b73ad376b651864d5ebf39c0c60ac2e00e459707ed6fb1b98e5dc0", func := "reglet/regletlaw10.InsTells", spec := "insTells", inPlace := ["internal/bytealg.IndexByteString", "internal/bytealg.IndexString"], named := ["internal/bytealg.MaxLen"], apart := false }
def InsTellsSaid : Prop := insTellsRow.holds Try.pinned (OpenSpec.ofChange insTellsSpec)

/-- ITS FALSE NEIGHBOUR: 'it returns false'. Refute it at one input. -/
def insTellsWrong : ChangeSpec := { name := "insTells", fn := fun _ => fun
  | [d] => { results := [.lit (.bool false)], args := [d] }
  | _ => none }
def InsTellsWrongFalsely : Prop := insTellsRow.holds Try.pinned (OpenSpec.ofChange insTellsWrong)

/-- 'regletlaw10.InsChecks': WHATEVER THE INPUT: true; the input reads as it did. -/
def insChecksSpec : ChangeSpec := { name := "insChecks", fn := fun _ => fun
  | [d] => { results := [.lit (.bool true)], args := [d] }
  | _ => none }
def insChecksRow : OpenClaim := { program := "ythaijdcgmcfpiaa", sum := "1748037591b73ad376b651864d5ebf39c0c60ac2e00e459707ed6fb1b98e5dc0", func := "reglet/regletlaw10.InsChecks", spec := "insChecks", inPlace := ["internal/bytealg.IndexByteString", "internal/bytealg.IndexString"], named := ["internal/bytealg.MaxLen"], apart := false }
def InsChecksSaid : Prop := insChecksRow.holds Try.pinned (OpenSpec.ofChange insChecksSpec)

/-- ITS FALSE NEIGHBOUR: 'it returns false'. Refute it at one input. -/
def insChecksWrong : ChangeSpec := { name := "insChecks", fn := fun _ => fun
  | [d] => { results := [.lit (.bool false)], args := [d] }
  | _ => none }
def InsChecksWrongFalsely : Prop := insChecksRow.holds Try.pinned (OpenSpec.ofChange insChecksWrong)

/-- 'regletlaw10.InsReplaces': WHATEVER THE INPUT: true; the input reads as it did. -/
def insReplacesSpec : ChangeSpec := { name := "insReplaces", fn := fun _ => fun
  | [d1, d2] => { results := [.lit (.bool true)], args := [d1, d2] }
  | _ => none }
def insReplacesRow : OpenClaim := { program := "ythaijdcgmcfpiaa", sum := "1748037591b73ad376b651864d5ebf39c0c60ac2e00e459707ed6fb1b98e5dc0", func := "reglet/regletlaw10.InsReplaces", spec := "insReplaces", inPlace := ["internal/bytealg.IndexByteString", "internal/bytealg.IndexString"], named := ["internal/bytealg.MaxLen"], apart := false }
def InsReplacesSaid : Prop := insReplacesRow.holds Try.pinned (OpenSpec.ofChange insReplacesSpec)

/-- ITS FALSE NEIGHBOUR: 'it returns false'. Refute it at one input. -/
def insReplacesWrong : ChangeSpec := { name := "insReplaces", fn := fun _ => fun
  | [d1, d2] => { results := [.lit (.bool false)], args := [d1, d2] }
  | _ => none }
def InsReplacesWrongFalsely : Prop := insReplacesRow.holds Try.pinned (OpenSpec.ofChange insReplacesWrong)

/-- 'regletlaw10.InsCopies': WHATEVER THE INPUT: true; the input reads as it did. -/
def insCopiesSpec : ChangeSpec := { name := "insCopies", fn := fun _ => fun
  | [d] => { results := [.lit (.bool true)], args := [d] }
  | _ => none }
def insCopiesRow : OpenClaim := { program := "ythaijdcgmcfpiaa", sum := "1748037591b73ad376b651864d5ebf39c0c60ac2e00e459707ed6fb1b98e5dc0", func := "reglet/regletlaw10.InsCopies", spec := "insCopies", inPlace := ["internal/bytealg.IndexByteString", "internal/bytealg.IndexString"], named := ["internal/bytealg.MaxLen"], apart := false }
def InsCopiesSaid : Prop := insCopiesRow.holds Try.pinned (OpenSpec.ofChange insCopiesSpec)

/-- ITS FALSE NEIGHBOUR: 'it returns false'. Refute it at one input. -/
def insCopiesWrong : ChangeSpec := { name := "insCopies", fn := fun _ => fun
  | [d] => { results := [.lit (.bool false)], args := [d] }
  | _ => none }
def InsCopiesWrongFalsely : Prop := insCopiesRow.holds Try.pinned (OpenSpec.ofChange insCopiesWrong)

/-- 'regletlaw10.InsFree': WHATEVER THE INPUT: true; the input reads as it did. -/
def insFreeSpec : ChangeSpec := { name := "insFree", fn := fun _ => fun
  | [d1, d2, d3] => { results := [.lit (.bool true)], args := [d1, d2, d3] }
  | _ => none }
def insFreeRow : OpenClaim := { program := "ythaijdcgmcfpiaa", sum := "1748037591b73ad376b651864d5ebf39c0c60ac2e00e459707ed6fb1b98e5dc0", func := "reglet/regletlaw10.InsFree", spec := "insFree", inPlace := ["internal/bytealg.IndexByteString", "internal/bytealg.IndexString"], named := ["internal/bytealg.MaxLen"], apart := false }
def InsFreeSaid : Prop := insFreeRow.holds Try.pinned (OpenSpec.ofChange insFreeSpec)

/-- ITS FALSE NEIGHBOUR: 'it returns false'. Refute it at one input. -/
def insFreeWrong : ChangeSpec := { name := "insFree", fn := fun _ => fun
  | [d1, d2, d3] => { results := [.lit (.bool false)], args := [d1, d2, d3] }
  | _ => none }
def InsFreeWrongFalsely : Prop := insFreeRow.holds Try.pinned (OpenSpec.ofChange insFreeWrong)

/-- 'regletlaw11.FlowLeads': WHATEVER THE INPUT: true; the input reads as it did. -/
def flowLeadsSpec : ChangeSpec := { name := "flowLeads", fn := fun _ => fun
  | [d1, d2] => { results := [.lit (.bool true)], args := [d1, d2] }
  | _ => none }
def flowLeadsRow : OpenClaim := { program := "ythaijdcgmcfpiaa", sum := "1748037591b73ad376b651864d5ebf39c0c60ac2e00e459707ed6fb1b98e5dc0", func := "reglet/regletlaw11.FlowLeads", spec := "flowLeads", inPlace := ["internal/bytealg.IndexByteString", "internal/bytealg.IndexString"], unfollowed := true, recurses := true, named := ["internal/bytealg.MaxLen"], apart := false }
def FlowLeadsSaid : Prop := flowLeadsRow.holds Try.pinned (OpenSpec.ofChange flowLeadsSpec)

/-- ITS FALSE NEIGHBOUR: 'it returns false'. Refute it at one input. -/
def flowLeadsWrong : ChangeSpec := { name := "flowLeads", fn := fun _ => fun
  | [d1, d2] => { results := [.lit (.bool false)], args := [d1, d2] }
  | _ => none }
def FlowLeadsWrongFalsely : Prop := flowLeadsRow.holds Try.pinned (OpenSpec.ofChange flowLeadsWrong)

/-- 'regletlaw11.FlowSets': WHATEVER THE INPUT: true; the input reads as it did. -/
def flowSetsSpec : ChangeSpec := { name := "flowSets", fn := fun _ => fun
  | [d] => { results := [.lit (.bool true)], args := [d] }
  | _ => none }
def flowSetsRow : OpenClaim := { program := "ythaijdcgmcfpiaa", sum := "1748037591b73ad376b651864d5ebf39c0c60ac2e00e459707ed6fb1b98e5dc0", func := "reglet/regletlaw11.FlowSets", spec := "flowSets", inPlace := ["internal/bytealg.IndexByteString", "internal/bytealg.IndexString"], unfollowed := true, recurses := true, named := ["internal/bytealg.MaxLen"], apart := false }
def FlowSetsSaid : Prop := flowSetsRow.holds Try.pinned (OpenSpec.ofChange flowSetsSpec)

/-- ITS FALSE NEIGHBOUR: 'it returns false'. Refute it at one input. -/
def flowSetsWrong : ChangeSpec := { name := "flowSets", fn := fun _ => fun
  | [d] => { results := [.lit (.bool false)], args := [d] }
  | _ => none }
def FlowSetsWrongFalsely : Prop := flowSetsRow.holds Try.pinned (OpenSpec.ofChange flowSetsWrong)

/-- 'regletlaw11.FlowTrims': WHATEVER THE INPUT: true; the input reads as it did. -/
def flowTrimsSpec : ChangeSpec := { name := "flowTrims", fn := fun _ => fun
  | [d] => { results := [.lit (.bool true)], args := [d] }
  | _ => none }
def flowTrimsRow : OpenClaim := { program := "ythaijdcgmcfpiaa", sum := "1748037591b73ad376b651864d5ebf39c0c60ac2e00e459707ed6fb1b98e5dc0", func := "reglet/regletlaw11.FlowTrims", spec := "flowTrims", inPlace := ["internal/bytealg.IndexByteString", "internal/bytealg.IndexString"], unfollowed := true, recurses := true, named := ["internal/bytealg.MaxLen"], apart := false }
def FlowTrimsSaid : Prop := flowTrimsRow.holds Try.pinned (OpenSpec.ofChange flowTrimsSpec)

/-- ITS FALSE NEIGHBOUR: 'it returns false'. Refute it at one input. -/
def flowTrimsWrong : ChangeSpec := { name := "flowTrims", fn := fun _ => fun
  | [d] => { results := [.lit (.bool false)], args := [d] }
  | _ => none }
def FlowTrimsWrongFalsely : Prop := flowTrimsRow.holds Try.pinned (OpenSpec.ofChange flowTrimsWrong)

/-- 'regletlaw11.FlowBlocks': WHATEVER THE INPUT: true; the input reads as it did. -/
def flowBlocksSpec : ChangeSpec := { name := "flowBlocks", fn := fun _ => fun
  | [d] => { results := [.lit (.bool true)], args := [d] }
  | _ => none }
def flowBlocksRow : OpenClaim := { program := "ythaijdcgmcfpiaa", sum := "1748037591b73ad376b651864d5ebf39c0c60ac2e00e459707ed6fb1b98e5dc0", func := "reglet/regletlaw11.FlowBlocks", spec := "flowBlocks", inPlace := ["internal/bytealg.IndexByteString", "internal/bytealg.IndexString"], unfollowed := true, recurses := true, named := ["internal/bytealg.MaxLen"], apart := false }
def FlowBlocksSaid : Prop := flowBlocksRow.holds Try.pinned (OpenSpec.ofChange flowBlocksSpec)

/-- ITS FALSE NEIGHBOUR: 'it returns false'. Refute it at one input. -/
def flowBlocksWrong : ChangeSpec := { name := "flowBlocks", fn := fun _ => fun
  | [d] => { results := [.lit (.bool false)], args := [d] }
  | _ => none }
def FlowBlocksWrongFalsely : Prop := flowBlocksRow.holds Try.pinned (OpenSpec.ofChange flowBlocksWrong)

/- THE SECOND FORM. 'bulk': how many values and letters a reading holds, each counted each time it is reached (what is shared counts as often as it is met; a slice's spare places count too). A statement '..UptoSaid' is the law's where the arguments, and the package variables that the reading takes, are together of bulk at most 1048576: NARROWER than '..Said'. Prove '..Said' where nothing that the law and all that it calls make is longer than what came in: it says more and counts as full. Else prove '..UptoSaid'. A law counts once. -/
mutual
def uptoBulk {H : Type} : DataW H → Nat
  | .lit (.string bytes) => bytes.length + 1
  | .lit _ => 1
  | .nil => 1
  | .ptr d => uptoBulk d + 1
  | .slice elems spare => uptoBulkAll elems + uptoBulkAll spare + 1
  | .agg parts => uptoBulkAll parts + 1
  | .iface _ d => uptoBulk d + 1
  | .map entries => uptoBulkEntries entries + 1
  | .held _ => 1
def uptoBulkAll {H : Type} : List (DataW H) → Nat
  | [] => 0
  | d :: r => uptoBulk d + uptoBulkAll r
def uptoBulkEntries {H : Type} : List (Lit × DataW H) → Nat
  | [] => 0
  | x :: r => uptoBulkEntry x + uptoBulkEntries r
def uptoBulkEntry {H : Type} : Lit × DataW H → Nat
  | (.string bytes, d) => bytes.length + uptoBulk d + 1
  | (_, d) => uptoBulk d + 1
 end
def uptoSmall : (H : Type) → List (DataW H) → Bool := fun _ ds => decide (uptoBulkAll ds ≤ 1048576)
def OpenSpec.upto (s : _root_.Go.ChangeSpec) : _root_.Go.OpenSpec := { _root_.Go.OpenSpec.ofChange s with cond := some uptoSmall }

/-- 'regletlaw10.InsTells', WHERE WHAT IT READS IS OF BULK AT MOST 1048576: true; the input reads as it did. -/
def insTellsUptoRow : OpenClaim := { program := "ythaijdcgmcfpiaa", sum := "1748037591b73ad376b651864d5ebf39c0c60ac2e00e459707ed6fb1b98e5dc0", func := "reglet/regletlaw10.InsTells", spec := "insTells", inPlace := ["internal/bytealg.IndexByteString", "internal/bytealg.IndexString"], named := ["internal/bytealg.MaxLen"], apart := false, narrowed := true }
def InsTellsUptoSaid : Prop := insTellsUptoRow.holds Try.pinned (OpenSpec.upto insTellsSpec)

/-- 'regletlaw10.InsChecks', WHERE WHAT IT READS IS OF BULK AT MOST 1048576: true; the input reads as it did. -/
def insChecksUptoRow : OpenClaim := { program := "ythaijdcgmcfpiaa", sum := "1748037591b73ad376b651864d5ebf39c0c60ac2e00e459707ed6fb1b98e5dc0", func := "reglet/regletlaw10.InsChecks", spec := "insChecks", inPlace := ["internal/bytealg.IndexByteString", "internal/bytealg.IndexString"], named := ["internal/bytealg.MaxLen"], apart := false, narrowed := true }
def InsChecksUptoSaid : Prop := insChecksUptoRow.holds Try.pinned (OpenSpec.upto insChecksSpec)

/-- 'regletlaw10.InsReplaces', WHERE WHAT IT READS IS OF BULK AT MOST 1048576: true; the input reads as it did. -/
def insReplacesUptoRow : OpenClaim := { program := "ythaijdcgmcfpiaa", sum := "1748037591b73ad376b651864d5ebf39c0c60ac2e00e459707ed6fb1b98e5dc0", func := "reglet/regletlaw10.InsReplaces", spec := "insReplaces", inPlace := ["internal/bytealg.IndexByteString", "internal/bytealg.IndexString"], named := ["internal/bytealg.MaxLen"], apart := false, narrowed := true }
def InsReplacesUptoSaid : Prop := insReplacesUptoRow.holds Try.pinned (OpenSpec.upto insReplacesSpec)

/-- 'regletlaw10.InsCopies', WHERE WHAT IT READS IS OF BULK AT MOST 1048576: true; the input reads as it did. -/
def insCopiesUptoRow : OpenClaim := { program := "ythaijdcgmcfpiaa", sum := "1748037591b73ad376b651864d5ebf39c0c60ac2e00e459707ed6fb1b98e5dc0", func := "reglet/regletlaw10.InsCopies", spec := "insCopies", inPlace := ["internal/bytealg.IndexByteString", "internal/bytealg.IndexString"], named := ["internal/bytealg.MaxLen"], apart := false, narrowed := true }
def InsCopiesUptoSaid : Prop := insCopiesUptoRow.holds Try.pinned (OpenSpec.upto insCopiesSpec)

/-- 'regletlaw10.InsFree', WHERE WHAT IT READS IS OF BULK AT MOST 1048576: true; the input reads as it did. -/
def insFreeUptoRow : OpenClaim := { program := "ythaijdcgmcfpiaa", sum := "1748037591b73ad376b651864d5ebf39c0c60ac2e00e459707ed6fb1b98e5dc0", func := "reglet/regletlaw10.InsFree", spec := "insFree", inPlace := ["internal/bytealg.IndexByteString", "internal/bytealg.IndexString"], named := ["internal/bytealg.MaxLen"], apart := false, narrowed := true }
def InsFreeUptoSaid : Prop := insFreeUptoRow.holds Try.pinned (OpenSpec.upto insFreeSpec)

/-- 'regletlaw11.FlowLeads', WHERE WHAT IT READS IS OF BULK AT MOST 1048576: true; the input reads as it did. -/
def flowLeadsUptoRow : OpenClaim := { program := "ythaijdcgmcfpiaa", sum := "1748037591b73ad376b651864d5ebf39c0c60ac2e00e459707ed6fb1b98e5dc0", func := "reglet/regletlaw11.FlowLeads", spec := "flowLeads", inPlace := ["internal/bytealg.IndexByteString", "internal/bytealg.IndexString"], unfollowed := true, recurses := true, named := ["internal/bytealg.MaxLen"], apart := false, narrowed := true }
def FlowLeadsUptoSaid : Prop := flowLeadsUptoRow.holds Try.pinned (OpenSpec.upto flowLeadsSpec)

/-- 'regletlaw11.FlowSets', WHERE WHAT IT READS IS OF BULK AT MOST 1048576: true; the input reads as it did. -/
def flowSetsUptoRow : OpenClaim := { program := "ythaijdcgmcfpiaa", sum := "1748037591b73ad376b651864d5ebf39c0c60ac2e00e459707ed6fb1b98e5dc0", func := "reglet/regletlaw11.FlowSets", spec := "flowSets", inPlace := ["internal/bytealg.IndexByteString", "internal/bytealg.IndexString"], unfollowed := true, recurses := true, named := ["internal/bytealg.MaxLen"], apart := false, narrowed := true }
def FlowSetsUptoSaid : Prop := flowSetsUptoRow.holds Try.pinned (OpenSpec.upto flowSetsSpec)

/-- 'regletlaw11.FlowTrims', WHERE WHAT IT READS IS OF BULK AT MOST 1048576: true; the input reads as it did. -/
def flowTrimsUptoRow : OpenClaim := { program := "ythaijdcgmcfpiaa", sum := "1748037591b73ad376b651864d5ebf39c0c60ac2e00e459707ed6fb1b98e5dc0", func := "reglet/regletlaw11.FlowTrims", spec := "flowTrims", inPlace := ["internal/bytealg.IndexByteString", "internal/bytealg.IndexString"], unfollowed := true, recurses := true, named := ["internal/bytealg.MaxLen"], apart := false, narrowed := true }
def FlowTrimsUptoSaid : Prop := flowTrimsUptoRow.holds Try.pinned (OpenSpec.upto flowTrimsSpec)

/-- 'regletlaw11.FlowBlocks', WHERE WHAT IT READS IS OF BULK AT MOST 1048576: true; the input reads as it did. -/
def flowBlocksUptoRow : OpenClaim := { program := "ythaijdcgmcfpiaa", sum := "1748037591b73ad376b651864d5ebf39c0c60ac2e00e459707ed6fb1b98e5dc0", func := "reglet/regletlaw11.FlowBlocks", spec := "flowBlocks", inPlace := ["internal/bytealg.IndexByteString", "internal/bytealg.IndexString"], unfollowed := true, recurses := true, named := ["internal/bytealg.MaxLen"], apart := false, narrowed := true }
def FlowBlocksUptoSaid : Prop := flowBlocksUptoRow.holds Try.pinned (OpenSpec.upto flowBlocksSpec)

end Rows
end Go.Proofs.Ythaijdcgmcfpiaa
