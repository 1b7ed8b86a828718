/-
  No cell of these rows narrows 'for every input' (looked for: loops, veiled, ifaces, maps, wideKeys, modest, calm, conditions, laid).
  DERIVED. THE GIVEN ROWS OF THIS SEAT. 4 by the template 'for every input the law returns true; each argument reads behind the call as it read before'; 0 by the template 'total and deterministic' (their statements: YtbkeneadoccodaaTotals.lean).
  GIVEN WITH THE SEED: the statements are not yours to turn. If you find one false, say at which input.
  Laid BY PROGRAM, IN A SANDBOX (cutbox-rows.mjs): the forced cells as the released guide's own fill.sh prints them over the translation 233d27dd87b20fe6… (all of the seat's roots in one cut). By AI agents, Wed Nov 11 2026. No macro, syntax, notation, axiom, sorry.
-/
import Derived.Test.YtbkeneadoccodaaChecked
import GoSem.Claim
import GoSem.ClaimJoined
import GoSem.ClaimMapViews
import Derived.JoinedTies
import Derived.KernelRfl
namespace Go.Proofs.Ytbkeneadoccodaa
/- THE CELL 'sum', in the pinned program and in every row, IS THE sha256 OF THE DUMP (.gsa) THAT YtbkeneadoccodaaProg.lean LOADS. Nothing in Lean hashes anything: it is a label: what it is worth is what the hold of that sum in a sandbox is worth. -/
noncomputable def Try.pinned : Pinned := { name := "ytbkeneadoccodaa", sum := "233d27dd87b20fe63a5ec67646bfcf1d72ccf6d9845fb4ef654ca4d56a603506", checked := Try.checked }
namespace Rows
def none {H : Type} : Left H := { results := [], args := [] }

/-- 'regletlaw14.CarryChains': WHATEVER THE INPUT: true; the input reads as it did. -/
def carryChainsSpec : ChangeSpec := { name := "carryChains", fn := fun _ => fun
  | [d1, d2] => { results := [.lit (.bool true)], args := [d1, d2] }
  | _ => none }
def carryChainsRow : OpenClaim := { program := "ytbkeneadoccodaa", sum := "233d27dd87b20fe63a5ec67646bfcf1d72ccf6d9845fb4ef654ca4d56a603506", func := "reglet/regletlaw14.CarryChains", spec := "carryChains", inPlace := ["internal/bytealg.IndexByteString", "internal/bytealg.IndexString"], unfollowed := true, recurses := true, named := ["internal/bytealg.MaxLen"], plainKeys := false, apart := false }
def CarryChainsSaid : Prop := carryChainsRow.holds Try.pinned (OpenSpec.ofChange carryChainsSpec)

/-- ITS FALSE NEIGHBOUR: 'it returns false'. Refute it at one input. -/
def carryChainsWrong : ChangeSpec := { name := "carryChains", fn := fun _ => fun
  | [d1, d2] => { results := [.lit (.bool false)], args := [d1, d2] }
  | _ => none }
def CarryChainsWrongFalsely : Prop := carryChainsRow.holds Try.pinned (OpenSpec.ofChange carryChainsWrong)

/-- 'regletlaw15.FoldForms': WHATEVER THE INPUT: true; the input reads as it did. -/
def foldFormsSpec : ChangeSpec := { name := "foldForms", fn := fun _ => fun
  | [d] => { results := [.lit (.bool true)], args := [d] }
  | _ => none }
def foldFormsRow : OpenClaim := { program := "ytbkeneadoccodaa", sum := "233d27dd87b20fe63a5ec67646bfcf1d72ccf6d9845fb4ef654ca4d56a603506", func := "reglet/regletlaw15.FoldForms", spec := "foldForms", inPlace := ["internal/bytealg.IndexByteString", "internal/bytealg.IndexString"], unfollowed := true, recurses := true, named := ["internal/bytealg.MaxLen"], plainKeys := false, apart := false }
def FoldFormsSaid : Prop := foldFormsRow.holds Try.pinned (OpenSpec.ofChange foldFormsSpec)

/-- ITS FALSE NEIGHBOUR: 'it returns false'. Refute it at one input. -/
def foldFormsWrong : ChangeSpec := { name := "foldForms", fn := fun _ => fun
  | [d] => { results := [.lit (.bool false)], args := [d] }
  | _ => none }
def FoldFormsWrongFalsely : Prop := foldFormsRow.holds Try.pinned (OpenSpec.ofChange foldFormsWrong)

/-- 'regletlaw15.FoldChains': WHATEVER THE INPUT: true; the input reads as it did. -/
def foldChainsSpec : ChangeSpec := { name := "foldChains", fn := fun _ => fun
  | [d1, d2] => { results := [.lit (.bool true)], args := [d1, d2] }
  | _ => none }
def foldChainsRow : OpenClaim := { program := "ytbkeneadoccodaa", sum := "233d27dd87b20fe63a5ec67646bfcf1d72ccf6d9845fb4ef654ca4d56a603506", func := "reglet/regletlaw15.FoldChains", spec := "foldChains", inPlace := ["internal/bytealg.IndexByteString", "internal/bytealg.IndexString"], unfollowed := true, recurses := true, named := ["internal/bytealg.MaxLen"], plainKeys := false, apart := false }
def FoldChainsSaid : Prop := foldChainsRow.holds Try.pinned (OpenSpec.ofChange foldChainsSpec)

/-- ITS FALSE NEIGHBOUR: 'it returns false'. Refute it at one input. -/
def foldChainsWrong : ChangeSpec := { name := "foldChains", fn := fun _ => fun
  | [d1, d2] => { results := [.lit (.bool false)], args := [d1, d2] }
  | _ => none }
def FoldChainsWrongFalsely : Prop := foldChainsRow.holds Try.pinned (OpenSpec.ofChange foldChainsWrong)

/-- 'regletlaw15.FoldWays': WHATEVER THE INPUT: true; the input reads as it did. -/
def foldWaysSpec : ChangeSpec := { name := "foldWays", fn := fun _ => fun
  | [d1, d2, d3] => { results := [.lit (.bool true)], args := [d1, d2, d3] }
  | _ => none }
def foldWaysRow : OpenClaim := { program := "ytbkeneadoccodaa", sum := "233d27dd87b20fe63a5ec67646bfcf1d72ccf6d9845fb4ef654ca4d56a603506", func := "reglet/regletlaw15.FoldWays", spec := "foldWays", inPlace := ["internal/bytealg.IndexByteString", "internal/bytealg.IndexString"], unfollowed := true, recurses := true, named := ["internal/bytealg.MaxLen"], plainKeys := false, apart := false }
def FoldWaysSaid : Prop := foldWaysRow.holds Try.pinned (OpenSpec.ofChange foldWaysSpec)

/-- ITS FALSE NEIGHBOUR: 'it returns false'. Refute it at one input. -/
def foldWaysWrong : ChangeSpec := { name := "foldWays", fn := fun _ => fun
  | [d1, d2, d3] => { results := [.lit (.bool false)], args := [d1, d2, d3] }
  | _ => none }
def FoldWaysWrongFalsely : Prop := foldWaysRow.holds Try.pinned (OpenSpec.ofChange foldWaysWrong)

/- THE SECOND FORM. 'bulk': how many values and letters a reading holds, each counted each time it is reached (what is shared counts as often as it is met; a slice's spare places count too). A statement '..UptoSaid' is the law's where the arguments, and the package variables that the reading takes, are together of bulk at most 1048576: NARROWER than '..Said'. Prove '..Said' where nothing that the law and all that it calls make is longer than what came in: it says more and counts as full. Else prove '..UptoSaid'. A law counts once. -/
mutual
def uptoBulk {H : Type} : DataW H → Nat
  | .lit (.string bytes) => bytes.length + 1
  | .lit _ => 1
  | .nil => 1
  | .ptr d => uptoBulk d + 1
  | .slice elems spare => uptoBulkAll elems + uptoBulkAll spare + 1
  | .agg parts => uptoBulkAll parts + 1
  | .iface _ d => uptoBulk d + 1
  | .map entries => uptoBulkEntries entries + 1
  | .held _ => 1
def uptoBulkAll {H : Type} : List (DataW H) → Nat
  | [] => 0
  | d :: r => uptoBulk d + uptoBulkAll r
def uptoBulkEntries {H : Type} : List (Lit × DataW H) → Nat
  | [] => 0
  | x :: r => uptoBulkEntry x + uptoBulkEntries r
def uptoBulkEntry {H : Type} : Lit × DataW H → Nat
  | (.string bytes, d) => bytes.length + uptoBulk d + 1
  | (_, d) => uptoBulk d + 1
 end
def uptoSmall : (H : Type) → List (DataW H) → Bool := fun _ ds => decide (uptoBulkAll ds ≤ 1048576)
def OpenSpec.upto (s : _root_.Go.ChangeSpec) : _root_.Go.OpenSpec := { _root_.Go.OpenSpec.ofChange s with cond := some uptoSmall }

/-- 'regletlaw14.CarryChains', WHERE WHAT IT READS IS OF BULK AT MOST 1048576: true; the input reads as it did. -/
def carryChainsUptoRow : OpenClaim := { program := "ytbkeneadoccodaa", sum := "233d27dd87b20fe63a5ec67646bfcf1d72ccf6d9845fb4ef654ca4d56a603506", func := "reglet/regletlaw14.CarryChains", spec := "carryChains", inPlace := ["internal/bytealg.IndexByteString", "internal/bytealg.IndexString"], unfollowed := true, recurses := true, named := ["internal/bytealg.MaxLen"], plainKeys := false, apart := false, narrowed := true }
def CarryChainsUptoSaid : Prop := carryChainsUptoRow.holds Try.pinned (OpenSpec.upto carryChainsSpec)

/-- 'regletlaw15.FoldForms', WHERE WHAT IT READS IS OF BULK AT MOST 1048576: true; the input reads as it did. -/
def foldFormsUptoRow : OpenClaim := { program := "ytbkeneadoccodaa", sum := "233d27dd87b20fe63a5ec67646bfcf1d72ccf6d9845fb4ef654ca4d56a603506", func := "reglet/regletlaw15.FoldForms", spec := "foldForms", inPlace := ["internal/bytealg.IndexByteString", "internal/bytealg.IndexString"], unfollowed := true, recurses := true, named := ["internal/bytealg.MaxLen"], plainKeys := false, apart := false, narrowed := true }
def FoldFormsUptoSaid : Prop := foldFormsUptoRow.holds Try.pinned (OpenSpec.upto foldFormsSpec)

/-- 'regletlaw15.FoldChains', WHERE WHAT IT READS IS OF BULK AT MOST 1048576: true; the input reads as it did. -/
def foldChainsUptoRow : OpenClaim := { program := "ytbkeneadoccodaa", sum := "233d27dd87b20fe63a5ec67646bfcf1d72ccf6d9845fb4ef654ca4d56a603506", func := "reglet/regletlaw15.FoldChains", spec := "foldChains", inPlace := ["internal/bytealg.IndexByteString", "internal/bytealg.IndexString"], unfollowed := true, recurses := true, named := ["internal/bytealg.MaxLen"], plainKeys := false, apart := false, narrowed := true }
def FoldChainsUptoSaid : Prop := foldChainsUptoRow.holds Try.pinned (OpenSpec.upto foldChainsSpec)

/-- 'regletlaw15.FoldWays', WHERE WHAT IT READS IS OF BULK AT MOST 1048576: true; the input reads as it did. -/
def foldWaysUptoRow : OpenClaim := { program := "ytbkeneadoccodaa", sum := "233d27dd87b20fe63a5ec67646bfcf1d72ccf6d9845fb4ef654ca4d56a603506", func := "reglet/regletlaw15.FoldWays", spec := "foldWays", inPlace := ["internal/bytealg.IndexByteString", "internal/bytealg.IndexString"], unfollowed := true, recurses := true, named := ["internal/bytealg.MaxLen"], plainKeys := false, apart := false, narrowed := true }
def FoldWaysUptoSaid : Prop := foldWaysUptoRow.holds Try.pinned (OpenSpec.upto foldWaysSpec)

end Rows
end Go.Proofs.Ytbkeneadoccodaa
