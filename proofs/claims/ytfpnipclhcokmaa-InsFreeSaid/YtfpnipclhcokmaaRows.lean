/-
  No cell of these rows narrows 'for every input' (looked for: loops, veiled, ifaces, maps, wideKeys, modest, calm, conditions, laid).
  DERIVED. THE GIVEN ROWS OF THIS SEAT. 5 by the template 'for every input the law returns true; each argument reads behind the call as it read before'; 0 by the template 'total and deterministic' (their statements: YtfpnipclhcokmaaTotals.lean).
  GIVEN WITH THE SEED: the statements are not yours to turn. If you find one false, say at which input.
  Laid BY PROGRAM, IN A SANDBOX (cutbox-rows.mjs): the forced cells as the released guide's own fill.sh prints them over the translation fc17de1791386e08… (all of the seat's roots in one cut). By AI agents, Wed Nov 11 2026. No macro, syntax, notation, axiom, sorry.
-/
import Derived.Test.YtfpnipclhcokmaaChecked
import GoSem.Claim
import GoSem.ClaimJoined
import GoSem.ClaimMapViews
import Derived.JoinedTies
import Derived.KernelRfl
namespace Go.Proofs.Ytfpnipclhcokmaa
/- THE CELL 'sum', in the pinned program and in every row, IS THE sha256 OF THE DUMP (.gsa) THAT YtfpnipclhcokmaaProg.lean LOADS. Nothing in Lean hashes anything: it is a label: what it is worth is what the hold of that sum in a sandbox is worth. -/
noncomputable def Try.pinned : Pinned := { name := "ytfpnipclhcokmaa", sum := "fc17de1791386e08b038e1dfb0e41a0caad3ec18a5f3bf45f8265b2f3e28c109", checked := Try.checked }
namespace Rows
def none {H : Type} : Left H := { results := [], args := [] }

/-- 'regletlaw10.InsTells': WHATEVER THE INPUT: true; the input reads as it did. -/
def insTellsSpec : ChangeSpec := { name := "insTells", fn := fun _ => fun
  | [d] => { results := [.lit (.bool true)], args := [d] }
  | _ => none }
def insTellsRow : OpenClaim := { program := "ytfpnipclhcokmaa", sum := "fc17de1791386e08b038e1dfb0e41a0caad3ec18a5f3bf45f8265b2f3e28c109", func := "reglet/regletlaw10.InsTells", spec := "insTells", inPlace := ["internal/bytealg.IndexByteString", "internal/bytealg.IndexString"], named := ["internal/bytealg.MaxLen"], apart := false }
def InsTellsSaid : Prop := insTellsRow.holds Try.pinned (OpenSpec.ofChange insTellsSpec)

/-- ITS FALSE NEIGHBOUR: 'it returns false'. Refute it at one input. -/
def insTellsWrong : ChangeSpec := { name := "insTells", fn := fun _ => fun
  | [d] => { results := [.lit (.bool false)], args := [d] }
  | _ => none }
def InsTellsWrongFalsely : Prop := insTellsRow.holds Try.pinned (OpenSpec.ofChange insTellsWrong)

/-- 'regletlaw10.InsChecks': WHATEVER THE INPUT: true; the input reads as it did. -/
def insChecksSpec : ChangeSpec := { name := "insChecks", fn := fun _ => fun
  | [d] => { results := [.lit (.bool true)], args := [d] }
  | _ => none }
def insChecksRow : OpenClaim := { program := "ytfpnipclhcokmaa", sum := "fc17de1791386e08b038e1dfb0e41a0caad3ec18a5f3bf45f8265b2f3e28c109", func := "reglet/regletlaw10.InsChecks", spec := "insChecks", inPlace := ["internal/bytealg.IndexByteString", "internal/bytealg.IndexString"], named := ["internal/bytealg.MaxLen"], apart := false }
def InsChecksSaid : Prop := insChecksRow.holds Try.pinned (OpenSpec.ofChange insChecksSpec)

/-- ITS FALSE NEIGHBOUR: 'it returns false'. Refute it at one input. -/
def insChecksWrong : ChangeSpec := { name := "insChecks", fn := fun _ => fun
  | [d] => { results := [.lit (.bool false)], args := [d] }
  | _ => none }
def InsChecksWrongFalsely : Prop := insChecksRow.holds Try.pinned (OpenSpec.ofChange insChecksWrong)

/-- 'regletlaw10.InsReplaces': WHATEVER THE INPUT: true; the input reads as it did. -/
def insReplacesSpec : ChangeSpec := { name := "insReplaces", fn := fun _ => fun
  | [d1, d2] => { results := [.lit (.bool true)], args := [d1, d2] }
  | _ => none }
def insReplacesRow : OpenClaim := { program := "ytfpnipclhcokmaa", sum := "fc17de1791386e08b038e1dfb0e41a0caad3ec18a5f3bf45f8265b2f3e28c109", func := "reglet/regletlaw10.InsReplaces", spec := "insReplaces", inPlace := ["internal/bytealg.IndexByteString", "internal/bytealg.IndexString"], named := ["internal/bytealg.MaxLen"], apart := false }
def InsReplacesSaid : Prop := insReplacesRow.holds Try.pinned (OpenSpec.ofChange insReplacesSpec)

/-- ITS FALSE NEIGHBOUR: 'it returns false'. Refute it at one input. -/
def insReplacesWrong : ChangeSpec := { name := "insReplaces", fn := fun _ => fun
  | [d1, d2] => { results := [.lit (.bool false)], args := [d1, d2] }
  | _ => none }
def InsReplacesWrongFalsely : Prop := insReplacesRow.holds Try.pinned (OpenSpec.ofChange insReplacesWrong)

/-- 'regletlaw10.InsCopies': WHATEVER THE INPUT: true; the input reads as it did. -/
def insCopiesSpec : ChangeSpec := { name := "insCopies", fn := fun _ => fun
  | [d] => { results := [.lit (.bool true)], args := [d] }
  | _ => none }
def insCopiesRow : OpenClaim := { program := "ytfpnipclhcokmaa", sum := "fc17de1791386e08b038e1dfb0e41a0caad3ec18a5f3bf45f8265b2f3e28c109", func := "reglet/regletlaw10.InsCopies", spec := "insCopies", inPlace := ["internal/bytealg.IndexByteString", "internal/bytealg.IndexString"], named := ["internal/bytealg.MaxLen"], apart := false }
def InsCopiesSaid : Prop := insCopiesRow.holds Try.pinned (OpenSpec.ofChange insCopiesSpec)

/-- ITS FALSE NEIGHBOUR: 'it returns false'. Refute it at one input. -/
def insCopiesWrong : ChangeSpec := { name := "insCopies", fn := fun _ => fun
  | [d] => { results := [.lit (.bool false)], args := [d] }
  | _ => none }
def InsCopiesWrongFalsely : Prop := insCopiesRow.holds Try.pinned (OpenSpec.ofChange insCopiesWrong)

/-- 'regletlaw10.InsFree': WHATEVER THE INPUT: true; the input reads as it did. -/
def insFreeSpec : ChangeSpec := { name := "insFree", fn := fun _ => fun
  | [d1, d2, d3] => { results := [.lit (.bool true)], args := [d1, d2, d3] }
  | _ => none }
def insFreeRow : OpenClaim := { program := "ytfpnipclhcokmaa", sum := "fc17de1791386e08b038e1dfb0e41a0caad3ec18a5f3bf45f8265b2f3e28c109", func := "reglet/regletlaw10.InsFree", spec := "insFree", inPlace := ["internal/bytealg.IndexByteString", "internal/bytealg.IndexString"], named := ["internal/bytealg.MaxLen"], apart := false }
def InsFreeSaid : Prop := insFreeRow.holds Try.pinned (OpenSpec.ofChange insFreeSpec)

/-- ITS FALSE NEIGHBOUR: 'it returns false'. Refute it at one input. -/
def insFreeWrong : ChangeSpec := { name := "insFree", fn := fun _ => fun
  | [d1, d2, d3] => { results := [.lit (.bool false)], args := [d1, d2, d3] }
  | _ => none }
def InsFreeWrongFalsely : Prop := insFreeRow.holds Try.pinned (OpenSpec.ofChange insFreeWrong)

/- THE SECOND FORM. 'bulk': how many values and letters a reading holds, each counted each time it is reached (what is shared counts as often as it is met; a slice's spare places count too). A statement '..UptoSaid' is the law's where the arguments, and the package variables that the reading takes, are together of bulk at most 1048576: NARROWER than '..Said'. Prove '..Said' where nothing that the law and all that it calls make is longer than what came in: it says more and counts as full. Else prove '..UptoSaid'. A law counts once. -/
mutual
def uptoBulk {H : Type} : DataW H → Nat
  | .lit (.string bytes) => bytes.length + 1
  | .lit _ => 1
  | .nil => 1
  | .ptr d => uptoBulk d + 1
  | .slice elems spare => uptoBulkAll elems + uptoBulkAll spare + 1
  | .agg parts => uptoBulkAll parts + 1
  | .iface _ d => uptoBulk d + 1
  | .map entries => uptoBulkEntries entries + 1
  | .held _ => 1
def uptoBulkAll {H : Type} : List (DataW H) → Nat
  | [] => 0
  | d :: r => uptoBulk d + uptoBulkAll r
def uptoBulkEntries {H : Type} : List (Lit × DataW H) → Nat
  | [] => 0
  | x :: r => uptoBulkEntry x + uptoBulkEntries r
def uptoBulkEntry {H : Type} : Lit × DataW H → Nat
  | (.string bytes, d) => bytes.length + uptoBulk d + 1
  | (_, d) => uptoBulk d + 1
 end
def uptoSmall : (H : Type) → List (DataW H) → Bool := fun _ ds => decide (uptoBulkAll ds ≤ 1048576)
def OpenSpec.upto (s : _root_.Go.ChangeSpec) : _root_.Go.OpenSpec := { _root_.Go.OpenSpec.ofChange s with cond := some uptoSmall }

/-- 'regletlaw10.InsTells', WHERE WHAT IT READS IS OF BULK AT MOST 1048576: true; the input reads as it did. -/
def insTellsUptoRow : OpenClaim := { program := "ytfpnipclhcokmaa", sum := "fc17de1791386e08b038e1dfb0e41a0caad3ec18a5f3bf45f8265b2f3e28c109", func := "reglet/regletlaw10.InsTells", spec := "insTells", inPlace := ["internal/bytealg.IndexByteString", "internal/bytealg.IndexString"], named := ["internal/bytealg.MaxLen"], apart := false, narrowed := true }
def InsTellsUptoSaid : Prop := insTellsUptoRow.holds Try.pinned (OpenSpec.upto insTellsSpec)

/-- 'regletlaw10.InsChecks', WHERE WHAT IT READS IS OF BULK AT MOST 1048576: true; the input reads as it did. -/
def insChecksUptoRow : OpenClaim := { program := "ytfpnipclhcokmaa", sum := "fc17de1791386e08b038e1dfb0e41a0caad3ec18a5f3bf45f8265b2f3e28c109", func := "reglet/regletlaw10.InsChecks", spec := "insChecks", inPlace := ["internal/bytealg.IndexByteString", "internal/bytealg.IndexString"], named := ["internal/bytealg.MaxLen"], apart := false, narrowed := true }
def InsChecksUptoSaid : Prop := insChecksUptoRow.holds Try.pinned (OpenSpec.upto insChecksSpec)

/-- 'regletlaw10.InsReplaces', WHERE WHAT IT READS IS OF BULK AT MOST 1048576: true; the input reads as it did. -/
def insReplacesUptoRow : OpenClaim := { program := "ytfpnipclhcokmaa", sum := "fc17de1791386e08b038e1dfb0e41a0caad3ec18a5f3bf45f8265b2f3e28c109", func := "reglet/regletlaw10.InsReplaces", spec := "insReplaces", inPlace := ["internal/bytealg.IndexByteString", "internal/bytealg.IndexString"], named := ["internal/bytealg.MaxLen"], apart := false, narrowed := true }
def InsReplacesUptoSaid : Prop := insReplacesUptoRow.holds Try.pinned (OpenSpec.upto insReplacesSpec)

/-- 'regletlaw10.InsCopies', WHERE WHAT IT READS IS OF BULK AT MOST 1048576: true; the input reads as it did. -/
def insCopiesUptoRow : OpenClaim := { program := "ytfpnipclhcokmaa", sum := "fc17de1791386e08b038e1dfb0e41a0caad3ec18a5f3bf45f8265b2f3e28c109", func := "reglet/regletlaw10.InsCopies", spec := "insCopies", inPlace := ["internal/bytealg.IndexByteString", "internal/bytealg.IndexString"], named := ["internal/bytealg.MaxLen"], apart := false, narrowed := true }
def InsCopiesUptoSaid : Prop := insCopiesUptoRow.holds Try.pinned (OpenSpec.upto insCopiesSpec)

/-- 'regletlaw10.InsFree', WHERE WHAT IT READS IS OF BULK AT MOST 1048576: true; the input reads as it did. -/
def insFreeUptoRow : OpenClaim := { program := "ytfpnipclhcokmaa", sum := "fc17de1791386e08b038e1dfb0e41a0caad3ec18a5f3bf45f8265b2f3e28c109", func := "reglet/regletlaw10.InsFree", spec := "insFree", inPlace := ["internal/bytealg.IndexByteString", "internal/bytealg.IndexString"], named := ["internal/bytealg.MaxLen"], apart := false, narrowed := true }
def InsFreeUptoSaid : Prop := insFreeUptoRow.holds Try.pinned (OpenSpec.upto insFreeSpec)

end Rows
end Go.Proofs.Ytfpnipclhcokmaa
