/-
  No cell of these rows narrows 'for every input' (looked for: loops, veiled, ifaces, maps, wideKeys, modest, calm, conditions, laid).
  DERIVED. THE GIVEN ROWS OF THIS SEAT. 8 by the template 'for every input the law returns true; each argument reads behind the call as it read before'; 0 by the template 'total and deterministic' (their statements: YtgihfcimngogfaaGreatTotals.lean).
  GIVEN WITH THE SEED: the statements are not yours to turn. If you find one false, say at which input.
  Laid BY PROGRAM, IN A SANDBOX (cutbox-rows.mjs): the forced cells as the released guide's own fill.sh prints them over the translation d06e15e4d2fbe758… (all of the seat's roots in one cut). By AI agents, Wed Nov 11 2026. No macro, syntax, notation, axiom, sorry.
-/
import Derived.Test.YtgihfcimngogfaaGreatChecked
import GoSem.Claim
import GoSem.ClaimJoined
import GoSem.ClaimMapViews
import Derived.JoinedTies
import Derived.KernelRfl
namespace Go.Proofs.YtgihfcimngogfaaGreat
/- THE CELL 'sum', in the pinned program and in every row, IS THE sha256 OF THE DUMP (.gsa) THAT YtgihfcimngogfaaGreatProg.lean LOADS. Nothing in Lean hashes anything: it is a label: what it is worth is what the hold of that sum in a sandbox is worth. -/
noncomputable def Tryz.pinned : Pinned := { name := "ytgihfcimngogfaagreat", sum := "d06e15e4d2fbe7580931310a2882c3a54bd7f7d2472aac689c8933a4fc16292c", checked := Tryz.checked }
namespace Rows
def none {H : Type} : Left H := { results := [], args := [] }

/-- 'regletlaw04.FileCuts': WHATEVER THE INPUT: true; the input reads as it did. -/
def fileCutsSpec : ChangeSpec := { name := "fileCuts", fn := fun _ => fun
  | [d1, d2, d3] => { results := [.lit (.bool true)], args := [d1, d2, d3] }
  | _ => none }
def fileCutsRow : OpenClaim := { program := "ytgihfcimngogfaagreat", sum := "d06e15e4d2fbe7580931310a2882c3a54bd7f7d2472aac689c8933a4fc16292c", func := "reglet/regletlaw04.FileCuts", spec := "fileCuts", inPlace := ["internal/bytealg.IndexByteString", "internal/bytealg.IndexString"], unfollowed := true, recurses := true, named := ["internal/bytealg.MaxLen"], plainKeys := false, apart := false }
def FileCutsSaid : Prop := fileCutsRow.holds Tryz.pinned (OpenSpec.ofChange fileCutsSpec)

/-- ITS FALSE NEIGHBOUR: 'it returns false'. Refute it at one input. -/
def fileCutsWrong : ChangeSpec := { name := "fileCuts", fn := fun _ => fun
  | [d1, d2, d3] => { results := [.lit (.bool false)], args := [d1, d2, d3] }
  | _ => none }
def FileCutsWrongFalsely : Prop := fileCutsRow.holds Tryz.pinned (OpenSpec.ofChange fileCutsWrong)

/-- 'regletlaw04.FileTold': WHATEVER THE INPUT: true; the input reads as it did. -/
def fileToldSpec : ChangeSpec := { name := "fileTold", fn := fun _ => fun
  | [d] => { results := [.lit (.bool true)], args := [d] }
  | _ => none }
def fileToldRow : OpenClaim := { program := "ytgihfcimngogfaagreat", sum := "d06e15e4d2fbe7580931310a2882c3a54bd7f7d2472aac689c8933a4fc16292c", func := "reglet/regletlaw04.FileTold", spec := "fileTold", inPlace := ["internal/bytealg.IndexByteString", "internal/bytealg.IndexString"], unfollowed := true, recurses := true, named := ["internal/bytealg.MaxLen"], plainKeys := false, apart := false }
def FileToldSaid : Prop := fileToldRow.holds Tryz.pinned (OpenSpec.ofChange fileToldSpec)

/-- ITS FALSE NEIGHBOUR: 'it returns false'. Refute it at one input. -/
def fileToldWrong : ChangeSpec := { name := "fileTold", fn := fun _ => fun
  | [d] => { results := [.lit (.bool false)], args := [d] }
  | _ => none }
def FileToldWrongFalsely : Prop := fileToldRow.holds Tryz.pinned (OpenSpec.ofChange fileToldWrong)

/-- 'regletlaw04.FileLimits': WHATEVER THE INPUT: true; the input reads as it did. -/
def fileLimitsSpec : ChangeSpec := { name := "fileLimits", fn := fun _ => fun
  | [d1, d2] => { results := [.lit (.bool true)], args := [d1, d2] }
  | _ => none }
def fileLimitsRow : OpenClaim := { program := "ytgihfcimngogfaagreat", sum := "d06e15e4d2fbe7580931310a2882c3a54bd7f7d2472aac689c8933a4fc16292c", func := "reglet/regletlaw04.FileLimits", spec := "fileLimits", inPlace := ["internal/bytealg.IndexByteString", "internal/bytealg.IndexString"], unfollowed := true, recurses := true, named := ["internal/bytealg.MaxLen"], plainKeys := false, apart := false }
def FileLimitsSaid : Prop := fileLimitsRow.holds Tryz.pinned (OpenSpec.ofChange fileLimitsSpec)

/-- ITS FALSE NEIGHBOUR: 'it returns false'. Refute it at one input. -/
def fileLimitsWrong : ChangeSpec := { name := "fileLimits", fn := fun _ => fun
  | [d1, d2] => { results := [.lit (.bool false)], args := [d1, d2] }
  | _ => none }
def FileLimitsWrongFalsely : Prop := fileLimitsRow.holds Tryz.pinned (OpenSpec.ofChange fileLimitsWrong)

/-- 'regletlaw05.PressWrites': WHATEVER THE INPUT: true; the input reads as it did. -/
def pressWritesSpec : ChangeSpec := { name := "pressWrites", fn := fun _ => fun
  | [d] => { results := [.lit (.bool true)], args := [d] }
  | _ => none }
def pressWritesRow : OpenClaim := { program := "ytgihfcimngogfaagreat", sum := "d06e15e4d2fbe7580931310a2882c3a54bd7f7d2472aac689c8933a4fc16292c", func := "reglet/regletlaw05.PressWrites", spec := "pressWrites", inPlace := ["internal/bytealg.IndexByteString", "internal/bytealg.IndexString"], unfollowed := true, recurses := true, named := ["internal/bytealg.MaxLen"], plainKeys := false, apart := false }
def PressWritesSaid : Prop := pressWritesRow.holds Tryz.pinned (OpenSpec.ofChange pressWritesSpec)

/-- ITS FALSE NEIGHBOUR: 'it returns false'. Refute it at one input. -/
def pressWritesWrong : ChangeSpec := { name := "pressWrites", fn := fun _ => fun
  | [d] => { results := [.lit (.bool false)], args := [d] }
  | _ => none }
def PressWritesWrongFalsely : Prop := pressWritesRow.holds Tryz.pinned (OpenSpec.ofChange pressWritesWrong)

/-- 'regletlaw05.PressBack': WHATEVER THE INPUT: true; the input reads as it did. -/
def pressBackSpec : ChangeSpec := { name := "pressBack", fn := fun _ => fun
  | [d] => { results := [.lit (.bool true)], args := [d] }
  | _ => none }
def pressBackRow : OpenClaim := { program := "ytgihfcimngogfaagreat", sum := "d06e15e4d2fbe7580931310a2882c3a54bd7f7d2472aac689c8933a4fc16292c", func := "reglet/regletlaw05.PressBack", spec := "pressBack", inPlace := ["internal/bytealg.IndexByteString", "internal/bytealg.IndexString"], unfollowed := true, recurses := true, named := ["internal/bytealg.MaxLen"], plainKeys := false, apart := false }
def PressBackSaid : Prop := pressBackRow.holds Tryz.pinned (OpenSpec.ofChange pressBackSpec)

/-- ITS FALSE NEIGHBOUR: 'it returns false'. Refute it at one input. -/
def pressBackWrong : ChangeSpec := { name := "pressBack", fn := fun _ => fun
  | [d] => { results := [.lit (.bool false)], args := [d] }
  | _ => none }
def PressBackWrongFalsely : Prop := pressBackRow.holds Tryz.pinned (OpenSpec.ofChange pressBackWrong)

/-- 'regletlaw05.PressAgain': WHATEVER THE INPUT: true; the input reads as it did. -/
def pressAgainSpec : ChangeSpec := { name := "pressAgain", fn := fun _ => fun
  | [d] => { results := [.lit (.bool true)], args := [d] }
  | _ => none }
def pressAgainRow : OpenClaim := { program := "ytgihfcimngogfaagreat", sum := "d06e15e4d2fbe7580931310a2882c3a54bd7f7d2472aac689c8933a4fc16292c", func := "reglet/regletlaw05.PressAgain", spec := "pressAgain", inPlace := ["internal/bytealg.IndexByteString", "internal/bytealg.IndexString"], unfollowed := true, recurses := true, named := ["internal/bytealg.MaxLen"], plainKeys := false, apart := false }
def PressAgainSaid : Prop := pressAgainRow.holds Tryz.pinned (OpenSpec.ofChange pressAgainSpec)

/-- ITS FALSE NEIGHBOUR: 'it returns false'. Refute it at one input. -/
def pressAgainWrong : ChangeSpec := { name := "pressAgain", fn := fun _ => fun
  | [d] => { results := [.lit (.bool false)], args := [d] }
  | _ => none }
def PressAgainWrongFalsely : Prop := pressAgainRow.holds Tryz.pinned (OpenSpec.ofChange pressAgainWrong)

/-- 'regletlaw05.PressSame': WHATEVER THE INPUT: true; the input reads as it did. -/
def pressSameSpec : ChangeSpec := { name := "pressSame", fn := fun _ => fun
  | [d1, d2] => { results := [.lit (.bool true)], args := [d1, d2] }
  | _ => none }
def pressSameRow : OpenClaim := { program := "ytgihfcimngogfaagreat", sum := "d06e15e4d2fbe7580931310a2882c3a54bd7f7d2472aac689c8933a4fc16292c", func := "reglet/regletlaw05.PressSame", spec := "pressSame", inPlace := ["internal/bytealg.IndexByteString", "internal/bytealg.IndexString"], unfollowed := true, recurses := true, named := ["internal/bytealg.MaxLen"], plainKeys := false, apart := false }
def PressSameSaid : Prop := pressSameRow.holds Tryz.pinned (OpenSpec.ofChange pressSameSpec)

/-- ITS FALSE NEIGHBOUR: 'it returns false'. Refute it at one input. -/
def pressSameWrong : ChangeSpec := { name := "pressSame", fn := fun _ => fun
  | [d1, d2] => { results := [.lit (.bool false)], args := [d1, d2] }
  | _ => none }
def PressSameWrongFalsely : Prop := pressSameRow.holds Tryz.pinned (OpenSpec.ofChange pressSameWrong)

/-- 'regletlaw05.PressPool': WHATEVER THE INPUT: true; the input reads as it did. -/
def pressPoolSpec : ChangeSpec := { name := "pressPool", fn := fun _ => fun
  | [d1, d2] => { results := [.lit (.bool true)], args := [d1, d2] }
  | _ => none }
def pressPoolRow : OpenClaim := { program := "ytgihfcimngogfaagreat", sum := "d06e15e4d2fbe7580931310a2882c3a54bd7f7d2472aac689c8933a4fc16292c", func := "reglet/regletlaw05.PressPool", spec := "pressPool", inPlace := ["internal/bytealg.IndexByteString", "internal/bytealg.IndexString"], unfollowed := true, recurses := true, named := ["internal/bytealg.MaxLen"], plainKeys := false, apart := false }
def PressPoolSaid : Prop := pressPoolRow.holds Tryz.pinned (OpenSpec.ofChange pressPoolSpec)

/-- ITS FALSE NEIGHBOUR: 'it returns false'. Refute it at one input. -/
def pressPoolWrong : ChangeSpec := { name := "pressPool", fn := fun _ => fun
  | [d1, d2] => { results := [.lit (.bool false)], args := [d1, d2] }
  | _ => none }
def PressPoolWrongFalsely : Prop := pressPoolRow.holds Tryz.pinned (OpenSpec.ofChange pressPoolWrong)

/- THE SECOND FORM. 'bulk': how many values and letters a reading holds, each counted each time it is reached (what is shared counts as often as it is met; a slice's spare places count too). A statement '..UptoSaid' is the law's where the arguments, and the package variables that the reading takes, are together of bulk at most 1048576: NARROWER than '..Said'. Prove '..Said' where nothing that the law and all that it calls make is longer than what came in: it says more and counts as full. Else prove '..UptoSaid'. A law counts once. -/
mutual
def uptoBulk {H : Type} : DataW H → Nat
  | .lit (.string bytes) => bytes.length + 1
  | .lit _ => 1
  | .nil => 1
  | .ptr d => uptoBulk d + 1
  | .slice elems spare => uptoBulkAll elems + uptoBulkAll spare + 1
  | .agg parts => uptoBulkAll parts + 1
  | .iface _ d => uptoBulk d + 1
  | .map entries => uptoBulkEntries entries + 1
  | .held _ => 1
def uptoBulkAll {H : Type} : List (DataW H) → Nat
  | [] => 0
  | d :: r => uptoBulk d + uptoBulkAll r
def uptoBulkEntries {H : Type} : List (Lit × DataW H) → Nat
  | [] => 0
  | x :: r => uptoBulkEntry x + uptoBulkEntries r
def uptoBulkEntry {H : Type} : Lit × DataW H → Nat
  | (.string bytes, d) => bytes.length + uptoBulk d + 1
  | (_, d) => uptoBulk d + 1
 end
def uptoSmall : (H : Type) → List (DataW H) → Bool := fun _ ds => decide (uptoBulkAll ds ≤ 1048576)
def OpenSpec.upto (s : _root_.Go.ChangeSpec) : _root_.Go.OpenSpec := { _root_.Go.OpenSpec.ofChange s with cond := some uptoSmall }

/-- 'regletlaw04.FileCuts', WHERE WHAT IT READS IS OF BULK AT MOST 1048576: true; the input reads as it did. -/
def fileCutsUptoRow : OpenClaim := { program := "ytgihfcimngogfaagreat", sum := "d06e15e4d2fbe7580931310a2882c3a54bd7f7d2472aac689c8933a4fc16292c", func := "reglet/regletlaw04.FileCuts", spec := "fileCuts", inPlace := ["internal/bytealg.IndexByteString", "internal/bytealg.IndexString"], unfollowed := true, recurses := true, named := ["internal/bytealg.MaxLen"], plainKeys := false, apart := false, narrowed := true }
def FileCutsUptoSaid : Prop := fileCutsUptoRow.holds Tryz.pinned (OpenSpec.upto fileCutsSpec)

/-- 'regletlaw04.FileTold', WHERE WHAT IT READS IS OF BULK AT MOST 1048576: true; the input reads as it did. -/
def fileToldUptoRow : OpenClaim := { program := "ytgihfcimngogfaagreat", sum := "d06e15e4d2fbe7580931310a2882c3a54bd7f7d2472aac689c8933a4fc16292c", func := "reglet/regletlaw04.FileTold", spec := "fileTold", inPlace := ["internal/bytealg.IndexByteString", "internal/bytealg.IndexString"], unfollowed := true, recurses := true, named := ["internal/bytealg.MaxLen"], plainKeys := false, apart := false, narrowed := true }
def FileToldUptoSaid : Prop := fileToldUptoRow.holds Tryz.pinned (OpenSpec.upto fileToldSpec)

/-- 'regletlaw04.FileLimits', WHERE WHAT IT READS IS OF BULK AT MOST 1048576: true; the input reads as it did. -/
def fileLimitsUptoRow : OpenClaim := { program := "ytgihfcimngogfaagreat", sum := "d06e15e4d2fbe7580931310a2882c3a54bd7f7d2472aac689c8933a4fc16292c", func := "reglet/regletlaw04.FileLimits", spec := "fileLimits", inPlace := ["internal/bytealg.IndexByteString", "internal/bytealg.IndexString"], unfollowed := true, recurses := true, named := ["internal/bytealg.MaxLen"], plainKeys := false, apart := false, narrowed := true }
def FileLimitsUptoSaid : Prop := fileLimitsUptoRow.holds Tryz.pinned (OpenSpec.upto fileLimitsSpec)

/-- 'regletlaw05.PressWrites', WHERE WHAT IT READS IS OF BULK AT MOST 1048576: true; the input reads as it did. -/
def pressWritesUptoRow : OpenClaim := { program := "ytgihfcimngogfaagreat", sum := "d06e15e4d2fbe7580931310a2882c3a54bd7f7d2472aac689c8933a4fc16292c", func := "reglet/regletlaw05.PressWrites", spec := "pressWrites", inPlace := ["internal/bytealg.IndexByteString", "internal/bytealg.IndexString"], unfollowed := true, recurses := true, named := ["internal/bytealg.MaxLen"], plainKeys := false, apart := false, narrowed := true }
def PressWritesUptoSaid : Prop := pressWritesUptoRow.holds Tryz.pinned (OpenSpec.upto pressWritesSpec)

/-- 'regletlaw05.PressBack', WHERE WHAT IT READS IS OF BULK AT MOST 1048576: true; the input reads as it did. -/
def pressBackUptoRow : OpenClaim := { program := "ytgihfcimngogfaagreat", sum := "d06e15e4d2fbe7580931310a2882c3a54bd7f7d2472aac689c8933a4fc16292c", func := "reglet/regletlaw05.PressBack", spec := "pressBack", inPlace := ["internal/bytealg.IndexByteString", "internal/bytealg.IndexString"], unfollowed := true, recurses := true, named := ["internal/bytealg.MaxLen"], plainKeys := false, apart := false, narrowed := true }
def PressBackUptoSaid : Prop := pressBackUptoRow.holds Tryz.pinned (OpenSpec.upto pressBackSpec)

/-- 'regletlaw05.PressAgain', WHERE WHAT IT READS IS OF BULK AT MOST 1048576: true; the input reads as it did. -/
def pressAgainUptoRow : OpenClaim := { program := "ytgihfcimngogfaagreat", sum := "d06e15e4d2fbe7580931310a2882c3a54bd7f7d2472aac689c8933a4fc16292c", func := "reglet/regletlaw05.PressAgain", spec := "pressAgain", inPlace := ["internal/bytealg.IndexByteString", "internal/bytealg.IndexString"], unfollowed := true, recurses := true, named := ["internal/bytealg.MaxLen"], plainKeys := false, apart := false, narrowed := true }
def PressAgainUptoSaid : Prop := pressAgainUptoRow.holds Tryz.pinned (OpenSpec.upto pressAgainSpec)

/-- 'regletlaw05.PressSame', WHERE WHAT IT READS IS OF BULK AT MOST 1048576: true; the input reads as it did. -/
def pressSameUptoRow : OpenClaim := { program := "ytgihfcimngogfaagreat", sum := "d06e15e4d2fbe7580931310a2882c3a54bd7f7d2472aac689c8933a4fc16292c", func := "reglet/regletlaw05.PressSame", spec := "pressSame", inPlace := ["internal/bytealg.IndexByteString", "internal/bytealg.IndexString"], unfollowed := true, recurses := true, named := ["internal/bytealg.MaxLen"], plainKeys := false, apart := false, narrowed := true }
def PressSameUptoSaid : Prop := pressSameUptoRow.holds Tryz.pinned (OpenSpec.upto pressSameSpec)

/-- 'regletlaw05.PressPool', WHERE WHAT IT READS IS OF BULK AT MOST 1048576: true; the input reads as it did. -/
def pressPoolUptoRow : OpenClaim := { program := "ytgihfcimngogfaagreat", sum := "d06e15e4d2fbe7580931310a2882c3a54bd7f7d2472aac689c8933a4fc16292c", func := "reglet/regletlaw05.PressPool", spec := "pressPool", inPlace := ["internal/bytealg.IndexByteString", "internal/bytealg.IndexString"], unfollowed := true, recurses := true, named := ["internal/bytealg.MaxLen"], plainKeys := false, apart := false, narrowed := true }
def PressPoolUptoSaid : Prop := pressPoolUptoRow.holds Tryz.pinned (OpenSpec.upto pressPoolSpec)

end Rows
end Go.Proofs.YtgihfcimngogfaaGreat
