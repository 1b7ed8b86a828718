/- The instructions' table in plain words. No program in this text. -/
import Derived.Test.YthaijdcgmcfpiaaInsBase
namespace Go.Proofs.Ythaijdcgmcfpiaa
open Go.RowKit Go
set_option linter.unusedVariables false

/-- What an Op reads: 0 nothing, 1 A, 2 A and B, 3 all, 4 A and perhaps B, 5 perhaps A, 6 its Args. -/
def cA : List Int := [4, 6, 7, 8, 10, 12, 15, 16, 19, 21, 22, 31]
def cAB : List Int := [5, 9, 11, 13, 17, 28]
def rk (c : Int) : Nat := if c ∈ cA then 1 else if c ∈ cAB then 2 else if c = 14 then 3 else if c = 29 then 4 else if c = 30 then 5 else if c ∈ ([23, 24, 25, 26] : List Int) then 6 else 0
def usesI (x : InI) : List Int := match rk x.op with
  | 1 => [x.a]
  | 2 => [x.a, x.b]
  | 3 => [x.a, x.b, x.c]
  | 4 => if 0 ≤ x.b then [x.a, x.b] else [x.a]
  | 5 => if 0 ≤ x.a then [x.a] else []
  | 6 => x.args
  | _ => []
/-- Does an Op write? -/
def cW : List Int := [1, 2, 3, 4, 5, 6, 13, 15, 16, 18, 20, 21, 22, 23, 24, 25, 26, 32]
def wrB (c : Int) : Bool := decide (c ∈ cW)
def defI (x : InI) : Int := if wrB x.op then x.dst else -1
def callsB (c : Int) : Bool := decide (c ∈ ([23, 24, 25, 26] : List Int))
def throwsB (c : Int) : Bool := decide (c ∈ ([7, 8, 9, 10, 11, 12, 20, 21, 31, 23, 24, 25, 26] : List Int))
def pureB (c : Int) : Bool := decide (c ∈ ([1, 2, 3, 4, 5, 6, 13, 15, 16, 18, 22] : List Int))
def leadsB (c : Int) : Bool := decide (c ∈ ([27, 28, 29] : List Int))
def endsB (c : Int) : Bool := decide (c ∈ ([27, 30, 31] : List Int))
/-- What an Op's fields may be: the sets of Dst, A, B, C. -/
def fdT (c : Int) : Int × Int × Int × Int :=
  if c = 1 then (6, 0, 0, 0) else if c ∈ ([2, 3, 20, 32] : List Int) then (8, 0, 0, 0) else if c = 18 then (14, 0, 0, 0)
  else if c ∈ ([23, 24, 25, 26] : List Int) then (15, 0, 0, 0) else if c = 4 then (14, 14, 0, 0) else if c = 5 then (6, 6, 6, 0)
  else if c = 6 then (6, 6, 0, 0) else if c = 13 then (14, 8, 2, 0) else if c = 15 ∨ c = 22 then (2, 8, 0, 0) else if c = 16 then (14, 8, 0, 0)
  else if c = 21 then (8, 2, 0, 0) else if c = 7 then (0, 6, 0, 0) else if c = 8 ∨ c = 12 ∨ c = 31 then (0, 8, 0, 0) else if c = 9 then (0, 8, 2, 0)
  else if c = 10 then (0, 2, 0, 0) else if c = 11 then (0, 8, 8, 0) else if c = 14 then (0, 8, 2, 14) else if c = 17 then (0, 8, 14, 0)
  else if c = 19 then (0, 14, 0, 0) else if c = 28 then (0, 2, 2, 0) else if c = 29 then (0, 8, 9, 0) else if c = 30 then (0, 15, 0, 0) else (0, 0, 0, 0)
/-- The document's row, as a text. -/
def rowT (c : Int) : Bs :=
  if c = 1 then [110, 45, 45, 45] else if c ∈ ([2, 3, 20, 32] : List Int) then [51, 45, 45, 45] else if c = 4 then [42, 61, 45, 45]
  else if c ∈ ([5, 6, 23, 24, 25, 26] : List Int) then [63, 63, 63, 63] else if c = 7 then [45, 110, 45, 45] else if c ∈ ([8, 12, 31] : List Int) then [45, 51, 45, 45]
  else if c = 9 then [45, 51, 49, 45] else if c = 10 then [45, 49, 45, 45] else if c = 11 then [45, 51, 51, 45] else if c = 13 then [42, 51, 49, 45]
  else if c = 14 then [45, 51, 49, 42] else if c = 15 ∨ c = 22 then [49, 51, 45, 45] else if c = 16 then [42, 51, 45, 45] else if c = 17 then [45, 51, 42, 45]
  else if c = 18 then [42, 45, 45, 45] else if c = 19 then [45, 42, 45, 45] else if c = 21 then [51, 49, 45, 45] else if c = 27 ∨ c = 33 then [45, 45, 45, 45]
  else if c = 28 then [45, 49, 49, 45] else if c = 29 then [45, 51, 63, 45] else if c = 30 then [45, 63, 45, 45] else []
theorem op_ways (c : Int) : c = 1 ∨ c = 2 ∨ c = 3 ∨ c = 4 ∨ c = 5 ∨ c = 6 ∨ c = 7 ∨ c = 8 ∨ c = 9 ∨ c = 10 ∨ c = 11 ∨ c = 12 ∨ c = 13 ∨ c = 14 ∨ c = 15 ∨ c = 16 ∨ c = 17 ∨ c = 18 ∨ c = 19 ∨ c = 20 ∨ c = 21 ∨ c = 22 ∨ c = 23 ∨ c = 24 ∨ c = 25 ∨ c = 26 ∨ c = 27 ∨ c = 28 ∨ c = 29 ∨ c = 30 ∨ c = 31 ∨ c = 32 ∨ c = 33 ∨ c < 1 ∨ 34 ≤ c := by omega
/-- What is told of an Op outside the table. -/
theorem out_of (c : Int) (h : c < 1 ∨ 34 ≤ c) : rk c = 0 ∧ wrB c = false ∧ callsB c = false ∧ throwsB c = false ∧ pureB c = false ∧ leadsB c = false ∧ endsB c = false ∧ fdT c = (0, 0, 0, 0) ∧ rowT c = [] := by
  have g : c ≠ 1 ∧ c ≠ 2 ∧ c ≠ 3 ∧ c ≠ 4 ∧ c ≠ 5 ∧ c ≠ 6 ∧ c ≠ 7 ∧ c ≠ 8 ∧ c ≠ 9 ∧ c ≠ 10 ∧ c ≠ 11 ∧ c ≠ 12 ∧ c ≠ 13 ∧ c ≠ 14 ∧ c ≠ 15 ∧ c ≠ 16 ∧ c ≠ 17 ∧ c ≠ 18 ∧ c ≠ 19 ∧ c ≠ 20 ∧ c ≠ 21 ∧ c ≠ 22 ∧ c ≠ 23 ∧ c ≠ 24 ∧ c ≠ 25 ∧ c ≠ 26 ∧ c ≠ 27 ∧ c ≠ 28 ∧ c ≠ 29 ∧ c ≠ 30 ∧ c ≠ 31 ∧ c ≠ 32 ∧ c ≠ 33 := by omega
  obtain ⟨_, _, _, _, _, _, _, _, _, _, _, _, _, _, _, _, _, _, _, _, _, _, _, _, _, _, _, _, _, _, _, _, _⟩ := g
  refine ⟨?_, ?_, ?_, ?_, ?_, ?_, ?_, ?_, ?_⟩
  · simp [rk, cA, cAB, *]
  · simp [wrB, cW, *]
  · simp [callsB, *]
  · simp [throwsB, *]
  · simp [pureB, *]
  · simp [leadsB, *]
  · simp [endsB, *]
  · simp [fdT, *]
  · simp [rowT, *]
/-- What holds of all Ops, told one by one. -/
theorem all_ops {Q : Int → Prop} (h : ∀ i : Fin 33, Q (i.val + 1)) (ho : ∀ c, c < 1 ∨ 34 ≤ c → Q c) (c : Int) : Q c := by
  by_cases hc : c < 1 ∨ 34 ≤ c
  · exact ho c hc
  · have := h ⟨(c - 1).toNat, by omega⟩
    rwa [show (((c - 1).toNat : Nat) : Int) + 1 = c by omega] at this
/-- The classes of reading, by the sets and by the document's signs. -/
theorem rk_ways (c : Int) : rk c ≤ 6 := by unfold rk; split <;> first | omega | (split <;> first | omega | (split <;> first | omega | (split <;> first | omega | (split <;> first | omega | (split <;> omega)))))
def sg (c : Int) (i : Nat) : UInt8 := (rowT c).getD i 0
end Go.Proofs.Ythaijdcgmcfpiaa
