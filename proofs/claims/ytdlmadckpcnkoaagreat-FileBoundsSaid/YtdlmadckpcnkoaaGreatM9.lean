/- Texts of this claim, joined: FileWr0, FileWrB. -/
import Derived.Test.YtdlmadckpcnkoaaGreatM7
import Derived.Test.YtdlmadckpcnkoaaGreatM8
/- What the document writes of a class, byte by byte; no program in this text. -/
namespace Go.Proofs.YtdlmadckpcnkoaaGreat
open Go Go.RowKit
set_option linter.unusedVariables false

/-- A number in n bytes, the highest first. -/
def beW : Nat → Int → Bs
  | 0, _ => []
  | n + 1, x => byI x n :: beW n x
theorem beW_len : ∀ (n : Nat) (x : Int), (beW n x).length = n
  | 0, _ => rfl
  | n + 1, x => by rw [beW, List.length_cons, beW_len n x]
/-- Bytes so far; is a constant missing? -/
abbrev Ou := Bs × Bool
def wNum (n : Nat) (x : Int) (o : Ou) : Ou := (o.1 ++ beW n x, o.2)
/-- Is it a constant of that kind and text alone? -/
def isC (k : Int) (t : Bs) (c : CoI) : Bool := decide (c.kind = k) && decide (c.text = t) && decide (c.num = 0) && decide (c.name = []) && decide (c.desc = [])
/-- The number of the first such constant, the first of these being number i. -/
def findC (k : Int) (t : Bs) : List CoI → Nat → Option Nat
  | [], _ => none
  | c :: r, i => if isC k t c then some i else findC k t r (i + 1)
def fnd (L : List CoI) (k : Int) (t : Bs) : Option Nat := findC k t (L.drop 1) 1
def wFind (L : List CoI) (k : Int) (t : Bs) (o : Ou) : Nat × Ou := match fnd L k t with
  | some i => (i, o)
  | none => (0, (o.1, true))
/-- A constant's number is written. -/
def wRef (L : List CoI) (k : Int) (t : Bs) (o : Ou) : Ou := wNum 2 (wFind L k t o).1 (wFind L k t o).2
/-- One constant of the pool. -/
def wCon (L : List CoI) (c : CoI) (o : Ou) : Ou :=
  (fun o : Ou => if c.kind = 1 then ((wNum 2 c.text.length o).1 ++ c.text, o.2)
    else if c.kind = 3 then wNum 4 c.num o
    else if c.kind = 5 then wNum 8 c.num o
    else if c.kind = 7 ∨ c.kind = 8 then wRef L 1 c.text o
    else wRef L 1 c.desc (wRef L 1 c.name (wRef L 7 c.text o))) (wNum 1 c.kind o)
theorem findC_step {k : Int} {t : Bs} {L : List CoI} {j i : Nat} {c : CoI} (hc : L[j]? = some c) (h : isC k t c = false) : findC k t (L.drop j) i = findC k t (L.drop (j + 1)) (i + 1) := by
  have hj := (List.getElem?_eq_some_iff.1 hc).1
  rw [List.drop_eq_getElem_cons hj]
  rw [List.getElem?_eq_getElem hj] at hc
  injection hc with hc
  rw [hc, findC, h]
  simp
theorem findC_hit {k : Int} {t : Bs} {L : List CoI} {j i : Nat} {c : CoI} (hc : L[j]? = some c) (h : isC k t c = true) : findC k t (L.drop j) i = some i := by
  have hj := (List.getElem?_eq_some_iff.1 hc).1
  rw [List.drop_eq_getElem_cons hj]
  rw [List.getElem?_eq_getElem hj] at hc
  injection hc with hc
  rw [hc, findC, h]
  rfl
theorem findC_end {k : Int} {t : Bs} {L : List CoI} {j i : Nat} (h : L.length ≤ j) : findC k t (L.drop j) i = none := by
  rw [List.drop_eq_nil_of_le h]
  rfl
end Go.Proofs.YtdlmadckpcnkoaaGreat
/- What the document writes of a class with no interfaces, fields, methods. No program in this text. -/
namespace Go.Proofs.YtdlmadckpcnkoaaGreat
open Go Go.RowKit
set_option linter.unusedVariables false

/-- Constants, one behind the other. -/
def wCons (L : List CoI) : List CoI → Ou → Ou
  | [], o => o
  | c :: r, o => wCons L r (wCon L c o)
def wHead (c : ClI) : Ou := wCons c.pool (c.pool.drop 1) (wNum 2 c.pool.length ([82, 69, 71, 76], false))
/-- A class with no interfaces, fields, methods. -/
def wBare (c : ClI) : Ou := wNum 2 0 (wNum 2 0 (wNum 2 0 (wRef c.pool 7 c.super (wRef c.pool 7 c.name (wNum 2 c.flags (wHead c))))))
theorem wCons_step {L : List CoI} {j : Nat} {x : CoI} (h : L[j]? = some x) (o : Ou) : wCons L (L.drop j) o = wCons L (L.drop (j + 1)) (wCon L x o) := by
  have hj := (List.getElem?_eq_some_iff.1 h).1
  rw [List.drop_eq_getElem_cons hj]
  rw [List.getElem?_eq_getElem hj] at h
  injection h with h
  rw [h]
  rfl
end Go.Proofs.YtdlmadckpcnkoaaGreat
