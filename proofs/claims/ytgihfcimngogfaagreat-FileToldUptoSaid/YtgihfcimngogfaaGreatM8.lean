/- Texts of this claim, joined: PoolLay, FileWr0, FileWrB, FileLeast. -/
import Derived.Test.YtgihfcimngogfaaGreatM2
import Derived.IntWalk
import Derived.Test.YtgihfcimngogfaaGreatM7
import Derived.KernelRfl
namespace Go.Proofs.YtgihfcimngogfaaGreat
open Go Go.RowKit
set_option linter.unusedVariables false
def byI (x : Int) (i : Nat) : UInt8 := UInt8.ofNat ((x / 2 ^ (8 * i)) % 256).toNat
theorem byI_nat (x : Int) (i : Nat) : ((byI x i).toNat : Int) = (x / 2 ^ (8 * i)) % 256 := by
 unfold byI
 have h1 := Int.emod_nonneg (x / 2 ^ (8 * i)) (by omega : (256 : Int) ≠ 0)
 have h2 := Int.emod_lt_of_pos (x / 2 ^ (8 * i)) (by omega : (0 : Int) < 256)
 rw [UInt8.toNat_ofNat', Nat.mod_eq_of_lt (by omega)]
 omega
def b4 (x : Int) : Bs := [byI x 3, byI x 2, byI x 1, byI x 0]
def b8 (x : Int) : Bs := [byI x 7, byI x 6, byI x 5, byI x 4, byI x 3, byI x 2, byI x 1, byI x 0]
end Go.Proofs.YtgihfcimngogfaaGreat
namespace Go.Proofs.YtgihfcimngogfaaGreat
open Go Go.RowKit
set_option linter.unusedVariables false
def beW : Nat → Int → Bs
 | 0, _ => []
 | n + 1, x => byI x n :: beW n x
theorem beW_len : ∀ (n : Nat) (x : Int), (beW n x).length = n
 | 0, _ => rfl
 | n + 1, x => by rw [beW, List.length_cons, beW_len n x]
abbrev Ou := Bs × Bool
def wNum (n : Nat) (x : Int) (o : Ou) : Ou := (o.1 ++ beW n x, o.2)
def isC (k : Int) (t : Bs) (c : CoI) : Bool := decide (c.kind = k) && decide (c.text = t) && decide (c.num = 0) && decide (c.name = []) && decide (c.desc = [])
def findC (k : Int) (t : Bs) : List CoI → Nat → Option Nat
 | [], _ => none
 | c :: r, i => if isC k t c then some i else findC k t r (i + 1)
def fnd (L : List CoI) (k : Int) (t : Bs) : Option Nat := findC k t (L.drop 1) 1
def wFind (L : List CoI) (k : Int) (t : Bs) (o : Ou) : Nat × Ou := match fnd L k t with
 | some i => (i, o)
 | none => (0, (o.1, true))
def wRef (L : List CoI) (k : Int) (t : Bs) (o : Ou) : Ou := wNum 2 (wFind L k t o).1 (wFind L k t o).2
def wCon (L : List CoI) (c : CoI) (o : Ou) : Ou :=
 (fun o : Ou => if c.kind = 1 then ((wNum 2 c.text.length o).1 ++ c.text, o.2)
  else if c.kind = 3 then wNum 4 c.num o
  else if c.kind = 5 then wNum 8 c.num o
  else if c.kind = 7 ∨ c.kind = 8 then wRef L 1 c.text o
  else wRef L 1 c.desc (wRef L 1 c.name (wRef L 7 c.text o))) (wNum 1 c.kind o)
theorem findC_step {k : Int} {t : Bs} {L : List CoI} {j i : Nat} {c : CoI} (hc : L[j]? = some c) (h : isC k t c = false) : findC k t (L.drop j) i = findC k t (L.drop (j + 1)) (i + 1) := by
 have hj := (List.getElem?_eq_some_iff.1 hc).1
 rw [List.drop_eq_getElem_cons hj]
 rw [List.getElem?_eq_getElem hj] at hc
 injection hc with hc
 rw [hc, findC, h]
 simp
theorem findC_hit {k : Int} {t : Bs} {L : List CoI} {j i : Nat} {c : CoI} (hc : L[j]? = some c) (h : isC k t c = true) : findC k t (L.drop j) i = some i := by
 have hj := (List.getElem?_eq_some_iff.1 hc).1
 rw [List.drop_eq_getElem_cons hj]
 rw [List.getElem?_eq_getElem hj] at hc
 injection hc with hc
 rw [hc, findC, h]
 rfl
theorem findC_end {k : Int} {t : Bs} {L : List CoI} {j i : Nat} (h : L.length ≤ j) : findC k t (L.drop j) i = none := by
 rw [List.drop_eq_nil_of_le h]
 rfl
end Go.Proofs.YtgihfcimngogfaaGreat
namespace Go.Proofs.YtgihfcimngogfaaGreat
open Go Go.RowKit
set_option linter.unusedVariables false
def wCons (L : List CoI) : List CoI → Ou → Ou
 | [], o => o
 | c :: r, o => wCons L r (wCon L c o)
def wHead (c : ClI) : Ou := wCons c.pool (c.pool.drop 1) (wNum 2 c.pool.length ([82, 69, 71, 76], false))
def wBare (c : ClI) : Ou := wNum 2 0 (wNum 2 0 (wNum 2 0 (wRef c.pool 7 c.super (wRef c.pool 7 c.name (wNum 2 c.flags (wHead c))))))
theorem wCons_step {L : List CoI} {j : Nat} {x : CoI} (h : L[j]? = some x) (o : Ou) : wCons L (L.drop j) o = wCons L (L.drop (j + 1)) (wCon L x o) := by
 have hj := (List.getElem?_eq_some_iff.1 h).1
 rw [List.drop_eq_getElem_cons hj]
 rw [List.getElem?_eq_getElem hj] at h
 injection h with h
 rw [h]
 rfl
end Go.Proofs.YtgihfcimngogfaaGreat
namespace Go.Proofs.YtgihfcimngogfaaGreat
open Go Go.RowKit
set_option linter.unusedVariables false
def objB : Bs := [79, 98, 106, 101, 99, 116]
def leastC : Cls := ⟨0, [97], objB, [], [⟨0, 0, [], [], []⟩, ⟨1, 0, [97], [], []⟩, ⟨1, 0, objB, [], []⟩, ⟨7, 0, [97], [], []⟩, ⟨7, 0, objB, [], []⟩], [], []⟩
theorem least_bytes : wBare (clI leastC) = ([82, 69, 71, 76, 0, 5, 1, 0, 1, 97, 1, 0, 6, 79, 98, 106, 101, 99, 116, 7, 0, 1, 7, 0, 2, 0, 0, 0, 3, 0, 4, 0, 0, 0, 0, 0, 0], false) := by decide +kernel
theorem least_par : parP [82, 69, 71, 76, 0, 5, 1, 0, 1, 97, 1, 0, 6, 79, 98, 106, 101, 99, 116, 7, 0, 1, 7, 0, 2, 0, 0, 0, 3, 0, 4, 0, 0, 0, 0, 0, 0] = .ok leastC [] := by kernel_rfl
theorem least_more : parP ([82, 69, 71, 76, 0, 5, 1, 0, 1, 97, 1, 0, 6, 79, 98, 106, 101, 99, 116, 7, 0, 1, 7, 0, 2, 0, 0, 0, 3, 0, 4, 0, 0, 0, 0, 0, 0] ++ [0]) = .er 11 := by kernel_rfl
end Go.Proofs.YtgihfcimngogfaaGreat
