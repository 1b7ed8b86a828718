/- Instructions of code, in plain words. No program in this text. -/
import Derived.WalkKit
import Derived.Lib.Hide
namespace Go.Proofs.Ytifheohdgjamnaa
open Go.RowKit Go
set_option linter.unusedVariables false

abbrev Bs := List UInt8
structure Cop where
  pc : Int
  code : Int
  a : Int
  b : Int
theorem Cop.same {x y : Cop} (h1 : x.pc = y.pc) (h2 : x.code = y.code) (h3 : x.a = y.a) (h4 : x.b = y.b) : x = y := by
  cases x; cases y
  simp only at h1 h2 h3 h4
  subst h1 h2 h3 h4
  rfl
def ro1 : List Int := [0, 1, 2, 3, 4, 5, 6, 7, 8, 9, 10, 46, 47, 50, 79, 80, 83, 87, 89, 90, 95, 96, 97, 100, 101, 104, 105, 108, 109, 112, 113, 116, 117, 120, 121, 122, 123, 124, 125, 126, 127, 128, 129, 130, 131, 133, 136, 145, 146, 147, 148, 172, 173, 176, 177, 190, 191]
def ro2 : List Int := [21, 22, 25, 54, 55, 58, 188]
def ro5 : List Int := [19, 178, 179, 180, 181, 182, 183, 184, 185, 187, 189, 192, 193]
def ro6 : List Int := [153, 154, 155, 156, 157, 158, 159, 160, 161, 162, 163, 164, 165, 166, 167, 198, 199]
def rowN (c : Int) : Nat := if c ∈ ro1 then 1 else if c ∈ ro2 then 2 else if c = 16 then 3 else if c = 17 then 4 else if c ∈ ro5 then 5 else if c ∈ ro6 then 6 else if c = 132 then 7 else 0
def szR : Nat → Nat
  | 1 => 1
  | 2 => 2
  | 3 => 2
  | 4 => 3
  | 5 => 3
  | 6 => 3
  | 7 => 3
  | _ => 0
def szN (c : Int) : Nat := szR (rowN c)
def ends : List Int := [167, 172, 173, 176, 177, 191]
theorem rowN_le (c : Int) : rowN c ≤ 7 := by
  unfold rowN
  repeat' split
  all_goals omega
theorem szR_le (r : Nat) : szR r ≤ 3 := by
  unfold szR
  split <;> omega
theorem szN_le (c : Int) : szN c ≤ 3 := szR_le _
theorem row_ways {r : Nat} (h : r ≤ 7) : r = 0 ∨ r = 1 ∨ r = 2 ∨ r = 3 ∨ r = 4 ∨ r = 5 ∨ r = 6 ∨ r = 7 := by omega
theorem rowN_out (c : Int) (h : c < 0 ∨ 200 ≤ c) : rowN c = 0 := by
  unfold rowN ro1 ro2 ro5 ro6
  have e : ∀ l : List Int, (∀ x ∈ l, 0 ≤ x ∧ x < 200) → c ∉ l := fun l hl hc => by
    have := hl c hc
    omega
  rw [if_neg (e _ (by decide)), if_neg (e _ (by decide)), if_neg (by omega), if_neg (by omega), if_neg (e _ (by decide)), if_neg (e _ (by decide)), if_neg (by omega)]
set_option maxRecDepth 100000 in
theorem row_all {P : Int → Prop} [∀ n : Nat, Decidable (P (n : Int))] (h : ∀ n : Nat, n < 200 → P (n : Int)) (c : Int) (h0 : 0 ≤ c) (h1 : c < 200) : P c := by
  have := h c.toNat (by omega)
  rwa [show ((c.toNat : Nat) : Int) = c by omega] at this

end Go.Proofs.Ytifheohdgjamnaa
