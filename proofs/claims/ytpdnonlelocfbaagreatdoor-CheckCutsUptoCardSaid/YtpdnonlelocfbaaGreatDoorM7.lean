/- Texts of this claim, joined: CdMath, CdRow, CdBase. -/
import Derived.WalkKit
import Derived.Lib.Hide
import Derived.Test.YtpdnonlelocfbaaGreatDoorProg
import Derived.ProofKit
import Derived.Below
import Derived.Deep.Draws
import Derived.Deep.OwnRows
import Derived.Laws.AppendOwn
import Derived.Laws.IdiomCopy
import Derived.Laws.MakeOwn
import Derived.OwnWalk
import Derived.OpenShut
/- Instructions of code, in plain words. No program in this text. -/
namespace Go.Proofs.YtpdnonlelocfbaaGreatDoor.Cd
open Go.RowKit Go
set_option linter.unusedVariables false

abbrev Bs := List UInt8
structure Cop where
  pc : Int
  code : Int
  a : Int
  b : Int
theorem Cop.same {x y : Cop} (h1 : x.pc = y.pc) (h2 : x.code = y.code) (h3 : x.a = y.a) (h4 : x.b = y.b) : x = y := by
  cases x; cases y
  simp only at h1 h2 h3 h4
  subst h1 h2 h3 h4
  rfl
def ro1 : List Int := [0, 1, 2, 3, 4, 5, 6, 7, 8, 9, 10, 46, 47, 50, 79, 80, 83, 87, 89, 90, 95, 96, 97, 100, 101, 104, 105, 108, 109, 112, 113, 116, 117, 120, 121, 122, 123, 124, 125, 126, 127, 128, 129, 130, 131, 133, 136, 145, 146, 147, 148, 172, 173, 176, 177, 190, 191]
def ro2 : List Int := [21, 22, 25, 54, 55, 58, 188]
def ro5 : List Int := [19, 178, 179, 180, 181, 182, 183, 184, 185, 187, 189, 192, 193]
def ro6 : List Int := [153, 154, 155, 156, 157, 158, 159, 160, 161, 162, 163, 164, 165, 166, 167, 198, 199]
def rowN (c : Int) : Nat := if c ∈ ro1 then 1 else if c ∈ ro2 then 2 else if c = 16 then 3 else if c = 17 then 4 else if c ∈ ro5 then 5 else if c ∈ ro6 then 6 else if c = 132 then 7 else 0
def szR : Nat → Nat
  | 1 => 1
  | 2 => 2
  | 3 => 2
  | 4 => 3
  | 5 => 3
  | 6 => 3
  | 7 => 3
  | _ => 0
def szN (c : Int) : Nat := szR (rowN c)
def ends : List Int := [167, 172, 173, 176, 177, 191]
theorem rowN_le (c : Int) : rowN c ≤ 7 := by
  unfold rowN
  repeat' split
  all_goals omega
theorem szR_le (r : Nat) : szR r ≤ 3 := by
  unfold szR
  split <;> omega
theorem szN_le (c : Int) : szN c ≤ 3 := szR_le _
theorem row_ways {r : Nat} (h : r ≤ 7) : r = 0 ∨ r = 1 ∨ r = 2 ∨ r = 3 ∨ r = 4 ∨ r = 5 ∨ r = 6 ∨ r = 7 := by omega
theorem rowN_out (c : Int) (h : c < 0 ∨ 200 ≤ c) : rowN c = 0 := by
  unfold rowN ro1 ro2 ro5 ro6
  have e : ∀ l : List Int, (∀ x ∈ l, 0 ≤ x ∧ x < 200) → c ∉ l := fun l hl hc => by
    have := hl c hc
    omega
  rw [if_neg (e _ (by decide)), if_neg (e _ (by decide)), if_neg (by omega), if_neg (by omega), if_neg (e _ (by decide)), if_neg (e _ (by decide)), if_neg (by omega)]
set_option maxRecDepth 100000 in
theorem row_all {P : Int → Prop} [∀ n : Nat, Decidable (P (n : Int))] (h : ∀ n : Nat, n < 200 → P (n : Int)) (c : Int) (h0 : 0 ≤ c) (h1 : c < 200) : P c := by
  have := h c.toNat (by omega)
  rwa [show ((c.toNat : Nat) : Int) = c by omega] at this

end Go.Proofs.YtpdnonlelocfbaaGreatDoor.Cd
/- Contracts of the table's rows, the program's. -/
namespace Go.Proofs.YtpdnonlelocfbaaGreatDoor.Cd
open Go.RowKit Go
set_option linter.unusedVariables false

theorem lhid {p : Prop} (h : p) : Hid p := h
set_option maxHeartbeats 8000000 in
set_option maxRecDepth 100000 in
theorem rowOf_any (c : Int) (w : World) :
    Calls Tryz.prog 206 #[.int .i64 c] w fun e w' => e = .returned (.int .i64 (rowN c)) ∧ w = w' := by
  go_enter Tryz.func206, Tryz.ntmps206
  go_wp2
  all_goals go_ret
  all_goals
    refine ⟨?_, rfl⟩
    rename_i h
    first
      | (obtain rfl := eq_of_beq h; rfl)
      | (simp only [beq_eq_false_iff_ne, ne_eq] at *
         rw [show rowN c = 0 by unfold rowN ro1 ro2 ro5 ro6; simp [*]]
         rfl)
theorem rowOf_r (c : Int) (r : Nat) (w : World) (h : Hid (rowN c = r)) :
    Calls Tryz.prog 206 #[.int .i64 c] w fun e w' => e = .returned (.int .i64 r) ∧ w = w' := by
  have := rowOf_any c w
  rwa [h.out] at this
set_option maxHeartbeats 1000000 in
set_option maxRecDepth 100000 in
theorem size_any (c : Int) (w : World) :
    Calls Tryz.prog 149 #[.int .i64 c] w fun e w' => e = .returned (.int .i64 (szN c)) ∧ w = w' := by
  have hle := rowN_le c
  obtain ⟨r, hr⟩ : ∃ r, rowN c = r := ⟨_, rfl⟩
  have HR := lhid hr
  unfold szN
  rw [hr] at hle ⊢
  rcases row_ways hle with rfl | rfl | rfl | rfl | rfl | rfl | rfl | rfl
  all_goals
    clear hr hle
    go_enter Tryz.func149, Tryz.ntmps149
    go_wp2_with fail
    with_reducible refine (rowOf_r c _ _ HR).mono ?_
    rintro e w1 ⟨rfl, rfl⟩
    go_wp2_with fail
    go_ret
    exact ⟨rfl, rfl⟩
set_option maxHeartbeats 1000000 in
set_option maxRecDepth 100000 in
theorem leads_any (c : Int) (w : World) :
    Calls Tryz.prog 174 #[.int .i64 c] w fun e w' => e = .returned (.bool (decide (rowN c = 6))) ∧ w = w' := by
  have hle := rowN_le c
  obtain ⟨r, hr⟩ : ∃ r, rowN c = r := ⟨_, rfl⟩
  have HR := lhid hr
  rw [hr] at hle ⊢
  rcases row_ways hle with rfl | rfl | rfl | rfl | rfl | rfl | rfl | rfl
  all_goals
    clear hr hle
    go_enter Tryz.func174, Tryz.ntmps174
    go_wp2_with fail
    with_reducible refine (rowOf_r c _ _ HR).mono ?_
    rintro e w1 ⟨rfl, rfl⟩
    go_wp2_with fail
    go_ret
    exact ⟨rfl, rfl⟩
set_option maxHeartbeats 1000000 in
set_option maxRecDepth 100000 in
theorem ends_any (c : Int) (w : World) :
    Calls Tryz.prog 173 #[.int .i64 c] w fun e w' => e = .returned (.bool (decide (c ∈ ends))) ∧ w = w' := by
  go_enter Tryz.func173, Tryz.ntmps173
  go_wp2
  all_goals go_ret
  all_goals
    refine ⟨?_, rfl⟩
    rename_i h
    first
      | (obtain rfl := eq_of_beq h; rfl)
      | (simp only [beq_eq_false_iff_ne, ne_eq] at *
         rw [show decide (c ∈ ends) = false by unfold ends; simp [*]]
         rfl)
end Go.Proofs.YtpdnonlelocfbaaGreatDoor.Cd
/- Memory for package code: what can be read, what a call made. -/
namespace Go.Proofs.YtpdnonlelocfbaaGreatDoor.Cd
open Go.RowKit Go
set_option linter.unusedVariables false

theorem heap_set {w : World} {R i : Nat} {c : Array Value} {t : TypeId} {f : Nat × Nat} (h : w.heap[R]? = some (.cells c t f)) (v : Value) : (w.setCell ⟨R, i, none⟩ v).heap[R]? = some (.cells (c.setIfInBounds i v) t f) := by
  simp [World.setCell, Array.getElem?_modify, h]
theorem heap_cell {w : World} {R i : Nat} {c : Array Value} {t : TypeId} {f : Nat × Nat} {v : Value} (h : w.heap[R]? = some (.cells c t f)) (hv : c[i]? = some v) : w.cell? ⟨R, i, none⟩ = some v := by
  simp [World.cell?, h, hv]
theorem heap_thaw {w : World} {R : Nat} {c : Array Value} {t : TypeId} (h : w.heap[R]? = some (.cells c t (0, 0))) (i : Nat) : w.frozen? ⟨R, i, none⟩ = false := by
  simp [World.frozen?, h]
theorem heap_lt {w : World} {R : Nat} {o : Obj} (h : w.heap[R]? = some o) : R < w.heap.size := (Array.getElem?_eq_some_iff.1 h).1
theorem cell_lt {w : World} {p : Addr} {u : Value} (h : w.cell? p = some u) : p.block < w.heap.size := by
  unfold World.cell? at h
  cases hb : w.heap[p.block]? with
  | none => rw [hb] at h; simp at h
  | some o => exact (Array.getElem?_eq_some_iff.1 hb).1
theorem Below.drewN' {B : Nat} {a w : World} (h : Below B a w) (n : Nat) : Below B a (w.drewN n) := ⟨h.os, h.tape, h.output, h.size, h.block⟩
theorem Below.drew' {B : Nat} {a w : World} (h : Below B a w) : Below B a w.drew := ⟨h.os, h.tape, h.output, h.size, h.block⟩
/-- Numbers that an int can be. -/
def I64 (n : Int) : Prop := -9223372036854775808 ≤ n ∧ n ≤ 9223372036854775807
/-- A slice that can be read: the things of l, in rows of k cells. -/
def RdL {α : Type} (k : Nat) (E : α → List Value) (w : World) (v : Value) (l : List α) : Prop :=
  ∃ A cap, v = .slice A l.length cap ∧ l.length ≤ 140737488355328 ∧ ∀ (i : Nat) (a : α), l[i]? = some a → ∃ g o, A = some ⟨g, o, none⟩ ∧ ∀ (j : Nat) u, (E a)[j]? = some u → w.cell? ⟨g, o + i * k + j, none⟩ = some u
theorem RdL.below {α : Type} {k : Nat} {E : α → List Value} {w w' : World} {v : Value} {l : List α} (h : RdL k E w v l) (hb : Below w.heap.size w w') : RdL k E w' v l := by
  obtain ⟨A, cap, h1, h2, h3⟩ := h
  refine ⟨A, cap, h1, h2, fun i a hi => ?_⟩
  obtain ⟨g, o, h4, h6⟩ := h3 i a hi
  exact ⟨g, o, h4, fun j u hj => (hb.cell (p := ⟨g, o + i * k + j, none⟩) (cell_lt (h6 j u hj))).trans (h6 j u hj)⟩
theorem RdL.drewN {α : Type} {k : Nat} {E : α → List Value} {w : World} {v : Value} {l : List α} (h : RdL k E w v l) (n : Nat) : RdL k E (w.drewN n) v l := h
theorem RdL.shape {α : Type} {k : Nat} {E : α → List Value} {w : World} {v : Value} {l : List α} (h : RdL k E w v l) : ∃ A cap, v = .slice A l.length cap := by
  obtain ⟨A, cap, h1, _⟩ := h
  exact ⟨A, cap, h1⟩
theorem RdL.len {α : Type} {k : Nat} {E : α → List Value} {w : World} {v : Value} {l : List α} (h : RdL k E w v l) : l.length ≤ 140737488355328 := by
  obtain ⟨A, cap, h1, h2, _⟩ := h
  exact h2
theorem RdL.at' {α : Type} {k : Nat} {E : α → List Value} {w : World} {A : Option Addr} {n cap : Nat} {l : List α} (h : RdL k E w (.slice A n cap) l) {i : Nat} {a : α} (hi : l[i]? = some a) : ∃ g o, A = some ⟨g, o, none⟩ ∧ ∀ (j : Nat) u, (E a)[j]? = some u → w.cell? ⟨g, o + i * k + j, none⟩ = some u := by
  obtain ⟨A', cap', h1, h2, h3⟩ := h
  injection h1 with h1 _ _
  subst h1
  exact h3 i a hi
def intE (z : Int) : List Value := [.int .i64 z]
def bytE (b : UInt8) : List Value := [.int .u8 (b.toNat : Int)]
def copE (x : Cop) : List Value := [.int .i64 x.pc, .int .i64 x.code, .int .i64 x.a, .int .i64 x.b]
abbrev RdI := RdL 1 intE
abbrev RdB := RdL 1 bytE
abbrev RdO := RdL 4 copE
theorem rdl_nil {α : Type} (k : Nat) (E : α → List Value) (w : World) (A : Option Addr) (cap : Nat) : RdL k E w (.slice A 0 cap) [] := ⟨A, cap, rfl, by simp, fun i a hi => by simp at hi⟩
/-- A block of one cell a thing. -/
theorem rdl_block {α : Type} {E : α → List Value} {f : α → Value} (hE : ∀ a, E a = [f a]) {w : World} {g T : Nat} {fz : Nat × Nat} {c : Array Value} {l : List α} {n cap : Nat} (h : w.heap[g]? = some (.cells c T fz)) (hc : c = (l.map f).toArray) (hn : n = l.length) (hl : l.length ≤ 140737488355328) : RdL 1 E w (.slice (some ⟨g, 0, none⟩) n cap) l := by
  subst hn
  refine ⟨_, cap, rfl, hl, fun i a hi => ⟨g, 0, rfl, fun j u hj => ?_⟩⟩
  rw [hE] at hj
  cases j with
  | succ j => simp at hj
  | zero =>
    simp at hj
    subst hj
    refine heap_cell h ?_
    subst hc
    simp [hi]
def SOut (P : Prop) (w : World) (e : Ending) (w' : World) : Prop := (∃ r : Bool, e = .returned (.bool r) ∧ (r = true ↔ P)) ∧ Below w.heap.size w w'
theorem sout_no {P : Prop} {w w' : World} (h : ¬ P) (hb : Below w.heap.size w w') : SOut P w (.returned (.bool false)) w' := ⟨⟨false, rfl, by simp [h]⟩, hb⟩
theorem sout_yes {P : Prop} {w w' : World} (h : P) (hb : Below w.heap.size w w') : SOut P w (.returned (.bool true)) w' := ⟨⟨true, rfl, by simp [h]⟩, hb⟩
theorem ret_bool {a b : Bool} (h : a = b) : Ending.returned (.bool a) = .returned (.bool b) := by rw [h]
end Go.Proofs.YtpdnonlelocfbaaGreatDoor.Cd
