/- Memory for package code: what can be read, what a call made. -/
import Derived.Test.YtifheohdgjamnaaProg
import Derived.Test.YtifheohdgjamnaaCodeRow
import Derived.Below
import Derived.Deep.Draws
import Derived.Deep.OwnRows
import Derived.Laws.AppendOwn
import Derived.Laws.IdiomCopy
import Derived.Laws.MakeOwn
import Derived.OwnWalk
import Derived.OpenShut
namespace Go.Proofs.Ytifheohdgjamnaa
open Go.RowKit Go
set_option linter.unusedVariables false

theorem heap_set {w : World} {R i : Nat} {c : Array Value} {t : TypeId} {f : Nat × Nat} (h : w.heap[R]? = some (.cells c t f)) (v : Value) : (w.setCell ⟨R, i, none⟩ v).heap[R]? = some (.cells (c.setIfInBounds i v) t f) := by
  simp [World.setCell, Array.getElem?_modify, h]
theorem heap_cell {w : World} {R i : Nat} {c : Array Value} {t : TypeId} {f : Nat × Nat} {v : Value} (h : w.heap[R]? = some (.cells c t f)) (hv : c[i]? = some v) : w.cell? ⟨R, i, none⟩ = some v := by
  simp [World.cell?, h, hv]
theorem heap_thaw {w : World} {R : Nat} {c : Array Value} {t : TypeId} (h : w.heap[R]? = some (.cells c t (0, 0))) (i : Nat) : w.frozen? ⟨R, i, none⟩ = false := by
  simp [World.frozen?, h]
theorem heap_lt {w : World} {R : Nat} {o : Obj} (h : w.heap[R]? = some o) : R < w.heap.size := (Array.getElem?_eq_some_iff.1 h).1
theorem cell_lt {w : World} {p : Addr} {u : Value} (h : w.cell? p = some u) : p.block < w.heap.size := by
  unfold World.cell? at h
  cases hb : w.heap[p.block]? with
  | none => rw [hb] at h; simp at h
  | some o => exact (Array.getElem?_eq_some_iff.1 hb).1
theorem Below.drewN' {B : Nat} {a w : World} (h : Below B a w) (n : Nat) : Below B a (w.drewN n) := ⟨h.os, h.tape, h.output, h.size, h.block⟩
theorem Below.drew' {B : Nat} {a w : World} (h : Below B a w) : Below B a w.drew := ⟨h.os, h.tape, h.output, h.size, h.block⟩
/-- Numbers that an int can be. -/
def I64 (n : Int) : Prop := -9223372036854775808 ≤ n ∧ n ≤ 9223372036854775807
/-- A slice that can be read: the things of l, in rows of k cells. -/
def RdL {α : Type} (k : Nat) (E : α → List Value) (w : World) (v : Value) (l : List α) : Prop :=
  ∃ A cap, v = .slice A l.length cap ∧ l.length ≤ 140737488355328 ∧ ∀ (i : Nat) (a : α), l[i]? = some a → ∃ g o, A = some ⟨g, o, none⟩ ∧ ∀ (j : Nat) u, (E a)[j]? = some u → w.cell? ⟨g, o + i * k + j, none⟩ = some u
theorem RdL.below {α : Type} {k : Nat} {E : α → List Value} {w w' : World} {v : Value} {l : List α} (h : RdL k E w v l) (hb : Below w.heap.size w w') : RdL k E w' v l := by
  obtain ⟨A, cap, h1, h2, h3⟩ := h
  refine ⟨A, cap, h1, h2, fun i a hi => ?_⟩
  obtain ⟨g, o, h4, h6⟩ := h3 i a hi
  exact ⟨g, o, h4, fun j u hj => (hb.cell (p := ⟨g, o + i * k + j, none⟩) (cell_lt (h6 j u hj))).trans (h6 j u hj)⟩
theorem RdL.drewN {α : Type} {k : Nat} {E : α → List Value} {w : World} {v : Value} {l : List α} (h : RdL k E w v l) (n : Nat) : RdL k E (w.drewN n) v l := h
theorem RdL.shape {α : Type} {k : Nat} {E : α → List Value} {w : World} {v : Value} {l : List α} (h : RdL k E w v l) : ∃ A cap, v = .slice A l.length cap := by
  obtain ⟨A, cap, h1, _⟩ := h
  exact ⟨A, cap, h1⟩
theorem RdL.len {α : Type} {k : Nat} {E : α → List Value} {w : World} {v : Value} {l : List α} (h : RdL k E w v l) : l.length ≤ 140737488355328 := by
  obtain ⟨A, cap, h1, h2, _⟩ := h
  exact h2
theorem RdL.at' {α : Type} {k : Nat} {E : α → List Value} {w : World} {A : Option Addr} {n cap : Nat} {l : List α} (h : RdL k E w (.slice A n cap) l) {i : Nat} {a : α} (hi : l[i]? = some a) : ∃ g o, A = some ⟨g, o, none⟩ ∧ ∀ (j : Nat) u, (E a)[j]? = some u → w.cell? ⟨g, o + i * k + j, none⟩ = some u := by
  obtain ⟨A', cap', h1, h2, h3⟩ := h
  injection h1 with h1 _ _
  subst h1
  exact h3 i a hi
def intE (z : Int) : List Value := [.int .i64 z]
def bytE (b : UInt8) : List Value := [.int .u8 (b.toNat : Int)]
def copE (x : Cop) : List Value := [.int .i64 x.pc, .int .i64 x.code, .int .i64 x.a, .int .i64 x.b]
abbrev RdI := RdL 1 intE
abbrev RdB := RdL 1 bytE
abbrev RdO := RdL 4 copE
theorem rdl_nil {α : Type} (k : Nat) (E : α → List Value) (w : World) (A : Option Addr) (cap : Nat) : RdL k E w (.slice A 0 cap) [] := ⟨A, cap, rfl, by simp, fun i a hi => by simp at hi⟩
/-- A block of one cell a thing. -/
theorem rdl_block {α : Type} {E : α → List Value} {f : α → Value} (hE : ∀ a, E a = [f a]) {w : World} {g T : Nat} {fz : Nat × Nat} {c : Array Value} {l : List α} {n cap : Nat} (h : w.heap[g]? = some (.cells c T fz)) (hc : c = (l.map f).toArray) (hn : n = l.length) (hl : l.length ≤ 140737488355328) : RdL 1 E w (.slice (some ⟨g, 0, none⟩) n cap) l := by
  subst hn
  refine ⟨_, cap, rfl, hl, fun i a hi => ⟨g, 0, rfl, fun j u hj => ?_⟩⟩
  rw [hE] at hj
  cases j with
  | succ j => simp at hj
  | zero =>
    simp at hj
    subst hj
    refine heap_cell h ?_
    subst hc
    simp [hi]
def SOut (P : Prop) (w : World) (e : Ending) (w' : World) : Prop := (∃ r : Bool, e = .returned (.bool r) ∧ (r = true ↔ P)) ∧ Below w.heap.size w w'
theorem sout_no {P : Prop} {w w' : World} (h : ¬ P) (hb : Below w.heap.size w w') : SOut P w (.returned (.bool false)) w' := ⟨⟨false, rfl, by simp [h]⟩, hb⟩
theorem sout_yes {P : Prop} {w w' : World} (h : P) (hb : Below w.heap.size w w') : SOut P w (.returned (.bool true)) w' := ⟨⟨true, rfl, by simp [h]⟩, hb⟩
theorem ret_bool {a b : Bool} (h : a = b) : Ending.returned (.bool a) = .returned (.bool b) := by rw [h]
set_option maxHeartbeats 1000000 in
set_option maxRecDepth 100000 in
theorem among_any (c : Int) (v : Value) (l : List Int) (w : World) (h : Hid (RdI w v l)) :
    Calls Try.prog 27 #[.int .i64 c, v] w fun e w' => e = .returned (.bool (decide (c ∈ l))) ∧ w = w' := by
  obtain ⟨A, cap, rfl⟩ := h.out.shape
  have hl := h.out.len
  go_enter Try.func27, Try.ntmps27
  go_wp2_with fail
  go_loopw [5] (fun i wr => ∃ k : Nat, i = .int .i64 k ∧ k ≤ l.length ∧ Hid (c ∉ l.take k) ∧ wr = w) (fun i _ => l.length - (intOf i).toNat)
  case atStart => exact ⟨0, rfl, Nat.zero_le _, lhid (by simp), rfl⟩
  case round =>
    obtain ⟨k, rfl, hk, HN, rfl⟩ := hrel
    by_cases hlt : k < l.length
    · obtain ⟨x, hx⟩ : ∃ x, l[k]? = some x := ⟨_, List.getElem?_eq_getElem hlt⟩
      obtain ⟨g, o, rfl, hc⟩ := h.out.at' hx
      have c0 : wr.cell? ⟨g, o + k, none⟩ = some (.int .i64 x) := by
        have := hc 0 (.int .i64 x) rfl
        rwa [Nat.mul_one] at this
      have k3 : (k : Int) < l.length := by omega
      have HX := lhid hx
      clear hx hc
      by_cases hxc : x = c
      · have HM := lhid (List.mem_of_getElem? HX.out)
        have d0 : (x == c) = true := by rw [hxc]; simp
        have HXC := lhid hxc
        clear hxc
        go_wp2_with fail
        go_ret
        exact ⟨ret_bool (by rw [← HXC.out, decide_eq_true HM.out]), rfl⟩
      · have d0 : (x == c) = false := by rw [beq_eq_false_iff_ne]; exact hxc
        have HM2 : Hid (c ∉ l.take (k + 1)) := lhid (by rw [List.take_add_one, HX.out]; simp only [Option.toList_some, List.mem_append, List.mem_singleton, not_or]; exact ⟨HN.out, fun e => hxc e.symm⟩)
        clear hxc
        go_wp2_with fail
        go_roundw
        case rel => exact ⟨k + 1, by go_num, by omega, HM2, trivial⟩
        case measure => simp [intOf]; omega
    · have k3 : ¬ (k : Int) < l.length := by omega
      have hn := HN.out
      rw [List.take_of_length_le (by omega)] at hn
      have HN2 := lhid hn
      clear hn HN
      go_wp2_with fail
      go_ret
      exact ⟨ret_bool (by rw [decide_eq_false HN2.out]), rfl⟩
end Go.Proofs.Ytifheohdgjamnaa
