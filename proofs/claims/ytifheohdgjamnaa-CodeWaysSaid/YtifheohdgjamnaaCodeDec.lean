/- Code taken apart, in plain words. No program in this text. -/
import Derived.Test.YtifheohdgjamnaaCodeMath
namespace Go.Proofs.Ytifheohdgjamnaa
open Go.RowKit Go
set_option linter.unusedVariables false

/-- A byte of code, as a number. -/
def bN (L : Bs) (k : Nat) : Nat := (L.getD k 0).toNat
theorem bN_lt (L : Bs) (k : Nat) : bN L k < 256 := UInt8.toNat_lt _
def sg8 (n : Nat) : Int := if 128 ≤ n then (n : Int) - 256 else n
def sg16 (n : Nat) : Int := if 32768 ≤ n then (n : Int) - 65536 else n
def two (L : Bs) (k : Nat) : Nat := 256 * bN L (k + 1) + bN L (k + 2)
theorem two_lt (L : Bs) (k : Nat) : two L k < 65536 := by
  have h1 := bN_lt L (k + 1)
  have h2 := bN_lt L (k + 2)
  unfold two
  omega
/-- An instruction's first number and its second, by the table's row. -/
def opA (r f h : Nat) (k : Nat) : Int :=
  match r with
  | 2 => f
  | 3 => sg8 f
  | 4 => sg16 h
  | 5 => h
  | 6 => (k : Int) + sg16 h
  | 7 => f
  | _ => 0
def opB (r s : Nat) : Int := if r = 7 then sg8 s else 0
def opAt (L : Bs) (k : Nat) : Cop := ⟨k, bN L k, opA (rowN (bN L k)) (bN L (k + 1)) (two L k) k, opB (rowN (bN L k)) (bN L (k + 2))⟩
/-- What comes from place k on. -/
def run (L : Bs) : Nat → Nat → Option (List Cop)
  | 0, _ => none
  | f + 1, k => if L.length ≤ k then some [] else if szN (bN L k) = 0 ∨ L.length < k + szN (bN L k) then none else (run L f (k + szN (bN L k))).map (opAt L k :: ·)
def Lead (x : Cop) : Prop := rowN x.code = 6
def Led (D : List Cop) (n : Int) : Prop := ∀ x ∈ D, Lead x → 0 ≤ x.a ∧ x.a < n ∧ ∃ y ∈ D, y.pc = x.a
instance (D : List Cop) (n : Int) : Decidable (Led D n) := by unfold Led Lead; infer_instance
/-- What code comes to: what is wrong, the instructions. -/
def decR (L : Bs) : Int × List Cop :=
  if L.length = 0 then (40, []) else if 4000 < L.length then (2, []) else
    match run L (L.length + 1) 0 with
    | none => (40, [])
    | some D => if Led D L.length then (0, D) else (41, [])

theorem run_end {L : Bs} {f k : Nat} (h : L.length ≤ k) : run L (f + 1) k = some [] := by rw [run, if_pos h]
theorem run_no {L : Bs} {f k : Nat} (h : k < L.length) (h2 : szN (bN L k) = 0 ∨ L.length < k + szN (bN L k)) : run L (f + 1) k = none := by rw [run, if_neg (by omega), if_pos h2]
theorem run_on {L : Bs} {f k : Nat} (h : k < L.length) (h1 : szN (bN L k) ≠ 0) (h2 : k + szN (bN L k) ≤ L.length) : run L (f + 1) k = (run L f (k + szN (bN L k))).map (opAt L k :: ·) := by
  rw [run, if_neg (by omega), if_neg (by omega)]
/-- The loop at place k: the instructions D are taken. -/
structure At (L : Bs) (k : Nat) (D : List Cop) : Prop where
  le : k ≤ L.length
  all : ∃ f, L.length - k < f ∧ run L (L.length + 1) 0 = (run L f k).map (D ++ ·)
  len : D.length ≤ k
  pcs : ∀ x ∈ D, ∃ p : Nat, x = opAt L p ∧ p < k
theorem At.start (L : Bs) : At L 0 [] := ⟨by omega, ⟨L.length + 1, by omega, by cases run L (L.length + 1) 0 <;> simp⟩, by simp, by simp⟩
theorem At.step {L : Bs} {k : Nat} {D : List Cop} (h : At L k D) (h0 : k < L.length) (h1 : szN (bN L k) ≠ 0) (h2 : k + szN (bN L k) ≤ L.length) : At L (k + szN (bN L k)) (D ++ [opAt L k]) := by
  obtain ⟨f, hf, e⟩ := h.all
  cases f with
  | zero => omega
  | succ f =>
    refine ⟨h2, ⟨f, by omega, ?_⟩, by have := h.len; simp; omega, ?_⟩
    · rw [e, run_on h0 h1 h2]
      cases run L f (k + szN (bN L k)) <;> simp
    · intro x hx
      rcases List.mem_append.1 hx with hx | hx
      · obtain ⟨p, h3, h4⟩ := h.pcs x hx
        exact ⟨p, h3, by omega⟩
      · simp at hx
        exact ⟨k, hx, by omega⟩
theorem At.fail {L : Bs} {k : Nat} {D : List Cop} (h : At L k D) (h0 : k < L.length) (h2 : szN (bN L k) = 0 ∨ L.length < k + szN (bN L k)) : run L (L.length + 1) 0 = none := by
  obtain ⟨f, hf, e⟩ := h.all
  cases f with
  | zero => omega
  | succ f => rw [e, run_no h0 h2]; rfl
theorem At.done {L : Bs} {D : List Cop} (h : At L L.length D) : run L (L.length + 1) 0 = some D := by
  obtain ⟨f, hf, e⟩ := h.all
  cases f with
  | zero => omega
  | succ f => rw [e, run_end (by omega)]; simp
theorem decR_nil (L : Bs) (h : L.length = 0) : decR L = (40, []) := by unfold decR; rw [if_pos h]
theorem decR_long (L : Bs) (h : 4000 < L.length) : decR L = (2, []) := by unfold decR; rw [if_neg (by omega), if_pos h]
theorem decR_none (L : Bs) (h0 : L.length ≠ 0) (h1 : L.length ≤ 4000) (h : run L (L.length + 1) 0 = none) : decR L = (40, []) := by unfold decR; rw [if_neg h0, if_neg (by omega), h]
theorem decR_led (L : Bs) (D : List Cop) (h0 : L.length ≠ 0) (h1 : L.length ≤ 4000) (h : run L (L.length + 1) 0 = some D) (h2 : Led D L.length) : decR L = (0, D) := by
  unfold decR
  rw [if_neg h0, if_neg (by omega), h]
  exact if_pos h2
theorem decR_astray (L : Bs) (D : List Cop) (h0 : L.length ≠ 0) (h1 : L.length ≤ 4000) (h : run L (L.length + 1) 0 = some D) (h2 : ¬ Led D L.length) : decR L = (41, []) := by
  unfold decR
  rw [if_neg h0, if_neg (by omega), h]
  exact if_neg h2
end Go.Proofs.Ytifheohdgjamnaa
