/- A function with what is asked of it again and again: the program's webOf. -/
import Derived.Test.YtifgkpfieapdjaaM8
import Derived.Deep.RegionLaw
import Derived.Deep.RegionHeld3
namespace Go.Proofs.Ytifgkpfieapdjaa
open Go.RowKit Go
set_option linter.unusedVariables false
set_option linter.unusedSimpArgs false

theorem info_sl : (Try.prog.info? 22).map (fun i => (i.zero, i.size, i.bytes)) = some (some (.slice none 0 0), 1, 24) := by kernel_rfl
theorem make_lists (n : Nat) (hn : n * 24 ≤ 140737488355328) (w : World) :
    (Instr.makeSlice 45 (.int .i64 (n : Int)) (.int .i64 (n : Int))).run Try.prog w = .ok (.slice (some ⟨w.heap.size, 0, none⟩) n n) (w.alloc (.cells (madeCells #[.slice none 0 0] n) 22)) := by
  obtain ⟨i0, hi0, hz0, hz1, hz2⟩ := info_parts info_sl
  have h := run_make (P := Try.prog) w 45 22 i0 _ Try.underlying45 hi0 hz0 .i64 .i64 n n (by omega) (Int.le_refl _) (by rw [hz2]; omega) (by omega)
  rw [h, hz1, Nat.mul_one]
  rfl
/-- The number of the stretch in which a place lies. -/
def cutB (rows : List RwI) (i : Nat) : Bool := rows.any fun r => r.fr == (i : Int) || r.too == (i : Int)
def strN (rows : List RwI) : Nat → Int
  | 0 => if cutB rows 0 then 1 else 0
  | k + 1 => if cutB rows (k + 1) then strN rows k + 1 else strN rows k
/-- About all places of a stretch the rows are the same. -/
theorem strN_mono (rows : List RwI) (i d : Nat) : strN rows i ≤ strN rows (i + d) := by
  induction d with
  | zero => exact Int.le_refl _
  | succ d ih =>
    have : strN rows (i + d) ≤ strN rows (i + (d + 1)) := by
      have e : strN rows (i + d + 1) = if cutB rows (i + d + 1) then strN rows (i + d) + 1 else strN rows (i + d) := rfl
      show _ ≤ strN rows (i + d + 1)
      rw [e]
      split <;> omega
    omega
theorem strN_same {rows : List RwI} {i j : Nat} (hij : i ≤ j) (h : strN rows i = strN rows j) : ∀ k, i < k → k ≤ j → cutB rows k = false := by
  intro k h1 h2
  cases hc : cutB rows k with
  | false => rfl
  | true =>
    obtain ⟨m, rfl⟩ : ∃ m, k = m + 1 := ⟨k - 1, by omega⟩
    have e1 : strN rows (m + 1) = strN rows m + 1 := by show (if cutB rows (m + 1) then _ else _) = _; rw [hc]; rfl
    have e2 := strN_mono rows i (m - i)
    have e3 := strN_mono rows (m + 1) (j - (m + 1))
    rw [show i + (m - i) = m by omega] at e2
    rw [show m + 1 + (j - (m + 1)) = j by omega] at e3
    omega
theorem about_same {rows : List RwI} {i j : Nat} (hij : i ≤ j) (h : strN rows i = strN rows j) : ∀ r ∈ rows, aboutB r i = aboutB r j := by
  intro r hr
  have hc := strN_same hij h
  have key : ∀ k : Nat, i < k → k ≤ j → r.fr ≠ (k : Int) ∧ r.too ≠ (k : Int) := fun k h1 h2 => by
    have := hc k h1 h2
    unfold cutB at this
    rw [List.any_eq_false] at this
    have := this r hr
    simp at this
    exact this
  unfold aboutB
  rw [Bool.eq_iff_iff]
  simp only [Bool.and_eq_true, decide_eq_true_eq]
  have a1 : r.fr ≤ (i : Int) ↔ r.fr ≤ (j : Int) := by
    constructor
    · intro h; omega
    · intro h
      by_cases h9 : r.fr ≤ (i : Int)
      · exact h9
      · exact absurd (by omega) (key r.fr.toNat (by omega) (by omega)).1
  have a2 : (i : Int) < r.too ↔ (j : Int) < r.too := by
    constructor
    · intro h
      by_cases h9 : (j : Int) < r.too
      · exact h9
      · exact absurd (by omega) (key r.too.toNat (by omega) (by omega)).2
    · intro h; omega
  rw [a1, a2]
theorem catL_same {rows : List RwI} {i j : Int} (h : ∀ r ∈ rows, aboutB r i = aboutB r j) : catL rows i = catL rows j := by
  induction rows with
  | nil => rfl
  | cons r l ih =>
    have h1 := h r List.mem_cons_self
    have h2 := ih fun r hr => h r (List.mem_cons_of_mem _ hr)
    cases ha : aboutB r j with
    | true => rw [catL_yes (by rw [h1]; exact ha), catL_yes ha, h2]
    | false => rw [catL_no (by rw [h1]; exact ha), catL_no ha, h2]
/-- What one place of a stretch throws no other one needs to throw. -/
theorem stretch_same {rows : List RwI} {i j : Nat} (h : strN rows i = strN rows j) : catL rows (i : Int) = catL rows (j : Int) := by
  rcases Nat.le_total i j with hij | hij
  · exact catL_same (about_same hij h)
  · exact (catL_same (about_same hij h.symm)).symm
end Go.Proofs.Ytifgkpfieapdjaa
