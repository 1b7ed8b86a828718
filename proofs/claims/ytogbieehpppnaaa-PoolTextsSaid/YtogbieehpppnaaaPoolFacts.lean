/- What holds of the constants of a pool. No program in this text. -/
import Derived.Test.YtogbieehpppnaaaPoolMath
namespace Go.Proofs.Ytogbieehpppnaaa
open Go Go.RowKit
set_option linter.unusedVariables false

/-- What holds of the constants that are told, one behind the other. -/
theorem rdEnts_ok (P : Ent → Prop) (hP : ∀ s, entX s = 0 → P (entE s)) : ∀ (k : Nat) (s : St) (acc : List Ent), (rdEnts k s acc).1 = 0 → ∃ t, (rdEnts k s acc).2.1 = acc ++ t ∧ t.length = k ∧ ∀ x, x ∈ t → P x
  | 0, s, acc, _ => ⟨[], by simp [rdEnts], rfl, by simp⟩
  | k + 1, s, acc, h => by
    by_cases hx : entX s = 0
    · rw [rdEnts_on k s acc hx] at h ⊢
      obtain ⟨t, h1, h2, h3⟩ := rdEnts_ok P hP k (entS s) _ h
      refine ⟨entE s :: t, by rw [h1]; simp, by simp [h2], fun x hm => ?_⟩
      rcases List.mem_cons.1 hm with rfl | hm
      · exact hP s hx
      · exact h3 x hm
    · rw [rdEnts_no k s acc hx] at h
      exact absurd h hx
theorem entX_ok (s : St) (h : entX s = 0) : knownK (numN s 1) = true ∧ (entS s).2 = false := by
  unfold entX at h
  unfold entS
  cases hb : (bodyS (numN s 1) (numS s 1)).2
  · rw [hb] at h
    cases hk : knownK (numN s 1)
    · rw [hk] at h; simp at h
    · exact ⟨rfl, rfl⟩
  · rw [hb] at h; simp at h
theorem takeL_short (s : St) (n : Nat) : (takeL s n).length ≤ n := by
  have := takeL_len s n
  omega
theorem bodyE_kind (k : Nat) (s : St) : (bodyE k s).kind = k := by
  unfold bodyE
  split
  · rename_i h; exact h.symm
  split
  · rename_i h; exact h.symm
  split
  · rename_i h; exact h.symm
  split
  · rfl
  split <;> rfl
theorem bodyE_text (k : Nat) (s : St) : (bodyE k s).text.length < 65536 := by
  unfold bodyE
  split
  · have h1 := takeL_short (numS s 2) (numN s 2)
    have h2 := num2_lt s
    show (takeL (numS s 2) (numN s 2)).length < _
    omega
  split
  · exact Nat.zero_lt_succ _
  split
  · exact Nat.zero_lt_succ _
  split
  · exact Nat.zero_lt_succ _
  split <;> exact Nat.zero_lt_succ _
/-- A constant of a pool: of a kind that there is, its text short. -/
def GoodE (x : Ent) : Prop := knownK x.kind = true ∧ x.text.length < 65536
theorem entE_good (s : St) (h : entX s = 0) : GoodE (entE s) := by
  unfold entE GoodE
  rw [bodyE_kind]
  exact ⟨(entX_ok s h).1, bodyE_text _ _⟩
theorem rdHead_ok (s : St) (h : (rdHead s).1 = 0) : ∃ t, (rdHead s).2.1 = Ent.zero :: t ∧ t.length + 1 ≤ 1000 ∧ t.length + 1 = numN s 2 ∧ ∀ x, x ∈ t → GoodE x := by
  unfold rdHead at h ⊢
  cases hb : (numS s 2).2
  · rw [hb] at h
    simp only [Bool.false_eq_true, if_false] at h ⊢
    by_cases hn : numN s 2 = 0 ∨ 1000 < numN s 2
    · rw [if_pos hn] at h; simp at h
    · rw [if_neg hn] at h ⊢
      obtain ⟨t, h1, h2, h3⟩ := rdEnts_ok GoodE entE_good _ _ _ h
      exact ⟨t, h1, by omega, by omega, h3⟩
  · rw [hb] at h; simp at h
end Go.Proofs.Ytogbieehpppnaaa
