/- Contract of Uses, the program's. -/
import Derived.Test.YthaijdcgmcfpiaaInsUses
namespace Go.Proofs.Ythaijdcgmcfpiaa
open Go.RowKit Go
set_option linter.unusedVariables false
set_option linter.unusedSimpArgs false

/-- Is it among the sets that the table has? -/
def setsL : List Int := [0, 2, 6, 8, 9, 14, 15]
theorem fd_sets (c : Int) : (fdT c).2.1 ∈ setsL ∧ (fdT c).2.2.1 ∈ setsL ∧ (fdT c).2.2.2 ∈ setsL ∧ (fdT c).1 ∈ setsL := by
  refine all_ops (Q := fun c => (fdT c).2.1 ∈ setsL ∧ (fdT c).2.2.1 ∈ setsL ∧ (fdT c).2.2.2 ∈ setsL ∧ (fdT c).1 ∈ setsL) (by decide +kernel) (fun c hc => by rw [(out_of c hc).2.2.2.2.2.2.2.1]; decide) c
def hasB (f kd : Int) : Bool := f.toNat / 2 ^ kd.toNat % 2 == 1
set_option maxHeartbeats 8000000 in
set_option maxRecDepth 100000 in
theorem has_any (f kd : Int) (hf : f ∈ setsL) (hk : kd = 0 ∨ kd = 1 ∨ kd = 2 ∨ kd = 3) (w : World) :
    Calls Try.prog 52 #[.int .u64 f, .int .i64 kd] w fun e w' => e = .returned (.bool (hasB f kd)) ∧ w = w' := by
  unfold setsL at hf
  simp only [List.mem_cons, List.not_mem_nil, or_false] at hf
  rcases hf with rfl | rfl | rfl | rfl | rfl | rfl | rfl <;> rcases hk with rfl | rfl | rfl | rfl
  all_goals
    go_enter Try.func52, Try.ntmps52
    go_wp2
    go_ret
    exact ⟨by with_unfolding_all rfl, rfl⟩
/-- Is a field told? -/
def tkB (f r : Int) : Bool := !(f == 0) && !(decide (r < 0) && hasB f 0)
def us1 (f r : Int) : List Int := if tkB f r then [r] else []
theorem uses_us (x : InI) (h : callsB x.op = false) : usesI x = us1 (fdT x.op).2.1 x.a ++ us1 (fdT x.op).2.2.1 x.b ++ us1 (fdT x.op).2.2.2 x.c := by
  obtain ⟨c, d, a, b, k, n, t, r, l⟩ := x
  revert h
  show callsB c = false → usesI ⟨c, d, a, b, k, n, t, r, l⟩ = us1 (fdT c).2.1 a ++ us1 (fdT c).2.2.1 b ++ us1 (fdT c).2.2.2 k
  have key : ∀ c : Int, callsB c = false → (rk c = 0 ∧ (fdT c).2 = (0, 0, 0)) ∨ (rk c = 1 ∧ (fdT c).2.1 ≠ 0 ∧ hasB (fdT c).2.1 0 = false ∧ (fdT c).2.2 = (0, 0)) ∨ (rk c = 2 ∧ (fdT c).2.1 ≠ 0 ∧ hasB (fdT c).2.1 0 = false ∧ (fdT c).2.2.1 ≠ 0 ∧ hasB (fdT c).2.2.1 0 = false ∧ (fdT c).2.2.2 = 0) ∨ (rk c = 3 ∧ (fdT c).2 = (8, 2, 14)) ∨ (rk c = 4 ∧ (fdT c).2 = (8, 9, 0)) ∨ (rk c = 5 ∧ (fdT c).2 = (15, 0, 0)) := by
    refine all_ops (Q := fun c => callsB c = false → (rk c = 0 ∧ (fdT c).2 = (0, 0, 0)) ∨ (rk c = 1 ∧ (fdT c).2.1 ≠ 0 ∧ hasB (fdT c).2.1 0 = false ∧ (fdT c).2.2 = (0, 0)) ∨ (rk c = 2 ∧ (fdT c).2.1 ≠ 0 ∧ hasB (fdT c).2.1 0 = false ∧ (fdT c).2.2.1 ≠ 0 ∧ hasB (fdT c).2.2.1 0 = false ∧ (fdT c).2.2.2 = 0) ∨ (rk c = 3 ∧ (fdT c).2 = (8, 2, 14)) ∨ (rk c = 4 ∧ (fdT c).2 = (8, 9, 0)) ∨ (rk c = 5 ∧ (fdT c).2 = (15, 0, 0))) (by decide +kernel) (fun c hc _ => .inl ?_)
    exact ⟨(out_of c hc).1, by rw [(out_of c hc).2.2.2.2.2.2.2.1]⟩
  intro h
  rcases key c h with ⟨h1, h2⟩ | ⟨h1, h2, h3, h4⟩ | ⟨h1, h2, h3, h4, h5, h6⟩ | ⟨h1, h2⟩ | ⟨h1, h2⟩ | ⟨h1, h2⟩
  · simp [usesI, h1, h2, us1, tkB]
  · simp [usesI, h1, h2, h3, h4, us1, tkB]
  · simp [usesI, h1, h2, h3, h4, h5, h6, us1, tkB]
  · simp [usesI, h1, h2, us1, tkB, hasB]
  · simp only [usesI, h1, h2, us1, tkB, hasB]
    by_cases hb : 0 ≤ b
    · simp [hb, show ¬ b < 0 by omega]
    · simp [hb, show b < 0 by omega]
  · simp only [usesI, h1, h2, us1, tkB, hasB]
    by_cases hb : 0 ≤ a
    · simp [hb, show ¬ a < 0 by omega]
    · simp [hb, show a < 0 by omega]
end Go.Proofs.Ythaijdcgmcfpiaa
