/- Replace in plain words: what goes back is what it was. No program in this text. -/
import Derived.Test.YthaijdcgmcfpiaaInsUsesX
namespace Go.Proofs.Ythaijdcgmcfpiaa
open Go.RowKit Go
set_option linter.unusedVariables false

/-- With other registers to read. -/
def replI (x : InI) (l : List Int) : InI :=
  if l.length = (usesI x).length then
    if callsB x.op then { x with args := l }
    else { x with a := (l ++ [x.a, x.b, x.c].drop l.length).getD 0 0, b := (l ++ [x.a, x.b, x.c].drop l.length).getD 1 0, c := (l ++ [x.a, x.b, x.c].drop l.length).getD 2 0 }
  else x
theorem calls_rk {c : Int} (h : callsB c = true) : rk c = 6 := by
  unfold callsB at h
  rw [decide_eq_true_eq] at h
  simp only [List.mem_cons, List.not_mem_nil, or_false] at h
  rcases h with e | e | e | e <;> rw [e] <;> decide
theorem rk_calls {c : Int} : rk c = 6 → callsB c = true := by
  refine all_ops (Q := fun c => rk c = 6 → callsB c = true) (by decide +kernel) (fun c hc h => ?_) c
  rw [(out_of c hc).1] at h
  cases h
theorem rk_none {c : Int} (h : callsB c = false) : rk c ≠ 6 := fun e => by rw [rk_calls e] at h; cases h
theorem rk_cases (c : Int) : rk c = 0 ∨ rk c = 1 ∨ rk c = 2 ∨ rk c = 3 ∨ rk c = 4 ∨ rk c = 5 ∨ rk c = 6 := by
  have := rk_ways c
  omega
theorem u0 {x : InI} (h : rk x.op = 0) : usesI x = [] := by
  unfold usesI
  rw [h]
  rfl
theorem u1 {x : InI} (h : rk x.op = 1) : usesI x = [x.a] := by
  unfold usesI
  rw [h]
  rfl
theorem u2 {x : InI} (h : rk x.op = 2) : usesI x = [x.a, x.b] := by
  unfold usesI
  rw [h]
  rfl
theorem u3 {x : InI} (h : rk x.op = 3) : usesI x = [x.a, x.b, x.c] := by
  unfold usesI
  rw [h]
  rfl
theorem u4 {x : InI} (h : rk x.op = 4) : usesI x = (if 0 ≤ x.b then [x.a, x.b] else [x.a]) := by
  unfold usesI
  rw [h]
  rfl
theorem u5 {x : InI} (h : rk x.op = 5) : usesI x = (if 0 ≤ x.a then [x.a] else []) := by
  unfold usesI
  rw [h]
  rfl
theorem u6 {x : InI} (h : rk x.op = 6) : usesI x = x.args := by
  unfold usesI
  rw [h]
  rfl
theorem uses3 {x : InI} (h : callsB x.op = false) : (usesI x).length ≤ 3 := by
  rcases rk_cases x.op with e | e | e | e | e | e | e
  · rw [u0 e]; simp
  · rw [u1 e]; simp
  · rw [u2 e]; simp
  · rw [u3 e]; simp
  · rw [u4 e]; split <;> simp
  · rw [u5 e]; split <;> simp
  · exact absurd e (rk_none h)
/-- The three fields with others ahead. -/
def pl (l : List Int) (a b c : Int) : List Int := l ++ [a, b, c].drop l.length
theorem replI_eq {x : InI} {l : List Int} (hl : l.length = (usesI x).length) (hc : callsB x.op = false) : replI x l = { x with a := (pl l x.a x.b x.c).getD 0 0, b := (pl l x.a x.b x.c).getD 1 0, c := (pl l x.a x.b x.c).getD 2 0 } := by
  unfold replI pl
  rw [if_pos hl, hc]
  rfl
theorem replI_calls {x : InI} {l : List Int} (hl : l.length = (usesI x).length) (hc : callsB x.op = true) : replI x l = { x with args := l } := by
  unfold replI
  rw [if_pos hl, if_pos hc]
theorem replI_ne {x : InI} {l : List Int} (hl : ¬ l.length = (usesI x).length) : replI x l = x := by
  unfold replI
  rw [if_neg hl]
theorem pl_own {x : InI} (hc : callsB x.op = false) : (pl (usesI x) x.a x.b x.c).getD 0 0 = x.a ∧ (pl (usesI x) x.a x.b x.c).getD 1 0 = x.b ∧ (pl (usesI x) x.a x.b x.c).getD 2 0 = x.c := by
  rcases rk_cases x.op with e | e | e | e | e | e | e
  · rw [u0 e]; exact ⟨rfl, rfl, rfl⟩
  · rw [u1 e]; exact ⟨rfl, rfl, rfl⟩
  · rw [u2 e]; exact ⟨rfl, rfl, rfl⟩
  · rw [u3 e]; exact ⟨rfl, rfl, rfl⟩
  · rw [u4 e]; split <;> exact ⟨rfl, rfl, rfl⟩
  · rw [u5 e]; split <;> exact ⟨rfl, rfl, rfl⟩
  · exact absurd e (rk_none hc)
theorem repl_own (x : InI) : replI x (usesI x) = x := by
  cases hc : callsB x.op with
  | true => rw [replI_calls rfl hc, u6 (calls_rk hc)]
  | false =>
    obtain ⟨h1, h2, h3⟩ := pl_own hc
    rw [replI_eq rfl hc, h1, h2, h3]
theorem repl_op (x : InI) (l : List Int) : (replI x l).op = x.op := by
  unfold replI
  split
  · split <;> rfl
  · rfl
theorem repl_dst (x : InI) (l : List Int) : (replI x l).dst = x.dst := by
  unfold replI
  split
  · split <;> rfl
  · rfl
theorem repl_def (x : InI) (l : List Int) : defI (replI x l) = defI x := by
  unfold defI
  rw [repl_op, repl_dst]
/-- What it reads then, where nothing is below 0. -/
theorem repl_uses (x : InI) (l : List Int) (hl : l.length = (usesI x).length) (h0 : ∀ z ∈ l, 0 ≤ z) : usesI (replI x l) = l := by
  have hop := repl_op x l
  cases hc : callsB x.op with
  | true => rw [u6 (x := replI x l) (by rw [hop]; exact calls_rk hc), replI_calls hl hc]
  | false =>
    have hr := replI_eq hl hc
    rcases rk_cases x.op with e | e | e | e | e | e | e
    · rw [u0 (x := replI x l) (by rw [hop]; exact e)]
      rw [u0 e] at hl
      exact (List.length_eq_zero_iff.1 hl).symm
    · rw [u1 (x := replI x l) (by rw [hop]; exact e), hr]
      rw [u1 e] at hl
      match l, hl with
      | [p], _ => rfl
    · rw [u2 (x := replI x l) (by rw [hop]; exact e), hr]
      rw [u2 e] at hl
      match l, hl with
      | [p, q], _ => rfl
    · rw [u3 (x := replI x l) (by rw [hop]; exact e), hr]
      rw [u3 e] at hl
      match l, hl with
      | [p, q, s], _ => rfl
    · rw [u4 (x := replI x l) (by rw [hop]; exact e), hr]
      rw [u4 e] at hl
      by_cases hb : 0 ≤ x.b
      · rw [if_pos hb] at hl
        match l, hl, h0 with
        | [p, q], _, h0 => exact if_pos (h0 q (by simp))
      · rw [if_neg hb] at hl
        match l, hl with
        | [p], _ => exact if_neg hb
    · rw [u5 (x := replI x l) (by rw [hop]; exact e), hr]
      rw [u5 e] at hl
      by_cases hb : 0 ≤ x.a
      · rw [if_pos hb] at hl
        match l, hl, h0 with
        | [p], _, h0 => exact if_pos (h0 p (by simp))
      · rw [if_neg hb] at hl
        match l, hl with
        | [], _ => exact if_neg hb
    · exact absurd e (rk_none hc)
theorem pl_back (U l : List Int) (a b c : Int) (hU : U.length ≤ 3) (hL : l.length = U.length) (i : Nat) : (pl U ((pl l a b c).getD 0 0) ((pl l a b c).getD 1 0) ((pl l a b c).getD 2 0)).getD i 0 = (pl U a b c).getD i 0 := by
  match U, l, hU, hL with
  | [], [], _, _ => rfl
  | [u], [p], _, _ => rfl
  | [u, v], [p, q], _, _ => rfl
  | [u, v, w], [p, q, s], _, _ => rfl
/-- Put back it is what it was. -/
theorem repl_back (x : InI) (l : List Int) (hl : l.length = (usesI x).length) (h0 : ∀ z ∈ l, 0 ≤ z) : replI (replI x l) (usesI x) = x := by
  have hu := repl_uses x l hl h0
  have hop := repl_op x l
  have hlen : (usesI x).length = (usesI (replI x l)).length := by rw [hu]; exact hl.symm
  cases hc : callsB x.op with
  | true =>
    rw [replI_calls hlen (by rw [hop]; exact hc), replI_calls hl hc, u6 (calls_rk hc)]
  | false =>
    obtain ⟨h1, h2, h3⟩ := pl_own hc
    rw [replI_eq hlen (by rw [hop]; exact hc), replI_eq hl hc]
    dsimp only
    rw [pl_back _ _ _ _ _ (uses3 hc) hl, pl_back _ _ _ _ _ (uses3 hc) hl, pl_back _ _ _ _ _ (uses3 hc) hl, h1, h2, h3]
end Go.Proofs.Ythaijdcgmcfpiaa
