/- What an instruction doesn't need makes no difference: plain words. No program in this text. -/
import Derived.Test.YtfpnipclhcokmaaInsRepl0
import Derived.Test.YtfpnipclhcokmaaInsChk0
namespace Go.Proofs.Ytfpnipclhcokmaa
open Go.RowKit Go
set_option linter.unusedVariables false

/-- How many of A, B, C an Op reads. -/
def needN (c : Int) : Nat := match rk c with | 1 => 1 | 2 => 2 | 3 => 3 | 4 => 2 | 5 => 1 | _ => 0
/-- y, with x's fields where it needs none. -/
def freeI (y x : InI) : InI := ⟨y.op, if wrB y.op then y.dst else x.dst, if 1 ≤ needN y.op then y.a else x.a, if 2 ≤ needN y.op then y.b else x.b, if 3 ≤ needN y.op then y.c else x.c, y.num, y.too, y.ref, if callsB y.op then y.args else x.args⟩
theorem need_fd (c : Int) : (wrB c = false → (fdT c).1 = 0) ∧ (¬ 1 ≤ needN c → (fdT c).2.1 = 0) ∧ (¬ 2 ≤ needN c → (fdT c).2.2.1 = 0) ∧ (¬ 3 ≤ needN c → (fdT c).2.2.2 = 0) := by
  refine all_ops (Q := fun c => (wrB c = false → (fdT c).1 = 0) ∧ (¬ 1 ≤ needN c → (fdT c).2.1 = 0) ∧ (¬ 2 ≤ needN c → (fdT c).2.2.1 = 0) ∧ (¬ 3 ≤ needN c → (fdT c).2.2.2 = 0)) (by decide +kernel) (fun c hc => ?_) c
  rw [(out_of c hc).2.2.2.2.2.2.2.1]
  exact ⟨fun _ => rfl, fun _ => rfl, fun _ => rfl, fun _ => rfl⟩
theorem free_kinds (rs : List Int) (y x : InI) : kindsB rs (freeI y x) = kindsB rs y := by
  obtain ⟨h0, h1, h2, h3⟩ := need_fd y.op
  have m : ∀ (r : Int) {f : Int}, f = 0 → mayB rs r f = true := fun r f e => by rw [e]; rfl
  unfold kindsB freeI
  dsimp only
  congr 1
  · congr 1
    · congr 1
      · split
        · rfl
        · rename_i h
          have h0 := h0 (by simpa using h)
          rw [m _ h0, m _ h0]
      · split
        · rfl
        · rename_i h
          rw [m _ (h1 h), m _ (h1 h)]
    · split
      · rfl
      · rename_i h
        rw [m _ (h2 h), m _ (h2 h)]
  · split
    · rfl
    · rename_i h
      rw [m _ (h3 h), m _ (h3 h)]
set_option maxRecDepth 100000 in
theorem free_rest (rs : List Int) (ret : Int) (y x : InI) : restB rs ret (freeI y x) = restB rs ret y := by
  obtain ⟨c, d, a, b, k, n, t, r, l⟩ := y
  by_cases ho : c < 1 ∨ 34 ≤ c
  · have g : ∀ z : InI, z.op = c → restB rs ret z = true := fun z hz => by
      unfold restB
      rw [hz]
      rw [if_neg (by omega), if_neg (by omega), if_neg (by omega), if_neg (by omega), if_neg (by simp; omega), if_neg (by simp; omega), if_neg (by simp; omega), if_neg (by omega), if_neg (by omega), if_neg (by omega), if_neg (by omega), if_neg (by omega)]
    rw [g _ rfl, g _ rfl]
  · rcases op_ways c with rfl | rfl | rfl | rfl | rfl | rfl | rfl | rfl | rfl | rfl | rfl | rfl | rfl | rfl | rfl | rfl | rfl | rfl | rfl | rfl | rfl | rfl | rfl | rfl | rfl | rfl | rfl | rfl | rfl | rfl | rfl | rfl | rfl | hh | hh
    all_goals first
      | rfl
      | (exfalso; omega)
theorem opAt_set (l : List InI) (i : Nat) (y z : InI) (hy : l[i]? = some y) (hz : z.op = y.op) (j : Int) : opAt (l.set i z) j = opAt l j := by
  unfold opAt
  split
  · rw [List.getElem?_set]
    split
    · rename_i h
      rw [← h, hy]
      have hlt := (List.getElem?_eq_some_iff.1 hy).1
      rw [if_pos hlt]
      simp [hz]
    · rfl
  · rfl
theorem free_one (f : FuI) (i : Nat) (y x : InI) (hy : f.code[i]? = some y) (j : Nat) (z : InI) : oneB { f with code := f.code.set i (freeI y x) } j z = oneB f j z := by
  unfold oneB
  dsimp only
  rw [opAt_set _ _ _ (freeI y x) hy rfl, opAt_set _ _ _ (freeI y x) hy rfl, List.length_set]
theorem free_oneB (f : FuI) (j : Nat) (y x : InI) : oneB f j (freeI y x) = oneB f j y := by
  unfold oneB
  rw [free_kinds, free_rest]
  rfl
theorem free_chk (f : FuI) (i : Nat) (y x : InI) (hy : f.code[i]? = some y) : chkN { f with code := f.code.set i (freeI y x) } = chkN f := by
  have hc : codeB { f with code := f.code.set i (freeI y x) } = codeB f := by
    unfold codeB
    dsimp only
    rw [opAt_set _ _ _ (freeI y x) hy rfl, List.length_set]
    congr 1
    apply List.all_congr rfl
    intro j
    rw [List.getElem?_set]
    by_cases h : i = j
    · subst h
      have hlt := (List.getElem?_eq_some_iff.1 hy).1
      rw [if_pos rfl, if_pos hlt, hy]
      dsimp only
      rw [free_one f i y x hy, free_oneB]
    · rw [if_neg h]
      cases f.code[j]? with
      | none => rfl
      | some z => exact free_one f i y x hy j z
  have hr : rowsB { f with code := f.code.set i (freeI y x) } = rowsB f := by
    unfold rowsB
    dsimp only
    apply List.all_congr rfl
    intro r
    unfold rowB
    dsimp only
    rw [opAt_set _ _ _ (freeI y x) hy rfl, List.length_set]
  unfold chkN checkB
  rw [hc, hr]
  rfl
theorem free_def (y x : InI) : defI (freeI y x) = defI y := by
  unfold defI freeI
  dsimp only
  cases h : wrB y.op <;> simp
theorem free_uses (y x : InI) : usesI (freeI y x) = usesI y := by
  have hop : (freeI y x).op = y.op := rfl
  have hn : ∀ k, rk y.op = k → needN y.op = match k with | 1 => 1 | 2 => 2 | 3 => 3 | 4 => 2 | 5 => 1 | _ => 0 := fun k hk => by
    unfold needN
    rw [hk]
  rcases rk_cases y.op with e | e | e | e | e | e | e
  · rw [u0 (x := freeI y x) e, u0 e]
  · have := hn _ e
    rw [u1 (x := freeI y x) e, u1 e]
    unfold freeI
    simp [this]
  · have := hn _ e
    rw [u2 (x := freeI y x) e, u2 e]
    unfold freeI
    simp [this]
  · have := hn _ e
    rw [u3 (x := freeI y x) e, u3 e]
    unfold freeI
    simp [this]
  · have := hn _ e
    rw [u4 (x := freeI y x) e, u4 e]
    unfold freeI
    simp [this]
  · have := hn _ e
    rw [u5 (x := freeI y x) e, u5 e]
    unfold freeI
    simp [this]
  · rw [u6 (x := freeI y x) e, u6 e]
    unfold freeI
    simp [rk_calls e]
end Go.Proofs.Ytfpnipclhcokmaa
