/- The contracts of package desc in the form in which callers meet them. -/
import Derived.Test.YtogbieehpppnaaaDescElem
namespace Go.Proofs.Ytogbieehpppnaaa
open Go.RowKit Go
set_option linter.unusedVariables false

theorem own_cell {w : World} {B e n : Nat} {v : Value} {xs : List Value} (h : w.ownsRow B e 1 v n xs) (hn : 0 < n) : ∃ g cap, v = .slice (some ⟨g, 0, none⟩) n cap ∧ B ≤ g ∧ g < w.heap.size ∧ ∀ (j : Nat) u, xs[j]? = some u → w.cell? ⟨g, j, none⟩ = some u := by
  rcases h.2 with ⟨_, rfl⟩ | ⟨g, cap, cur, rfl, hb, _⟩
  · omega
  have hlt := (h.lt g rfl).2
  refine ⟨g, cap, rfl, hb, hlt, fun j u hu => ?_⟩
  have hl : j < n * 1 := by
    have := h.1
    have := (List.getElem?_eq_some_iff.1 hu).1
    omega
  rw [h.cellAt j hl, hu]
theorem method_r (s : ByteArray) (r : Option (List Bs × Bs)) (w : World) (h : Hid (metB s.data.toList = r)) (hs : Hid (s.size ≤ maxLen)) :
    Calls Try.prog 50 #[.string s] w fun e w' => MetOut w.heap.size r w e w' := by
  rw [← h.out]
  exact method_any s w hs.out
theorem bool_self (b : Bool) : (b == b) = true := by cases b <;> rfl
theorem refType_r (s : ByteArray) (r : Bool) (w : World) (hs : Hid (s.size ≤ maxLen)) (h : Hid (typeB s.data.toList = r)) :
    Calls Try.prog 27 #[.string s] w fun e w' => e = .returned (.bool r) ∧ w = w' := by
  rw [← h.out]
  exact refType_any s w hs.out
end Go.Proofs.Ytogbieehpppnaaa
