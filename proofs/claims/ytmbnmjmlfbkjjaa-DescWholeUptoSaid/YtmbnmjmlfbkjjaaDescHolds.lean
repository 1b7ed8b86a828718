/- The anchor that stands at the head of each statement of layer 2: it answers true. -/
import Derived.Test.YtmbnmjmlfbkjjaaDescParts
namespace Go.Proofs.Ytmbnmjmlfbkjjaa
open Go.RowKit Go
set_option linter.unusedVariables false

theorem metHolds : metB [40, 73, 91, 74, 76, 97, 59, 41, 86] = some ([[73], [91, 74], [76, 97, 59]], [86]) := by
  have h1 : parm [73, 91, 74, 76, 97, 59, 41, 86] [] = some ([[73], [91, 74], [76, 97, 59]], [86]) := by
    rw [parm_on (by decide) (by decide) (by decide), parm_on (by decide) (by decide) (by decide), parm_on (by decide) (by decide) (by decide), parm_end _ (by decide)]
    decide
  exact metB_some rfl h1 (.inl rfl)
theorem own_cell {w : World} {B e n : Nat} {v : Value} {xs : List Value} (h : w.ownsRow B e 1 v n xs) (hn : 0 < n) : ∃ g cap, v = .slice (some ⟨g, 0, none⟩) n cap ∧ B ≤ g ∧ g < w.heap.size ∧ ∀ (j : Nat) u, xs[j]? = some u → w.cell? ⟨g, j, none⟩ = some u := by
  rcases h.2 with ⟨_, rfl⟩ | ⟨g, cap, cur, rfl, hb, _⟩
  · omega
  have hlt := (h.lt g rfl).2
  refine ⟨g, cap, rfl, hb, hlt, fun j u hu => ?_⟩
  have hl : j < n * 1 := by
    have := h.1
    have := (List.getElem?_eq_some_iff.1 hu).1
    omega
  rw [h.cellAt j hl, hu]
theorem method_r (s : ByteArray) (r : Option (List Bs × Bs)) (w : World) (h : Hid (metB s.data.toList = r)) (hs : Hid (s.size ≤ maxLen)) :
    Calls Try.prog 14 #[.string s] w fun e w' => MetOut w.heap.size r w e w' := by
  rw [← h.out]
  exact method_any s w hs.out
theorem class_r (s : ByteArray) (r : Bs) (w : World) (h : Hid (classL s.data.toList = r)) (hs : Hid (s.size ≤ maxLen)) :
    Calls Try.prog 21 #[.string s] w fun e w' => e = .returned (.string (mk r)) ∧ w = w' := by
  rw [← h.out]
  exact class_any s w hs.out
set_option maxHeartbeats 4000000 in
set_option maxRecDepth 100000 in
theorem holds_any (w : World) :
    Calls Try.prog 9 #[] w fun e w' => e = .returned (.bool true) ∧ Below w.heap.size w w' := by
  have H1 : Hid (metB (⟨#[40, 73, 91, 74, 76, 97, 59, 41, 86]⟩ : ByteArray).data.toList = some ([[73], [91, 74], [76, 97, 59]], [86])) := Lib.hid metHolds
  have H2 : Hid ((⟨#[40, 73, 91, 74, 76, 97, 59, 41, 86]⟩ : ByteArray).size ≤ maxLen) := Lib.hid (by decide)
  have H3 : Hid (classL (⟨#[76, 97, 47, 98, 59]⟩ : ByteArray).data.toList = [97, 47, 98]) := Lib.hid (by decide)
  have H4 : Hid ((⟨#[76, 97, 47, 98, 59]⟩ : ByteArray).size ≤ maxLen) := Lib.hid (by decide)
  have H5 : Hid (nameB (⟨#[60, 105, 110, 105, 116, 62]⟩ : ByteArray).data.toList true = true) := Lib.hid (by decide)
  have H6 : Hid (nameB (⟨#[60, 105, 110, 105, 116, 62]⟩ : ByteArray).data.toList false = false) := Lib.hid (by decide)
  have H7 : Hid ((⟨#[60, 105, 110, 105, 116, 62]⟩ : ByteArray).size ≤ maxLen) := Lib.hid (by decide)
  go_enter Try.func9, Try.ntmps9
  go_wp2_with fail
  refine (method_r _ _ _ H1 H2).mono ?_
  rintro e w' ⟨hb, v, rfl, ho⟩
  obtain ⟨g, cap, rfl, hg1, hg2, hc⟩ := own_cell ho (by decide)
  have hc2 : w'.cell? ⟨g, 2, none⟩ = some (.string ⟨#[76, 97, 59]⟩) := hc 2 _ rfl
  have HB := Lib.hid hb
  clear hc ho hb
  go_wp2_with (first | (go_at_call 21; (with_reducible refine (class_r _ _ _ H3 H4).mono ?_); rintro e w' ⟨rfl, rfl⟩) | (go_at_call 10; (first | (with_reducible refine (name_r _ _ _ _ H5 H7.out).mono ?_) | (with_reducible refine (name_r _ _ _ _ H6 H7.out).mono ?_)); rintro e w' ⟨rfl, rfl⟩))
  go_ret
  exact ⟨rfl, HB.out⟩

theorem bool_self (b : Bool) : (b == b) = true := by cases b <;> rfl
theorem refType_r (s : ByteArray) (r : Bool) (w : World) (hs : Hid (s.size ≤ maxLen)) (h : Hid (typeB s.data.toList = r)) :
    Calls Try.prog 13 #[.string s] w fun e w' => e = .returned (.bool r) ∧ w = w' := by
  rw [← h.out]
  exact refType_any s w hs.out
set_option maxHeartbeats 4000000 in
set_option maxRecDepth 100000 in
theorem DescNames_walk (s : ByteArray) (w : World) (hs : s.size ≤ maxLen) :
    Calls Try.prog 3 #[.string s] w fun e w' => e = .returned (.bool true) ∧ Below w.heap.size w w' := by
  have HS := Lib.hid hs
  clear hs
  obtain ⟨b0, h0⟩ : ∃ b, nameB s.data.toList false = b := ⟨_, rfl⟩
  obtain ⟨b1, h1⟩ : ∃ b, nameB s.data.toList true = b := ⟨_, rfl⟩
  obtain ⟨b2, h2⟩ : ∃ b, typeB s.data.toList = b := ⟨_, rfl⟩
  have H0 := Lib.hid h0
  have H1 := Lib.hid h1
  have H2 := Lib.hid h2
  clear h0 h1 h2
  have s0 := bool_self b0
  have s1 := bool_self b1
  have s2 := bool_self b2
  go_enter Try.func3, Try.ntmps3
  go_wp2_with (first | (go_at_call 9; refine (holds_any _).mono ?_; rintro e w1 ⟨rfl, hb⟩; have HB := Lib.hid hb; clear hb) | (go_at_call 10; (first | (with_reducible refine (name_r _ false _ _ H0 HS.out).mono ?_) | (with_reducible refine (name_r _ true _ _ H1 HS.out).mono ?_)); rintro e w' ⟨rfl, rfl⟩) | (go_at_call 11; (first | (with_reducible refine (refName_r _ false _ _ H0 HS).mono ?_) | (with_reducible refine (refName_r _ true _ _ H1 HS).mono ?_)); rintro e w' ⟨rfl, rfl⟩) | (go_at_call 12; (with_reducible refine (type_r _ _ _ HS H2).mono ?_); rintro e w' ⟨rfl, n, rfl⟩) | (go_at_call 13; (with_reducible refine (refType_r _ _ _ HS H2).mono ?_); rintro e w' ⟨rfl, rfl⟩))
  go_ret
  exact ⟨rfl, below_drewN HB.out n⟩

theorem kind_r (s : ByteArray) (r : Int) (w : World) (h : Hid (kindI s.data.toList = r)) :
    Calls Try.prog 17 #[.string s] w fun e w' => e = .returned (.int .i64 r) ∧ w = w' := by
  rw [← h.out]
  exact kind_any s w
theorem refKind_r (s : ByteArray) (r : Int) (w : World) (h : Hid (kindI s.data.toList = r)) :
    Calls Try.prog 18 #[.string s] w fun e w' => e = .returned (.int .i64 r) ∧ w = w' := by
  rw [← h.out]
  exact refKind_any s w
theorem of_r (s : ByteArray) (r : ByteArray) (w : World) (h : Hid (mk (ofL s.data.toList) = r)) (hs : Hid (s.size ≤ 281474976710656)) :
    Calls Try.prog 19 #[.string s] w fun e w' => e = .returned (.string r) ∧ w = w' := by
  rw [← h.out]
  exact of_any s w hs.out
theorem refOf_r (s : ByteArray) (r : ByteArray) (w : World) (h : Hid (mk (ofL s.data.toList) = r)) (hs : Hid (s.size ≤ 281474976710656)) :
    Calls Try.prog 20 #[.string s] w fun e w' => e = .returned (.string r) ∧ w = w' := by
  rw [← h.out]
  exact refOf_any s w hs.out
theorem class_b (s : ByteArray) (r : ByteArray) (w : World) (h : Hid (mk (classL s.data.toList) = r)) (hs : Hid (s.size ≤ 281474976710656)) :
    Calls Try.prog 21 #[.string s] w fun e w' => e = .returned (.string r) ∧ w = w' := by
  rw [← h.out]
  exact class_any s w (by have := hs.out; unfold maxLen; omega)
theorem refClass_b (s : ByteArray) (r : ByteArray) (w : World) (h : Hid (mk (classL s.data.toList) = r)) (hs : Hid (s.size ≤ 281474976710656)) :
    Calls Try.prog 22 #[.string s] w fun e w' => e = .returned (.string r) ∧ w = w' := by
  rw [← h.out]
  exact refClass_any s w (by have := hs.out; unfold maxLen; omega)
theorem element_b (s : ByteArray) (r : ByteArray) (w : World) (h : Hid (mk (elemL s.data.toList) = r)) :
    Calls Try.prog 23 #[.string s] w fun e w' => e = .returned (.string r) ∧ w = w' := by
  rw [← h.out]
  exact element_any s w
theorem refElement_b (s : ByteArray) (r : ByteArray) (w : World) (h : Hid (mk (elemL s.data.toList) = r)) (hs : Hid (s.size ≤ 281474976710656)) :
    Calls Try.prog 24 #[.string s] w fun e w' => e = .returned (.string r) ∧ w = w' := by
  rw [← h.out]
  exact refElement_any s w (by have := hs.out; unfold maxLen; omega)
set_option maxHeartbeats 4000000 in
set_option maxRecDepth 100000 in
theorem DescParts_walk (s : ByteArray) (w : World) (hs : s.size ≤ 281474976710656) :
    Calls Try.prog 5 #[.string s] w fun e w' => e = .returned (.bool true) ∧ Below w.heap.size w w' := by
  have HS := Lib.hid hs
  clear hs
  obtain ⟨k, h0⟩ : ∃ b, kindI s.data.toList = b := ⟨_, rfl⟩
  obtain ⟨o, h1⟩ : ∃ b, mk (ofL s.data.toList) = b := ⟨_, rfl⟩
  obtain ⟨c, h2⟩ : ∃ b, mk (classL s.data.toList) = b := ⟨_, rfl⟩
  obtain ⟨l, h3⟩ : ∃ b, mk (elemL s.data.toList) = b := ⟨_, rfl⟩
  have H0 := Lib.hid h0
  have H1 := Lib.hid h1
  have H2 := Lib.hid h2
  have H3 := Lib.hid h3
  clear h0 h1 h2 h3
  go_enter Try.func5, Try.ntmps5
  go_wp2_with (first | (go_at_call 9; refine (holds_any _).mono ?_; rintro e w1 ⟨rfl, hb⟩; have HB := Lib.hid hb; clear hb) | (go_at_call 17; (with_reducible refine (kind_r _ _ _ H0).mono ?_); rintro e w' ⟨rfl, rfl⟩) | (go_at_call 18; (with_reducible refine (refKind_r _ _ _ H0).mono ?_); rintro e w' ⟨rfl, rfl⟩) | (go_at_call 19; (with_reducible refine (of_r _ _ _ H1 HS).mono ?_); rintro e w' ⟨rfl, rfl⟩) | (go_at_call 20; (with_reducible refine (refOf_r _ _ _ H1 HS).mono ?_); rintro e w' ⟨rfl, rfl⟩) | (go_at_call 21; (with_reducible refine (class_b _ _ _ H2 HS).mono ?_); rintro e w' ⟨rfl, rfl⟩) | (go_at_call 22; (with_reducible refine (refClass_b _ _ _ H2 HS).mono ?_); rintro e w' ⟨rfl, rfl⟩) | (go_at_call 23; (with_reducible refine (element_b _ _ _ H3).mono ?_); rintro e w' ⟨rfl, rfl⟩) | (go_at_call 24; (with_reducible refine (refElement_b _ _ _ H3 HS).mono ?_); rintro e w' ⟨rfl, rfl⟩))
  go_ret
  exact ⟨rfl, HB.out⟩
end Go.Proofs.Ytmbnmjmlfbkjjaa
