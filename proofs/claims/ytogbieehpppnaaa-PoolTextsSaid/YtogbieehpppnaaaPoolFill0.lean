/- Contract of the document's 'filled'. -/
import Derived.Test.YtogbieehpppnaaaPoolOf
import Derived.Test.YtogbieehpppnaaaPoolFacts
namespace Go.Proofs.Ytogbieehpppnaaa
open Go.RowKit Go
set_option linter.unusedVariables false

theorem new3_0 (w : World) (o o' o'' : Obj) : (((w.alloc o).alloc o').alloc o'').heap[w.heap.size]? = some o := by
  rw [Below.heap_alloc _ _ _ (by rw [World.size_alloc, World.size_alloc]; omega)]
  exact new_one w o o'
theorem new3_1 (w : World) (o o' o'' : Obj) : (((w.alloc o).alloc o').alloc o'').heap[w.heap.size + 1]? = some o' := by
  rw [Below.heap_alloc _ _ _ (by simp)]
  exact new_two w o o'
theorem new3_2 (w : World) (o o' o'' : Obj) : (((w.alloc o).alloc o').alloc o'').heap[w.heap.size + 2]? = some o'' := by
  have := new_two (w.alloc o) o' o''
  rwa [World.size_alloc] at this
theorem size3 (w : World) (o o' o'' : Obj) : (((w.alloc o).alloc o').alloc o'').heap.size = w.heap.size + 3 := by simp
theorem below3 (w : World) (o o' o'' : Obj) : Below w.heap.size w (((w.alloc o).alloc o').alloc o'') := by
  have h := ((Below.refl w.heap.size w).alloc (Nat.le_refl _) o).alloc (by simp) o'
  exact h.alloc (by rw [World.size_alloc, World.size_alloc]; omega) o''
theorem below_set {B : Nat} {a w : World} (h : Below B a w) {b : Nat} (hb : B ≤ b) (i : Nat) (v : Value) : Below B a (w.setCell ⟨b, i, none⟩ v) := h.setCell hb v
theorem below_new {B : Nat} {a w : World} (h : Below B a w) (hB : B ≤ a.heap.size) (o : Obj) : Below B a (w.alloc o) := h.alloc (Nat.le_trans hB h.size) o
theorem refName_t (l : Bs) (m b : Bool) (w : World) (hs : Hid ((tx l).size ≤ maxLen)) (h : Hid (nameB l m = b)) :
    Calls Try.prog 26 #[.string (tx l), .bool m] w fun e w' => e = .returned (.bool b) ∧ w = w' := by
  have := refName_any (tx l) m w hs.out
  rw [tx_list, h.out] at this
  exact this
theorem refType_t (l : Bs) (b : Bool) (w : World) (hs : Hid ((tx l).size ≤ maxLen)) (h : Hid (typeB l = b)) :
    Calls Try.prog 27 #[.string (tx l)] w fun e w' => e = .returned (.bool b) ∧ w = w' := by
  have := refType_any (tx l) w hs.out
  rw [tx_list, h.out] at this
  exact this
theorem refNamed_t (l : Bs) (b : Bool) (w : World) (hs : Hid ((tx l).size ≤ maxLen)) (h : Hid (namedB l = b)) :
    Calls Try.prog 19 #[.string (tx l)] w fun e w' => e = .returned (.bool b) ∧ w = w' := by
  have := refNamed_any (tx l) w hs.out
  rw [tx_list, h.out] at this
  exact this
theorem refMethod_t (l : Bs) (b : Bool) (w : World) (hs : Hid ((tx l).size ≤ maxLen)) (hz : Hid ((tx l).size ≤ 281474976710656)) (h : Hid ((metB l).isSome = b)) :
    Calls Try.prog 36 #[.string (tx l)] w fun e w' => (∃ u t, e = .returned (.tuple #[u, t, .int .i64 (if b then 0 else 21)])) ∧ Below w.heap.size w w' :=
  refMethod_err (tx l) b w hs (lhid (by rw [tx_list]; exact h.out)) hz
set_option maxHeartbeats 8000000 in
set_option maxRecDepth 100000 in
theorem filled_told (g : Nat) (l : List Ent) (n : Nat) (x : Ent) (w : World) (hk : x.kind < 7) :
    Calls Try.prog 24 #[.slice (some ⟨g, 0, none⟩) n n, .agg #[.int .i64 x.kind, .int .i64 x.num, .string (tx x.text), .string ⟨#[]⟩, .string ⟨#[]⟩, .int .i64 x.a, .int .i64 x.b, .int .i64 x.d]] w (ResOut (resOne l x) w) := by
  have HP : Hid (resOne l x = (0, ⟨x.kind, x.num, x.text, [], []⟩)) := lhid (by unfold resOne; rw [if_neg (by omega), if_neg (by omega)])
  have t7 : (x.kind : Int) < 7 := by omega
  clear hk
  go_enter Try.func24, Try.ntmps24
  go_wp2_with fail
  refine bodyPost_ret (v := .tuple #[.agg #[.int .i64 x.kind, .int .i64 x.num, .string (tx x.text), .string ⟨#[]⟩, .string ⟨#[]⟩], .int .i64 0]) (by simp [results, Try.results24, go_sem]) rfl ?_
  rw [HP.out]
  exact ⟨rfl, below3 w _ _ _⟩
theorem res_text0 (l : List Ent) (x : Ent) (h : x.kind = 7 ∨ x.kind = 8) : resOne l x = resText l x := by unfold resOne; rw [if_pos h]
theorem text_none {l : List Ent} {i : Nat} (h : (entAt l i 1).isSome = false) : textAt l i = none := by
  unfold textAt
  cases hx : entAt l i 1 with
  | none => rfl
  | some x => rw [hx] at h; cases h
theorem text_some {l : List Ent} {i : Nat} {y : Ent} (hy : (entAt l i 1).getD Ent.zero = y) (h : (entAt l i 1).isSome = true) : textAt l i = some y.text := by
  unfold textAt
  cases hx : entAt l i 1 with
  | none => rw [hx] at h; cases h
  | some x => rw [hx] at hy; simp at hy; subst hy; rfl
theorem resText_no (l : List Ent) (x : Ent) (h : textAt l x.a = none) : resText l x = (12, Con.zero) := by unfold resText; rw [h]
theorem resText_bad (l : List Ent) (x : Ent) (t : Bs) (h : textAt l x.a = some t) (h7 : x.kind = 7) (hn : namedB t = false) : resText l x = (20, Con.zero) := by unfold resText; rw [h]; simp only; rw [if_pos ⟨h7, hn⟩]
theorem resText_ok (l : List Ent) (x : Ent) (t : Bs) (h : textAt l x.a = some t) (h7 : x.kind ≠ 7 ∨ namedB t = true) : resText l x = (0, ⟨x.kind, x.num, t, [], []⟩) := by
  unfold resText
  rw [h]
  simp only
  rw [if_neg]
  rintro ⟨e1, e2⟩
  rcases h7 with h7 | h7
  · exact h7 e1
  · rw [h7] at e2; cases e2
end Go.Proofs.Ytogbieehpppnaaa
