/- Contract of the document's 'filled'. -/
import Derived.Test.YtgihfcimngogfaaGreatM5
import Derived.Test.YtgihfcimngogfaaGreatJPoolFillN
namespace Go.Proofs.YtgihfcimngogfaaGreat
open Go.RowKit Go
set_option linter.unusedVariables false
theorem short_y {l : List Ent} (h : ShortL l) {i k : Nat} {y : Ent} (hy : (entAt l i k).getD Ent.zero = y) : y.text.length < 65536 := by
 cases hx : entAt l i k with
 | none => rw [hx] at hy; simp at hy; subst hy; exact Nat.zero_lt_succ _
 | some x => rw [hx] at hy; simp at hy; subst hy; exact h _ (List.mem_of_getElem? (entAt_some hx).1)
theorem short_max {t : Bs} (h : t.length < 65536) : (tx t).size ≤ maxLen ∧ (tx t).size ≤ 281474976710656 := by
 rw [tx_size]
 unfold maxLen
 omega
theorem res_mem0 (l : List Ent) (x : Ent) (h : x.kind = 9 ∨ x.kind = 10 ∨ x.kind = 11) : resOne l x = resMem l x := by unfold resOne; rw [if_neg (by omega), if_pos h]
theorem resMem_all (l : List Ent) (x : Ent) (c n t : Bs) (hC : classAt l x.a = some c) (hN : textAt l x.b = some n) (hD : textAt l x.d = some t) :
  resMem l x = if nameB c false = false ∨ nameB n (decide (x.kind ≠ 9)) = false then (20, Con.zero) else if descB t (decide (x.kind ≠ 9)) = false then (21, Con.zero) else (0, ⟨x.kind, x.num, c, n, t⟩) := by
 unfold resMem
 rw [hC, hN, hD]
theorem filled_any (g : Nat) (l : List Ent) (n : Nat) (x : Ent) (w : World) (h : RowsAt w g 130 8 (l.map entV)) (hn : Hid (l.length = n)) (hz : Hid (ZeroL l)) (hs : Hid (ShortL l)) (hk : x.kind ≤ 11) :
  Calls Tryz.prog 76 #[.slice (some ⟨g, 0, none⟩) n n, .agg #[.int .i64 x.kind, .int .i64 x.num, .string (tx x.text), .string ⟨#[]⟩, .string ⟨#[]⟩, .int .i64 x.a, .int .i64 x.b, .int .i64 x.d]] w (ResOut (resOne l x) w) := by
 by_cases h7 : x.kind < 7
 ·exact filled_told g l n x w h7
 by_cases h8 : x.kind = 7 ∨ x.kind = 8
 ·obtain ⟨y, hy⟩ : ∃ y, (entAt l x.a 1).getD Ent.zero = y := ⟨_, rfl⟩
  have sT := (short_max (short_y hs.out hy)).1
  cases hb : (entAt l x.a 1).isSome
  ·exact filled_text_no g l n x w h hn hz y (lhid hy) (lhid hb) (lhid h8)
  rcases h8 with h8 | h8
  ·cases q : namedB y.text
   ·exact filled_text_bad g l n x w h hn hz y (lhid hy) (lhid hb) (lhid h8) (lhid sT) (lhid q)
   ·exact filled_text_ok7 g l n x w h hn hz y (lhid hy) (lhid hb) (lhid h8) (lhid sT) (lhid q)
  ·exact filled_text_ok8 g l n x w h hn hz y (lhid hy) (lhid hb) (lhid h8)
 have h9 : 9 ≤ x.kind := by omega
 have hm := res_mem0 l x (by omega)
 obtain ⟨y1, hy1⟩ : ∃ y, (entAt l x.a 7).getD Ent.zero = y := ⟨_, rfl⟩
 obtain ⟨y2, hy2⟩ : ∃ y, (entAt l y1.a 1).getD Ent.zero = y := ⟨_, rfl⟩
 obtain ⟨y3, hy3⟩ : ∃ y, (entAt l x.b 1).getD Ent.zero = y := ⟨_, rfl⟩
 obtain ⟨y4, hy4⟩ : ∃ y, (entAt l x.d 1).getD Ent.zero = y := ⟨_, rfl⟩
 cases hb1 : (entAt l x.a 7).isSome
 ·exact filled_mem_f1 g l n x w h hn hz y1 y2 y3 y4 _ _ _ (lhid hy1) (lhid hb1) (lhid hy2) (lhid rfl) (lhid hy3) (lhid rfl) (lhid hy4) (lhid rfl) (lhid h9) (lhid (by rw [hm]; exact resMem_no l x (.inl (class_none1 hb1))))
 cases hb2 : (entAt l y1.a 1).isSome
 ·exact filled_mem_f2 g l n x w h hn hz y1 y2 y3 y4 _ _ (lhid hy1) (lhid hb1) (lhid hy2) (lhid hb2) (lhid hy3) (lhid rfl) (lhid hy4) (lhid rfl) (lhid h9) (lhid (by rw [hm]; exact resMem_no l x (.inl (class_none2 hy1 hb1 hb2))))
 cases hb3 : (entAt l x.b 1).isSome
 ·exact filled_mem_f3 g l n x w h hn hz y1 y2 y3 y4 _ (lhid hy1) (lhid hb1) (lhid hy2) (lhid hb2) (lhid hy3) (lhid hb3) (lhid hy4) (lhid rfl) (lhid h9) (lhid (by rw [hm]; exact resMem_no l x (.inr (.inl (text_none hb3)))))
 cases hb4 : (entAt l x.d 1).isSome
 ·exact filled_mem_f4 g l n x w h hn hz y1 y2 y3 y4 (lhid hy1) (lhid hb1) (lhid hy2) (lhid hb2) (lhid hy3) (lhid hb3) (lhid hy4) (lhid hb4) (lhid h9) (lhid (by rw [hm]; exact resMem_no l x (.inr (.inr (text_none hb4)))))
 have hall := resMem_all l x _ _ _ (class_some hy1 hb1 hy2 hb2) (text_some hy3 hb3) (text_some hy4 hb4)
 rw [← hm] at hall
 have sC := short_max (short_y hs.out hy2)
 have sN := short_max (short_y hs.out hy3)
 have sD := short_max (short_y hs.out hy4)
 cases q1 : nameB y2.text false
 ·exact filled_mem_c g l n x w h hn hz y1 y2 y3 y4 (lhid hy1) (lhid hb1) (lhid hy2) (lhid hb2) (lhid hy3) (lhid hb3) (lhid hy4) (lhid hb4) (lhid h9) (lhid sC.1) (lhid sN.1) (lhid sD.1) (lhid sD.2) (lhid q1) (lhid (by rw [hall, if_pos (.inl q1)]))
 by_cases hk9 : x.kind = 9
 ·have hd : decide (x.kind ≠ 9) = false := by simp [hk9]
  rw [hd] at hall
  cases q2 : nameB y3.text false
  ·exact filled_mem_n_nine g l n x w h hn hz y1 y2 y3 y4 (lhid hy1) (lhid hb1) (lhid hy2) (lhid hb2) (lhid hy3) (lhid hb3) (lhid hy4) (lhid hb4) (lhid h9) (lhid sC.1) (lhid sN.1) (lhid sD.1) (lhid sD.2) (lhid hk9) (lhid q1) (lhid q2) (lhid (by rw [hall, if_pos (.inr q2)]))
  cases q3 : typeB y4.text
  ·exact filled_mem_d_nine g l n x w h hn hz y1 y2 y3 y4 (lhid hy1) (lhid hb1) (lhid hy2) (lhid hb2) (lhid hy3) (lhid hb3) (lhid hy4) (lhid hb4) (lhid h9) (lhid sC.1) (lhid sN.1) (lhid sD.1) (lhid sD.2) _ (lhid hk9) (lhid q1) (lhid q2) (lhid q3) (lhid rfl) (lhid (by rw [hall, if_neg (by rw [q1, q2]; simp), if_pos (show descB y4.text false = false from q3)]))
  ·exact filled_mem_ok_nine g l n x w h hn hz y1 y2 y3 y4 (lhid hy1) (lhid hb1) (lhid hy2) (lhid hb2) (lhid hy3) (lhid hb3) (lhid hy4) (lhid hb4) (lhid h9) (lhid sC.1) (lhid sN.1) (lhid sD.1) (lhid sD.2) _ (lhid hk9) (lhid q1) (lhid q2) (lhid q3) (lhid rfl) (lhid (by rw [hall, if_neg (by rw [q1, q2]; simp), if_neg (show ¬ descB y4.text false = false from by show ¬ typeB y4.text = false; rw [q3]; simp)]))
 ·have hd : decide (x.kind ≠ 9) = true := by simp [hk9]
  have hk10 : 9 < x.kind := by omega
  rw [hd] at hall
  cases q2 : nameB y3.text true
  ·exact filled_mem_n_more g l n x w h hn hz y1 y2 y3 y4 (lhid hy1) (lhid hb1) (lhid hy2) (lhid hb2) (lhid hy3) (lhid hb3) (lhid hy4) (lhid hb4) (lhid h9) (lhid sC.1) (lhid sN.1) (lhid sD.1) (lhid sD.2) (lhid hk10) (lhid q1) (lhid q2) (lhid (by rw [hall, if_pos (.inr q2)]))
  cases q3 : (metB y4.text).isSome
  ·exact filled_mem_d_more g l n x w h hn hz y1 y2 y3 y4 (lhid hy1) (lhid hb1) (lhid hy2) (lhid hb2) (lhid hy3) (lhid hb3) (lhid hy4) (lhid hb4) (lhid h9) (lhid sC.1) (lhid sN.1) (lhid sD.1) (lhid sD.2) (lhid hk10) (lhid q1) (lhid q2) (lhid q3) (lhid (by rw [hall, if_neg (by rw [q1, q2]; simp), if_pos (show descB y4.text true = false from q3)]))
  ·exact filled_mem_ok_more g l n x w h hn hz y1 y2 y3 y4 (lhid hy1) (lhid hb1) (lhid hy2) (lhid hb2) (lhid hy3) (lhid hb3) (lhid hy4) (lhid hb4) (lhid h9) (lhid sC.1) (lhid sN.1) (lhid sD.1) (lhid sD.2) (lhid hk10) (lhid q1) (lhid q2) (lhid q3) (lhid (by rw [hall, if_neg (by rw [q1, q2]; simp), if_neg (show ¬ descB y4.text true = false from by show ¬ (metB y4.text).isSome = false; rw [q3]; simp)]))
end Go.Proofs.YtgihfcimngogfaaGreat
