/- What fits in what fits fits; types that are known. -/
import Derived.Test.YtkphpihggbbpkaaKinFits
import Derived.Test.YtkphpihggbbpkaaKinRoot
namespace Go.Proofs.Ytkphpihggbbpkaa
open Go.RowKit Go Go.Maps
set_option linter.unusedVariables false

theorem elem_head {x : Bs} (h : refB (elemL x) = true) : x.head? = some 91 := by
  unfold elemL at h
  split at h
  · assumption
  · simp [refB] at h
theorem classL_91 {x : Bs} (h : ¬ x.head? = some 76) : classL x = [] := by
  unfold classL
  rw [if_neg (fun e => h e.1)]
theorem classL_head {L : List ClI} (hC : Closed L) {x : Bs} (h : classL x ∈ names L) : x.head? = some 76 := by
  rcases Classical.em (x.head? = some 76) with e | e
  · exact e
  · exact absurd (by rw [← classL_91 e]; exact h) hC.2
theorem classL_of {x y : Bs} (h : classL x = y) (hy : y ≠ []) : x = 76 :: y ++ [59] := by
  unfold classL at h
  split at h
  · rename_i e
    cases x with
    | nil => simp at e
    | cons c r =>
      simp at e h
      obtain ⟨rfl, e⟩ := e
      have hr : r ≠ [] := fun e' => by rw [e'] at e; cases e
      rw [List.getLast?_eq_some_getLast hr] at e
      injection e with e
      have := List.dropLast_concat_getLast hr
      rw [h, e] at this
      rw [← this]
      rfl
  · exact absurd h.symm hy
theorem refFits_on {L : List ClI} {t w : Bs} (h1 : refB (elemL t) = true) (h2 : refB (elemL w) = true) : RefFits L t w ↔ RefFits L (elemL t) (elemL w) := by
  unfold RefFits
  rw [(strip_on h1 h2).1]
theorem refFits_off {L : List ClI} {t w : Bs} (h : ¬ (refB (elemL t) = true ∧ refB (elemL w) = true)) : RefFits L t w ↔ if t.head? = some 91 then w = ofL nObject else classL t ∈ names L ∧ Rch L (classL t) (classL w) := by
  unfold RefFits
  rw [strip_off h]
theorem obj_elem : ¬ refB (elemL (ofL nObject)) = true := by decide
theorem obj_head : ¬ (ofL nObject).head? = some 91 := by decide
theorem obj_class : classL (ofL nObject) = nObject := by decide
theorem obj_ref : refB (ofL nObject) = true := by decide
theorem obj_only {L : List ClI} (hO : nxt L nObject = []) {z : Bs} (h : Rch L nObject z) : z = nObject := by
  cases h with
  | refl => rfl
  | step h1 _ => rw [hO] at h1; cases h1
theorem ref_obj {L : List ClI} (hO : nxt L nObject = []) {c : Bs} (h : RefFits L (ofL nObject) c) : c = ofL nObject := by
  rw [refFits_off (fun e => obj_elem e.1), if_neg obj_head, obj_class] at h
  exact classL_of (obj_only hO h.2) (by decide)
theorem ref_trans {L : List ClI} (hC : Closed L) (hO : nxt L nObject = []) : ∀ (k : Nat) (a b c : Bs), a.length < k → RefFits L a b → RefFits L b c → RefFits L a c := by
  intro k
  induction k with
  | zero => intro a b c h; omega
  | succ k ih =>
    intro a b c hk hab hbc
    have toObj : a.head? = some 91 → c = ofL nObject → RefFits L a c := fun h e => by
      subst e
      rw [refFits_off (fun e => obj_elem e.2), if_pos h]
    by_cases hA : refB (elemL a) = true
    · have hah := elem_head hA
      by_cases hB : refB (elemL b) = true
      · have hbh := elem_head hB
        rw [refFits_on hA hB] at hab
        by_cases hc : refB (elemL c) = true
        · rw [refFits_on hB hc] at hbc
          rw [refFits_on hA hc]
          exact ih _ _ _ (by have := (strip_on hA hB).2; omega) hab hbc
        · rw [refFits_off (fun h => hc h.2), if_pos hbh] at hbc
          exact toObj hah hbc
      · rw [refFits_off (fun h => hB h.2), if_pos hah] at hab
        subst hab
        exact toObj hah (ref_obj hO hbc)
    · rw [refFits_off (fun h => hA h.1)] at hab
      by_cases hah : a.head? = some 91
      · rw [if_pos hah] at hab
        subst hab
        exact toObj hah (ref_obj hO hbc)
      · rw [if_neg hah] at hab
        have hcb : classL b ∈ names L := rch_in hC hab.1 hab.2
        have hbh : ¬ b.head? = some 91 := fun h => by rw [classL_head hC hcb] at h; cases h
        rw [refFits_off (fun h => hbh (elem_head h.1)), if_neg hbh] at hbc
        rw [refFits_off (fun h => hA h.1), if_neg hah]
        exact ⟨hab.1, hab.2.trans hbc.2⟩
theorem head_ref {x : Bs} {c : UInt8} (h : x.head? = some c) (hc : c = 76 ∨ c = 91) : refB x = true := by
  unfold refB
  rw [h]
  rcases hc with rfl | rfl <;> rfl
theorem ref_ref {L : List ClI} (hC : Closed L) {b c : Bs} (h : RefFits L b c) : refB c = true := by
  by_cases hs : refB (elemL b) = true ∧ refB (elemL c) = true
  · exact head_ref (elem_head hs.2) (.inr rfl)
  · rw [refFits_off hs] at h
    split at h
    · rw [h]; exact obj_ref
    · exact head_ref (classL_head hC (rch_in hC h.1 h.2)) (.inl rfl)
/-- What fits in what fits fits. -/
theorem fits_trans {L : List ClI} (hC : Closed L) (hO : nxt L nObject = []) {a b c : Bs} (hab : FitsP L a b) (hbc : FitsP L b c) (hb : ¬ b = []) : FitsP L a c := by
  have hN : ¬ refB [78] = true := by decide
  rcases hab with h | rfl | ⟨ha, h⟩ | ⟨ha, h⟩
  · exact absurd h hb
  · exact hbc
  · rcases hbc with k | rfl | ⟨k1, k2⟩ | ⟨k1, k2⟩
    · exact .inl k
    · exact .inr (.inr (.inl ⟨ha, h⟩))
    · subst k1
      exact absurd h hN
    · exact .inr (.inr (.inl ⟨ha, ref_ref hC k2⟩))
  · rcases hbc with k | rfl | ⟨k1, k2⟩ | ⟨k1, k2⟩
    · exact .inl k
    · exact .inr (.inr (.inr ⟨ha, h⟩))
    · subst k1
      exact absurd (ref_ref hC h) hN
    · exact .inr (.inr (.inr ⟨ha, ref_trans hC hO _ _ _ _ (Nat.lt_succ_self _) h k2⟩))
/-- What is known of a type that is known. -/
def KnownF (L : List ClI) (x : Bs) : Prop := x ≠ [] ∧ x ≠ [78] ∧ (x.head? = some 76 → classL x ∈ names L)
theorem refB_head {x : Bs} (h : refB x = true) : x.head? = some 76 ∨ x.head? = some 91 := by
  unfold refB at h
  simpa using h
theorem known_obj {L : List ClI} (hR : Rooted L) (hN : ∀ s ∈ names L, ¬ Circ L s) {x : Bs} (hx : KnownF L x) (h : refB x = true) : RefFits L x (ofL nObject) := by
  rw [refFits_off (fun e => obj_elem e.2)]
  rcases refB_head h with e | e
  · rw [if_neg (by rw [e]; decide), obj_class]
    exact ⟨hx.2.2 e, above_object hR hN (hx.2.2 e)⟩
  · rw [if_pos e]
theorem known_3 {L : List ClI} {x : Bs} (hx : KnownF L x) : FitsP L [78] x ↔ refB x = true := by
  constructor
  · rintro (h | h | ⟨_, h⟩ | ⟨h, _⟩)
    · exact absurd h hx.1
    · exact absurd h.symm hx.2.1
    · exact h
    · exact absurd rfl h
  · exact fun h => .inr (.inr (.inl ⟨rfl, h⟩))
theorem known_4 {L : List ClI} (hC : Closed L) (hR : Rooted L) (hN : ∀ s ∈ names L, ¬ Circ L s) {x : Bs} (hx : KnownF L x) : FitsP L x (ofL nObject) ↔ refB x = true := by
  constructor
  · rintro (h | h | ⟨h, _⟩ | ⟨_, h⟩)
    · exact absurd h (by decide)
    · rw [h]; exact obj_ref
    · exact absurd h hx.2.1
    · rw [refFits_off (fun e => obj_elem e.2)] at h
      split at h
      · rename_i e
        exact head_ref e (.inr rfl)
      · exact head_ref (classL_head hC h.1) (.inl rfl)
  · exact fun h => .inr (.inr (.inr ⟨hx.2.1, known_obj hR hN hx h⟩))
theorem known_5 {L : List ClI} (hC : Closed L) {x : Bs} (hx : KnownF L x) : ¬ FitsP L [] x := by
  rintro (h | h | ⟨h, _⟩ | ⟨_, h⟩)
  · exact hx.1 h
  · exact hx.1 h.symm
  · cases h
  · rw [refFits_off (fun e => absurd e.1 (by decide)), if_neg (by decide)] at h
    exact hC.2 h.1
theorem elem_91 (x : Bs) : elemL (91 :: x) = x := by unfold elemL; simp
theorem known_6 {L : List ClI} (hC : Closed L) (hR : Rooted L) (hN : ∀ s ∈ names L, ¬ Circ L s) {x : Bs} (hx : KnownF L x) : FitsP L (91 :: x) (91 :: ofL nObject) ↔ refB x = true := by
  constructor
  · rintro (h | h | ⟨h, _⟩ | ⟨_, h⟩)
    · cases h
    · injection h with _ h
      rw [h]; exact obj_ref
    · injection h with h _
      exact absurd h (by decide)
    · rcases Classical.em (refB x = true) with e | e
      · exact e
      · rw [refFits_off (fun k => e (by rw [elem_91] at k; exact k.1)), if_pos (show (91 :: x).head? = some 91 from rfl)] at h
        exact absurd h (by decide)
  · intro h
    refine .inr (.inr (.inr ⟨fun e => by injection e with e _; exact absurd e (by decide), ?_⟩))
    rw [refFits_on (by rw [elem_91]; exact h) (by rw [elem_91]; exact obj_ref), elem_91, elem_91]
    exact known_obj hR hN hx h
/-- r tells whether p. -/
structure Tells (r : Bool) (p : Prop) : Prop where
  iff : r = true ↔ p
theorem fits_r (B tb : Nat) (L : List ClI) (t u : Bs) (tv uv : ByteArray) (r : Bool) (w : World) (hT : Hid (TreeOK B w tb L)) (ht : tv = tx t) (hu : uv = tx u) (hr : Tells r (FitsP L t u)) (hlt : t.length ≤ 281474976710656) (hlu : u.length ≤ 281474976710656) :
    Calls Try.prog 14 #[.pointer (some ⟨tb, 0, none⟩), .string tv, .string uv] w fun e w' => e = .returned (.bool r) ∧ Below w.heap.size w w' := by
  subst ht
  subst hu
  refine (fits_any B tb L t u w hT hlt hlu).mono fun e w' h => ?_
  obtain ⟨r', h1, h2, h3⟩ := h
  have : r' = r := by rw [Bool.eq_iff_iff, h2, hr.iff]
  rw [h1, this]
  exact ⟨rfl, h3⟩
end Go.Proofs.Ytkphpihggbbpkaa
