/- Contracts of Named, the document's Named, and describes. -/
import Derived.Test.YtdlmadckpcnkoaaGreatM4
import Derived.Test.YtdlmadckpcnkoaaGreatJPoolMem
namespace Go.Proofs.YtdlmadckpcnkoaaGreat
open Go.RowKit Go
set_option linter.unusedVariables false

theorem element_r (s : ByteArray) (r : ByteArray) (w : World) (h : Hid (mk (elemL s.data.toList) = r)) :
    Calls Tryz.prog 141 #[.string s] w fun e w' => e = .returned (.string r) ∧ w = w' := by
  rw [← h.out]
  exact element_any s w
theorem named_name {l : Bs} (h : nameB l false = true) : namedB l = true := by unfold namedB; rw [h]; rfl
theorem named_rest {l : Bs} (h : nameB l false = false) : namedB l = (l.head? == some 91 && typeB l) := by unfold namedB; rw [h]; rfl
theorem type_bracket : typeB [91] = false := by decide
set_option maxHeartbeats 2000000 in
set_option maxRecDepth 100000 in
theorem named_any (s : ByteArray) (w : World) (hs : s.size ≤ maxLen) :
    Calls Tryz.prog 136 #[.string s] w fun e w' => e = .returned (.bool (namedB s.data.toList)) ∧ ∃ n, w' = w.drewN n := by
  have HS := lhid hs
  cases hN : nameB s.data.toList false
  case true =>
    have HN := lhid hN
    rw [named_name hN]
    clear hN hs
    go_enter Tryz.func136, Tryz.ntmps136
    go_wp2_with (go_at_call 18; (with_reducible refine (name_r _ false _ _ HN HS.out).mono ?_); rintro e w' ⟨rfl, rfl⟩)
    go_ret
    exact ⟨rfl, 0, rfl⟩
  have HN := lhid hN
  rw [named_rest hN]
  clear hN
  obtain ⟨r, hr⟩ : ∃ r, mk (elemL s.data.toList) = r := ⟨_, rfl⟩
  have HR := lhid hr
  by_cases he : elemL s.data.toList = []
  · have hf : (s.data.toList.head? == some 91 && typeB s.data.toList) = false := by
      cases h91 : (s.data.toList.head? == some 91)
      · rfl
      · unfold elemL at he
        rw [if_pos (by simpa using h91)] at he
        cases hl : s.data.toList with
        | nil => rw [hl] at h91; simp at h91
        | cons c q =>
          rw [hl] at he h91
          simp at he h91
          subst he h91
          exact type_bracket
    rw [hf]
    have e1 : r.toList = [] := by rw [← hr, Lib.toList_data, mk_list, he]
    have e2 : r.toList.isEmpty = true := by rw [e1]; rfl
    have e3 : (!r.toList.isEmpty) = false := by rw [e1]; rfl
    clear hr he hf hs
    go_enter Tryz.func136, Tryz.ntmps136
    go_wp2_with (first | (go_at_call 18; (with_reducible refine (name_r _ false _ _ HN HS.out).mono ?_); rintro e w' ⟨rfl, rfl⟩) | (go_at_call 141; (with_reducible refine (element_r _ _ _ HR).mono ?_); rintro e w' ⟨rfl, rfl⟩))
    go_ret
    exact ⟨rfl, 0, rfl⟩
  · have h91 : (s.data.toList.head? == some 91) = true := by
      cases h91 : (s.data.toList.head? == some 91)
      · unfold elemL at he
        rw [if_neg (by simpa using h91)] at he
        exact absurd rfl he
      · rfl
    rw [h91, Bool.true_and]
    have e1 : r.toList ≠ [] := by rw [← hr, Lib.toList_data, mk_list]; exact he
    have e2 : r.toList.isEmpty = false := by simpa using e1
    have e3 : (!r.toList.isEmpty) = true := by rw [e2]; rfl
    clear hr he h91 hs
    obtain ⟨b, hb⟩ : ∃ b, typeB s.data.toList = b := ⟨_, rfl⟩
    have HB := lhid hb
    rw [hb]
    clear hb
    go_enter Tryz.func136, Tryz.ntmps136
    go_wp2_with (first | (go_at_call 18; (with_reducible refine (name_r _ false _ _ HN HS.out).mono ?_); rintro e w' ⟨rfl, rfl⟩) | (go_at_call 141; (with_reducible refine (element_r _ _ _ HR).mono ?_); rintro e w' ⟨rfl, rfl⟩) | (go_at_call 19; (with_reducible refine (type_r _ _ _ HS HB).mono ?_); rintro e w' ⟨rfl, n, rfl⟩))
    go_ret
    exact ⟨rfl, n, rfl⟩
set_option maxHeartbeats 2000000 in
set_option maxRecDepth 100000 in
theorem refNamed_any (s : ByteArray) (w : World) (hs : s.size ≤ maxLen) :
    Calls Tryz.prog 107 #[.string s] w fun e w' => e = .returned (.bool (namedB s.data.toList)) ∧ w = w' := by
  have HS := lhid hs
  cases hN : nameB s.data.toList false
  case true =>
    have HN := lhid hN
    rw [named_name hN]
    clear hN hs
    go_enter Tryz.func107, Tryz.ntmps107
    go_wp2_with (go_at_call 75; (with_reducible refine (refName_r _ false _ _ HN HS).mono ?_); rintro e w' ⟨rfl, rfl⟩)
    go_ret
    exact ⟨rfl, rfl⟩
  have HN := lhid hN
  rw [named_rest hN]
  clear hN
  cases hT : typeB s.data.toList
  · have HT := lhid hT
    rw [Bool.and_false]
    clear hT hs
    go_enter Tryz.func107, Tryz.ntmps107
    go_wp2_with (first | (go_at_call 75; (with_reducible refine (refName_r _ false _ _ HN HS).mono ?_); rintro e w' ⟨rfl, rfl⟩) | (go_at_call 77; (with_reducible refine (refType_r _ _ _ HS HT).mono ?_); rintro e w' ⟨rfl, rfl⟩))
    go_ret
    exact ⟨rfl, rfl⟩
  · have HT := lhid hT
    have hp : 0 < s.size := by
      rcases Nat.eq_zero_or_pos s.size with h0 | h0
      · have : s.data.toList = [] := by rw [← List.length_eq_zero_iff, size_len]; exact h0
        rw [this] at hT
        exact absurd hT (by decide)
      · exact h0
    rw [Bool.and_true, head_at s hp]
    clear hT hs
    obtain ⟨b, hb⟩ : ∃ b, (s[0] == 91) = b := ⟨_, rfl⟩
    have hb' : (some s[0] == some (91 : UInt8)) = b := by rw [← hb]; rfl
    rw [hb']
    have f3 : ((s[0].toNat : Int) == 91) = _ := u8_lit s[0] 91 (by omega) _ hb
    have f4 : ((s[0].toNat : Int) != 91) = _ := u8_ne s[0] 91 (by omega) _ hb
    clear hb hb'
    go_enter Tryz.func107, Tryz.ntmps107
    go_wp2_with (first | (go_at_call 75; (with_reducible refine (refName_r _ false _ _ HN HS).mono ?_); rintro e w' ⟨rfl, rfl⟩) | (go_at_call 77; (with_reducible refine (refType_r _ _ _ HS HT).mono ?_); rintro e w' ⟨rfl, rfl⟩))
    go_ret
    exact ⟨rfl, rfl⟩
/-- What a method's descriptor answers, as those who only ask for the error see it. -/
theorem method_err (s : ByteArray) (b : Bool) (w : World) (hs : Hid (s.size ≤ maxLen)) (h : Hid ((metB s.data.toList).isSome = b)) :
    Calls Tryz.prog 20 #[.string s] w fun e w' => (∃ u t, e = .returned (.tuple #[u, t, .int .i64 (if b then 0 else 21)])) ∧ Below w.heap.size w w' := by
  refine (method_any s w hs.out).mono ?_
  rintro e w' ⟨hb, hm⟩
  have hh := h.out
  cases hr : metB s.data.toList with
  | none =>
    rw [hr] at hm hh
    simp at hh
    subst hh
    exact ⟨⟨_, _, hm⟩, hb⟩
  | some p =>
    obtain ⟨ps, rest⟩ := p
    rw [hr] at hm hh
    simp at hh
    subst hh
    obtain ⟨v, he, _⟩ := hm
    exact ⟨⟨_, _, he⟩, hb⟩
theorem refMethod_err (s : ByteArray) (b : Bool) (w : World) (hs : Hid (s.size ≤ maxLen)) (h : Hid ((metB s.data.toList).isSome = b)) (hz : Hid (s.size ≤ 281474976710656)) :
    Calls Tryz.prog 76 #[.string s] w fun e w' => (∃ u t, e = .returned (.tuple #[u, t, .int .i64 (if b then 0 else 21)])) ∧ Below w.heap.size w w' := by
  refine (refMethod_any s w hz.out).mono ?_
  rintro e w' ⟨hb, hm⟩
  have hh := h.out
  cases hr : metB s.data.toList with
  | none =>
    rw [hr] at hm hh
    simp at hh
    subst hh
    exact ⟨⟨_, _, hm⟩, hb⟩
  | some p =>
    obtain ⟨ps, rest⟩ := p
    rw [hr] at hm hh
    simp at hh
    subst hh
    obtain ⟨v, he, _⟩ := hm
    exact ⟨⟨_, _, he⟩, hb⟩
set_option maxHeartbeats 2000000 in
set_option maxRecDepth 100000 in
theorem describes_any (s : ByteArray) (m b : Bool) (w : World) (hs : Hid (s.size ≤ maxLen)) (h : Hid (descB s.data.toList m = b)) :
    Calls Tryz.prog 138 #[.string s, .bool m] w fun e w' => e = .returned (.bool b) ∧ Below w.heap.size w w' := by
  cases m
  · have HT : Hid (typeB s.data.toList = b) := h
    go_enter Tryz.func138, Tryz.ntmps138
    go_wp2_with (go_at_call 19; (with_reducible refine (type_r _ _ _ hs HT).mono ?_); rintro e w' ⟨rfl, n, rfl⟩)
    go_ret
    exact ⟨rfl, below_drewN (Below.refl _ _) n⟩
  · have HT : Hid ((metB s.data.toList).isSome = b) := h
    cases b
    all_goals
      go_enter Tryz.func138, Tryz.ntmps138
      go_wp2_with fail
      with_reducible refine (method_err _ _ _ hs HT).mono ?_
      rintro e w1 ⟨⟨u, t, rfl⟩, hb⟩
      have HB := lhid hb
      clear hb
      go_wp2_with fail
      go_ret
      exact ⟨rfl, HB.out⟩
end Go.Proofs.YtdlmadckpcnkoaaGreat
