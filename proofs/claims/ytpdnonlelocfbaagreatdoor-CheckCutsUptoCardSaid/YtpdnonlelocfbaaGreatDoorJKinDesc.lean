/- Contracts of desc.Element, desc.Class, desc.Of as package kin calls them. -/
import Derived.Test.YtpdnonlelocfbaaGreatDoorM2
import Derived.Test.YtpdnonlelocfbaaGreatDoorShelf
import Derived.Lib.Hide
namespace Go.Proofs.YtpdnonlelocfbaaGreatDoor
open Go.RowKit Go
set_option linter.unusedVariables false

abbrev mk (l : Bs) : ByteArray := ⟨l.toArray⟩
theorem extract_tail (s : ByteArray) (i : Nat) : (s.extract i s.size).data.toList = s.data.toList.drop i := by
  rw [Lib.extract_data, List.take_of_length_le (by simp)]
theorem extract_size (s : ByteArray) (i j : Nat) (h : j ≤ s.size) : (s.extract i j).size = j - i := by
  simp
  omega
theorem mk_tail (s : ByteArray) (a : Nat) : s.extract a s.size = mk (s.data.toList.drop a) := by
  rw [← extract_tail s a]
theorem hasPrefix_head (l : Bs) (c : UInt8) : Lib.hasPrefix l [c] = (l.head? == some c) := by
  unfold Lib.hasPrefix
  cases l with
  | nil => rfl
  | cons b q => simp [List.isPrefixOf, Bool.beq_comm]
theorem hasPrefix_one (s : ByteArray) (c : UInt8) (r : Bool) (hr : Hid ((s.data.toList.head? == some c) = r)) (w : World) :
    Calls Tryz.prog 115 #[.string s, .string ⟨#[c]⟩] w fun e w' => e = .returned (.bool r) ∧ w = w' := by
  refine (Tryz.strings_HasPrefix s ⟨#[c]⟩ w).mono ?_
  rintro e w' ⟨rfl, rfl⟩
  exact ⟨ret_bool (by rw [← hr.out]; exact hasPrefix_head _ _), rfl⟩
theorem cutPrefix_no (s : ByteArray) (c : UInt8) (w : World) (h : Hid ((s.data.toList.head? == some c) = false)) :
    Calls Tryz.prog 109 #[.string s, .string ⟨#[c]⟩] w fun e w' => e = .returned (.tuple #[.string s, .bool false]) ∧ w = w' := by
  refine (Tryz.strings_CutPrefix s ⟨#[c]⟩ w).mono ?_
  rintro e w' ⟨rfl, rfl⟩
  have h1 : Lib.hasPrefix s.data.toList [c] = false := by rw [hasPrefix_head]; exact h.out
  have h2 : Lib.trimPrefix s.data.toList [c] = s.data.toList := by unfold Lib.trimPrefix; rw [h1]; rfl
  refine ⟨?_, rfl⟩
  show Ending.returned (.tuple #[.string ⟨(Lib.trimPrefix s.data.toList [c]).toArray⟩, .bool (Lib.hasPrefix s.data.toList [c])]) = _
  rw [h1, h2, Lib.mk_data]
theorem cutPrefix_yes (s : ByteArray) (c : UInt8) (w : World) (h : Hid ((s.data.toList.head? == some c) = true)) :
    Calls Tryz.prog 109 #[.string s, .string ⟨#[c]⟩] w fun e w' => e = .returned (.tuple #[.string (s.extract 1 s.size), .bool true]) ∧ w = w' := by
  refine (Tryz.strings_CutPrefix s ⟨#[c]⟩ w).mono ?_
  rintro e w' ⟨rfl, rfl⟩
  have h1 : Lib.hasPrefix s.data.toList [c] = true := by rw [hasPrefix_head]; exact h.out
  have h2 : Lib.trimPrefix s.data.toList [c] = s.data.toList.drop 1 := by unfold Lib.trimPrefix; rw [h1]; rfl
  refine ⟨?_, rfl⟩
  show Ending.returned (.tuple #[.string ⟨(Lib.trimPrefix s.data.toList [c]).toArray⟩, .bool (Lib.hasPrefix s.data.toList [c])]) = _
  rw [h1, h2, mk_tail]
def elemL (l : Bs) : Bs := if l.head? = some 91 then l.drop 1 else []
theorem ret_str {a b : ByteArray} (h : a = b) : Ending.returned (.string a) = .returned (.string b) := by rw [h]
set_option maxHeartbeats 1000000 in
theorem element_any (s : ByteArray) (w : World) :
    Calls Tryz.prog 116 #[.string s] w fun e w' => e = .returned (.string (mk (elemL s.data.toList))) ∧ w = w' := by
  cases hA : (s.data.toList.head? == some 91)
  · have HA := Lib.hid hA
    go_enter Tryz.func116, Tryz.ntmps116
    go_wp2_with (go_at_call 109; (with_reducible refine (cutPrefix_no _ 91 _ HA).mono ?_); rintro e w' ⟨rfl, rfl⟩)
    go_ret
    refine ⟨ret_str ?_, rfl⟩
    unfold elemL
    rw [if_neg (by simpa using HA.out)]
  · have HA := Lib.hid hA
    go_enter Tryz.func116, Tryz.ntmps116
    go_wp2_with (go_at_call 109; (with_reducible refine (cutPrefix_yes _ 91 _ HA).mono ?_); rintro e w' ⟨rfl, rfl⟩)
    go_ret
    refine ⟨ret_str ?_, rfl⟩
    unfold elemL
    rw [if_pos (by simpa using HA.out), mk_tail]
theorem hasSuffix_last (l : Bs) (c : UInt8) : Lib.hasSuffix l [c] = (l.getLast? == some c) := by
  unfold Lib.hasSuffix List.isSuffixOf
  rw [List.reverse_singleton, ← List.head?_reverse]
  exact hasPrefix_head l.reverse c
theorem cutSuffix_no (s : ByteArray) (c : UInt8) (w : World) (hs : Hid (s.size ≤ 9223372036854775807)) (h : Hid ((s.data.toList.getLast? == some c) = false)) :
    Calls Tryz.prog 110 #[.string s, .string ⟨#[c]⟩] w fun e w' => e = .returned (.tuple #[.string s, .bool false]) ∧ w = w' := by
  refine (Tryz.strings_CutSuffix s ⟨#[c]⟩ w hs.out).mono ?_
  rintro e w' ⟨rfl, rfl⟩
  have h1 : Lib.hasSuffix s.data.toList [c] = false := by rw [hasSuffix_last]; exact h.out
  have h2 : Lib.trimSuffix s.data.toList [c] = s.data.toList := by unfold Lib.trimSuffix; rw [h1]; rfl
  refine ⟨?_, rfl⟩
  show Ending.returned (.tuple #[.string ⟨(Lib.trimSuffix s.data.toList [c]).toArray⟩, .bool (Lib.hasSuffix s.data.toList [c])]) = _
  rw [h1, h2, Lib.mk_data]
theorem cutSuffix_yes (s : ByteArray) (c : UInt8) (w : World) (hs : Hid (s.size ≤ 9223372036854775807)) (h : Hid ((s.data.toList.getLast? == some c) = true)) :
    Calls Tryz.prog 110 #[.string s, .string ⟨#[c]⟩] w fun e w' => e = .returned (.tuple #[.string (mk s.data.toList.dropLast), .bool true]) ∧ w = w' := by
  refine (Tryz.strings_CutSuffix s ⟨#[c]⟩ w hs.out).mono ?_
  rintro e w' ⟨rfl, rfl⟩
  have h1 : Lib.hasSuffix s.data.toList [c] = true := by rw [hasSuffix_last]; exact h.out
  have h2 : Lib.trimSuffix s.data.toList [c] = s.data.toList.dropLast := by unfold Lib.trimSuffix; rw [h1, List.dropLast_eq_take]; rfl
  refine ⟨?_, rfl⟩
  show Ending.returned (.tuple #[.string ⟨(Lib.trimSuffix s.data.toList [c]).toArray⟩, .bool (Lib.hasSuffix s.data.toList [c])]) = _
  rw [h1, h2]
def classL (l : Bs) : Bs := if l.head? = some 76 ∧ (l.drop 1).getLast? = some 59 then (l.drop 1).dropLast else []
set_option maxHeartbeats 2000000 in
set_option maxRecDepth 100000 in
theorem classOf_any (s : ByteArray) (w : World) (hs : s.size ≤ maxLen) :
    Calls Tryz.prog 54 #[.string s] w fun e w' => e = .returned (.string (mk (classL s.data.toList))) ∧ w = w' := by
  unfold maxLen at hs
  have HS : Hid (s.size ≤ 9223372036854775807) := Lib.hid (by omega)
  have HX : Hid ((s.extract 1 s.size).size ≤ 9223372036854775807) := Lib.hid (by rw [extract_size _ _ _ (Nat.le_refl _)]; omega)
  clear hs
  cases hA : (s.data.toList.head? == some 76)
  · have hc : classL s.data.toList = [] := by unfold classL; rw [if_neg (by rintro ⟨h, _⟩; simp [h] at hA)]
    rw [hc]
    have HA := Lib.hid hA
    clear hA hc
    cases hB : (s.data.toList.getLast? == some 59)
    all_goals
      have HB := Lib.hid hB
      clear hB
      go_enter Tryz.func54, Tryz.ntmps54
      go_wp2_with (first | (go_at_call 109; (with_reducible refine (cutPrefix_no _ 76 _ HA).mono ?_); rintro e w' ⟨rfl, rfl⟩) | (go_at_call 110; (first | (with_reducible refine (cutSuffix_no _ 59 _ HS HB).mono ?_) | (with_reducible refine (cutSuffix_yes _ 59 _ HS HB).mono ?_)); rintro e w' ⟨rfl, rfl⟩))
      go_ret
      exact ⟨rfl, rfl⟩
  · have HA := Lib.hid hA
    clear hA
    cases hB : ((s.extract 1 s.size).data.toList.getLast? == some 59)
    all_goals
      have HB := Lib.hid hB
      clear hB
      go_enter Tryz.func54, Tryz.ntmps54
      go_wp2_with (first | (go_at_call 109; (with_reducible refine (cutPrefix_yes _ 76 _ HA).mono ?_); rintro e w' ⟨rfl, rfl⟩) | (go_at_call 110; (first | (with_reducible refine (cutSuffix_no _ 59 _ HX HB).mono ?_) | (with_reducible refine (cutSuffix_yes _ 59 _ HX HB).mono ?_)); rintro e w' ⟨rfl, rfl⟩))
      go_ret
      refine ⟨ret_str ?_, rfl⟩
      have h1 : s.data.toList.head? = some 76 := by simpa using HA.out
      have h2 := HB.out
      rw [extract_tail] at h2
      unfold classL
      first
      | (rw [if_pos ⟨h1, beq_iff_eq.1 h2⟩, List.drop_one, List.take_of_length_le (by rw [List.length_tail, size_len]; omega)])
      | (rw [if_neg (by rintro ⟨_, h⟩; rw [h] at h2; simp at h2)])
theorem mk_app (a b : Bs) : mk a ++ mk b = mk (a ++ b) := by
  apply ByteArray.ext
  simp
theorem of_app (s : ByteArray) : (⟨#[76]⟩ ++ s ++ ⟨#[59]⟩ : ByteArray) = mk (76 :: s.data.toList ++ [59]) := by
  apply ByteArray.ext
  simp
set_option maxHeartbeats 1000000 in
theorem of_any (s : ByteArray) (w : World) (hs : s.size ≤ 281474976710656) :
    Calls Tryz.prog 117 #[.string s] w fun e w' => e = .returned (.string (mk (ofL s.data.toList))) ∧ w = w' := by
  have b1 : ¬ 9223372036854775807 < 1 + s.size := by omega
  have b2 : ¬ 9223372036854775807 < 1 + s.size + 1 := by omega
  cases hA : (s.data.toList.head? == some 91)
  all_goals
    have HA := Lib.hid hA
    clear hA
    go_enter Tryz.func117, Tryz.ntmps117
    go_wp2_with (go_at_call 115; (with_reducible refine (hasPrefix_one _ 91 _ HA _).mono ?_); rintro e w' ⟨rfl, rfl⟩)
    go_ret
    refine ⟨ret_str ?_, rfl⟩
    have h3 := HA.out
    simp only [beq_eq_false_iff_ne, beq_iff_eq] at h3
    unfold ofL
    first
    | (rw [if_pos h3])
    | (rw [if_neg h3]; exact of_app s)
theorem hasPre_tx (s : Bs) (c : UInt8) (r : Bool) (w : World) (h : Hid ((s.head? == some c) = r)) :
    Calls Tryz.prog 115 #[.string (tx s), .string ⟨#[c]⟩] w fun e w' => e = .returned (.bool r) ∧ w = w' :=
  hasPrefix_one (tx s) c r (Lib.hid (by rw [tx_list]; exact h.out)) w
theorem elem_tx (s : Bs) (w : World) : Calls Tryz.prog 116 #[.string (tx s)] w fun e w' => e = .returned (.string (tx (elemL s))) ∧ w = w' := by
  have := element_any (tx s) w
  rw [tx_list] at this
  exact this
theorem class_tx (s : Bs) (w : World) (hs : s.length ≤ maxLen) : Calls Tryz.prog 54 #[.string (tx s)] w fun e w' => e = .returned (.string (tx (classL s))) ∧ w = w' := by
  have := classOf_any (tx s) w (by rw [tx_size]; exact hs)
  rw [tx_list] at this
  exact this
/-- Does a text begin as a reference's type does? -/
def refB (s : Bs) : Bool := s.head? == some 76 || s.head? == some 91
set_option maxHeartbeats 1000000 in
theorem isRef_tx (s : Bs) (w : World) : Calls Tryz.prog 57 #[.string (tx s)] w fun e w' => e = .returned (.bool (refB s)) ∧ w = w' := by
  obtain ⟨r1, h1⟩ : ∃ r, (s.head? == some 76) = r := ⟨_, rfl⟩
  obtain ⟨r2, h2⟩ : ∃ r, (s.head? == some 91) = r := ⟨_, rfl⟩
  have HR : Hid (refB s = (r1 || r2)) := lhid (by unfold refB; rw [h1, h2])
  have H1 := lhid h1
  have H2 := lhid h2
  clear h1 h2
  go_enter Tryz.func57, Tryz.ntmps57
  go_wp2_with fail
  with_reducible refine (hasPre_tx s 76 r1 _ H1).mono ?_
  rintro e w' ⟨rfl, rfl⟩
  cases r1
  · go_wp2_with fail
    with_reducible refine (hasPre_tx s 91 r2 _ H2).mono ?_
    rintro e w' ⟨rfl, rfl⟩
    go_wp2_with fail
    go_ret
    exact ⟨by rw [HR.out]; rfl, rfl⟩
  · go_wp2_with fail
    go_ret
    exact ⟨by rw [HR.out]; rfl, rfl⟩
end Go.Proofs.YtpdnonlelocfbaaGreatDoor
