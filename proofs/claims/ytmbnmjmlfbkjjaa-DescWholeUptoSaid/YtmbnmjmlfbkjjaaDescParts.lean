/- Contracts of desc.Kind, Of, Class, Element and the document's own. -/
import Derived.Test.YtmbnmjmlfbkjjaaDescMethod
import Derived.Test.YtmbnmjmlfbkjjaaRefType
namespace Go.Proofs.Ytmbnmjmlfbkjjaa
open Go.RowKit Go
set_option linter.unusedVariables false

def kindI (l : Bs) : Int := if l = [73] then 1 else if l = [74] then 2 else if l = [78] ∨ l.head? = some 76 ∨ l.head? = some 91 then 3 else 0
def classL (l : Bs) : Bs := if l.head? = some 76 ∧ (l.drop 1).getLast? = some 59 then (l.drop 1).dropLast else []
def elemL (l : Bs) : Bs := if l.head? = some 91 then l.drop 1 else []
def ofL (l : Bs) : Bs := if l.head? = some 91 then l else 76 :: l ++ [59]

theorem mk_app (a b : Bs) : mk a ++ mk b = mk (a ++ b) := by
  apply ByteArray.ext
  simp
theorem of_app (s : ByteArray) : (⟨#[76]⟩ ++ s ++ ⟨#[59]⟩ : ByteArray) = mk (76 :: s.data.toList ++ [59]) := by
  apply ByteArray.ext
  simp
theorem ret_str {a b : ByteArray} (h : a = b) : Ending.returned (.string a) = .returned (.string b) := by rw [h]
theorem beq_tests (s : ByteArray) (c : UInt8) (r : Bool) (h : (s.data.toList == [c]) = r) : (s.toList == [c]) = r := by rw [Lib.toList_data]; exact h

set_option maxHeartbeats 4000000 in
set_option maxRecDepth 100000 in
theorem kind_any (s : ByteArray) (w : World) :
    Calls Try.prog 17 #[.string s] w fun e w' => e = .returned (.int .i64 (kindI s.data.toList)) ∧ w = w' := by
  cases hI : (s.data.toList == [73])
  case true =>
    have e1 := beq_tests s 73 _ hI
    have hk : kindI s.data.toList = 1 := by unfold kindI; rw [if_pos (by simpa using hI)]
    rw [hk]
    clear hk hI
    go_enter Try.func17, Try.ntmps17
    go_wp2_with (fail)
    go_ret
    exact ⟨rfl, rfl⟩
  have e1 := beq_tests s 73 _ hI
  cases hJ : (s.data.toList == [74])
  case true =>
    have e2 := beq_tests s 74 _ hJ
    have hk : kindI s.data.toList = 2 := by unfold kindI; rw [if_neg (by simpa using hI), if_pos (by simpa using hJ)]
    rw [hk]
    clear hk hI hJ
    go_enter Try.func17, Try.ntmps17
    go_wp2_with (fail)
    go_ret
    exact ⟨rfl, rfl⟩
  have e2 := beq_tests s 74 _ hJ
  have hk : kindI s.data.toList = if s.data.toList = [78] ∨ s.data.toList.head? = some 76 ∨ s.data.toList.head? = some 91 then 3 else 0 := by unfold kindI; rw [if_neg (by simpa using hI), if_neg (by simpa using hJ)]
  have HK := Lib.hid hk
  clear hk hI hJ
  cases hN : (s.data.toList == [78])
  case true =>
    have e3 := beq_tests s 78 _ hN
    have HN := Lib.hid hN
    clear hN
    go_enter Try.func17, Try.ntmps17
    go_wp2_with (fail)
    go_ret
    exact ⟨ret_int (by rw [HK.out, if_pos (.inl (by simpa using HN.out))]), rfl⟩
  have e3 := beq_tests s 78 _ hN
  cases hL : (s.data.toList.head? == some 76) <;> cases hA : (s.data.toList.head? == some 91)
  all_goals
    have HN := Lib.hid hN
    have HL := Lib.hid hL
    have HA := Lib.hid hA
    clear hN hL hA
    go_enter Try.func17, Try.ntmps17
    go_wp2_with (go_at_call 26; (first | (with_reducible refine (hasPrefix_one _ 76 _ HL _).mono ?_) | (with_reducible refine (hasPrefix_one _ 91 _ HA _).mono ?_)); rintro e w' ⟨rfl, rfl⟩)
    go_ret
    have h1 := HN.out
    have h2 := HL.out
    have h3 := HA.out
    simp only [beq_eq_false_iff_ne, beq_iff_eq] at h1 h2 h3
    exact ⟨ret_int (by rw [HK.out]; simp [h1, h2, h3]), rfl⟩

set_option maxHeartbeats 4000000 in
set_option maxRecDepth 100000 in
theorem refKind_any (s : ByteArray) (w : World) :
    Calls Try.prog 18 #[.string s] w fun e w' => e = .returned (.int .i64 (kindI s.data.toList)) ∧ w = w' := by
  cases hI : (s.data.toList == [73])
  case true =>
    have e1 := beq_tests s 73 _ hI
    have hk : kindI s.data.toList = 1 := by unfold kindI; rw [if_pos (by simpa using hI)]
    rw [hk]
    clear hk hI
    go_enter Try.func18, Try.ntmps18
    go_wp2_with (fail)
    go_ret
    exact ⟨rfl, rfl⟩
  have e1 := beq_tests s 73 _ hI
  cases hJ : (s.data.toList == [74])
  case true =>
    have e2 := beq_tests s 74 _ hJ
    have hk : kindI s.data.toList = 2 := by unfold kindI; rw [if_neg (by simpa using hI), if_pos (by simpa using hJ)]
    rw [hk]
    clear hk hI hJ
    go_enter Try.func18, Try.ntmps18
    go_wp2_with (fail)
    go_ret
    exact ⟨rfl, rfl⟩
  have e2 := beq_tests s 74 _ hJ
  have hk : kindI s.data.toList = if s.data.toList = [78] ∨ s.data.toList.head? = some 76 ∨ s.data.toList.head? = some 91 then 3 else 0 := by unfold kindI; rw [if_neg (by simpa using hI), if_neg (by simpa using hJ)]
  have HK := Lib.hid hk
  clear hk hI hJ
  cases hN : (s.data.toList == [78])
  case true =>
    have e3 := beq_tests s 78 _ hN
    have HN := Lib.hid hN
    clear hN
    go_enter Try.func18, Try.ntmps18
    go_wp2_with (fail)
    go_ret
    exact ⟨ret_int (by rw [HK.out, if_pos (.inl (by simpa using HN.out))]), rfl⟩
  have e3 := beq_tests s 78 _ hN
  cases hL : (s.data.toList.head? == some 76) <;> cases hA : (s.data.toList.head? == some 91)
  all_goals
    have HN := Lib.hid hN
    have HL := Lib.hid hL
    have HA := Lib.hid hA
    clear hN hL hA
    go_enter Try.func18, Try.ntmps18
    go_wp2_with (go_at_call 26; (first | (with_reducible refine (hasPrefix_one _ 76 _ HL _).mono ?_) | (with_reducible refine (hasPrefix_one _ 91 _ HA _).mono ?_)); rintro e w' ⟨rfl, rfl⟩)
    go_ret
    have h1 := HN.out
    have h2 := HL.out
    have h3 := HA.out
    simp only [beq_eq_false_iff_ne, beq_iff_eq] at h1 h2 h3
    exact ⟨ret_int (by rw [HK.out]; simp [h1, h2, h3]), rfl⟩

set_option maxHeartbeats 1000000 in
theorem of_any (s : ByteArray) (w : World) (hs : s.size ≤ 281474976710656) :
    Calls Try.prog 19 #[.string s] w fun e w' => e = .returned (.string (mk (ofL s.data.toList))) ∧ w = w' := by
  have b1 : ¬ 9223372036854775807 < 1 + s.size := by omega
  have b2 : ¬ 9223372036854775807 < 1 + s.size + 1 := by omega
  cases hA : (s.data.toList.head? == some 91)
  all_goals
    have HA := Lib.hid hA
    clear hA
    go_enter Try.func19, Try.ntmps19
    go_wp2_with (go_at_call 26; (with_reducible refine (hasPrefix_one _ 91 _ HA _).mono ?_); rintro e w' ⟨rfl, rfl⟩)
    go_ret
    refine ⟨ret_str ?_, rfl⟩
    have h3 := HA.out
    simp only [beq_eq_false_iff_ne, beq_iff_eq] at h3
    unfold ofL
    first
    | (rw [if_pos h3])
    | (rw [if_neg h3]; exact of_app s)
set_option maxHeartbeats 1000000 in
theorem refOf_any (s : ByteArray) (w : World) (hs : s.size ≤ 281474976710656) :
    Calls Try.prog 20 #[.string s] w fun e w' => e = .returned (.string (mk (ofL s.data.toList))) ∧ w = w' := by
  have b1 : ¬ 9223372036854775807 < 1 + s.size := by omega
  have b2 : ¬ 9223372036854775807 < 1 + s.size + 1 := by omega
  cases hA : (s.data.toList.head? == some 91)
  all_goals
    have HA := Lib.hid hA
    clear hA
    go_enter Try.func20, Try.ntmps20
    go_wp2_with (go_at_call 26; (with_reducible refine (hasPrefix_one _ 91 _ HA _).mono ?_); rintro e w' ⟨rfl, rfl⟩)
    go_ret
    refine ⟨ret_str ?_, rfl⟩
    have h3 := HA.out
    simp only [beq_eq_false_iff_ne, beq_iff_eq] at h3
    unfold ofL
    first
    | (rw [if_pos h3])
    | (rw [if_neg h3]; exact of_app s)

set_option maxHeartbeats 1000000 in
theorem element_any (s : ByteArray) (w : World) :
    Calls Try.prog 23 #[.string s] w fun e w' => e = .returned (.string (mk (elemL s.data.toList))) ∧ w = w' := by
  cases hA : (s.data.toList.head? == some 91)
  · have HA := Lib.hid hA
    go_enter Try.func23, Try.ntmps23
    go_wp2_with (go_at_call 33; (with_reducible refine (cutPrefix_no _ 91 _ HA).mono ?_); rintro e w' ⟨rfl, rfl⟩)
    go_ret
    refine ⟨ret_str ?_, rfl⟩
    unfold elemL
    rw [if_neg (by simpa using HA.out)]
  · have HA := Lib.hid hA
    go_enter Try.func23, Try.ntmps23
    go_wp2_with (go_at_call 33; (with_reducible refine (cutPrefix_yes _ 91 _ HA).mono ?_); rintro e w' ⟨rfl, rfl⟩)
    go_ret
    refine ⟨ret_str ?_, rfl⟩
    unfold elemL
    rw [if_pos (by simpa using HA.out), mk_tail]
theorem head_at (s : ByteArray) (h : 0 < s.size) : s.data.toList.head? = some s[0] := by
  rw [List.head?_eq_getElem?, List.getElem?_eq_getElem (by simpa using h)]
  rfl
theorem last_at (s : ByteArray) (h : 1 < s.size) : (s.data.toList.drop 1).getLast? = some s[s.size - 1] := by
  rw [List.getLast?_eq_getElem?, List.getElem?_drop, List.length_drop, size_len, show 1 + (s.size - 1 - 1) = s.size - 1 by omega, List.getElem?_eq_getElem (by simpa using (by omega : s.size - 1 < s.size))]
  rfl
theorem u8_ne (c : UInt8) (n : Nat) (h : n < 256) (r : Bool) (hr : (c == n.toUInt8) = r) : ((c.toNat : Int) != (n : Int)) = !r := by
  rw [bne, u8_lit c n h r hr]
set_option maxHeartbeats 1000000 in
theorem refElement_any (s : ByteArray) (w : World) (hs : s.size ≤ maxLen) :
    Calls Try.prog 24 #[.string s] w fun e w' => e = .returned (.string (mk (elemL s.data.toList))) ∧ w = w' := by
  unfold maxLen at hs
  by_cases h2 : s.size < 2
  · have hel : elemL s.data.toList = [] := by
      unfold elemL
      split
      · apply List.drop_eq_nil_of_le; rw [size_len]; omega
      · rfl
    rw [hel]
    clear hel
    go_enter Try.func24, Try.ntmps24
    go_wp2_with (fail)
    go_ret
    exact ⟨rfl, rfl⟩
  have hp : 0 < s.size := by omega
  have hh := head_at s hp
  cases h3 : (s[0] == 91)
  all_goals
    have H3 := Lib.hid h3
    have HH := Lib.hid hh
    have f3 : ((s[0].toNat : Int) == 91) = _ := u8_lit s[0] 91 (by omega) _ h3
    have f4 : ((s[0].toNat : Int) != 91) = _ := u8_ne s[0] 91 (by omega) _ h3
    have c1 : (1 : Int) ≤ ↑s.size := by omega
    clear h3 hh
    go_enter Try.func24, Try.ntmps24
    go_wp2_with (fail)
    go_ret
    refine ⟨ret_str ?_, rfl⟩
    have h3 := H3.out
    simp only [beq_eq_false_iff_ne, beq_iff_eq] at h3
    unfold elemL
    rw [HH.out]
    first
    | (rw [if_pos (by rw [h3]), mk_tail])
    | (rw [if_neg (by intro e; injection e; contradiction)])

theorem hasSuffix_last (l : Bs) (c : UInt8) : Lib.hasSuffix l [c] = (l.getLast? == some c) := by
  unfold Lib.hasSuffix List.isSuffixOf
  rw [List.reverse_singleton, ← List.head?_reverse]
  exact hasPrefix_head l.reverse c
theorem cutSuffix_no (s : ByteArray) (c : UInt8) (w : World) (hs : Hid (s.size ≤ 9223372036854775807)) (h : Hid ((s.data.toList.getLast? == some c) = false)) :
    Calls Try.prog 34 #[.string s, .string ⟨#[c]⟩] w fun e w' => e = .returned (.tuple #[.string s, .bool false]) ∧ w = w' := by
  refine (Try.strings_CutSuffix s ⟨#[c]⟩ w hs.out).mono ?_
  rintro e w' ⟨rfl, rfl⟩
  have h1 : Lib.hasSuffix s.data.toList [c] = false := by rw [hasSuffix_last]; exact h.out
  have h2 : Lib.trimSuffix s.data.toList [c] = s.data.toList := by unfold Lib.trimSuffix; rw [h1]; rfl
  refine ⟨?_, rfl⟩
  show Ending.returned (.tuple #[.string ⟨(Lib.trimSuffix s.data.toList [c]).toArray⟩, .bool (Lib.hasSuffix s.data.toList [c])]) = _
  rw [h1, h2, Lib.mk_data]
theorem cutSuffix_yes (s : ByteArray) (c : UInt8) (w : World) (hs : Hid (s.size ≤ 9223372036854775807)) (h : Hid ((s.data.toList.getLast? == some c) = true)) :
    Calls Try.prog 34 #[.string s, .string ⟨#[c]⟩] w fun e w' => e = .returned (.tuple #[.string (mk s.data.toList.dropLast), .bool true]) ∧ w = w' := by
  refine (Try.strings_CutSuffix s ⟨#[c]⟩ w hs.out).mono ?_
  rintro e w' ⟨rfl, rfl⟩
  have h1 : Lib.hasSuffix s.data.toList [c] = true := by rw [hasSuffix_last]; exact h.out
  have h2 : Lib.trimSuffix s.data.toList [c] = s.data.toList.dropLast := by unfold Lib.trimSuffix; rw [h1, List.dropLast_eq_take]; rfl
  refine ⟨?_, rfl⟩
  show Ending.returned (.tuple #[.string ⟨(Lib.trimSuffix s.data.toList [c]).toArray⟩, .bool (Lib.hasSuffix s.data.toList [c])]) = _
  rw [h1, h2]
set_option maxHeartbeats 2000000 in
set_option maxRecDepth 100000 in
theorem class_any (s : ByteArray) (w : World) (hs : s.size ≤ maxLen) :
    Calls Try.prog 21 #[.string s] w fun e w' => e = .returned (.string (mk (classL s.data.toList))) ∧ w = w' := by
  unfold maxLen at hs
  have HS : Hid (s.size ≤ 9223372036854775807) := Lib.hid (by omega)
  have HX : Hid ((s.extract 1 s.size).size ≤ 9223372036854775807) := Lib.hid (by rw [extract_size _ _ _ (Nat.le_refl _)]; omega)
  clear hs
  cases hA : (s.data.toList.head? == some 76)
  · have hc : classL s.data.toList = [] := by unfold classL; rw [if_neg (by rintro ⟨h, _⟩; simp [h] at hA)]
    rw [hc]
    have HA := Lib.hid hA
    clear hA hc
    cases hB : (s.data.toList.getLast? == some 59)
    all_goals
      have HB := Lib.hid hB
      clear hB
      go_enter Try.func21, Try.ntmps21
      go_wp2_with (first | (go_at_call 33; (with_reducible refine (cutPrefix_no _ 76 _ HA).mono ?_); rintro e w' ⟨rfl, rfl⟩) | (go_at_call 34; (first | (with_reducible refine (cutSuffix_no _ 59 _ HS HB).mono ?_) | (with_reducible refine (cutSuffix_yes _ 59 _ HS HB).mono ?_)); rintro e w' ⟨rfl, rfl⟩))
      go_ret
      exact ⟨rfl, rfl⟩
  · have HA := Lib.hid hA
    clear hA
    cases hB : ((s.extract 1 s.size).data.toList.getLast? == some 59)
    all_goals
      have HB := Lib.hid hB
      clear hB
      go_enter Try.func21, Try.ntmps21
      go_wp2_with (first | (go_at_call 33; (with_reducible refine (cutPrefix_yes _ 76 _ HA).mono ?_); rintro e w' ⟨rfl, rfl⟩) | (go_at_call 34; (first | (with_reducible refine (cutSuffix_no _ 59 _ HX HB).mono ?_) | (with_reducible refine (cutSuffix_yes _ 59 _ HX HB).mono ?_)); rintro e w' ⟨rfl, rfl⟩))
      go_ret
      refine ⟨ret_str ?_, rfl⟩
      have h1 : s.data.toList.head? = some 76 := by simpa using HA.out
      have h2 := HB.out
      rw [extract_tail] at h2
      unfold classL
      first
      | (rw [if_pos ⟨h1, beq_iff_eq.1 h2⟩, List.drop_one, List.take_of_length_le (by rw [List.length_tail, size_len]; omega)])
      | (rw [if_neg (by rintro ⟨_, h⟩; rw [h] at h2; simp at h2)])
theorem class_piece (s : ByteArray) (h : 1 < s.size) : (s.extract 1 (s.size - 1)) = mk (s.data.toList.drop 1).dropLast := by
  rw [mk_extract, List.dropLast_eq_take, List.length_drop, size_len]
theorem classL_short (s : ByteArray) (h : s.size < 3) : classL s.data.toList = [] := by
  unfold classL
  split
  · apply List.eq_nil_of_length_eq_zero
    rw [List.length_dropLast, List.length_drop, size_len]
    omega
  · rfl
set_option maxHeartbeats 4000000 in
set_option maxRecDepth 100000 in
theorem refClass_any (s : ByteArray) (w : World) (hs : s.size ≤ maxLen) :
    Calls Try.prog 22 #[.string s] w fun e w' => e = .returned (.string (mk (classL s.data.toList))) ∧ w = w' := by
  unfold maxLen at hs
  by_cases h2 : s.size < 3
  · rw [classL_short s h2]
    go_enter Try.func22, Try.ntmps22
    go_wp2_with (fail)
    go_ret
    exact ⟨rfl, rfl⟩
  have hp : 0 < s.size := by omega
  have HH := Lib.hid (head_at s hp)
  have HT := Lib.hid (last_at s (by omega))
  have HP := Lib.hid (class_piece s (by omega))
  have g0 : (0 : Int) ≤ ↑s.size - 1 := by omega
  have g1 : (1 : Int) ≤ ↑s.size - 1 := by omega
  have g2 : (↑s.size - 1 : Int) ≤ ↑s.size := by omega
  have g3 : (↑s.size - 1 : Int) < ↑s.size := by omega
  have g4 : ((s.size : Int) - 1).toNat = s.size - 1 := by omega
  have g5 : s.size - 1 < s.size := by omega
  cases h3 : (s[0] == 76)
  · have H3 := Lib.hid h3
    have f3 : ((s[0].toNat : Int) == 76) = _ := u8_lit s[0] 76 (by omega) _ h3
    have f4 : ((s[0].toNat : Int) != 76) = _ := u8_ne s[0] 76 (by omega) _ h3
    clear h3
    go_enter Try.func22, Try.ntmps22
    go_wp2_with (fail)
    go_ret
    refine ⟨ret_str ?_, rfl⟩
    have h3 := H3.out
    simp only [beq_eq_false_iff_ne] at h3
    unfold classL
    rw [if_neg (by rintro ⟨h, _⟩; rw [HH.out] at h; injection h; contradiction)]
  have H3 := Lib.hid h3
  have f3 : ((s[0].toNat : Int) == 76) = _ := u8_lit s[0] 76 (by omega) _ h3
  have f4 : ((s[0].toNat : Int) != 76) = _ := u8_ne s[0] 76 (by omega) _ h3
  clear h3
  cases h5 : (s[s.size - 1] == 59)
  all_goals
    have H5 := Lib.hid h5
    have f5 : ((s[s.size - 1].toNat : Int) == 59) = _ := u8_lit s[s.size - 1] 59 (by omega) _ h5
    have f6 : ((s[s.size - 1].toNat : Int) != 59) = _ := u8_ne s[s.size - 1] 59 (by omega) _ h5
    clear h5
    go_enter Try.func22, Try.ntmps22
    go_wp2_with (fail)
    go_ret
    refine ⟨ret_str ?_, rfl⟩
    have h3 : s[0] = 76 := by simpa using H3.out
    have h5 := H5.out
    simp only [beq_eq_false_iff_ne, beq_iff_eq] at h5
    unfold classL
    first
    | (rw [if_pos ⟨by rw [HH.out, h3], by rw [HT.out, h5]⟩]; exact HP.out)
    | (rw [if_neg (by rintro ⟨_, h⟩; rw [HT.out] at h; injection h; contradiction)])
end Go.Proofs.Ytmbnmjmlfbkjjaa
