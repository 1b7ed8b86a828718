/- The walk of DescArrays. -/
import Derived.Test.YtmbnmjmlfbkjjaaRefSame
namespace Go.Proofs.Ytmbnmjmlfbkjjaa
open Go.RowKit Go
set_option linter.unusedVariables false

theorem name_type (l : Bs) (h : nameB l false = true) : ofL l = 76 :: l ++ [59] ∧ classL (ofL l) = l ∧ typeB (ofL l) = true ∧ kindI (ofL l) = 3 := by
  have hl := name_len l _ h
  have hno := (name_no l h).2
  have e1 : ofL l = 76 :: l ++ [59] := by
    unfold ofL
    rw [if_neg]
    intro e
    cases l with
    | nil => simp at e
    | cons a q => simp at e; subst e; simp at hno
  rw [e1]
  refine ⟨rfl, ?_, ?_, ?_⟩
  · unfold classL
    rw [if_pos]
    · simp
    · constructor
      · rfl
      · simp
  · rw [type_iff]
    exact ⟨0, by omega, _, .inr (.inr ⟨l, h, rfl⟩), by simp⟩
  · unfold kindI
    rw [if_neg (by intro e; have := congrArg List.length e; simp at this), if_neg (by intro e; have := congrArg List.length e; simp at this), if_pos (.inr (.inl rfl))]
theorem arr_type (l : Bs) (h : typeB l = true) : typeB (91 :: l) = !(Lib.hasPrefix l [91, 91, 91, 91, 91, 91, 91, 91]) ∧ elemL (91 :: l) = l ∧ kindI (91 :: l) = 3 ∧ ofL (91 :: l) = 91 :: l ∧ 0 < kindI l := by
  have h' := h
  unfold typeB at h'
  rw [Bool.and_eq_true, decide_eq_true_eq] at h'
  obtain ⟨h8, hp⟩ := h'
  have hdeep : Lib.hasPrefix l [91, 91, 91, 91, 91, 91, 91, 91] = decide (8 ≤ brk l) := by
    rw [Bool.eq_iff_iff, decide_eq_true_eq]
    unfold Lib.hasPrefix
    rw [List.isPrefixOf_iff_prefix]
    constructor
    · rintro ⟨r, rfl⟩
      have : ∀ q : Bs, 8 ≤ brk ([91, 91, 91, 91, 91, 91, 91, 91] ++ q) := by intro q; simp [brk]
      exact this r
    · intro hb
      have := brk_split l 8 hb
      exact ⟨l.drop 8, by rw [this]; simp⟩
  have hb : brk (91 :: l) = brk l + 1 := by simp [brk]
  refine ⟨?_, ?_, ?_, ?_, ?_⟩
  · unfold typeB
    rw [hb, List.drop_succ_cons, hp, hdeep, Bool.and_true, Bool.eq_iff_iff]
    simp
    omega
  · rfl
  · unfold kindI
    rw [if_neg (by intro e; cases e), if_neg (by intro e; cases e), if_pos (.inr (.inr rfl))]
  · unfold ofL
    rw [if_pos (by rfl : (91 :: l).head? = some 91)]
  · obtain ⟨k, hk, p, hpl, rfl⟩ := (type_iff l).1 h
    unfold kindI
    cases k with
    | succ k =>
      split
      · decide
      split
      · decide
      rw [if_pos (.inr (.inr (by simp [List.replicate_succ])))]
      decide
    | zero =>
      rcases hpl with rfl | rfl | ⟨nm, _, rfl⟩
      · decide
      · decide
      · split
        · decide
        split
        · decide
        rw [if_pos (.inr (.inl (by simp)))]
        decide
theorem hasPrefix_r (s p : ByteArray) (r : Bool) (w : World) (hr : Hid (Lib.hasPrefix s.data.toList p.data.toList = r)) :
    Calls Try.prog 26 #[.string s, .string p] w fun e w' => e = .returned (.bool r) ∧ w = w' := by
  refine (Try.strings_HasPrefix s p w).mono ?_
  rintro e w' ⟨rfl, rfl⟩
  exact ⟨ret_bool hr.out, rfl⟩
theorem arr_app (s : ByteArray) : (⟨#[91]⟩ ++ s : ByteArray).data.toList = 91 :: s.data.toList := by simp
theorem arr_size (s : ByteArray) : (⟨#[91]⟩ ++ s : ByteArray).size = s.size + 1 := by
  rw [← size_len, arr_app, List.length_cons, size_len]
set_option maxHeartbeats 16000000 in
set_option maxRecDepth 100000 in
theorem DescArrays_walk (s : ByteArray) (w : World) (hs : s.size ≤ 281474976710656) :
    Calls Try.prog 7 #[.string s] w fun e w' => e = .returned (.bool true) ∧ Below w.heap.size w w' := by
  by_cases h3 : 300 < s.size
  · go_enter Try.func7, Try.ntmps7
    go_wp2_with (first | (go_at_call 9; refine (holds_any _).mono ?_; rintro e w1 ⟨rfl, hb⟩; have HB := Lib.hid hb; clear hb))
    go_ret
    exact ⟨rfl, HB.out⟩
  have HS : Hid (s.size ≤ 281474976710656) := Lib.hid hs
  have HM : Hid (s.size ≤ maxLen) := Lib.hid (by unfold maxLen; omega)
  clear hs
  have hsb := bytes_self s
  have hsn : (s.toList != s.toList) = false := by rw [bne, hsb]; rfl
  have HNT := Lib.hid (name_type s.data.toList)
  have HAT := Lib.hid (arr_type s.data.toList)
  cases hT : typeB s.data.toList
  case false =>
    have HT := Lib.hid hT
    clear hT
    cases hN : nameB s.data.toList false
    case false =>
      have HN := Lib.hid hN
      clear hN
      go_enter Try.func7, Try.ntmps7
      go_wp2_with (first | (go_at_call 9; refine (holds_any _).mono ?_; rintro e w1 ⟨rfl, hb⟩; have HB := Lib.hid hb; clear hb) | (go_at_call 10; (with_reducible refine (name_r _ false _ _ HN HM.out).mono ?_); rintro e w' ⟨rfl, rfl⟩) | (go_at_call 12; (first | (with_reducible refine (type_r _ _ _ HM HT).mono ?_)); rintro e w' ⟨rfl, n, rfl⟩))
      go_ret
      exact ⟨rfl, below_drewN HB.out _⟩
    case true =>
      have hnt := HNT.out hN
      obtain ⟨o, ho⟩ : ∃ o, mk (ofL s.data.toList) = o := ⟨_, rfl⟩
      have hol : o.data.toList = ofL s.data.toList := by rw [← ho, mk_list]
      have hos : o.size = s.size + 2 := by rw [← size_len, hol, hnt.1]; simp
      have H1 := Lib.hid ho
      have HC : Hid (mk (classL o.data.toList) = s) := Lib.hid (by rw [hol, hnt.2.1])
      have HTo : Hid (typeB o.data.toList = true) := Lib.hid (by rw [hol]; exact hnt.2.2.1)
      have HKo : Hid (kindI o.data.toList = 3) := Lib.hid (by rw [hol]; exact hnt.2.2.2)
      have HMo : Hid (o.size ≤ maxLen) := Lib.hid (by unfold maxLen; omega)
      have HS1 : Hid (o.size ≤ 281474976710656) := Lib.hid (by omega)
      have HN := Lib.hid hN
      clear hN hnt ho hol hos
      go_enter Try.func7, Try.ntmps7
      go_wp2_with (first | (go_at_call 9; refine (holds_any _).mono ?_; rintro e w1 ⟨rfl, hb⟩; have HB := Lib.hid hb; clear hb) | (go_at_call 10; (with_reducible refine (name_r _ false _ _ HN HM.out).mono ?_); rintro e w' ⟨rfl, rfl⟩) | (go_at_call 19; (with_reducible refine (of_r _ _ _ H1 HS).mono ?_); rintro e w' ⟨rfl, rfl⟩) | (go_at_call 21; (with_reducible refine (class_b _ _ _ HC HS1).mono ?_); rintro e w' ⟨rfl, rfl⟩) | (go_at_call 12; (first | (with_reducible refine (type_r _ _ _ HMo HTo).mono ?_) | (with_reducible refine (type_r _ _ _ HM HT).mono ?_)); rintro e w' ⟨rfl, n, rfl⟩) | (go_at_call 17; (first | (with_reducible refine (kind_r _ _ _ HKo).mono ?_)); rintro e w' ⟨rfl, rfl⟩))
      go_ret
      exact ⟨rfl, below_drewN HB.out _⟩
  case true =>
    have hat := HAT.out hT
    have b1 : ¬ 9223372036854775807 < 1 + s.size := by omega
    have HKp : Hid (0 < kindI s.data.toList) := Lib.hid hat.2.2.2.2
    obtain ⟨kk, hkk⟩ : ∃ k, kindI s.data.toList = k := ⟨_, rfl⟩
    have HKs := Lib.hid hkk
    have hkp : 0 < kk := by rw [← hkk]; exact hat.2.2.2.2
    have HEa : Hid (mk (elemL (⟨#[91]⟩ ++ s : ByteArray).data.toList) = s) := Lib.hid (by rw [arr_app, hat.2.1])
    have HKa : Hid (kindI (⟨#[91]⟩ ++ s : ByteArray).data.toList = 3) := Lib.hid (by rw [arr_app]; exact hat.2.2.1)
    have HOa : Hid (mk (ofL (⟨#[91]⟩ ++ s : ByteArray).data.toList) = (⟨#[91]⟩ ++ s : ByteArray)) := Lib.hid (by rw [arr_app, hat.2.2.2.1, ← arr_app])
    have HMa : Hid ((⟨#[91]⟩ ++ s : ByteArray).size ≤ maxLen) := Lib.hid (by rw [arr_size]; unfold maxLen; omega)
    have HSa : Hid ((⟨#[91]⟩ ++ s : ByteArray).size ≤ 281474976710656) := Lib.hid (by rw [arr_size]; omega)
    have hab := bytes_self (⟨#[91]⟩ ++ s : ByteArray)
    have HTE := Lib.hid hat.1
    have HT := Lib.hid hT
    clear hT hat hkk
    cases hD : Lib.hasPrefix s.data.toList [91, 91, 91, 91, 91, 91, 91, 91]
    all_goals
      have HTa : Hid (typeB (⟨#[91]⟩ ++ s : ByteArray).data.toList = _) := Lib.hid (by rw [arr_app, HTE.out, hD])
      have HD : Hid (Lib.hasPrefix s.data.toList (⟨#[91, 91, 91, 91, 91, 91, 91, 91]⟩ : ByteArray).data.toList = _) := Lib.hid hD
      clear hD
      cases hN : nameB s.data.toList false
      case false =>
        have HN := Lib.hid hN
        clear hN
        go_enter Try.func7, Try.ntmps7
        go_wp2_with (first | (go_at_call 9; refine (holds_any _).mono ?_; rintro e w1 ⟨rfl, hb⟩; have HB := Lib.hid hb; clear hb) | (go_at_call 10; (with_reducible refine (name_r _ false _ _ HN HM.out).mono ?_); rintro e w' ⟨rfl, rfl⟩) | (go_at_call 26; (with_reducible refine (hasPrefix_r _ _ _ _ HD).mono ?_); rintro e w' ⟨rfl, rfl⟩) | (go_at_call 19; (first | (with_reducible refine (of_r _ _ _ HOa HSa).mono ?_)); rintro e w' ⟨rfl, rfl⟩) | (go_at_call 12; (first | (with_reducible refine (type_r _ _ _ HMa HTa).mono ?_) | (with_reducible refine (type_r _ _ _ HM HT).mono ?_)); rintro e w' ⟨rfl, n, rfl⟩) | (go_at_call 17; (first | (with_reducible refine (kind_r _ _ _ HKa).mono ?_) | (with_reducible refine (kind_r _ _ _ HKs).mono ?_)); rintro e w' ⟨rfl, rfl⟩) | (go_at_call 23; (with_reducible refine (element_b _ _ _ HEa).mono ?_); rintro e w' ⟨rfl, rfl⟩))
        go_ret
        exact ⟨by first | rfl | simp, below_drewN HB.out _⟩
      case true =>
        have hnt := HNT.out hN
        obtain ⟨o, ho⟩ : ∃ o, mk (ofL s.data.toList) = o := ⟨_, rfl⟩
        have hol : o.data.toList = ofL s.data.toList := by rw [← ho, mk_list]
        have hos : o.size = s.size + 2 := by rw [← size_len, hol, hnt.1]; simp
        have H1 := Lib.hid ho
        have HC : Hid (mk (classL o.data.toList) = s) := Lib.hid (by rw [hol, hnt.2.1])
        have HTo : Hid (typeB o.data.toList = true) := Lib.hid (by rw [hol]; exact hnt.2.2.1)
        have HKo : Hid (kindI o.data.toList = 3) := Lib.hid (by rw [hol]; exact hnt.2.2.2)
        have HMo : Hid (o.size ≤ maxLen) := Lib.hid (by unfold maxLen; omega)
        have HS1 : Hid (o.size ≤ 281474976710656) := Lib.hid (by omega)
        have HN := Lib.hid hN
        clear hN hnt ho hol hos
        go_enter Try.func7, Try.ntmps7
        go_wp2_with (first | (go_at_call 9; refine (holds_any _).mono ?_; rintro e w1 ⟨rfl, hb⟩; have HB := Lib.hid hb; clear hb) | (go_at_call 10; (with_reducible refine (name_r _ false _ _ HN HM.out).mono ?_); rintro e w' ⟨rfl, rfl⟩) | (go_at_call 26; (with_reducible refine (hasPrefix_r _ _ _ _ HD).mono ?_); rintro e w' ⟨rfl, rfl⟩) | (go_at_call 19; (first | (with_reducible refine (of_r _ _ _ H1 HS).mono ?_) | (with_reducible refine (of_r _ _ _ HOa HSa).mono ?_)); rintro e w' ⟨rfl, rfl⟩) | (go_at_call 21; (with_reducible refine (class_b _ _ _ HC HS1).mono ?_); rintro e w' ⟨rfl, rfl⟩) | (go_at_call 12; (first | (with_reducible refine (type_r _ _ _ HMa HTa).mono ?_) | (with_reducible refine (type_r _ _ _ HMo HTo).mono ?_) | (with_reducible refine (type_r _ _ _ HM HT).mono ?_)); rintro e w' ⟨rfl, n, rfl⟩) | (go_at_call 17; (first | (with_reducible refine (kind_r _ _ _ HKo).mono ?_) | (with_reducible refine (kind_r _ _ _ HKa).mono ?_) | (with_reducible refine (kind_r _ _ _ HKs).mono ?_)); rintro e w' ⟨rfl, rfl⟩) | (go_at_call 23; (with_reducible refine (element_b _ _ _ HEa).mono ?_); rintro e w' ⟨rfl, rfl⟩))
        go_ret
        exact ⟨by first | rfl | simp, below_drewN HB.out _⟩
end Go.Proofs.Ytmbnmjmlfbkjjaa
