/- Contracts of the document's own answers for layer 1: Two, One, Kinds; num.Kinds. -/
import Derived.Test.YtjhjpifdknhkeaaRef4
import Derived.Test.YtjhjpifdknhkeaaNum
namespace Go.Proofs.Ytjhjpifdknhkeaa
open Go.RowKit
set_option linter.unusedVariables false

theorem wrn16 (x : Int) : wrn 16 x = wrap16 x := rfl
theorem wrn8 (x : Int) : wrn 8 x = wrap8 x := rfl
theorem refTwo_any (c a b : Int) (hc : -9223372036854775808 ≤ c ∧ c ≤ 9223372036854775807) (ha : -9223372036854775808 ≤ a ∧ a ≤ 9223372036854775807) (hb : -9223372036854775808 ≤ b ∧ b ≤ 9223372036854775807) (w : World) :
    Calls Try.prog 19 #[.int .i64 c, .int .i64 a, .int .i64 b] w fun e w' => e = .returned (.int .i64 (two c a b)) ∧ Below w.heap.size w w' := by
  have hm := and1 c
  by_cases h : c = 148
  · subst h
    rcases Int.lt_trichotomy a b with h | h | h
    · have HG := Lib.hid (show two 148 a b = -1 by show cmp3 a b = -1; unfold cmp3; split <;> (try split) <;> omega)
      go_enter Try.func19, Try.ntmps19
      go_wp2
      go_ret
      exact ⟨by rw [HG.out]; rfl, Below.refl _ _⟩
    · have HG := Lib.hid (show two 148 a b = 0 by show cmp3 a b = 0; unfold cmp3; split <;> (try split) <;> omega)
      subst h
      go_enter Try.func19, Try.ntmps19
      go_wp2
      go_ret
      exact ⟨by rw [HG.out]; rfl, Below.refl _ _⟩
    · have HG := Lib.hid (show two 148 a b = 1 by show cmp3 a b = 1; unfold cmp3; split <;> (try split) <;> omega)
      go_enter Try.func19, Try.ntmps19
      go_wp2
      go_ret
      exact ⟨by rw [HG.out]; rfl, Below.refl _ _⟩
  by_cases he : c % 2 = 0
  · have HG := Lib.hid (show two c a b = opI c (wrn 32 a) (wrn 32 b) by unfold two; rw [if_neg h, if_pos he]; rfl)
    have hwa : -2147483648 ≤ wrn 32 a ∧ wrn 32 a ≤ 2147483647 := wrap32_bd a
    have hwb : -2147483648 ≤ wrn 32 b ∧ wrn 32 b ≤ 2147483647 := wrap32_bd b
    go_enter Try.func19, Try.ntmps19
    go_wp2_with (first | (go_at_call 37; refine (cut_any _ _ 32 rfl (by decide) (by omega) _).mono ?_; rintro e w' ⟨rfl, rfl⟩) | (go_at_call 13; refine (make32_any _ _ _ (by omega) (by omega) _).mono ?_; rintro e w' ⟨rfl, h1⟩))
    go_ret
    exact ⟨by rw [HG.out]; rfl, h1⟩
  · have HG := Lib.hid (show two c a b = opL c a b by unfold two; rw [if_neg h, if_neg he])
    have h3 : -9223372036854775808 ≤ c - 1 := by omega
    go_enter Try.func19, Try.ntmps19
    go_wp2_with (first | (go_at_call 13; refine (make64_any _ _ _ (by omega) (by omega) (by omega) _).mono ?_; rintro e w' ⟨rfl, h1⟩))
    go_ret
    exact ⟨by rw [HG.out]; rfl, h1⟩
theorem refOne_any (c a : Int) (ha : -9223372036854775808 ≤ a ∧ a ≤ 9223372036854775807) (w : World) :
    Calls Try.prog 21 #[.int .i64 c, .int .i64 a] w fun e w' => e = .returned (.int .i64 (one c a)) ∧ Below w.heap.size w w' := by
  by_cases h116 : c = 116
  · subst h116
    have HG := Lib.hid (show one 116 a = wrn 32 (-a) by rw [wrn32]; unfold one; simp; unfold wrap32; omega)
    go_enter Try.func21, Try.ntmps21
    go_wp2_with (first | (go_at_call 38; refine (negative_any _ _ 32 rfl (by decide) ha _).mono ?_; rintro e w' ⟨rfl, h1⟩))
    go_ret
    exact ⟨by rw [HG.out]; rfl, h1⟩
  by_cases h117 : c = 117
  · subst h117
    have HG := Lib.hid (show one 117 a = wrn 64 (-a) by rw [wrn64]; unfold one; simp)
    go_enter Try.func21, Try.ntmps21
    go_wp2_with (first | (go_at_call 38; refine (negative_any _ _ 64 rfl (by decide) ha _).mono ?_; rintro e w' ⟨rfl, h1⟩))
    go_ret
    exact ⟨by rw [HG.out]; rfl, h1⟩
  by_cases h146 : c = 146
  · subst h146
    have HG := Lib.hid (show one 146 a = if wrn 16 a < 0 then wrn 16 a + 65536 else wrn 16 a by rw [wrn16]; unfold one; simp; unfold wrap16; split <;> omega)
    have h16 : -32768 ≤ wrn 16 a ∧ wrn 16 a ≤ 32767 := by rw [wrn16]; unfold wrap16; omega
    by_cases hn : wrn 16 a < 0
    · have HF := Lib.hid (show one 146 a = wrn 16 a + 65536 by rw [HG.out]; exact if_pos hn)
      go_enter Try.func21, Try.ntmps21
      go_wp2_with (first | (go_at_call 37; refine (cut_any _ _ 16 rfl (by decide) ha _).mono ?_; rintro e w' ⟨rfl, rfl⟩))
      go_ret
      exact ⟨by rw [HF.out]; rfl, Below.refl _ _⟩
    · have HF := Lib.hid (show one 146 a = wrn 16 a by rw [HG.out]; exact if_neg hn)
      go_enter Try.func21, Try.ntmps21
      go_wp2_with (first | (go_at_call 37; refine (cut_any _ _ 16 rfl (by decide) ha _).mono ?_; rintro e w' ⟨rfl, rfl⟩))
      go_ret
      exact ⟨by rw [HF.out]; rfl, Below.refl _ _⟩
  by_cases h133 : c = 133
  · subst h133
    have HG := Lib.hid (show one 133 a = wrn 32 a by rw [wrn32]; unfold one; simp)
    go_enter Try.func21, Try.ntmps21
    go_wp2_with (first | (go_at_call 37; refine (cut_any _ _ 32 rfl (by decide) ha _).mono ?_; rintro e w' ⟨rfl, rfl⟩))
    go_ret
    exact ⟨by rw [HG.out]; rfl, Below.refl _ _⟩
  by_cases h136 : c = 136
  · subst h136
    have HG := Lib.hid (show one 136 a = wrn 32 a by rw [wrn32]; unfold one; simp)
    go_enter Try.func21, Try.ntmps21
    go_wp2_with (first | (go_at_call 37; refine (cut_any _ _ 32 rfl (by decide) ha _).mono ?_; rintro e w' ⟨rfl, rfl⟩))
    go_ret
    exact ⟨by rw [HG.out]; rfl, Below.refl _ _⟩
  by_cases h145 : c = 145
  · subst h145
    have HG := Lib.hid (show one 145 a = wrn 8 a by rw [wrn8]; unfold one; simp)
    go_enter Try.func21, Try.ntmps21
    go_wp2_with (first | (go_at_call 37; refine (cut_any _ _ 8 rfl (by decide) ha _).mono ?_; rintro e w' ⟨rfl, rfl⟩))
    go_ret
    exact ⟨by rw [HG.out]; rfl, Below.refl _ _⟩
  by_cases h147 : c = 147
  · subst h147
    have HG := Lib.hid (show one 147 a = wrn 16 a by rw [wrn16]; unfold one; simp)
    go_enter Try.func21, Try.ntmps21
    go_wp2_with (first | (go_at_call 37; refine (cut_any _ _ 16 rfl (by decide) ha _).mono ?_; rintro e w' ⟨rfl, rfl⟩))
    go_ret
    exact ⟨by rw [HG.out]; rfl, Below.refl _ _⟩
  have HG := Lib.hid (show one c a = 0 by unfold one; simp [*])
  go_enter Try.func21, Try.ntmps21
  go_wp2
  go_ret
  exact ⟨by rw [HG.out]; rfl, Below.refl _ _⟩
/-- The kinds of what goes in, and comes out. -/
def knd (c : Int) : Int × Int × Int :=
  if c = 121 ∨ c = 123 ∨ c = 125 then (2, 1, 2)
  else if (96 ≤ c ∧ c ≤ 113 ∧ c % 4 < 2) ∨ (120 ≤ c ∧ c ≤ 131) then (if c % 2 = 0 then (1, 1, 1) else (2, 2, 2))
  else if c = 148 then (2, 2, 1) else if c = 116 ∨ (145 ≤ c ∧ c ≤ 147) then (1, 0, 1) else if c = 117 then (2, 0, 2) else if c = 133 then (1, 0, 2) else if c = 136 then (2, 0, 1) else (0, 0, 0)
theorem knd_none (c : Int) (h : c ≠ 96 ∧ c ≠ 97 ∧ c ≠ 100 ∧ c ≠ 101 ∧ c ≠ 104 ∧ c ≠ 105 ∧ c ≠ 108 ∧ c ≠ 109 ∧ c ≠ 112 ∧ c ≠ 113 ∧ c ≠ 116 ∧ c ≠ 117 ∧ c ≠ 120 ∧ c ≠ 121 ∧ c ≠ 122 ∧ c ≠ 123 ∧ c ≠ 124 ∧ c ≠ 125 ∧ c ≠ 126 ∧ c ≠ 127 ∧ c ≠ 128 ∧ c ≠ 129 ∧ c ≠ 130 ∧ c ≠ 131 ∧ c ≠ 133 ∧ c ≠ 136 ∧ c ≠ 145 ∧ c ≠ 146 ∧ c ≠ 147 ∧ c ≠ 148) : knd c = (0, 0, 0) := by
  unfold knd
  rw [if_neg (by omega), if_neg (by omega), if_neg (by omega), if_neg (by omega), if_neg (by omega), if_neg (by omega), if_neg (by omega)]
theorem knd_cases (c : Int) : c = 96 ∨ c = 97 ∨ c = 100 ∨ c = 101 ∨ c = 104 ∨ c = 105 ∨ c = 108 ∨ c = 109 ∨ c = 112 ∨ c = 113 ∨ c = 116 ∨ c = 117 ∨ c = 120 ∨ c = 121 ∨ c = 122 ∨ c = 123 ∨ c = 124 ∨ c = 125 ∨ c = 126 ∨ c = 127 ∨ c = 128 ∨ c = 129 ∨ c = 130 ∨ c = 131 ∨ c = 133 ∨ c = 136 ∨ c = 145 ∨ c = 146 ∨ c = 147 ∨ c = 148 ∨ (c ≠ 96 ∧ c ≠ 97 ∧ c ≠ 100 ∧ c ≠ 101 ∧ c ≠ 104 ∧ c ≠ 105 ∧ c ≠ 108 ∧ c ≠ 109 ∧ c ≠ 112 ∧ c ≠ 113 ∧ c ≠ 116 ∧ c ≠ 117 ∧ c ≠ 120 ∧ c ≠ 121 ∧ c ≠ 122 ∧ c ≠ 123 ∧ c ≠ 124 ∧ c ≠ 125 ∧ c ≠ 126 ∧ c ≠ 127 ∧ c ≠ 128 ∧ c ≠ 129 ∧ c ≠ 130 ∧ c ≠ 131 ∧ c ≠ 133 ∧ c ≠ 136 ∧ c ≠ 145 ∧ c ≠ 146 ∧ c ≠ 147 ∧ c ≠ 148) := by omega
theorem computes_any (c : Int) (w : World) : Calls Try.prog 35 #[.int .i64 c] w fun e w' => e = .returned (.bool (decide (c = 96 ∨ c = 100 ∨ c = 104 ∨ c = 108 ∨ c = 112 ∨ c = 120 ∨ c = 122 ∨ c = 124 ∨ c = 126 ∨ c = 128 ∨ c = 130))) ∧ w = w' := by
  have hc : c = 96 ∨ c = 100 ∨ c = 104 ∨ c = 108 ∨ c = 112 ∨ c = 120 ∨ c = 122 ∨ c = 124 ∨ c = 126 ∨ c = 128 ∨ c = 130 ∨ ¬ (c = 96 ∨ c = 100 ∨ c = 104 ∨ c = 108 ∨ c = 112 ∨ c = 120 ∨ c = 122 ∨ c = 124 ∨ c = 126 ∨ c = 128 ∨ c = 130) := by omega
  rcases hc with rfl | rfl | rfl | rfl | rfl | rfl | rfl | rfl | rfl | rfl | rfl | hn
  all_goals first
    | (go_enter Try.func35, Try.ntmps35; go_wp2; go_ret; exact ⟨rfl, rfl⟩)
    | (have HN := Lib.hid (decide_eq_false hn)
       rw [HN.out]
       have g : c ≠ 96 ∧ c ≠ 100 ∧ c ≠ 104 ∧ c ≠ 108 ∧ c ≠ 112 ∧ c ≠ 120 ∧ c ≠ 122 ∧ c ≠ 124 ∧ c ≠ 126 ∧ c ≠ 128 ∧ c ≠ 130 := by omega
       clear hn
       obtain ⟨_, _, _, _, _, _, _, _, _, _, _⟩ := g
       go_enter Try.func35, Try.ntmps35
       go_wp2
       go_ret
       exact ⟨rfl, rfl⟩)
theorem computes_no (c : Int) (hn : ¬ (c = 96 ∨ c = 100 ∨ c = 104 ∨ c = 108 ∨ c = 112 ∨ c = 120 ∨ c = 122 ∨ c = 124 ∨ c = 126 ∨ c = 128 ∨ c = 130)) (w : World) : Calls Try.prog 35 #[.int .i64 c] w fun e w' => e = .returned (.bool false) ∧ w = w' := by
  have h := computes_any c w
  rw [decide_eq_false hn] at h
  exact h
theorem odd_yes (c : Int) (h : c % 2 = 1) (w : World) : Calls Try.prog 33 #[.int .i64 c] w fun e w' => e = .returned (.bool true) ∧ w = w' := by
  have k := odd_any c w
  rw [show (c % 2 == 1) = true from by rw [beq_iff_eq]; exact h] at k
  exact k
theorem odd_no (c : Int) (h : ¬ c % 2 = 1) (w : World) : Calls Try.prog 33 #[.int .i64 c] w fun e w' => e = .returned (.bool false) ∧ w = w' := by
  have k := odd_any c w
  rw [show (c % 2 == 1) = false from by rw [beq_eq_false_iff_ne]; exact h] at k
  exact k
set_option maxHeartbeats 4000000 in
theorem kinds_any (c : Int) (hc : -9223372036854775808 ≤ c ∧ c ≤ 9223372036854775807) (w : World) : Calls Try.prog 16 #[.int .i64 c] w fun e w' => e = .returned (.tuple #[.int .i64 (knd c).1, .int .i64 (knd c).2.1, .int .i64 (knd c).2.2]) ∧ w = w' := by
  rcases knd_cases c with rfl | rfl | rfl | rfl | rfl | rfl | rfl | rfl | rfl | rfl | rfl | rfl | rfl | rfl | rfl | rfl | rfl | rfl | rfl | rfl | rfl | rfl | rfl | rfl | rfl | rfl | rfl | rfl | rfl | rfl | hn
  all_goals first
    | (go_enter Try.func16, Try.ntmps16; go_wp2_with (first | (go_at_call 33; refine (odd_any _ _).mono ?_; rintro e w' ⟨rfl, rfl⟩) | (go_at_call 35; refine (computes_any _ _).mono ?_; rintro e w' ⟨rfl, rfl⟩)); go_ret3; exact ⟨rfl, rfl⟩)
    | (have HN := Lib.hid (knd_none c hn)
       rw [HN.out]
       have hk : c ≠ 116 ∧ c ≠ 117 ∧ c ≠ 133 ∧ c ≠ 136 ∧ c ≠ 145 ∧ c ≠ 146 ∧ c ≠ 147 ∧ c ≠ 148 ∧ c ≠ 121 ∧ c ≠ 123 ∧ c ≠ 125 := by omega
       by_cases ho : c % 2 = 1
       · have hn1 : ¬ (c - 1 = 96 ∨ c - 1 = 100 ∨ c - 1 = 104 ∨ c - 1 = 108 ∨ c - 1 = 112 ∨ c - 1 = 120 ∨ c - 1 = 122 ∨ c - 1 = 124 ∨ c - 1 = 126 ∨ c - 1 = 128 ∨ c - 1 = 130) := by omega
         have hn0 : ¬ (c = 96 ∨ c = 100 ∨ c = 104 ∨ c = 108 ∨ c = 112 ∨ c = 120 ∨ c = 122 ∨ c = 124 ∨ c = 126 ∨ c = 128 ∨ c = 130) := by omega
         have H1 := Lib.hid hn1
         have H0 := Lib.hid hn0
         clear hn hn1 hn0
         obtain ⟨_, _, _, _, _, _, _, _, _, _, _⟩ := hk
         go_enter Try.func16, Try.ntmps16
         go_wp2_with (first | (go_at_call 33; refine (odd_yes _ ho _).mono ?_; rintro e w' ⟨rfl, rfl⟩) | (go_at_call 35; (with_reducible refine (computes_no (c - 1) H1.out _).mono ?_); rintro e w' ⟨rfl, rfl⟩) | (go_at_call 35; (with_reducible refine (computes_no c H0.out _).mono ?_); rintro e w' ⟨rfl, rfl⟩))
         go_ret3
         exact ⟨rfl, rfl⟩
       · have hn0 : ¬ (c = 96 ∨ c = 100 ∨ c = 104 ∨ c = 108 ∨ c = 112 ∨ c = 120 ∨ c = 122 ∨ c = 124 ∨ c = 126 ∨ c = 128 ∨ c = 130) := by omega
         have H0 := Lib.hid hn0
         clear hn hn0
         obtain ⟨_, _, _, _, _, _, _, _, _, _, _⟩ := hk
         go_enter Try.func16, Try.ntmps16
         go_wp2_with (first | (go_at_call 33; refine (odd_no _ ho _).mono ?_; rintro e w' ⟨rfl, rfl⟩) | (go_at_call 35; refine (computes_no _ H0.out _).mono ?_; rintro e w' ⟨rfl, rfl⟩))
         go_ret3
         exact ⟨rfl, rfl⟩)
set_option maxHeartbeats 4000000 in
theorem refKinds_any (c : Int) (hc : -9223372036854775808 ≤ c ∧ c ≤ 9223372036854775807) (w : World) : Calls Try.prog 17 #[.int .i64 c] w fun e w' => e = .returned (.tuple #[.int .i64 (knd c).1, .int .i64 (knd c).2.1, .int .i64 (knd c).2.2]) ∧ w = w' := by
  rcases knd_cases c with rfl | rfl | rfl | rfl | rfl | rfl | rfl | rfl | rfl | rfl | rfl | rfl | rfl | rfl | rfl | rfl | rfl | rfl | rfl | rfl | rfl | rfl | rfl | rfl | rfl | rfl | rfl | rfl | rfl | rfl | hn
  all_goals first
    | (go_enter Try.func17, Try.ntmps17; go_wp2; go_ret3; exact ⟨rfl, rfl⟩)
    | (have HN := Lib.hid (knd_none c hn)
       rw [HN.out]
       have hk : c ≠ 116 ∧ c ≠ 117 ∧ c ≠ 133 ∧ c ≠ 136 ∧ c ≠ 145 ∧ c ≠ 146 ∧ c ≠ 147 ∧ c ≠ 148 ∧ c ≠ 121 ∧ c ≠ 123 ∧ c ≠ 125 := by omega
       have hr : c < 96 ∨ (96 ≤ c ∧ c ≤ 113 ∧ 2 ≤ c % 4) ∨ (113 < c ∧ c < 120) ∨ (131 < c ∧ c < 145) ∨ 147 < c := by omega
       clear hn
       have q116 : (c == 116) = false := (by rw [beq_eq_false_iff_ne]; omega); have q117 : (c == 117) = false := (by rw [beq_eq_false_iff_ne]; omega); have q133 : (c == 133) = false := (by rw [beq_eq_false_iff_ne]; omega); have q136 : (c == 136) = false := (by rw [beq_eq_false_iff_ne]; omega); have q148 : (c == 148) = false := (by rw [beq_eq_false_iff_ne]; omega); have q121 : (c == 121) = false := (by rw [beq_eq_false_iff_ne]; omega); have q123 : (c == 123) = false := (by rw [beq_eq_false_iff_ne]; omega); have q125 : (c == 125) = false := (by rw [beq_eq_false_iff_ne]; omega)
       obtain ⟨_, _, _, _, _, _, _, _, _, _, _⟩ := hk
       rcases hr with hr | ⟨h1, h2, h3⟩ | ⟨h1, h2⟩ | ⟨h1, h2⟩ | hr
       all_goals
         go_enter Try.func17, Try.ntmps17
         go_wp2
         go_ret3
         exact ⟨rfl, rfl⟩)
end Go.Proofs.Ytjhjpifdknhkeaa
