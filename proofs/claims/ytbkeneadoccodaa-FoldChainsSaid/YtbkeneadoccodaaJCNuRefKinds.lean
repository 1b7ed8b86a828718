/- Contract of the document's Kinds. -/
import Derived.Test.YtbkeneadoccodaaM4
import Derived.OwnWalk
namespace Go.Proofs.Ytbkeneadoccodaa.Nu
open Go.RowKit Go
set_option linter.unusedVariables false
set_option maxHeartbeats 4000000 in
theorem refKinds_any (c : Int) (hc : -9223372036854775808 ≤ c ∧ c ≤ 9223372036854775807) (w : World) : Calls Try.prog 52 #[.int .i64 c] w fun e w' => e = .returned (.tuple #[.int .i64 (knd c).1, .int .i64 (knd c).2.1, .int .i64 (knd c).2.2]) ∧ w = w' := by
  rcases knd_cases c with rfl | rfl | rfl | rfl | rfl | rfl | rfl | rfl | rfl | rfl | rfl | rfl | rfl | rfl | rfl | rfl | rfl | rfl | rfl | rfl | rfl | rfl | rfl | rfl | rfl | rfl | rfl | rfl | rfl | rfl | hn
  all_goals first
    | (go_enter Try.func52, Try.ntmps52; go_wp2; go_ret3; exact ⟨rfl, rfl⟩)
    | (have HN := Lib.hid (knd_none c hn)
       rw [HN.out]
       have hk : c ≠ 116 ∧ c ≠ 117 ∧ c ≠ 133 ∧ c ≠ 136 ∧ c ≠ 145 ∧ c ≠ 146 ∧ c ≠ 147 ∧ c ≠ 148 ∧ c ≠ 121 ∧ c ≠ 123 ∧ c ≠ 125 := by omega
       have hr : c < 96 ∨ (96 ≤ c ∧ c ≤ 113 ∧ 2 ≤ c % 4) ∨ (113 < c ∧ c < 120) ∨ (131 < c ∧ c < 145) ∨ 147 < c := by omega
       clear hn
       have q116 : (c == 116) = false := (by rw [beq_eq_false_iff_ne]; omega); have q117 : (c == 117) = false := (by rw [beq_eq_false_iff_ne]; omega); have q133 : (c == 133) = false := (by rw [beq_eq_false_iff_ne]; omega); have q136 : (c == 136) = false := (by rw [beq_eq_false_iff_ne]; omega); have q148 : (c == 148) = false := (by rw [beq_eq_false_iff_ne]; omega); have q121 : (c == 121) = false := (by rw [beq_eq_false_iff_ne]; omega); have q123 : (c == 123) = false := (by rw [beq_eq_false_iff_ne]; omega); have q125 : (c == 125) = false := (by rw [beq_eq_false_iff_ne]; omega)
       obtain ⟨_, _, _, _, _, _, _, _, _, _, _⟩ := hk
       rcases hr with hr | ⟨h1, h2, h3⟩ | ⟨h1, h2⟩ | ⟨h1, h2⟩ | hr
       all_goals
         go_enter Try.func52, Try.ntmps52
         go_wp2
         go_ret3
         exact ⟨rfl, rfl⟩)
end Go.Proofs.Ytbkeneadoccodaa.Nu
