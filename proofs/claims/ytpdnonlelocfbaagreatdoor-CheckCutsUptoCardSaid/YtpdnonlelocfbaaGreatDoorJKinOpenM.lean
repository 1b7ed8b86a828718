/- A method of an argument: its code can be cut. -/
import Derived.Test.YtpdnonlelocfbaaGreatDoorM22
namespace Go.Proofs.YtpdnonlelocfbaaGreatDoor
open Go.RowKit Go
set_option linter.unusedVariables false
section
variable {H : Type} {enc : TypeId × Value → H} {w : World} {base : Nat}
theorem me_eachC (fuel : Nat) (cs : List Value) (d : DataW H) (ps : List MemPlace) (hl : cs.length = 8) (h : DataW.trod enc Tryz.prog w base (fun _ => true) true fuel 27 cs = some (d, ps)) (hb : Rows.uptoBulk d ≤ 1048576) :
    ∃ x : MeI, MeE Tru w x cs ∧ MeQ x ∧ ∀ A n cap, cs[5]? = some (.slice A n cap) → n ≤ cap ∧ cap ≤ maxLen := by
  obtain ⟨x, h1, h2⟩ := me_each fuel cs d ps hl h hb
  refine ⟨x, h1, h2, ?_⟩
  obtain ⟨parts, rfl, hpl, hf⟩ := fields_of Tryz.underlying27 h hb
  replace hpl : parts.length = 8 := hpl
  match cs, hl, parts, hpl with
  | [y0, y1, y2, y3, y4, y5, y6, y7], _, [d0, d1, d2, d3, d4, d5, d6, d7], _ =>
    obtain ⟨n5, z5, p5, a5, g5, w5⟩ := hf 5 _ rfl
    simp at a5
    subst a5
    simp [ocLuint8] at g5
    intro A n cap he
    rcases Go.Deep.open_slice Tryz.underlying23 g5 with ⟨hcs, _⟩ | ⟨a, len, cap', m, n', D, Pl, hcs, _, hl, hm, _⟩
    · simp at hcs
      subst hcs
      simp at he
      obtain ⟨_, rfl, rfl⟩ := he
      exact ⟨Nat.le_refl _, Nat.zero_le _⟩
    · simp at hcs
      subst hcs
      simp at he
      obtain ⟨_, rfl, rfl⟩ := he
      exact ⟨hl, hm⟩
end
end Go.Proofs.YtpdnonlelocfbaaGreatDoor
