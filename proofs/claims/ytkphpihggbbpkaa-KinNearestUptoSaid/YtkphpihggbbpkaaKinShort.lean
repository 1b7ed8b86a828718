/- Classes of an argument have short names. -/
import Derived.Test.YtkphpihggbbpkaaKinOpen
import Derived.Test.YtkphpihggbbpkaaKinNew
namespace Go.Proofs.Ytkphpihggbbpkaa
open Go.RowKit Go
set_option linter.unusedVariables false

theorem short_q {l : List ClI} (h : ∀ c ∈ l, ClQ c) : Short l := by
  intro c hc
  obtain ⟨_, h2, h3, ⟨h4, _⟩, _⟩ := h c hc
  unfold T20 at h2 h3
  refine ⟨by unfold maxLen; omega, by unfold maxLen; omega, fun i hi => ?_⟩
  have := h4 i hi
  unfold T20 at this
  unfold maxLen
  omega
theorem ifaces_q {l : List ClI} (h : ∀ c ∈ l, ClQ c) : ∀ c ∈ ownL ++ l, c.ifaces.length ≤ 1048576 := by
  intro c hc
  rcases List.mem_append.1 hc with hc | hc
  · rw [(own_names c hc).2.2.1]; simp
  · exact (h c hc).2.2.2.1.2
end Go.Proofs.Ytkphpihggbbpkaa
