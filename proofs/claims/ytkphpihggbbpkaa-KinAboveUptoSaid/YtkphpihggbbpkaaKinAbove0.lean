/- Names, light; what stands above whom, for KinAbove. -/
import Derived.Test.YtkphpihggbbpkaaKinSort
import Derived.Test.YtkphpihggbbpkaaKinRoot
import Derived.Test.YtkphpihggbbpkaaKinLight
namespace Go.Proofs.Ytkphpihggbbpkaa
open Go.RowKit Go Go.Maps
set_option linter.unusedVariables false

set_option maxHeartbeats 8000000 in
set_option maxRecDepth 100000 in
theorem names_any (B tb : Nat) (L : List ClI) (w : World) (hT : Hid (TreeOK B w tb L)) :
    Calls Try.prog 8 #[.pointer (some ⟨tb, 0, none⟩)] w fun e w' => ∃ v, e = .returned v ∧ RdX (fun g => w.heap.size ≤ g) 1 StE w' v (names L) ∧ Below w.heap.size w w' := by
  obtain ⟨⟨cb, ab, n, v0, g1, g2, g3, g4⟩, g6⟩ := hT.out
  have t0 := heap_cell (i := 0) g1 rfl
  have G2 := lhid g2
  clear g1 g2 g3 g4 g6
  obtain ⟨A0, c0, rfl⟩ := G2.out.shape
  go_enter Try.func8, Try.ntmps8
  go_wp2_with fail
  refine (clone_st row_st (.slice A0 (names L).length c0) (names L) w G2).mono ?_
  rintro e w1 ⟨v1, xs, rfl, ho, hr, hb⟩
  have HR := lhid ((rdX_own (E := StE) ho G2.out.len hr).any (Q := fun g => w.heap.size ≤ g) fun g hg => hg.1)
  have HB := lhid hb
  clear ho hr hb
  go_wp2_with fail
  go_ret
  exact ⟨v1, by rfl, HR.out, HB.out⟩
/-- A sorted list without repeats rises. -/
theorem sortB_rises (l0 : List Bs) (h : l0.Nodup) : (sortB l0).Pairwise (fun x y => x < y) := by
  have h1 : (sortB l0).Pairwise (fun x y => x ≤ y) := by
    have := List.pairwise_mergeSort (le := fun x y : Bs => decide (x ≤ y)) (fun a b c h1 h2 => by simp at h1 h2 ⊢; exact List.le_trans h1 h2) (fun a b => by simp; exact List.le_total a b) l0
    exact this.imp (fun h => by simpa using h)
  have h2 : (sortB l0).Nodup := (List.mergeSort_perm l0 _).nodup_iff.2 h
  exact (h1.and h2).imp (fun {a b} h => by
    rcases Classical.em (a < b) with h3 | h3
    · exact h3
    · exact absurd (List.le_antisymm h.1 (List.not_lt.1 h3)) h.2)
end Go.Proofs.Ytkphpihggbbpkaa
