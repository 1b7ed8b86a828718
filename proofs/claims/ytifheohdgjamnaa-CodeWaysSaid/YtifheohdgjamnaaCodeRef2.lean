/- Contracts of the document's sizes, and what leads and ends. -/
import Derived.Test.YtifheohdgjamnaaCodeRef
import Derived.Test.YtifheohdgjamnaaCodeMem
namespace Go.Proofs.Ytifheohdgjamnaa
open Go.RowKit Go
set_option linter.unusedVariables false

theorem rrow_r (c : Int) (r : Nat) (w : World) (h : Hid (rowN c = r)) :
    Calls Try.prog 22 #[.int .i64 c] w fun e w' => e = .returned (.int .i64 r) ∧ Below w.heap.size w w' := by
  have := rrow_any c w
  rwa [h.out] at this
theorem rleads_r (c : Int) (w : World) :
    Calls Try.prog 17 #[.int .i64 c] w fun e w' => e = .returned (.bool (decide (rowN c = 6))) ∧ w = w' :=
  rleads_any c _ w (lhid (by rw [Bool.eq_iff_iff, decide_eq_true_eq, decide_eq_true_eq]; exact lead_row c))
set_option maxHeartbeats 1000000 in
set_option maxRecDepth 100000 in
theorem rends_any (c : Int) (w : World) :
    Calls Try.prog 19 #[.int .i64 c] w fun e w' => e = .returned (.bool (decide (c ∈ ends))) ∧ Below w.heap.size w w' := by
  go_enter Try.func19, Try.ntmps19
  go_wp2_with fail
  with_reducible refine (among_r c _ ends _ _ (rdi_new _ _ _ _ _ _ _ (by with_unfolding_all rfl) (by with_unfolding_all rfl) (by decide) (by simp)) (lhid rfl)).mono ?_
  rintro e w1 ⟨rfl, rfl⟩
  go_wp2_with fail
  go_ret
  exact ⟨rfl, (Below.refl w.heap.size w).alloc (Nat.le_refl _) _⟩
set_option maxHeartbeats 1000000 in
set_option maxRecDepth 100000 in
theorem rsize_any (c : Int) (w : World) :
    Calls Try.prog 15 #[.int .i64 c] w fun e w' => e = .returned (.int .i64 (szN c)) ∧ Below w.heap.size w w' := by
  have hle := rowN_le c
  obtain ⟨r, hr⟩ : ∃ r, rowN c = r := ⟨_, rfl⟩
  have HR := lhid hr
  unfold szN
  rw [hr] at hle ⊢
  clear hr
  rcases row_ways hle with rfl | rfl | rfl | rfl | rfl | rfl | rfl | rfl
  · go_enter Try.func15, Try.ntmps15
    go_wp2_with fail
    with_reducible refine (rrow_r c _ _ HR).mono ?_
    rintro e w1 ⟨rfl, hb⟩
    have hc : w1.cell? ⟨w.heap.size, 0, none⟩ = some (.int .i64 0) := (hb.cell (p := ⟨w.heap.size, 0, none⟩) (by simp)).trans (heap_cell (heap_alloc_new w _) rfl)
    have HB := lhid (((Below.refl w.heap.size w).alloc (Nat.le_refl _) _).trans (hb.mono (by simp)))
    clear hb
    go_wp2_with fail
    go_ret
    exact ⟨rfl, HB.out⟩
  · go_enter Try.func15, Try.ntmps15
    go_wp2_with fail
    with_reducible refine (rrow_r c _ _ HR).mono ?_
    rintro e w1 ⟨rfl, hb⟩
    have hc : w1.cell? ⟨w.heap.size, 1, none⟩ = some (.int .i64 1) := (hb.cell (p := ⟨w.heap.size, 1, none⟩) (by simp)).trans (heap_cell (heap_alloc_new w _) rfl)
    have HB := lhid (((Below.refl w.heap.size w).alloc (Nat.le_refl _) _).trans (hb.mono (by simp)))
    clear hb
    go_wp2_with fail
    go_ret
    exact ⟨rfl, HB.out⟩
  · go_enter Try.func15, Try.ntmps15
    go_wp2_with fail
    with_reducible refine (rrow_r c _ _ HR).mono ?_
    rintro e w1 ⟨rfl, hb⟩
    have hc : w1.cell? ⟨w.heap.size, 2, none⟩ = some (.int .i64 2) := (hb.cell (p := ⟨w.heap.size, 2, none⟩) (by simp)).trans (heap_cell (heap_alloc_new w _) rfl)
    have HB := lhid (((Below.refl w.heap.size w).alloc (Nat.le_refl _) _).trans (hb.mono (by simp)))
    clear hb
    go_wp2_with fail
    go_ret
    exact ⟨rfl, HB.out⟩
  · go_enter Try.func15, Try.ntmps15
    go_wp2_with fail
    with_reducible refine (rrow_r c _ _ HR).mono ?_
    rintro e w1 ⟨rfl, hb⟩
    have hc : w1.cell? ⟨w.heap.size, 3, none⟩ = some (.int .i64 2) := (hb.cell (p := ⟨w.heap.size, 3, none⟩) (by simp)).trans (heap_cell (heap_alloc_new w _) rfl)
    have HB := lhid (((Below.refl w.heap.size w).alloc (Nat.le_refl _) _).trans (hb.mono (by simp)))
    clear hb
    go_wp2_with fail
    go_ret
    exact ⟨rfl, HB.out⟩
  · go_enter Try.func15, Try.ntmps15
    go_wp2_with fail
    with_reducible refine (rrow_r c _ _ HR).mono ?_
    rintro e w1 ⟨rfl, hb⟩
    have hc : w1.cell? ⟨w.heap.size, 4, none⟩ = some (.int .i64 3) := (hb.cell (p := ⟨w.heap.size, 4, none⟩) (by simp)).trans (heap_cell (heap_alloc_new w _) rfl)
    have HB := lhid (((Below.refl w.heap.size w).alloc (Nat.le_refl _) _).trans (hb.mono (by simp)))
    clear hb
    go_wp2_with fail
    go_ret
    exact ⟨rfl, HB.out⟩
  · go_enter Try.func15, Try.ntmps15
    go_wp2_with fail
    with_reducible refine (rrow_r c _ _ HR).mono ?_
    rintro e w1 ⟨rfl, hb⟩
    have hc : w1.cell? ⟨w.heap.size, 5, none⟩ = some (.int .i64 3) := (hb.cell (p := ⟨w.heap.size, 5, none⟩) (by simp)).trans (heap_cell (heap_alloc_new w _) rfl)
    have HB := lhid (((Below.refl w.heap.size w).alloc (Nat.le_refl _) _).trans (hb.mono (by simp)))
    clear hb
    go_wp2_with fail
    go_ret
    exact ⟨rfl, HB.out⟩
  · go_enter Try.func15, Try.ntmps15
    go_wp2_with fail
    with_reducible refine (rrow_r c _ _ HR).mono ?_
    rintro e w1 ⟨rfl, hb⟩
    have hc : w1.cell? ⟨w.heap.size, 6, none⟩ = some (.int .i64 3) := (hb.cell (p := ⟨w.heap.size, 6, none⟩) (by simp)).trans (heap_cell (heap_alloc_new w _) rfl)
    have HB := lhid (((Below.refl w.heap.size w).alloc (Nat.le_refl _) _).trans (hb.mono (by simp)))
    clear hb
    go_wp2_with fail
    go_ret
    exact ⟨rfl, HB.out⟩
  · go_enter Try.func15, Try.ntmps15
    go_wp2_with fail
    with_reducible refine (rrow_r c _ _ HR).mono ?_
    rintro e w1 ⟨rfl, hb⟩
    have hc : w1.cell? ⟨w.heap.size, 7, none⟩ = some (.int .i64 3) := (hb.cell (p := ⟨w.heap.size, 7, none⟩) (by simp)).trans (heap_cell (heap_alloc_new w _) rfl)
    have HB := lhid (((Below.refl w.heap.size w).alloc (Nat.le_refl _) _).trans (hb.mono (by simp)))
    clear hb
    go_wp2_with fail
    go_ret
    exact ⟨rfl, HB.out⟩
end Go.Proofs.Ytifheohdgjamnaa
