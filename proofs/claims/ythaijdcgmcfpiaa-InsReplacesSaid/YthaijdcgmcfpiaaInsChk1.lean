/- Contracts of the small words of Check. -/
import Derived.Test.YthaijdcgmcfpiaaInsChk0
import Derived.Test.YthaijdcgmcfpiaaInsUsesX
import Derived.Test.YthaijdcgmcfpiaaInsRef
import Derived.BigQuiet
namespace Go.Proofs.Ythaijdcgmcfpiaa
open Go.RowKit Go
set_option linter.unusedVariables false
set_option linter.unusedSimpArgs false

abbrev fuL (a b : Value) (ret : Int) (d e : Value) : Value := .agg #[a, b, .int .i64 ret, d, e]
set_option maxRecDepth 100000 in
theorem isAt_any (i n : Int) (w : World) : Calls Try.prog 77 #[.int .i64 i, .int .i64 n] w fun e w' => e = .returned (.bool (decide (0 ≤ i) && decide (i < n))) ∧ w = w' := by
  by_cases h1 : 0 ≤ i <;> by_cases h2 : i < n
  all_goals
    go_enter Try.func77, Try.ntmps77
    go_wp2
    go_ret
    exact ⟨ret_bool (by simp [h1, h2]), rfl⟩
theorem isAt_r (i n : Int) (r : Bool) (w : World) (h : Hid ((decide (0 ≤ i) && decide (i < n)) = r)) : Calls Try.prog 77 #[.int .i64 i, .int .i64 n] w fun e w' => e = .returned (.bool r) ∧ w = w' := by
  have := isAt_any i n w
  rwa [h.out] at this
set_option maxRecDepth 100000 in
theorem isKind_any (k : Int) (w : World) : Calls Try.prog 76 #[.int .i64 k] w fun e w' => e = .returned (.bool (isKindB k)) ∧ w = w' := by
  unfold isKindB
  by_cases h1 : 1 ≤ k <;> by_cases h2 : k ≤ 3
  all_goals try (exfalso; omega)
  all_goals
    go_enter Try.func76, Try.ntmps76
    go_wp2
    go_ret
    exact ⟨ret_bool (by simp [h1, h2]), rfl⟩
theorem isKind_r (k : Int) (r : Bool) (w : World) (h : Hid (isKindB k = r)) : Calls Try.prog 76 #[.int .i64 k] w fun e w' => e = .returned (.bool r) ∧ w = w' := by
  have := isKind_any k w
  rwa [h.out] at this
set_option maxHeartbeats 1000000 in
set_option maxRecDepth 100000 in
theorem kindOf_any {P : Nat → Prop} (rs : List Int) (a b : Value) (ret : Int) (d e : Value) (r : Int) (w : World) (h : Hid (RdX P 1 NuE w a rs)) (hr : r = -1 ∨ (0 ≤ r ∧ r < rs.length)) :
    Calls Try.prog 92 #[fuL a b ret d e, .int .i64 r] w fun e w' => e = .returned (.int .i64 (kd rs r)) ∧ Below w.heap.size w w' := by
  rcases hr with rfl | ⟨h0, h1⟩
  · go_enter Try.func92, Try.ntmps92
    go_wp2
    go_ret
    exact ⟨rfl, (Below.refl w.heap.size w).alloc (Nat.le_refl _) _⟩
  · obtain ⟨k, h2, h3⟩ := kd_in h0 h1
    have H3 := lhid h3
    obtain ⟨A, cap, rfl⟩ := h.out.shape
    obtain ⟨g, o, cc, rfl, _, hE, hc⟩ := h.out.at' h2
    obtain ⟨n, rfl⟩ : ∃ n : Nat, r = n := ⟨r.toNat, by omega⟩
    have c0 : w.cell? ⟨g, o + n, none⟩ = some (.int .i64 k) := by
      have := hc 0 (.int .i64 k) (by rw [hE]; rfl)
      simpa using this
    have hg : g < w.heap.size := cell_lt c0
    have hg2 : ¬ g = w.heap.size := by omega
    have n1 : ((n : Int) == -1) = false := by rw [beq_eq_false_iff_ne]; omega
    clear h2 h3 hE hc
    go_enter Try.func92, Try.ntmps92
    go_wp2
    go_ret
    exact ⟨by rw [H3.out]; rfl, (Below.refl w.heap.size w).alloc (Nat.le_refl _) _⟩
theorem kindOf_r {P : Nat → Prop} (rs : List Int) (a b : Value) (ret : Int) (d e : Value) (r k : Int) (w : World) (h : Hid (RdX P 1 NuE w a rs)) (hr : r = -1 ∨ (0 ≤ r ∧ r < rs.length)) (hk : Hid (kd rs r = k)) :
    Calls Try.prog 92 #[fuL a b ret d e, .int .i64 r] w fun e w' => e = .returned (.int .i64 k) ∧ Below w.heap.size w w' := by
  have := kindOf_any rs a b ret d e r w h hr
  rwa [hk.out] at this
theorem has_r (f k : Int) (r : Bool) (w : World) (hf : Hid (f ∈ setsL)) (hk : Hid (k = 0 ∨ k = 1 ∨ k = 2 ∨ k = 3)) (hr : Hid (hasB f k = r)) :
    Calls Try.prog 52 #[.int .u64 f, .int .i64 k] w fun e w' => e = .returned (.bool r) ∧ w = w' := by
  have := has_any f k hf.out hk.out w
  rwa [hr.out] at this
set_option maxHeartbeats 1000000 in
set_option maxRecDepth 100000 in
theorem mayBe_any {P : Nat → Prop} (rs : List Int) (a b : Value) (ret : Int) (d e : Value) (r f : Int) (w : World) (h : Hid (RdX P 1 NuE w a rs)) (hk : Hid (KR rs)) (hf : Hid (f ∈ setsL)) :
    Calls Try.prog 91 #[fuL a b ret d e, .int .i64 r, .int .u64 f] w fun e w' => e = .returned (.bool (mayB rs r f)) ∧ Below w.heap.size w w' := by
  by_cases hz : f = 0
  · subst hz
    have HM := lhid (show mayB rs r 0 = true from rfl)
    go_enter Try.func91, Try.ntmps91
    go_wp2
    go_ret
    exact ⟨by rw [HM.out]; rfl, (Below.refl w.heap.size w).alloc (Nat.le_refl _) _⟩
  have z0 : (f == 0) = false := by rw [beq_eq_false_iff_ne]; exact hz
  by_cases hr : r = -1
  · subst hr
    obtain ⟨z, hm⟩ : ∃ z, hasB f 0 = z := ⟨_, rfl⟩
    have HZ := lhid hm
    have HM := lhid (show mayB rs (-1) f = z by unfold mayB; rw [z0]; simp [hm])
    clear hm hz
    go_enter Try.func91, Try.ntmps91
    go_wp2_with fail
    with_reducible refine (has_r f 0 z _ hf (lhid (.inl rfl)) HZ).mono ?_
    rintro e w1 ⟨rfl, rfl⟩
    go_wp2_with fail
    go_ret
    exact ⟨by rw [HM.out]; rfl, (Below.refl w.heap.size w).alloc (Nat.le_refl _) _⟩
  have r0 : (r == -1) = false := by rw [beq_eq_false_iff_ne]; exact hr
  obtain ⟨A, cap, rfl⟩ := h.out.shape
  by_cases hin : 0 ≤ r ∧ r < rs.length
  · obtain ⟨k, h2, h3⟩ := kd_in hin.1 hin.2
    have hkk := kd_kr hk.out hin.1 hin.2
    rw [h3] at hkk
    have HKK := lhid (show k = 0 ∨ k = 1 ∨ k = 2 ∨ k = 3 from .inr hkk)
    obtain ⟨z, hm⟩ : ∃ z, hasB f k = z := ⟨_, rfl⟩
    have HZ := lhid hm
    have HM := lhid (show mayB rs r f = z by unfold mayB; rw [z0, if_neg hr, h3, hm]; simp [hin.1, hin.2])
    obtain ⟨g, o, cc, rfl, _, hE, hc⟩ := h.out.at' h2
    obtain ⟨n, rfl⟩ : ∃ n : Nat, r = n := ⟨r.toNat, by omega⟩
    have c0 : w.cell? ⟨g, o + n, none⟩ = some (.int .i64 k) := by
      have := hc 0 (.int .i64 k) (by rw [hE]; rfl)
      simpa using this
    have hg : g < w.heap.size := cell_lt c0
    have hg2 : ¬ g = w.heap.size := by omega
    have HA := lhid (show (decide ((0 : Int) ≤ n) && decide ((n : Int) < rs.length)) = true by simp [hin.1, hin.2])
    have n1 : (n : Int) < rs.length := hin.2
    clear h2 h3 hE hc hin hkk hm hz hr
    go_enter Try.func91, Try.ntmps91
    go_wp2_with fail
    with_reducible refine (isAt_r _ _ true _ HA).mono ?_
    rintro e w1 ⟨rfl, rfl⟩
    go_wp2_with fail
    with_reducible refine (has_r f k z _ hf HKK HZ).mono ?_
    rintro e w1 ⟨rfl, rfl⟩
    go_wp2_with fail
    go_ret
    exact ⟨by rw [HM.out]; rfl, (Below.refl w.heap.size w).alloc (Nat.le_refl _) _⟩
  · have HA := lhid (show (decide ((0 : Int) ≤ r) && decide (r < rs.length)) = false by rw [Bool.and_eq_false_iff, decide_eq_false_iff_not, decide_eq_false_iff_not]; omega)
    have HM := lhid (show mayB rs r f = false by unfold mayB; rw [z0, if_neg hr, HA.out]; rfl)
    clear hin hr hz
    go_enter Try.func91, Try.ntmps91
    go_wp2_with fail
    with_reducible refine (isAt_r _ _ false _ HA).mono ?_
    rintro e w1 ⟨rfl, rfl⟩
    go_wp2_with fail
    go_ret
    exact ⟨by rw [HM.out]; rfl, (Below.refl w.heap.size w).alloc (Nat.le_refl _) _⟩
theorem mayBe_r {P : Nat → Prop} (rs : List Int) (a b : Value) (ret : Int) (d e : Value) (r f : Int) (z : Bool) (w : World) (h : Hid (RdX P 1 NuE w a rs)) (hk : Hid (KR rs)) (hf : Hid (f ∈ setsL)) (hz : Hid (mayB rs r f = z)) :
    Calls Try.prog 91 #[fuL a b ret d e, .int .i64 r, .int .u64 f] w fun e w' => e = .returned (.bool z) ∧ Below w.heap.size w w' := by
  have := mayBe_any rs a b ret d e r f w h hk hf
  rwa [hz.out] at this
end Go.Proofs.Ythaijdcgmcfpiaa
