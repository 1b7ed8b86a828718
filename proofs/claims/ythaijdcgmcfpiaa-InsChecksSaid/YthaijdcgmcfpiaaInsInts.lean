/- Contracts of the document's Ints, Def, Uses. -/
import Derived.Test.YthaijdcgmcfpiaaInsRUses
import Derived.BigQuiet
namespace Go.Proofs.Ythaijdcgmcfpiaa
open Go.RowKit Go
set_option linter.unusedVariables false
set_option linter.unusedSimpArgs false

theorem take_on {α : Type} {l m : List α} {k : Nat} {x y : α} (hx : l[k]? = some x) (hy : m[k]? = some y) (h : l.take k = m.take k) (e : x = y) : l.take (k + 1) = m.take (k + 1) := by
  rw [List.take_add_one, List.take_add_one, hx, hy, h, e]
theorem ne_at {α : Type} {l m : List α} {k : Nat} {x y : α} (hx : l[k]? = some x) (hy : m[k]? = some y) (e : x ≠ y) : l ≠ m := fun h => e (by rw [h, hy] at hx; exact (Option.some.inj hx).symm)
set_option maxHeartbeats 4000000 in
set_option maxRecDepth 100000 in
theorem rints_any {P Q : Nat → Prop} (v u : Value) (l m : List Int) (w : World) (h1 : Hid (RdX P 1 NuE w v l)) (h2 : Hid (RdX Q 1 NuE w u m)) :
    Calls Try.prog 13 #[v, u] w fun e w' => e = .returned (.bool (decide (l = m))) ∧ ∃ n, w' = w.drewN n := by
  obtain ⟨A, cA, rfl⟩ := h1.out.shape
  obtain ⟨B, cB, rfl⟩ := h2.out.shape
  have hl1 := h1.out.len
  have hl2 := h2.out.len
  by_cases hlen : l.length = m.length
  case neg =>
    have e1 : ((l.length : Int) == m.length) = false := by rw [beq_eq_false_iff_ne]; omega
    have e2 : ((l.length : Int) != m.length) = true := by rw [bne, e1]; rfl
    have HNE : Hid (l ≠ m) := lhid (fun e => hlen (by rw [e]))
    clear hlen
    go_enter Try.func13, Try.ntmps13
    go_wp2_with fail
    go_ret
    exact ⟨ret_bool (by rw [decide_eq_false HNE.out]), 0, rfl⟩
  have e1 : ((l.length : Int) == m.length) = true := by rw [beq_iff_eq]; omega
  have e2 : ((l.length : Int) != m.length) = false := by rw [bne, e1]; rfl
  have HL := lhid hlen
  clear hlen
  go_enter Try.func13, Try.ntmps13
  go_wp2_with fail
  go_loopw [5] (fun i wr => ∃ k n : Nat, i = .int .i64 k ∧ k ≤ l.length ∧ Hid (l.take k = m.take k) ∧ wr = w.drewN n) (fun i _ => l.length - (intOf i).toNat)
  case atStart => exact ⟨0, 0, rfl, Nat.zero_le _, lhid (by simp), rfl⟩
  case round =>
    obtain ⟨k, n, rfl, hk, HE, rfl⟩ := hrel
    by_cases hlt : k < l.length
    · have hmt : k < m.length := by have := HL.out; omega
      obtain ⟨x, hx⟩ : ∃ x, l[k]? = some x := ⟨_, List.getElem?_eq_getElem hlt⟩
      obtain ⟨y, hy⟩ : ∃ y, m[k]? = some y := ⟨_, List.getElem?_eq_getElem hmt⟩
      have HX := lhid hx
      have HY := lhid hy
      obtain ⟨g, o, cc, rfl, _, hE, hc⟩ := h1.out.at' hx
      obtain ⟨g', o', cc', rfl, _, hE', hd⟩ := h2.out.at' hy
      have c0 : w.cell? ⟨g, o + k, none⟩ = some (.int .i64 x) := by
        have := hc 0 (.int .i64 x) (by rw [hE]; rfl)
        rwa [Nat.mul_one] at this
      have d0 : w.cell? ⟨g', o' + k, none⟩ = some (.int .i64 y) := by
        have := hd 0 (.int .i64 y) (by rw [hE']; rfl)
        rwa [Nat.mul_one] at this
      have k3 : (k : Int) < l.length := by omega
      have k4 : (k : Int) < m.length := by omega
      clear hx hy hc hd hE hE'
      by_cases q0 : x = y
      case neg =>
        have HNE : Hid (l ≠ m) := lhid (ne_at HX.out HY.out (fun e => q0 e))
        go_wp2_with fail
        go_quiet (fail)
        go_wp2_with fail
        go_ret
        exact ⟨ret_bool (by rw [decide_eq_false HNE.out]), _, World.drewN_drewN _ _ _⟩
      have HE2 : Hid (l.take (k + 1) = m.take (k + 1)) := lhid (take_on HX.out HY.out HE.out q0)
      go_wp2_with fail
      go_quiet (fail)
      go_wp2_with fail
      go_roundw
      case rel => exact ⟨k + 1, _, by go_num, by omega, HE2, rfl⟩
      case measure => simp [intOf]; omega
    · have k3 : ¬ (k : Int) < l.length := by omega
      have hn := HE.out
      have hL := HL.out
      rw [List.take_of_length_le (by omega), List.take_of_length_le (by omega)] at hn
      have HN2 := lhid hn
      clear hn HE hL
      go_wp2_with fail
      go_ret
      exact ⟨ret_bool (by rw [decide_eq_true HN2.out]), n, rfl⟩
theorem wr_row (c : Int) : (rowT c = [] ∧ wrB c = false) ∨ ∃ s0 s1 s2 s3, rowT c = [s0, s1, s2, s3] ∧ wrB c = !(s0 == 45) := by
  by_cases ho : c < 1 ∨ 34 ≤ c
  · exact .inl ⟨(out_of c ho).2.2.2.2.2.2.2.2, (out_of c ho).2.1⟩
  · refine .inr ?_
    have hw := op_ways c
    rcases hw with rfl | rfl | rfl | rfl | rfl | rfl | rfl | rfl | rfl | rfl | rfl | rfl | rfl | rfl | rfl | rfl | rfl | rfl | rfl | rfl | rfl | rfl | rfl | rfl | rfl | rfl | rfl | rfl | rfl | rfl | rfl | rfl | rfl | h | h
    all_goals first
      | (exfalso; omega)
      | exact ⟨_, _, _, _, rfl, by decide⟩
set_option maxHeartbeats 4000000 in
set_option maxRecDepth 100000 in
theorem rdef_any (x : InI) (v : Value) (w : World) :
    Calls Try.prog 17 #[inA x v] w fun e w' => e = .returned (.int .i64 (defI x)) ∧ Below w.heap.size w w' := by
  obtain ⟨c, d, a, b, k, n, t, r, l⟩ := x
  have HF : ∀ w, Hid (Calls Try.prog 53 #[.int .i64 c] w fun e w' => e = .returned (.string (tx (rowT c))) ∧ Below w.heap.size w w') := fun w => lhid (rrow_any c w)
  have hd := wr_row c
  show Calls Try.prog 17 #[inL c d a b k n t r v] w fun e w' => e = .returned (.int .i64 (if wrB c then d else -1)) ∧ Below w.heap.size w w'
  generalize wrB c = z at *
  generalize rowT c = rw' at *
  rcases hd with ⟨rfl, rfl⟩ | ⟨s0, s1, s2, s3, rfl, hz⟩
  · go_enter Try.func17, Try.ntmps17
    go_wp2_with fail
    with_reducible refine (HF _).out.mono ?_
    rintro e w1 ⟨rfl, hb⟩
    have HB := lhid (((Below.refl w.heap.size w).alloc (Nat.le_refl _) _).trans (hb.mono (by simp)))
    clear hb
    have q0 := tx_nil
    go_wp2_with fail
    go_ret
    exact ⟨rfl, HB.out⟩
  · obtain ⟨sv, hsv⟩ : ∃ sv, tx [s0, s1, s2, s3] = sv := ⟨_, rfl⟩
    have b0 : 0 < sv.size := by rw [← hsv, tx_size]; simp
    have e0 : sv[0] = s0 := by subst hsv; rfl
    have q1 : (sv.toList == ([] : Bs)) = false := by rw [← hsv, tx_toL]; rfl
    have q2 : sv.toList.isEmpty = false := by rw [← hsv, tx_toL]; rfl
    have q4 : ¬ sv.toList = [] := by rw [← hsv, tx_toL]; simp
    have key : (sv[0].toNat : Int) = 45 ∧ z = false ∨ ¬ (sv[0].toNat : Int) = 45 ∧ z = true := by
      rw [e0, hz]
      by_cases h : s0 = 45
      · exact .inl (by rw [h]; exact ⟨rfl, rfl⟩)
      · refine .inr ⟨fun e => h ?_, by simp [h]⟩
        apply UInt8.toNat_inj.1
        exact_mod_cast e
    rw [hsv] at HF
    clear e0 hsv hz
    rcases key with ⟨t0, rfl⟩ | ⟨t0, rfl⟩
    all_goals
      go_enter Try.func17, Try.ntmps17
      go_wp2_with fail
      with_reducible refine (HF _).out.mono ?_
      rintro e w1 ⟨rfl, hb⟩
      have c1 : w1.cell? ⟨w.heap.size, 1, none⟩ = some (.int .i64 d) := (hb.cell (p := ⟨w.heap.size, 1, none⟩) (by simp)).trans (heap_cell (heap_alloc_new w _) rfl)
      have HB := lhid (((Below.refl w.heap.size w).alloc (Nat.le_refl _) _).trans (hb.mono (by simp)))
      clear hb
      go_wp2_with fail
      go_ret
      exact ⟨rfl, HB.out⟩
end Go.Proofs.Ythaijdcgmcfpiaa
