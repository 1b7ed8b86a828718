/- Contracts of the document's words on the table: Ints, in, row, Calls, Throws, Pure, Leads, Ends, Def. -/
import Derived.Test.YthaijdcgmcfpiaaInsTab
import Derived.Test.YthaijdcgmcfpiaaInsUses
namespace Go.Proofs.Ythaijdcgmcfpiaa
open Go.RowKit Go
set_option linter.unusedVariables false
set_option linter.unusedSimpArgs false

def Tru (_ : Nat) : Prop := True
/-- A slice of numbers that is written out. -/
theorem rd_lit (w : World) (l : List Int) (c : Array Value) (n m : Nat) (T : TypeId) (hc : c = (l.map fun z => Value.int .i64 z).toArray) (hn : n = l.length) (hl : l.length ≤ 140737488355328) : RdX Tru 1 NuE (w.alloc (.cells c T)) (.slice (some ⟨w.heap.size, 0, none⟩) n m) l := by
  subst hc hn
  refine ⟨_, m, rfl, fun e => (by cases e), hl, fun i a hi => ⟨w.heap.size, 0, [.int .i64 a], rfl, trivial, rfl, fun j u hj => ?_⟩⟩
  cases j with
  | succ j => simp at hj
  | zero =>
    simp at hj
    subst hj
    refine heap_cell (heap_alloc_new w _) ?_
    simp [hi]
set_option maxHeartbeats 1000000 in
set_option maxRecDepth 100000 in
theorem rin_any {P : Nat → Prop} (c : Int) (v : Value) (l : List Int) (w : World) (h : Hid (RdX P 1 NuE w v l)) :
    Calls Try.prog 54 #[.int .i64 c, v] w fun e w' => e = .returned (.bool (decide (c ∈ l))) ∧ w = w' := by
  obtain ⟨A, cap, rfl⟩ := h.out.shape
  have hl := h.out.len
  go_enter Try.func54, Try.ntmps54
  go_wp2_with fail
  go_loopw [5] (fun i wr => ∃ k : Nat, i = .int .i64 k ∧ k ≤ l.length ∧ Hid (c ∉ l.take k) ∧ wr = w) (fun i _ => l.length - (intOf i).toNat)
  case atStart => exact ⟨0, rfl, Nat.zero_le _, lhid (by simp), rfl⟩
  case round =>
    obtain ⟨k, rfl, hk, HN, rfl⟩ := hrel
    by_cases hlt : k < l.length
    · obtain ⟨x, hx⟩ : ∃ x, l[k]? = some x := ⟨_, List.getElem?_eq_getElem hlt⟩
      obtain ⟨g, o, cc, rfl, _, hE, hc⟩ := h.out.at' hx
      have c0 : wr.cell? ⟨g, o + k, none⟩ = some (.int .i64 x) := by
        have := hc 0 (.int .i64 x) (by rw [hE]; rfl)
        rwa [Nat.mul_one] at this
      have k3 : (k : Int) < l.length := by omega
      have HX := lhid hx
      clear hx hc hE
      by_cases hxc : x = c
      · have HM := lhid (List.mem_of_getElem? HX.out)
        have d0 : (x == c) = true := by rw [hxc]; simp
        have HXC := lhid hxc
        clear hxc
        go_wp2_with fail
        go_ret
        exact ⟨ret_bool (by rw [← HXC.out, decide_eq_true HM.out]), rfl⟩
      · have d0 : (x == c) = false := by rw [beq_eq_false_iff_ne]; exact hxc
        have HM2 : Hid (c ∉ l.take (k + 1)) := lhid (by rw [List.take_add_one, HX.out]; simp only [Option.toList_some, List.mem_append, List.mem_singleton, not_or]; exact ⟨HN.out, fun e => hxc e.symm⟩)
        clear hxc
        go_wp2_with fail
        go_roundw
        case rel => exact ⟨k + 1, by go_num, by omega, HM2, trivial⟩
        case measure => simp [intOf]; omega
    · have k3 : ¬ (k : Int) < l.length := by omega
      have hn := HN.out
      rw [List.take_of_length_le (by omega)] at hn
      have HN2 := lhid hn
      clear hn HN
      go_wp2_with fail
      go_ret
      exact ⟨ret_bool (by rw [decide_eq_false HN2.out]), rfl⟩
theorem rin_r {P : Nat → Prop} (c : Int) (v : Value) (l : List Int) (r : Bool) (w : World) (h : RdX P 1 NuE w v l) (hr : Hid (decide (c ∈ l) = r)) :
    Calls Try.prog 54 #[.int .i64 c, v] w fun e w' => e = .returned (.bool r) ∧ w = w' := by
  have := rin_any c v l w (lhid h)
  rwa [hr.out] at this
set_option maxHeartbeats 1000000 in
set_option maxRecDepth 100000 in
theorem rcalls_any (c : Int) (w : World) :
    Calls Try.prog 19 #[.int .i64 c] w fun e w' => e = .returned (.bool (callsB c)) ∧ w = w' := by
  have key : callsB c = (decide (23 ≤ c) && decide (c ≤ 26)) := by
    unfold callsB
    rw [Bool.eq_iff_iff]
    simp
    omega
  rw [key]
  by_cases h1 : 23 ≤ c <;> by_cases h2 : c ≤ 26
  all_goals
    go_enter Try.func19, Try.ntmps19
    go_wp2
    go_ret
    exact ⟨ret_bool (by simp [h1, h2]), rfl⟩
set_option maxHeartbeats 1000000 in
set_option maxRecDepth 100000 in
theorem rpure_any (c : Int) (w : World) :
    Calls Try.prog 23 #[.int .i64 c] w fun e w' => e = .returned (.bool (pureB c)) ∧ Below w.heap.size w w' := by
  go_enter Try.func23, Try.ntmps23
  go_wp2_with fail
  with_reducible refine (rin_r c _ [1, 2, 3, 4, 5, 6, 13, 15, 16, 18, 22] (pureB c) _ (rd_lit _ _ _ _ _ _ (by with_unfolding_all rfl) (by with_unfolding_all rfl) (by decide)) (lhid rfl)).mono ?_
  rintro e w1 ⟨rfl, rfl⟩
  go_wp2_with fail
  go_ret
  exact ⟨rfl, (Below.refl w.heap.size w).alloc (Nat.le_refl _) _⟩
set_option maxHeartbeats 1000000 in
set_option maxRecDepth 100000 in
theorem rleads_any (c : Int) (w : World) :
    Calls Try.prog 25 #[.int .i64 c] w fun e w' => e = .returned (.bool (leadsB c)) ∧ Below w.heap.size w w' := by
  go_enter Try.func25, Try.ntmps25
  go_wp2_with fail
  with_reducible refine (rin_r c _ [27, 28, 29] (leadsB c) _ (rd_lit _ _ _ _ _ _ (by with_unfolding_all rfl) (by with_unfolding_all rfl) (by decide)) (lhid rfl)).mono ?_
  rintro e w1 ⟨rfl, rfl⟩
  go_wp2_with fail
  go_ret
  exact ⟨rfl, (Below.refl w.heap.size w).alloc (Nat.le_refl _) _⟩
set_option maxHeartbeats 1000000 in
set_option maxRecDepth 100000 in
theorem rends_any (c : Int) (w : World) :
    Calls Try.prog 27 #[.int .i64 c] w fun e w' => e = .returned (.bool (endsB c)) ∧ Below w.heap.size w w' := by
  go_enter Try.func27, Try.ntmps27
  go_wp2_with fail
  with_reducible refine (rin_r c _ [27, 30, 31] (endsB c) _ (rd_lit _ _ _ _ _ _ (by with_unfolding_all rfl) (by with_unfolding_all rfl) (by decide)) (lhid rfl)).mono ?_
  rintro e w1 ⟨rfl, rfl⟩
  go_wp2_with fail
  go_ret
  exact ⟨rfl, (Below.refl w.heap.size w).alloc (Nat.le_refl _) _⟩
theorem throws_parts (c : Int) : throwsB c = (((decide (7 ≤ c) && decide (c ≤ 12)) || decide (c ∈ ([20, 21, 31] : List Int))) || callsB c) := by
  unfold throwsB callsB
  rw [Bool.eq_iff_iff]
  simp
  omega
set_option maxHeartbeats 1000000 in
set_option maxRecDepth 100000 in
theorem rthrows_any (c : Int) (w : World) :
    Calls Try.prog 21 #[.int .i64 c] w fun e w' => e = .returned (.bool (throwsB c)) ∧ Below w.heap.size w w' := by
  rw [throws_parts]
  have HC : ∀ w, Hid (Calls Try.prog 19 #[.int .i64 c] w fun e w' => e = .returned (.bool (callsB c)) ∧ w = w') := fun w => lhid (rcalls_any c w)
  obtain ⟨r, hr⟩ : ∃ r, decide (c ∈ ([20, 21, 31] : List Int)) = r := ⟨_, rfl⟩
  have HR := lhid hr
  rw [hr]
  generalize callsB c = z at *
  clear hr
  by_cases h1 : 7 ≤ c <;> by_cases h2 : c ≤ 12 <;> cases r <;> cases z
  all_goals try (exfalso; omega)
  all_goals
    go_enter Try.func21, Try.ntmps21
    go_wp2_with (first
      | (go_at_call 54; with_reducible refine (rin_r c _ [20, 21, 31] _ _ (rd_lit _ _ _ _ _ _ (by with_unfolding_all rfl) (by with_unfolding_all rfl) (by decide)) HR).mono ?_; rintro e w1 ⟨rfl, rfl⟩)
      | (go_at_call 19; with_reducible refine (HC _).out.mono ?_; rintro e w1 ⟨rfl, rfl⟩))
    go_ret
    exact ⟨ret_bool (by simp [h1, h2]), by first | exact Below.refl _ _ | exact (Below.refl w.heap.size w).alloc (Nat.le_refl _) _⟩
theorem row_lit (c : Int) : rowT c = [] ∨ (rowT c).length = 4 := by
  refine all_ops (Q := fun c => rowT c = [] ∨ (rowT c).length = 4) (by decide +kernel) (fun c hc => .inl (out_of c hc).2.2.2.2.2.2.2.2) c
end Go.Proofs.Ythaijdcgmcfpiaa
