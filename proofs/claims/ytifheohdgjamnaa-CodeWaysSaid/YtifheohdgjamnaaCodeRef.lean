/- Contracts of the table's rows, the document's. -/
import Derived.Test.YtifheohdgjamnaaCodeBase
namespace Go.Proofs.Ytifheohdgjamnaa
open Go.RowKit Go
set_option linter.unusedVariables false

def rd1 : List Int := [46, 47, 50, 79, 80, 83, 87, 89, 90, 95, 96, 97, 100, 101, 104, 105, 108, 109, 112, 113, 116, 117, 133, 136, 172, 173, 176, 177, 190, 191]
def rd5 : List Int := [19, 187, 189, 192, 193]
def lead (c : Int) : Prop := (153 ≤ c ∧ c ≤ 167) ∨ c = 198 ∨ c = 199
instance (c : Int) : Decidable (lead c) := by unfold lead; infer_instance
set_option maxRecDepth 100000 in
theorem lead_row (c : Int) : lead c ↔ rowN c = 6 := by
  by_cases h : 0 ≤ c ∧ c < 200
  · exact row_all (P := fun c => lead c ↔ rowN c = 6) (by decide) c h.1 h.2
  · rw [rowN_out c (by omega)]
    unfold lead
    omega
set_option maxRecDepth 100000 in
theorem rowN_doc (c : Int) : rowN c = if (0 ≤ c ∧ c ≤ 10) ∨ c ∈ rd1 ∨ (120 ≤ c ∧ c ≤ 131) ∨ (145 ≤ c ∧ c ≤ 148) then 1 else if c ∈ ro2 then 2 else if c = 16 then 3 else if c = 17 then 4 else if c ∈ rd5 ∨ (178 ≤ c ∧ c ≤ 185) then 5 else if lead c then 6 else if c = 132 then 7 else 0 := by
  by_cases h : 0 ≤ c ∧ c < 200
  · exact row_all (P := fun c => rowN c = if (0 ≤ c ∧ c ≤ 10) ∨ c ∈ rd1 ∨ (120 ≤ c ∧ c ≤ 131) ∨ (145 ≤ c ∧ c ≤ 148) then 1 else if c ∈ ro2 then 2 else if c = 16 then 3 else if c = 17 then 4 else if c ∈ rd5 ∨ (178 ≤ c ∧ c ≤ 185) then 5 else if lead c then 6 else if c = 132 then 7 else 0) (by decide) c h.1 h.2
  · rw [rowN_out c (by omega)]
    have e : ∀ l : List Int, (∀ x ∈ l, 0 ≤ x ∧ x < 200) → c ∉ l := fun l hl hc => by
      have := hl c hc
      omega
    have e1 := e rd1 (by decide)
    have e2 := e ro2 (by decide)
    have e3 := e rd5 (by decide)
    have e4 : ¬ lead c := by unfold lead; omega
    rw [if_neg (by simp only [e1, false_or]; omega), if_neg e2, if_neg (by omega), if_neg (by omega), if_neg (by simp only [e3, false_or]; omega), if_neg e4, if_neg (by omega)]
theorem among_r (c : Int) (v : Value) (l : List Int) (b : Bool) (w : World) (h : RdI w v l) (hb : Hid (decide (c ∈ l) = b)) :
    Calls Try.prog 27 #[.int .i64 c, v] w fun e w' => e = .returned (.bool b) ∧ w = w' := by
  have := among_any c v l w (lhid h)
  rwa [hb.out] at this
theorem rdi_new (w : World) (g : Nat) (T : TypeId) (n cap : Nat) (c : Array Value) (l : List Int) (hc : c = (l.map fun z => Value.int .i64 z).toArray) (hn : n = l.length) (hl : l.length ≤ 100) (hg : w.heap.size = g) : RdI (w.alloc (.cells c T)) (.slice (some ⟨g, 0, none⟩) n cap) l := by
  subst hg
  exact rdl_block (f := fun z => Value.int .i64 z) (fun _ => rfl) (heap_alloc_new w _) hc hn (by omega)
set_option maxHeartbeats 1000000 in
set_option maxRecDepth 100000 in
theorem rleads_any (c : Int) (b : Bool) (w : World) (hb : Hid (decide (lead c) = b)) :
    Calls Try.prog 17 #[.int .i64 c] w fun e w' => e = .returned (.bool b) ∧ w = w' := by
  have hb' := hb.out
  subst hb'
  unfold lead
  go_enter Try.func17, Try.ntmps17
  go_wp2
  all_goals go_ret
  all_goals
    refine ⟨ret_bool ?_, rfl⟩
    rw [Bool.eq_iff_iff]
    first | done | (simp; done) | (simp; omega) | (simp at *; omega)
theorem ret_nat {x : Int} {r : Nat} (h : x = r) : Ending.returned (.int .i64 x) = .returned (.int .i64 (r : Int)) := by rw [h]
set_option maxHeartbeats 4000000 in
set_option maxRecDepth 100000 in
theorem rrow_1 (c : Int) (w : World) (H1 : Hid (decide (c ∈ rd1) = true)) :
    Calls Try.prog 22 #[.int .i64 c] w fun e w' => e = .returned (.int .i64 (rowN c)) ∧ Below w.heap.size w w' := by
  go_enter Try.func22, Try.ntmps22
  go_wp2_with (first | (go_at_call 27; (first | (with_reducible refine (among_r c _ rd1 _ _ (rdi_new _ _ _ _ _ _ _ (by with_unfolding_all rfl) (by with_unfolding_all rfl) (by decide) (by simp)) H1).mono ?_)); rintro e w' ⟨rfl, rfl⟩))
  all_goals go_ret
  all_goals
    refine ⟨ret_nat ?_, ?_⟩
    · rw [rowN_doc]
      try simp only [beq_eq_false_iff_ne, beq_iff_eq, ne_eq] at *
      have p := of_decide_eq_true H1.out
      rw [if_pos (.inr (.inl p))]
      rfl
    · repeat (first | exact Below.refl _ _ | refine Below.alloc ?_ (by first | (simp; done) | (simp; omega)) _)
set_option maxHeartbeats 4000000 in
set_option maxRecDepth 100000 in
theorem rrow_2 (c : Int) (w : World) (H1 : Hid (decide (c ∈ rd1) = false)) (H2 : Hid (decide (c ∈ ro2) = true)) :
    Calls Try.prog 22 #[.int .i64 c] w fun e w' => e = .returned (.int .i64 (rowN c)) ∧ Below w.heap.size w w' := by
  go_enter Try.func22, Try.ntmps22
  go_wp2_with (first | (go_at_call 27; (first | (with_reducible refine (among_r c _ rd1 _ _ (rdi_new _ _ _ _ _ _ _ (by with_unfolding_all rfl) (by with_unfolding_all rfl) (by decide) (by simp)) H1).mono ?_) | (with_reducible refine (among_r c _ ro2 _ _ (rdi_new _ _ _ _ _ _ _ (by with_unfolding_all rfl) (by with_unfolding_all rfl) (by decide) (by simp)) H2).mono ?_)); rintro e w' ⟨rfl, rfl⟩))
  all_goals go_ret
  all_goals
    refine ⟨ret_nat ?_, ?_⟩
    · rw [rowN_doc]
      try simp only [beq_eq_false_iff_ne, beq_iff_eq, ne_eq] at *
      have p := of_decide_eq_false H1.out
      have q := of_decide_eq_true H2.out
      simp only [p, q, false_or, if_true]
      repeat' split
      all_goals first | rfl | omega
    · repeat (first | exact Below.refl _ _ | refine Below.alloc ?_ (by first | (simp; done) | (simp; omega)) _)
set_option maxHeartbeats 4000000 in
set_option maxRecDepth 100000 in
theorem rrow_5 (c : Int) (w : World) (H1 : Hid (decide (c ∈ rd1) = false)) (H2 : Hid (decide (c ∈ ro2) = false)) (H5 : Hid (decide (c ∈ rd5) = true)) :
    Calls Try.prog 22 #[.int .i64 c] w fun e w' => e = .returned (.int .i64 (rowN c)) ∧ Below w.heap.size w w' := by
  go_enter Try.func22, Try.ntmps22
  go_wp2_with (first | (go_at_call 27; (first | (with_reducible refine (among_r c _ rd1 _ _ (rdi_new _ _ _ _ _ _ _ (by with_unfolding_all rfl) (by with_unfolding_all rfl) (by decide) (by simp)) H1).mono ?_) | (with_reducible refine (among_r c _ ro2 _ _ (rdi_new _ _ _ _ _ _ _ (by with_unfolding_all rfl) (by with_unfolding_all rfl) (by decide) (by simp)) H2).mono ?_) | (with_reducible refine (among_r c _ rd5 _ _ (rdi_new _ _ _ _ _ _ _ (by with_unfolding_all rfl) (by with_unfolding_all rfl) (by decide) (by simp)) H5).mono ?_)); rintro e w' ⟨rfl, rfl⟩))
  all_goals go_ret
  all_goals
    refine ⟨ret_nat ?_, ?_⟩
    · rw [rowN_doc]
      try simp only [beq_eq_false_iff_ne, beq_iff_eq, ne_eq] at *
      have p := of_decide_eq_false H1.out
      have q := of_decide_eq_false H2.out
      have r := of_decide_eq_true H5.out
      have r2 : c = 19 ∨ c = 187 ∨ c = 189 ∨ c = 192 ∨ c = 193 := by simpa [rd5] using r
      simp only [p, q, r, false_or, true_or, if_true, if_false]
      repeat' split
      all_goals first | rfl | omega
    · repeat (first | exact Below.refl _ _ | refine Below.alloc ?_ (by first | (simp; done) | (simp; omega)) _)
set_option maxHeartbeats 4000000 in
set_option maxRecDepth 100000 in
theorem rrow_6t (c : Int) (w : World) (H1 : Hid (decide (c ∈ rd1) = false)) (H2 : Hid (decide (c ∈ ro2) = false)) (H5 : Hid (decide (c ∈ rd5) = false)) (H6 : Hid (decide (lead c) = true)) :
    Calls Try.prog 22 #[.int .i64 c] w fun e w' => e = .returned (.int .i64 (rowN c)) ∧ Below w.heap.size w w' := by
  go_enter Try.func22, Try.ntmps22
  go_wp2_with (first | (go_at_call 27; (first | (with_reducible refine (among_r c _ rd1 _ _ (rdi_new _ _ _ _ _ _ _ (by with_unfolding_all rfl) (by with_unfolding_all rfl) (by decide) (by simp)) H1).mono ?_) | (with_reducible refine (among_r c _ ro2 _ _ (rdi_new _ _ _ _ _ _ _ (by with_unfolding_all rfl) (by with_unfolding_all rfl) (by decide) (by simp)) H2).mono ?_) | (with_reducible refine (among_r c _ rd5 _ _ (rdi_new _ _ _ _ _ _ _ (by with_unfolding_all rfl) (by with_unfolding_all rfl) (by decide) (by simp)) H5).mono ?_)); rintro e w' ⟨rfl, rfl⟩) | (go_at_call 17; with_reducible refine (rleads_any c _ _ H6).mono ?_; rintro e w' ⟨rfl, rfl⟩))
  all_goals go_ret
  all_goals
    refine ⟨ret_nat ?_, ?_⟩
    · rw [rowN_doc]
      try simp only [beq_eq_false_iff_ne, beq_iff_eq, ne_eq] at *
      have p := of_decide_eq_false H1.out
      have q := of_decide_eq_false H2.out
      have r := of_decide_eq_false H5.out
      have s := of_decide_eq_true H6.out
      have s2 : (153 ≤ c ∧ c ≤ 167) ∨ c = 198 ∨ c = 199 := s
      simp only [p, q, r, s, false_or, if_true, if_false]
      repeat' split
      all_goals first | rfl | omega
    · repeat (first | exact Below.refl _ _ | refine Below.alloc ?_ (by first | (simp; done) | (simp; omega)) _)
set_option maxHeartbeats 4000000 in
set_option maxRecDepth 100000 in
theorem rrow_6f (c : Int) (w : World) (H1 : Hid (decide (c ∈ rd1) = false)) (H2 : Hid (decide (c ∈ ro2) = false)) (H5 : Hid (decide (c ∈ rd5) = false)) (H6 : Hid (decide (lead c) = false)) :
    Calls Try.prog 22 #[.int .i64 c] w fun e w' => e = .returned (.int .i64 (rowN c)) ∧ Below w.heap.size w w' := by
  go_enter Try.func22, Try.ntmps22
  go_wp2_with (first | (go_at_call 27; (first | (with_reducible refine (among_r c _ rd1 _ _ (rdi_new _ _ _ _ _ _ _ (by with_unfolding_all rfl) (by with_unfolding_all rfl) (by decide) (by simp)) H1).mono ?_) | (with_reducible refine (among_r c _ ro2 _ _ (rdi_new _ _ _ _ _ _ _ (by with_unfolding_all rfl) (by with_unfolding_all rfl) (by decide) (by simp)) H2).mono ?_) | (with_reducible refine (among_r c _ rd5 _ _ (rdi_new _ _ _ _ _ _ _ (by with_unfolding_all rfl) (by with_unfolding_all rfl) (by decide) (by simp)) H5).mono ?_)); rintro e w' ⟨rfl, rfl⟩) | (go_at_call 17; with_reducible refine (rleads_any c _ _ H6).mono ?_; rintro e w' ⟨rfl, rfl⟩))
  all_goals go_ret
  all_goals
    refine ⟨ret_nat ?_, ?_⟩
    · rw [rowN_doc]
      try simp only [beq_eq_false_iff_ne, beq_iff_eq, ne_eq] at *
      have p := of_decide_eq_false H1.out
      have q := of_decide_eq_false H2.out
      have r := of_decide_eq_false H5.out
      have s := of_decide_eq_false H6.out
      simp only [p, q, r, s, false_or, if_false]
      repeat' split
      all_goals first | rfl | omega
    · repeat (first | exact Below.refl _ _ | refine Below.alloc ?_ (by first | (simp; done) | (simp; omega)) _)
theorem rrow_any (c : Int) (w : World) :
    Calls Try.prog 22 #[.int .i64 c] w fun e w' => e = .returned (.int .i64 (rowN c)) ∧ Below w.heap.size w w' := by
  cases h1 : decide (c ∈ rd1)
  case true => exact rrow_1 c w (lhid h1)
  cases h2 : decide (c ∈ ro2)
  case true => exact rrow_2 c w (lhid h1) (lhid h2)
  cases h5 : decide (c ∈ rd5)
  case true => exact rrow_5 c w (lhid h1) (lhid h2) (lhid h5)
  cases h6 : decide (lead c)
  case true => exact rrow_6t c w (lhid h1) (lhid h2) (lhid h5) (lhid h6)
  exact rrow_6f c w (lhid h1) (lhid h2) (lhid h5) (lhid h6)
end Go.Proofs.Ytifheohdgjamnaa
