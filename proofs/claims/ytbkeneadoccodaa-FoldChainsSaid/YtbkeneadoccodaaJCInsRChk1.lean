/- Contracts of the document's kind, wanted, place, call. -/
import Derived.Test.YtbkeneadoccodaaJCInsChk4
import Derived.Test.YtbkeneadoccodaaJCNuRefKinds
import Derived.Test.YtbkeneadoccodaaJCInsRMath
namespace Go.Proofs.Ytbkeneadoccodaa
open Go.RowKit Go
set_option linter.unusedVariables false
set_option linter.unusedSimpArgs false
set_option maxHeartbeats 1000000 in
set_option maxRecDepth 100000 in
theorem rkind_any {P : Nat → Prop} (rs : List Int) (a b : Value) (ret : Int) (d e : Value) (r : Int) (w : World) (h : Hid (RdX P 1 NuE w a rs)) :
  Calls Try.prog 22 #[fuL a b ret d e, .int .i64 r] w fun e w' => e = .returned (.int .i64 (kd rs r)) ∧ Below w.heap.size w w' := by
 obtain ⟨A, cap, rfl⟩ := h.out.shape
 by_cases h0 : r < 0
 ·have HK := lhid (kd_out (rs := rs) (r := r) (.inl h0))
  go_enter Try.func22, Try.ntmps22
  go_wp2
  go_ret
  exact ⟨by rw [HK.out]; rfl, (Below.refl w.heap.size w).alloc (Nat.le_refl _) _⟩
 by_cases h1 : (rs.length : Int) ≤ r
 ·have HK := lhid (kd_out (rs := rs) (r := r) (.inr h1))
  go_enter Try.func22, Try.ntmps22
  go_wp2
  go_ret
  exact ⟨by rw [HK.out]; rfl, (Below.refl w.heap.size w).alloc (Nat.le_refl _) _⟩
 ·obtain ⟨k, h2, h3⟩ := kd_in (rs := rs) (r := r) (by omega) (by omega)
  have H3 := lhid h3
  obtain ⟨g, o, rfl, _, c0⟩ := rd_cell h.out h2
  obtain ⟨n, rfl⟩ : ∃ n : Nat, r = n := ⟨r.toNat, by omega⟩
  have c0 : w.cell? ⟨g, o + n, none⟩ = some (.int .i64 k) := by simpa using c0
  have hg : g < w.heap.size := cell_lt c0
  have hg2 : ¬ g = w.heap.size := by omega
  have n1 : (n : Int) < rs.length := by omega
  clear h2 h3 h0
  go_enter Try.func22, Try.ntmps22
  go_wp2
  go_ret
  exact ⟨by rw [H3.out]; rfl, (Below.refl w.heap.size w).alloc (Nat.le_refl _) _⟩
theorem rkind_r {P : Nat → Prop} (rs : List Int) (a b : Value) (ret : Int) (d e : Value) (r k : Int) (w : World) (h : Hid (RdX P 1 NuE w a rs)) (hk : Hid (kd rs r = k)) :
  Calls Try.prog 22 #[fuL a b ret d e, .int .i64 r] w fun e w' => e = .returned (.int .i64 k) ∧ Below w.heap.size w w' := by
 have := rkind_any rs a b ret d e r w h
 rwa [hk.out] at this
def signs : List UInt8 := [45, 63, 42, 61, 110, 51, 49]
set_option maxHeartbeats 1000000 in
set_option maxRecDepth 100000 in
theorem wanted_any {P : Nat → Prop} (rs : List Int) (a b : Value) (ret : Int) (d e : Value) (r : Int) (s : UInt8) (w : World) (h : Hid (RdX P 1 NuE w a rs)) (hs : s ∈ signs) :
  Calls Try.prog 51 #[fuL a b ret d e, .int .i64 r, .int .u8 (s.toNat : Int)] w fun e w' => e = .returned (.bool (wantB (kd rs r) s)) ∧ Below w.heap.size w w' := by
 obtain ⟨k, hk⟩ : ∃ k, kd rs r = k := ⟨_, rfl⟩
 have HK := lhid hk
 rw [hk]
 clear hk
 have h1 := h.out.below (keptX_nu _) ((Below.refl w.heap.size w).alloc (Nat.le_refl _) (.cells #[a, b, .int .i64 ret, d, e] 27))
 have H1 := lhid h1
 clear h1
 unfold signs at hs
 simp only [List.mem_cons, List.not_mem_nil, or_false] at hs
 rcases hs with rfl | rfl | rfl | rfl | rfl | rfl | rfl
 case inr.inr.inr.inr.inl =>
  by_cases k1 : k = 1
  ·subst k1
   go_enter Try.func51, Try.ntmps51
   go_wp2_with fail
   with_reducible refine (rkind_r rs a b ret d e r _ _ H1 HK).mono ?_
   rintro e w1 ⟨rfl, hb⟩
   have HB := lhid (((Below.refl w.heap.size w).alloc (Nat.le_refl _) _).trans (hb.mono (by simp)))
   clear hb
   go_wp2_with fail
   go_ret
   exact ⟨rfl, HB.out⟩
  by_cases k2 : k = 2
  ·subst k2
   go_enter Try.func51, Try.ntmps51
   go_wp2_with fail
   with_reducible refine (rkind_r rs a b ret d e r _ _ H1 HK).mono ?_
   rintro e w1 ⟨rfl, hb⟩
   have HB := lhid (((Below.refl w.heap.size w).alloc (Nat.le_refl _) _).trans (hb.mono (by simp)))
   clear hb
   go_wp2_with fail
   go_ret
   exact ⟨rfl, HB.out⟩
  have e1 : (k == 1) = false := by rw [beq_eq_false_iff_ne]; exact k1
  have e2 : (k == 2) = false := by rw [beq_eq_false_iff_ne]; exact k2
  have HE : Hid (wantB k 110 = false) := lhid (by unfold wantB; simp [k1, k2])
  rw [HE.out]
  clear k1 k2
  go_enter Try.func51, Try.ntmps51
  go_wp2_with fail
  with_reducible refine (rkind_r rs a b ret d e r _ _ H1 HK).mono ?_
  rintro e w1 ⟨rfl, hb⟩
  have HB := lhid (((Below.refl w.heap.size w).alloc (Nat.le_refl _) _).trans (hb.mono (by simp)))
  clear hb
  go_wp2_with fail
  go_ret
  exact ⟨rfl, HB.out⟩
 case inr.inr.inl =>
  by_cases k1 : 0 < k
  ·have HE : Hid (wantB k 42 = true) := lhid (by unfold wantB; simp [k1])
   rw [HE.out]
   go_enter Try.func51, Try.ntmps51
   go_wp2_with fail
   with_reducible refine (rkind_r rs a b ret d e r _ _ H1 HK).mono ?_
   rintro e w1 ⟨rfl, hb⟩
   have HB := lhid (((Below.refl w.heap.size w).alloc (Nat.le_refl _) _).trans (hb.mono (by simp)))
   clear hb
   go_wp2_with fail
   go_ret
   exact ⟨rfl, HB.out⟩
  ·have HE : Hid (wantB k 42 = false) := lhid (by unfold wantB; simp [k1])
   rw [HE.out]
   go_enter Try.func51, Try.ntmps51
   go_wp2_with fail
   with_reducible refine (rkind_r rs a b ret d e r _ _ H1 HK).mono ?_
   rintro e w1 ⟨rfl, hb⟩
   have HB := lhid (((Below.refl w.heap.size w).alloc (Nat.le_refl _) _).trans (hb.mono (by simp)))
   clear hb
   go_wp2_with fail
   go_ret
   exact ⟨ret_bool (by simp [k1]), HB.out⟩
 case inr.inr.inr.inl =>
  by_cases k1 : 0 < k
  ·have HE : Hid (wantB k 61 = true) := lhid (by unfold wantB; simp [k1])
   rw [HE.out]
   go_enter Try.func51, Try.ntmps51
   go_wp2_with fail
   with_reducible refine (rkind_r rs a b ret d e r _ _ H1 HK).mono ?_
   rintro e w1 ⟨rfl, hb⟩
   have HB := lhid (((Below.refl w.heap.size w).alloc (Nat.le_refl _) _).trans (hb.mono (by simp)))
   clear hb
   go_wp2_with fail
   go_ret
   exact ⟨rfl, HB.out⟩
  ·have HE : Hid (wantB k 61 = false) := lhid (by unfold wantB; simp [k1])
   rw [HE.out]
   go_enter Try.func51, Try.ntmps51
   go_wp2_with fail
   with_reducible refine (rkind_r rs a b ret d e r _ _ H1 HK).mono ?_
   rintro e w1 ⟨rfl, hb⟩
   have HB := lhid (((Below.refl w.heap.size w).alloc (Nat.le_refl _) _).trans (hb.mono (by simp)))
   clear hb
   go_wp2_with fail
   go_ret
   exact ⟨ret_bool (by simp [k1]), HB.out⟩
 case inr.inr.inr.inr.inr.inl =>
  have HE : Hid (wantB k 51 = (k == 3)) := lhid (by unfold wantB; rfl)
  rw [HE.out]
  go_enter Try.func51, Try.ntmps51
  go_wp2_with fail
  with_reducible refine (rkind_r rs a b ret d e r _ _ H1 HK).mono ?_
  rintro e w1 ⟨rfl, hb⟩
  have HB := lhid (((Below.refl w.heap.size w).alloc (Nat.le_refl _) _).trans (hb.mono (by simp)))
  clear hb
  go_wp2_with fail
  go_ret
  exact ⟨rfl, HB.out⟩
 case inr.inr.inr.inr.inr.inr =>
  have HE : Hid (wantB k 49 = (k == 1)) := lhid (by unfold wantB; rfl)
  rw [HE.out]
  go_enter Try.func51, Try.ntmps51
  go_wp2_with fail
  with_reducible refine (rkind_r rs a b ret d e r _ _ H1 HK).mono ?_
  rintro e w1 ⟨rfl, hb⟩
  have HB := lhid (((Below.refl w.heap.size w).alloc (Nat.le_refl _) _).trans (hb.mono (by simp)))
  clear hb
  go_wp2_with fail
  go_ret
  exact ⟨rfl, HB.out⟩
 all_goals
  have HE : Hid (wantB k 45 = true ∧ wantB k 63 = true) := lhid ⟨rfl, rfl⟩
  first | rw [HE.out.1] | rw [HE.out.2]
  go_enter Try.func51, Try.ntmps51
  go_wp2_with fail
  with_reducible refine (rkind_r rs a b ret d e r _ _ H1 HK).mono ?_
  rintro e w1 ⟨rfl, hb⟩
  have HB := lhid (((Below.refl w.heap.size w).alloc (Nat.le_refl _) _).trans (hb.mono (by simp)))
  clear hb
  go_wp2_with fail
  go_ret
  exact ⟨rfl, HB.out⟩
theorem wanted_r {P : Nat → Prop} (rs : List Int) (a b : Value) (ret : Int) (d e : Value) (r : Int) (s : UInt8) (z : Bool) (w : World) (h : Hid (RdX P 1 NuE w a rs)) (hs : Hid (s ∈ signs)) (hz : Hid (wantB (kd rs r) s = z)) :
  Calls Try.prog 51 #[fuL a b ret d e, .int .i64 r, .int .u8 (s.toNat : Int)] w fun e w' => e = .returned (.bool z) ∧ Below w.heap.size w w' := by
 have := wanted_any rs a b ret d e r s w h hs.out
 rwa [hz.out] at this
set_option maxRecDepth 100000 in
theorem place_any (a b : Value) (ret : Int) (D : Option Addr) (n cap : Nat) (e : Value) (i : Int) (w : World) :
  Calls Try.prog 26 #[fuL a b ret (.slice D n cap) e, .int .i64 i] w fun e w' => e = .returned (.bool (decide (0 ≤ i) && decide (i < (n : Int)))) ∧ Below w.heap.size w w' := by
 by_cases h1 : 0 ≤ i <;> by_cases h2 : i < n
 all_goals try (exfalso; omega)
 all_goals
  go_enter Try.func26, Try.ntmps26
  go_wp2
  go_ret
  exact ⟨ret_bool (by simp [h1, h2]), (Below.refl w.heap.size w).alloc (Nat.le_refl _) _⟩
theorem place_r (a b : Value) (ret : Int) (D : Option Addr) (n cap : Nat) (e : Value) (i : Int) (z : Bool) (w : World) (hz : Hid ((decide (0 ≤ i) && decide (i < (n : Int))) = z)) :
  Calls Try.prog 26 #[fuL a b ret (.slice D n cap) e, .int .i64 i] w fun e w' => e = .returned (.bool z) ∧ Below w.heap.size w w' := by
 have := place_any a b ret D n cap e i w
 rwa [hz.out] at this
end Go.Proofs.Ytbkeneadoccodaa
