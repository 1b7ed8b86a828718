/- Package check: do, at numbers below 0 too (the two codes that tell such ones). -/
import Derived.Test.YtpdnonlelocfbaaGreatDoorM5
namespace Go.Proofs.YtpdnonlelocfbaaGreatDoor
open Go.RowKit Go Go.Maps
set_option linter.unusedVariables false
section
variable {E : Chk} {Z : Nat → Prop} {wT : World} {c : Nat} {F : Fx} {N : Nat} {s : Cs} {kn : Bool} {st : Value} {w : World}
set_option maxHeartbeats 4000000 in
set_option maxRecDepth 100000 in
theorem tell_16 (HE : Hid (Env E F.tb wT)) (HF : Hid (Fit E F wT)) (HC : Hid (Ck E Z wT c F N s kn st w)) (p a q : Int) :
    Calls Tryz.prog 159 #[.pointer (some ⟨c, 0, none⟩), .agg #[.int .i64 p, .int .i64 16, .int .i64 a, .int .i64 q]] w (CkOut E Z wT c F N (s.push E [73]) kn st w (.returned (.tuple #[]))) := by
  have hb0 : Below w.heap.size w (w.alloc (.cells #[.int .i64 p, .int .i64 16, .int .i64 a, .int .i64 q] 187)) := (Below.refl _ _).alloc (Nat.le_refl _) _
  have hz0 := heap_alloc_new w (.cells #[.int .i64 p, .int .i64 16, .int .i64 a, .int .i64 q] 187)
  have HK0 := lhid (HC.out.below hb0)
  have HC0 := lhid (Ch.of (X := Z) hb0)
  have b1 : (w.alloc (.cells #[.int .i64 p, .int .i64 16, .int .i64 a, .int .i64 q] 187)).cell? ⟨w.heap.size, 1, none⟩ = some (.int .i64 16) := heap_cell hz0 rfl
  clear hb0 hz0
  go_enter Tryz.func159, Tryz.ntmps159
  go_upto_region 1 with fail
  generalize w.alloc (.cells #[.int .i64 p, .int .i64 16, .int .i64 a, .int .i64 q] 187) = w0 at *
  go_wp2_with fail
  with_reducible refine (push1_c HE HF HK0 tI (by decide)).mono ?_
  rintro e w1 ⟨rfl, hk, hc⟩
  have HK1 := lhid hk
  have HC1 := lhid (HC0.out.tr hc)
  clear hk hc
  go_wp2_with fail
  go_end0
  exact ⟨rfl, HK1.out, HC1.out⟩
set_option maxHeartbeats 4000000 in
set_option maxRecDepth 100000 in
theorem do_16 (HE : Hid (Env E F.tb wT)) (HF : Hid (Fit E F wT)) (HC : Hid (Ck E Z wT c F N s kn st w)) (p a q : Int) :
    Calls Tryz.prog 106 #[.pointer (some ⟨c, 0, none⟩), .agg #[.int .i64 p, .int .i64 16, .int .i64 a, .int .i64 q]] w (CkOut E Z wT c F (N + 1) (s.push E [73]) kn st w (.returned (.tuple #[]))) := by
  have hb0 : Below w.heap.size w (w.alloc (.cells #[.int .i64 p, .int .i64 16, .int .i64 a, .int .i64 q] 187)) := (Below.refl _ _).alloc (Nat.le_refl _) _
  have hz0 := heap_alloc_new w (.cells #[.int .i64 p, .int .i64 16, .int .i64 a, .int .i64 q] 187)
  have HK0 := lhid (HC.out.below hb0)
  have HC0 := lhid (Ch.of (X := Z) hb0)
  have b0 : (w.alloc (.cells #[.int .i64 p, .int .i64 16, .int .i64 a, .int .i64 q] 187)).cell? ⟨w.heap.size, 0, none⟩ = some (.int .i64 p) := heap_cell hz0 rfl
  have b1 : (w.alloc (.cells #[.int .i64 p, .int .i64 16, .int .i64 a, .int .i64 q] 187)).cell? ⟨w.heap.size, 1, none⟩ = some (.int .i64 16) := heap_cell hz0 rfl
  have b2 : (w.alloc (.cells #[.int .i64 p, .int .i64 16, .int .i64 a, .int .i64 q] 187)).cell? ⟨w.heap.size, 2, none⟩ = some (.int .i64 a) := heap_cell hz0 rfl
  have b3 : (w.alloc (.cells #[.int .i64 p, .int .i64 16, .int .i64 a, .int .i64 q] 187)).cell? ⟨w.heap.size, 3, none⟩ = some (.int .i64 q) := heap_cell hz0 rfl
  clear hb0 hz0
  have hN' : N ≤ N + 1 := Nat.le_succ N
  go_enter Tryz.func106, Tryz.ntmps106
  go_upto_region 1 with fail
  generalize w.alloc (.cells #[.int .i64 p, .int .i64 16, .int .i64 a, .int .i64 q] 187) = w0 at *
  go_wp2_with fail
  with_reducible refine (tell_16 HE HF HK0 p a q).mono ?_
  rintro e w1 ⟨rfl, hk, hc⟩
  have HK1 := lhid hk
  have HC1 := lhid (HC0.out.tr hc)
  clear hk hc
  go_wp2_with fail
  go_end0
  exact ⟨rfl, HK1.out.more hN', HC1.out⟩
set_option maxHeartbeats 4000000 in
set_option maxRecDepth 100000 in
theorem tell_17 (HE : Hid (Env E F.tb wT)) (HF : Hid (Fit E F wT)) (HC : Hid (Ck E Z wT c F N s kn st w)) (p a q : Int) :
    Calls Tryz.prog 159 #[.pointer (some ⟨c, 0, none⟩), .agg #[.int .i64 p, .int .i64 17, .int .i64 a, .int .i64 q]] w (CkOut E Z wT c F N (s.push E [73]) kn st w (.returned (.tuple #[]))) := by
  have hb0 : Below w.heap.size w (w.alloc (.cells #[.int .i64 p, .int .i64 17, .int .i64 a, .int .i64 q] 187)) := (Below.refl _ _).alloc (Nat.le_refl _) _
  have hz0 := heap_alloc_new w (.cells #[.int .i64 p, .int .i64 17, .int .i64 a, .int .i64 q] 187)
  have HK0 := lhid (HC.out.below hb0)
  have HC0 := lhid (Ch.of (X := Z) hb0)
  have b1 : (w.alloc (.cells #[.int .i64 p, .int .i64 17, .int .i64 a, .int .i64 q] 187)).cell? ⟨w.heap.size, 1, none⟩ = some (.int .i64 17) := heap_cell hz0 rfl
  clear hb0 hz0
  go_enter Tryz.func159, Tryz.ntmps159
  go_upto_region 1 with fail
  generalize w.alloc (.cells #[.int .i64 p, .int .i64 17, .int .i64 a, .int .i64 q] 187) = w0 at *
  go_wp2_with fail
  with_reducible refine (push1_c HE HF HK0 tI (by decide)).mono ?_
  rintro e w1 ⟨rfl, hk, hc⟩
  have HK1 := lhid hk
  have HC1 := lhid (HC0.out.tr hc)
  clear hk hc
  go_wp2_with fail
  go_end0
  exact ⟨rfl, HK1.out, HC1.out⟩
set_option maxHeartbeats 4000000 in
set_option maxRecDepth 100000 in
theorem do_17 (HE : Hid (Env E F.tb wT)) (HF : Hid (Fit E F wT)) (HC : Hid (Ck E Z wT c F N s kn st w)) (p a q : Int) :
    Calls Tryz.prog 106 #[.pointer (some ⟨c, 0, none⟩), .agg #[.int .i64 p, .int .i64 17, .int .i64 a, .int .i64 q]] w (CkOut E Z wT c F (N + 1) (s.push E [73]) kn st w (.returned (.tuple #[]))) := by
  have hb0 : Below w.heap.size w (w.alloc (.cells #[.int .i64 p, .int .i64 17, .int .i64 a, .int .i64 q] 187)) := (Below.refl _ _).alloc (Nat.le_refl _) _
  have hz0 := heap_alloc_new w (.cells #[.int .i64 p, .int .i64 17, .int .i64 a, .int .i64 q] 187)
  have HK0 := lhid (HC.out.below hb0)
  have HC0 := lhid (Ch.of (X := Z) hb0)
  have b0 : (w.alloc (.cells #[.int .i64 p, .int .i64 17, .int .i64 a, .int .i64 q] 187)).cell? ⟨w.heap.size, 0, none⟩ = some (.int .i64 p) := heap_cell hz0 rfl
  have b1 : (w.alloc (.cells #[.int .i64 p, .int .i64 17, .int .i64 a, .int .i64 q] 187)).cell? ⟨w.heap.size, 1, none⟩ = some (.int .i64 17) := heap_cell hz0 rfl
  have b2 : (w.alloc (.cells #[.int .i64 p, .int .i64 17, .int .i64 a, .int .i64 q] 187)).cell? ⟨w.heap.size, 2, none⟩ = some (.int .i64 a) := heap_cell hz0 rfl
  have b3 : (w.alloc (.cells #[.int .i64 p, .int .i64 17, .int .i64 a, .int .i64 q] 187)).cell? ⟨w.heap.size, 3, none⟩ = some (.int .i64 q) := heap_cell hz0 rfl
  clear hb0 hz0
  have hN' : N ≤ N + 1 := Nat.le_succ N
  go_enter Tryz.func106, Tryz.ntmps106
  go_upto_region 1 with fail
  generalize w.alloc (.cells #[.int .i64 p, .int .i64 17, .int .i64 a, .int .i64 q] 187) = w0 at *
  go_wp2_with fail
  with_reducible refine (tell_17 HE HF HK0 p a q).mono ?_
  rintro e w1 ⟨rfl, hk, hc⟩
  have HK1 := lhid hk
  have HC1 := lhid (HC0.out.tr hc)
  clear hk hc
  go_wp2_with fail
  go_end0
  exact ⟨rfl, HK1.out.more hN', HC1.out⟩
theorem do_i (HE : Hid (Env E F.tb wT)) (HF : Hid (Fit E F wT)) (HC : Hid (Ck E Z wT c F N s kn st w)) (p o a q : Int) (n : Nat) (hn : a.toNat = n) (ha : a ≤ 4294967296 ∧ (0 ≤ a ∨ o = 16 ∨ o = 17)) (hN : N ≤ 8589934592) (HO : Hid (0 ≤ o ∧ o ≤ 255)) :
    Calls Tryz.prog 106 #[.pointer (some ⟨c, 0, none⟩), .agg #[.int .i64 p, .int .i64 o, .int .i64 a, .int .i64 q]] w (CkOut E Z wT c F (N + 1) (s.doOp E o n) kn st w (.returned (.tuple #[]))) := by
  by_cases h : 0 ≤ a
  · obtain ⟨m, rfl⟩ := Int.eq_ofNat_of_zero_le h
    obtain rfl : m = n := by simpa using hn
    exact do_c HE HF HC p o m q (by omega) hN HO
  · rcases ha.2 with h2 | rfl | rfl
    · exact absurd h2 h
    · exact do_16 HE HF HC p a q
    · exact do_17 HE HF HC p a q
end
end Go.Proofs.YtpdnonlelocfbaaGreatDoor
