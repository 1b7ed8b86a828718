/- Texts of this claim, joined: CInsInts, CInsRUsesA. -/
import Derived.Test.YtoommeiiadobfaaJCInsRUses
import Derived.BigQuiet
import Derived.Laws.AppendOwnNone
/- Contracts of the document's Ints, Def, Uses. -/
namespace Go.Proofs.Ytoommeiiadobfaa
open Go.RowKit Go
set_option linter.unusedVariables false
set_option linter.unusedSimpArgs false
theorem wr_row (c : Int) : (rowT c = [] ∧ wrB c = false) ∨ ∃ s0 s1 s2 s3, rowT c = [s0, s1, s2, s3] ∧ wrB c = !(s0 == 45) := by
 by_cases ho : c < 1 ∨ 34 ≤ c
 ·exact .inl ⟨(out_of c ho).2.2.2.2.2.2.2.2, (out_of c ho).2.1⟩
 ·refine .inr ?_
  have hw := op_ways c
  rcases hw with rfl | rfl | rfl | rfl | rfl | rfl | rfl | rfl | rfl | rfl | rfl | rfl | rfl | rfl | rfl | rfl | rfl | rfl | rfl | rfl | rfl | rfl | rfl | rfl | rfl | rfl | rfl | rfl | rfl | rfl | rfl | rfl | rfl | h | h
  all_goals first
   | (exfalso; omega)
   | exact ⟨_, _, _, _, rfl, by decide⟩
set_option maxHeartbeats 4000000 in
set_option maxRecDepth 100000 in
theorem rdef_any (x : InI) (v : Value) (w : World) :
  Calls Try.prog 17 #[inA x v] w fun e w' => e = .returned (.int .i64 (defI x)) ∧ Below w.heap.size w w' := by
 obtain ⟨c, d, a, b, k, n, t, r, l⟩ := x
 have HF : ∀ w, Hid (Calls Try.prog 42 #[.int .i64 c] w fun e w' => e = .returned (.string (tx (rowT c))) ∧ Below w.heap.size w w') := fun w => lhid (rrow_any c w)
 have hd := wr_row c
 show Calls Try.prog 17 #[inL c d a b k n t r v] w fun e w' => e = .returned (.int .i64 (if wrB c then d else -1)) ∧ Below w.heap.size w w'
 generalize wrB c = z at *
 generalize rowT c = rw' at *
 rcases hd with ⟨rfl, rfl⟩ | ⟨s0, s1, s2, s3, rfl, hz⟩
 ·go_enter Try.func17, Try.ntmps17
  go_wp2_with fail
  with_reducible refine (HF _).out.mono ?_
  rintro e w1 ⟨rfl, hb⟩
  have HB := lhid (((Below.refl w.heap.size w).alloc (Nat.le_refl _) _).trans (hb.mono (by simp)))
  clear hb
  have q0 := tx_nil
  go_wp2_with fail
  go_ret
  exact ⟨rfl, HB.out⟩
 ·obtain ⟨sv, hsv⟩ : ∃ sv, tx [s0, s1, s2, s3] = sv := ⟨_, rfl⟩
  have b0 : 0 < sv.size := by rw [← hsv, tx_size]; simp
  have e0 : sv[0] = s0 := by subst hsv; rfl
  have q1 : (sv.toList == ([] : Bs)) = false := by rw [← hsv, tx_toL]; rfl
  have q2 : sv.toList.isEmpty = false := by rw [← hsv, tx_toL]; rfl
  have q4 : ¬ sv.toList = [] := by rw [← hsv, tx_toL]; simp
  have key : (sv[0].toNat : Int) = 45 ∧ z = false ∨ ¬ (sv[0].toNat : Int) = 45 ∧ z = true := by
   rw [e0, hz]
   by_cases h : s0 = 45
   ·exact .inl (by rw [h]; exact ⟨rfl, rfl⟩)
   ·refine .inr ⟨fun e => h ?_, by simp [h]⟩
    apply UInt8.toNat_inj.1
    exact_mod_cast e
  rw [hsv] at HF
  clear e0 hsv hz
  rcases key with ⟨t0, rfl⟩ | ⟨t0, rfl⟩
  all_goals
   go_enter Try.func17, Try.ntmps17
   go_wp2_with fail
   with_reducible refine (HF _).out.mono ?_
   rintro e w1 ⟨rfl, hb⟩
   have c1 : w1.cell? ⟨w.heap.size, 1, none⟩ = some (.int .i64 d) := (hb.cell (p := ⟨w.heap.size, 1, none⟩) (by simp)).trans (heap_cell (heap_alloc_new w _) rfl)
   have HB := lhid (((Below.refl w.heap.size w).alloc (Nat.le_refl _) _).trans (hb.mono (by simp)))
   clear hb
   go_wp2_with fail
   go_ret
   exact ⟨rfl, HB.out⟩
end Go.Proofs.Ytoommeiiadobfaa
/- Contract of the document's Uses, at any instruction. -/
namespace Go.Proofs.Ytoommeiiadobfaa
open Go.RowKit Go
set_option linter.unusedVariables false
set_option linter.unusedSimpArgs false
set_option maxHeartbeats 8000000 in
set_option maxRecDepth 100000 in
theorem ruses_c {P : Nat → Prop} (c d a b k n t : Int) (r : Bs) (l : List Int) (v : Value) (w : World) (h : Hid (RdX P 1 NuE w v l)) (hby : Hid (l.length * 8 ≤ 140737488355328))
  (HCa : ∀ w, Hid (Calls Try.prog 41 #[.int .i64 c] w fun e w' => e = .returned (.bool true) ∧ w = w')) :
  Calls Try.prog 16 #[inL c d a b k n t r v] w fun e w' => ∃ v', e = .returned v' ∧ OwN w' w.heap.size v' l ∧ Below w.heap.size w w' := by
 obtain ⟨A, cap, rfl⟩ := h.out.shape
 have hlen := h.out.len
 obtain ⟨i0, hi, hz0, hz1, hz2⟩ := info_parts info_nuP
 cases A with
 | none =>
  have hl := h.out.none0.1
  subst hl
  go_enter Try.func16, Try.ntmps16
  go_wp2_with fail
  with_reducible refine (HCa _).out.mono ?_
  rintro e w1 ⟨rfl, rfl⟩
  go_wp2_with (at_builtin; refine wpList_append_own_none rfl (.const (.slice none 0 0)) (.tmp 11) 22 rfl w.heap.size 3 i0 1 Try.underlying22 hi (.slice none 0 0) 0 [] rfl (World.ownsRow_nil _ _ _ _) rfl ?_)
  go_wp2_with fail
  go_ret
  exact ⟨_, rfl, World.ownsRow_nil _ _ _ _, (Below.refl w.heap.size w).alloc (Nat.le_refl _) _⟩
 | some ad =>
  obtain ⟨xs, HX⟩ : ∃ xs, Hid (RowsE 1 (NuE w) l xs ∧ (∀ (j : Nat) u, xs[j]? = some u → w.cell? (ad.add j) = some u) ∧ ∀ u, u ∈ xs → u.oneCell' = true) := by
   obtain ⟨xs, hx⟩ := rdX_cells row_nu h.out
   exact ⟨xs, lhid hx⟩
  have HXE := lhid (rowsE_nu HX.out.1)
  go_enter Try.func16, Try.ntmps16
  go_wp2_with fail
  with_reducible refine (HCa _).out.mono ?_
  rintro e w1 ⟨rfl, rfl⟩
  go_wp2_with (at_builtin; refine wpList_append_own _ rfl (.const (.slice none 0 0)) (.tmp 11) 22 rfl w.heap.size 3 i0 (.int .i64 0) 1 8 Try.underlying22 hi hz0 hz1 hz2 rfl (by decide) (.slice none 0 0) 0 [] rfl (World.ownsRow_nil _ _ _ _) ad l.length cap xs rfl HX.out.1.1 ?a2 HX.out.2.2 ?a4 ?a5 ?a6 ?_)
  case a2 =>
   intro j u hj
   have h1 := HX.out.2.1 j u hj
   rw [Go.RowKit.Below.cell ((Below.refl w.heap.size w).alloc (Nat.le_refl _) _) (cell_lt h1)]
   exact h1
  case a4 => unfold maxLen; omega
  case a5 => have := hby.out; omega
  case a6 => simp
  intro v' w' hown hgrow hnil
  have HO : Hid (OwN w' w.heap.size v' l) := lhid (by rw [HXE.out] at hown; simpa [OwN] using hown)
  have HB := lhid (Below.grown ((Below.refl w.heap.size w).alloc (Nat.le_refl _) _) hgrow (by simp) (fun k e => by cases e))
  clear hown hgrow hnil
  go_wp2_with fail
  go_ret
  exact ⟨_, rfl, HO.out, HB.out⟩
theorem ruses_any {P : Nat → Prop} (x : InI) (v : Value) (w : World) (h : Hid (RdX P 1 NuE w v x.args)) (hby : Hid (x.args.length * 8 ≤ 140737488355328)) :
  Calls Try.prog 16 #[inA x v] w fun e w' => ∃ v', e = .returned v' ∧ OwN w' w.heap.size v' (usesI x) ∧ Below w.heap.size w w' := by
 obtain ⟨c, d, a, b, k, n, t, r, l⟩ := x
 have HCa : ∀ w, Hid (Calls Try.prog 41 #[.int .i64 c] w fun e w' => e = .returned (.bool (callsB c)) ∧ w = w') := fun w => lhid (rcalls_any c w)
 have HR : ∀ w, Hid (Calls Try.prog 42 #[.int .i64 c] w fun e w' => e = .returned (.string (tx (rowT c))) ∧ Below w.heap.size w w') := fun w => lhid (rrow_any c w)
 by_cases hc : callsB c = true
 ·rw [hc] at HCa
  have hu : usesI ⟨c, d, a, b, k, n, t, r, l⟩ = l := by
   have h6 : rk c = 6 := by
    unfold callsB at hc
    rw [decide_eq_true_eq] at hc
    simp only [List.mem_cons, List.not_mem_nil, or_false] at hc
    rcases hc with e | e | e | e <;> rw [e] <;> decide
   unfold usesI
   rw [show rk (InI.mk c d a b k n t r l).op = 6 from h6]
   rfl
  rw [hu]
  exact ruses_c c d a b k n t r l v w h hby HCa
 ·have hc' : callsB c = false := by simpa using hc
  rw [hc'] at HCa
  have hus := uses_row ⟨c, d, a, b, k, n, t, r, l⟩ hc'
  by_cases h5 : c = 5
  ·subst h5
   refine ruses_5 (P := P) d a b k n t r v _ w (tx (rowT 5)) ?_ HCa HR
   rcases hus with ⟨h1, _⟩ | ⟨s0, s1, s2, s3, h1, h2⟩
   ·cases h1
   ·rw [h2]
    have e : rowU 5 = [45, 42, 42, 45] := rfl
    rw [e] at h1
    injection h1 with _ h1
    injection h1 with e1 h1
    injection h1 with e2 h1
    injection h1 with e3 h1
    subst e1 e2 e3
    exact lhid rfl
  by_cases h6 : c = 6
  ·subst h6
   refine ruses_6 (P := P) d a b k n t r v _ w (tx (rowT 6)) ?_ HCa HR
   rcases hus with ⟨h1, _⟩ | ⟨s0, s1, s2, s3, h1, h2⟩
   ·cases h1
   ·rw [h2]
    have e : rowU 6 = [45, 42, 45, 45] := rfl
    rw [e] at h1
    injection h1 with _ h1
    injection h1 with e1 h1
    injection h1 with e2 h1
    injection h1 with e3 h1
    subst e1 e2 e3
    exact lhid rfl
  have hrow : rowU c = rowT c := by unfold rowU; rw [if_neg h5, if_neg h6]
  have g5 : (c == 5) = false := by rw [beq_eq_false_iff_ne]; exact h5
  have g6 : (c == 6) = false := by rw [beq_eq_false_iff_ne]; exact h6
  rcases hus with ⟨h1, h2⟩ | ⟨s0, s1, s2, s3, h1, h2⟩
  ·rw [h2]
   have h1' : rowT c = [] := hrow.symm.trans h1
   rw [h1'] at HR
   clear h1 h1' h2 hrow h5 h6 hc hc'
   go_enter Try.func16, Try.ntmps16
   go_wp2_with fail
   with_reducible refine (HCa _).out.mono ?_
   rintro e w1 ⟨rfl, rfl⟩
   go_wp2_with fail
   with_reducible refine (HR _).out.mono ?_
   rintro e w2 ⟨rfl, hb⟩
   have h0 := (hb.block w.heap.size (by simp)).trans (heap_alloc_new w _)
   have c0 : w2.cell? ⟨w.heap.size, 0, none⟩ = some (vI c) := heap_cell h0 rfl
   have c1 : w2.cell? ⟨w.heap.size, 1, none⟩ = some (vI d) := heap_cell h0 rfl
   have c2 : w2.cell? ⟨w.heap.size, 2, none⟩ = some (vI a) := heap_cell h0 rfl
   have c3 : w2.cell? ⟨w.heap.size, 3, none⟩ = some (vI b) := heap_cell h0 rfl
   have c4 : w2.cell? ⟨w.heap.size, 4, none⟩ = some (vI k) := heap_cell h0 rfl
   have HB2 := lhid (((Below.refl w.heap.size w).alloc (Nat.le_refl _) _).trans (hb.mono (by simp)))
   have q0 := tx_nil
   clear hb h0
   go_wp2_with fail
   go_loopw [3, 6] (fun x i wr => x = .slice none 0 0 ∧ i = .int .i64 1 ∧ Hid (Below w.heap.size w wr)) (fun _ i _ => 0)
   case atStart => exact ⟨rfl, rfl, lhid (HB2.out.alloc HB2.out.size _)⟩
   case round =>
    obtain ⟨rfl, rfl, HB⟩ := hrel
    go_wp2_with fail
    go_ret
    exact ⟨_, rfl, World.ownsRow_nil _ _ _ _, HB.out⟩
  ·rw [h2]
   have h1' : rowT c = [s0, s1, s2, s3] := hrow.symm.trans h1
   rw [h1'] at HR
   exact ruses_o (P := P) c d a b k n t r v _ w (tx [s0, s1, s2, s3]) (by rw [tx_size]; rfl) (by rw [tx_size]; simp) (by rw [tx_size]; simp) (by rw [tx_size]; simp) g5 g6 (lhid rfl) HCa HR
end Go.Proofs.Ytoommeiiadobfaa
