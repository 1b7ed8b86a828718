/- Contract of the document's Uses, and Def. -/
import Derived.Test.YtoommeiiadobfaaM2
namespace Go.Proofs.Ytoommeiiadobfaa
open Go.RowKit Go
set_option linter.unusedVariables false
set_option linter.unusedSimpArgs false
def tk2 (s : UInt8) (r : Int) : Bool := !(s == 45) && (!(s == 63) || decide (0 ≤ r))
def us2 (s : UInt8) (r : Int) : List Int := if tk2 s r then [r] else []
theorem tk2_ways (s : UInt8) (r : Int) : (us2 s r = [] ∧ (s.toNat : Int) = 45) ∨ (us2 s r = [r] ∧ ¬ (s.toNat : Int) = 45 ∧ ¬ (s.toNat : Int) = 63) ∨ (us2 s r = [r] ∧ (s.toNat : Int) = 63 ∧ (0 : Int) ≤ r) ∨ (us2 s r = [] ∧ (s.toNat : Int) = 63 ∧ ¬ (0 : Int) ≤ r) := by
 unfold us2 tk2
 have e1 : (s == 45) = decide ((s.toNat : Int) = 45) := by
  rw [Bool.eq_iff_iff]
  simp only [beq_iff_eq, decide_eq_true_eq]
  constructor
  ·rintro rfl; rfl
  ·intro h
   apply UInt8.toNat_inj.1
   exact_mod_cast h
 have e2 : (s == 63) = decide ((s.toNat : Int) = 63) := by
  rw [Bool.eq_iff_iff]
  simp only [beq_iff_eq, decide_eq_true_eq]
  constructor
  ·rintro rfl; rfl
  ·intro h
   apply UInt8.toNat_inj.1
   exact_mod_cast h
 rw [e1, e2]
 by_cases h1 : (s.toNat : Int) = 45
 ·exact .inl (by simp [h1])
 ·by_cases h2 : (s.toNat : Int) = 63
  ·by_cases h3 : (0 : Int) ≤ r
   ·exact .inr (.inr (.inl (by simp [h2, h3])))
   ·exact .inr (.inr (.inr (by simp [h2, h3])))
  ·exact .inr (.inl (by simp [h1, h2]))
def rowU (c : Int) : Bs := if c = 5 then [45, 42, 42, 45] else if c = 6 then [45, 42, 45, 45] else rowT c
theorem uses_row (x : InI) (h : callsB x.op = false) : (rowU x.op = [] ∧ usesI x = []) ∨ ∃ s0 s1 s2 s3, rowU x.op = [s0, s1, s2, s3] ∧ usesI x = us2 s1 x.a ++ us2 s2 x.b ++ us2 s3 x.c := by
  obtain ⟨c, d, a, b, k, n, t, r, l⟩ := x
  revert h
  show callsB c = false → (rowU c = [] ∧ usesI ⟨c, d, a, b, k, n, t, r, l⟩ = []) ∨ ∃ s0 s1 s2 s3, rowU c = [s0, s1, s2, s3] ∧ usesI ⟨c, d, a, b, k, n, t, r, l⟩ = us2 s1 a ++ us2 s2 b ++ us2 s3 k
  by_cases ho : c < 1 ∨ 34 ≤ c
  · intro _
    refine .inl ⟨?_, ?_⟩
    · unfold rowU
      rw [if_neg (by omega), if_neg (by omega)]
      exact (out_of c ho).2.2.2.2.2.2.2.2
    · unfold usesI
      rw [show rk (InI.mk c d a b k n t r l).op = 0 from (out_of c ho).1]
      rfl
  intro h
  refine .inr ?_
  have hw := op_ways c
  have hx : rk c = rk c := rfl
  rcases hw with rfl | rfl | rfl | rfl | rfl | rfl | rfl | rfl | rfl | rfl | rfl | rfl | rfl | rfl | rfl | rfl | rfl | rfl | rfl | rfl | rfl | rfl | rfl | rfl | rfl | rfl | rfl | rfl | rfl | rfl | rfl | rfl | rfl | h | h
  all_goals first
    | (exfalso; revert h; decide)
    | (exfalso; omega)
    | exact ⟨_, _, _, _, rfl, rfl⟩
    | (refine ⟨_, _, _, _, rfl, ?_⟩
       by_cases hb : 0 ≤ b
       · simp [usesI, rk, cA, cAB, us2, tk2, hb]
       · simp [usesI, rk, cA, cAB, us2, tk2, hb])
    | (refine ⟨_, _, _, _, rfl, ?_⟩
       by_cases hb : 0 ≤ a
       · simp [usesI, rk, cA, cAB, us2, tk2, hb]
       · simp [usesI, rk, cA, cAB, us2, tk2, hb])
def usW (s1 s2 s3 : UInt8) (a b k : Int) (j : Nat) : List Int := (if 1 < j then us2 s1 a else []) ++ (if 2 < j then us2 s2 b else []) ++ (if 3 < j then us2 s3 k else [])
set_option maxHeartbeats 8000000 in
set_option maxRecDepth 100000 in
theorem ruses_o {P : Nat → Prop} (c d a b k n t : Int) (r : Bs) (v : Value) (U : List Int) (w : World) (sv : ByteArray) (hz : sv.size = 4) (b1 : 1 < sv.size) (b2 : 2 < sv.size) (b3 : 3 < sv.size) (n5 : (c == 5) = false) (n6 : (c == 6) = false) (HU : Hid (U = us2 sv[1] a ++ us2 sv[2] b ++ us2 sv[3] k))
  (HCa : ∀ w, Hid (Calls Try.prog 41 #[.int .i64 c] w fun e w' => e = .returned (.bool false) ∧ w = w'))
  (HR : ∀ w, Hid (Calls Try.prog 42 #[.int .i64 c] w fun e w' => e = .returned (.string sv) ∧ Below w.heap.size w w')) :
  Calls Try.prog 16 #[inL c d a b k n t r v] w fun e w' => ∃ v', e = .returned v' ∧ OwN w' w.heap.size v' U ∧ Below w.heap.size w w' := by
  obtain ⟨i0, hi0, hz0, hz1, hz2⟩ := info_parts info_nuP
  have HU0 := lhid (show usW sv[1] sv[2] sv[3] a b k 4 = U from by rw [HU.out]; simp [usW])
  go_enter Try.func16, Try.ntmps16
  go_wp2_with fail
  with_reducible refine (HCa _).out.mono ?_
  rintro e w1 ⟨rfl, rfl⟩
  go_wp2_with fail
  with_reducible refine (HR _).out.mono ?_
  rintro e w2 ⟨rfl, hb⟩
  have h0 := (hb.block w.heap.size (by simp)).trans (heap_alloc_new w _)
  have c0 : w2.cell? ⟨w.heap.size, 0, none⟩ = some (vI c) := heap_cell h0 rfl
  have c1 : w2.cell? ⟨w.heap.size, 1, none⟩ = some (vI d) := heap_cell h0 rfl
  have c2 : w2.cell? ⟨w.heap.size, 2, none⟩ = some (vI a) := heap_cell h0 rfl
  have c3 : w2.cell? ⟨w.heap.size, 3, none⟩ = some (vI b) := heap_cell h0 rfl
  have c4 : w2.cell? ⟨w.heap.size, 4, none⟩ = some (vI k) := heap_cell h0 rfl
  have HB2 := lhid (((Below.refl w.heap.size w).alloc (Nat.le_refl _) _).trans (hb.mono (by simp)))
  have hs2 : w.heap.size < w2.heap.size := by have := hb.size; simp at this; omega
  have n2 : ¬ w.heap.size = w2.heap.size := by omega
  have n2' : ¬ w2.heap.size = w.heap.size := by omega
  clear hb h0
  go_wp2_with fail
  go_loopw [3, 6] (fun v i wr => ∃ (D : List Int) (A : Option Addr) (q j : Nat), v = .slice A D.length q ∧ i = .int .i64 j ∧ 1 ≤ j ∧ j ≤ 4 ∧ Hid (D = usW sv[1] sv[2] sv[3] a b k j) ∧ Hid (OwN wr (w2.heap.size + 1) (.slice A D.length q) D) ∧ Hid (wr.heap[w2.heap.size]? = some (.cells #[vI d, vI a, vI b, vI k] 3 (0, 0))) ∧ Hid (Below w.heap.size w wr)) (fun _ i _ => 4 - (intOf i).toNat)
  case atStart => exact ⟨[], none, 0, 1, rfl, rfl, by omega, by omega, lhid (by simp [usW]), lhid (World.ownsRow_nil _ _ _ _), lhid (heap_alloc_new _ _), lhid (HB2.out.alloc HB2.out.size _)⟩
  case round =>
   obtain ⟨D, A, q, j, rfl, rfl, hj0, hj, HD, HO, HC, HB⟩ := hrel
   have r0 : wr.cell? ⟨w2.heap.size, 1, none⟩ = some (vI a) := heap_cell HC.out rfl
   have r1 : wr.cell? ⟨w2.heap.size, 2, none⟩ = some (vI b) := heap_cell HC.out rfl
   have r2 : wr.cell? ⟨w2.heap.size, 3, none⟩ = some (vI k) := heap_cell HC.out rfl
   have hDl : D.length ≤ 3 := by
    rw [HD.out]
    simp only [usW, us2]
    repeat' split
    all_goals simp
   have hRlt : w2.heap.size < wr.heap.size := heap_lt HC.out
   have hj4 : j = 1 ∨ j = 2 ∨ j = 3 ∨ j = 4 := by omega
   rcases hj4 with rfl | rfl | rfl | rfl
   ·
    rcases tk2_ways sv[1] a with ⟨HT, t0⟩ | ⟨HT, t0, t1⟩ | ⟨HT, t0, t1⟩ | ⟨HT, t0, t1⟩
    all_goals
     have hD2 := HD.out
     have HDT := lhid HT
     clear HT
    ·
     have HD2 : Hid (D = usW sv[1] sv[2] sv[3] a b k 2) := lhid (by rw [HD.out]; simp [usW, HDT.out])
     clear hD2
     go_wp2_with fail
     go_roundw
     case rel => exact ⟨D, A, q, 2, rfl, rfl, by omega, by omega, HD2, HO, HC, HB⟩
     case measure => simp [intOf]
    ·
     have HD2 : Hid (D ++ [a] = usW sv[1] sv[2] sv[3] a b k 2) := lhid (by rw [HD.out]; simp [usW, HDT.out])
     clear hD2
     go_wp2_with (at_builtin; refine wpList_append_own _ rfl (.tmp 54) (.tmp 59) 22 rfl (w2.heap.size + 1) 3 i0 (.int .i64 0) 1 8 Try.underlying22 hi0 hz0 hz1 hz2 rfl (by decide) (.slice A D.length q) D.length (D.map vI) rfl (HO.out.alloc _) ⟨wr.heap.size, 0, none⟩ 1 1 [vI a] rfl rfl ?g0c1 ?g0c2 ?g0c3 ?g0c4 ?g0c5 ?_)
     try case g0c1 => exact new_cells _ _ _
     case g0c2 => first | rfl | (intro u hu; simp at hu; subst hu; rfl)
     case g0c3 => unfold maxLen; omega
     case g0c4 => omega
     case g0c5 => first | omega | (simp; omega)
     intro v' w' hown hgrow hnil
     have hsh := own_shape hown
     obtain ⟨A', q', rfl⟩ := hsh
     have HO2 : Hid (OwN w' (w2.heap.size + 1) (.slice A' (D ++ [a]).length q') (D ++ [a])) := lhid (by simpa [OwN] using hown)
     have HC2 : Hid (w'.heap[w2.heap.size]? = some (.cells #[vI d, vI a, vI b, vI k] 3 (0, 0))) := lhid ((hgrow.block w2.heap.size (by simp; omega) (fun e => by have := own_lt HO.out w2.heap.size (by first | exact e.symm | exact e); omega)).trans ((Below.heap_alloc _ _ _ hRlt).trans HC.out))
     have HB3 := lhid (Below.grown (HB.out.alloc HB.out.size _) hgrow (by simp; have := HB.out.size; omega) (fun k e => by have := own_lt HO.out k e; omega))
     obtain ⟨E, hE⟩ : ∃ E, D ++ [a] = E := ⟨_, rfl⟩
     have hEl : D.length + 1 = E.length := by rw [← hE]; simp
     rw [hE] at HO2 HD2
     clear hown hgrow hnil hE
     go_wp2_with fail
     go_roundw
     case rel => exact ⟨E, A', q', 2, by rw [hEl], rfl, by omega, by omega, HD2, HO2, HC2, HB3⟩
     case measure => simp [intOf]
    ·
     have HD2 : Hid (D ++ [a] = usW sv[1] sv[2] sv[3] a b k 2) := lhid (by rw [HD.out]; simp [usW, HDT.out])
     clear hD2
     go_wp2_with (at_builtin; refine wpList_append_own _ rfl (.tmp 54) (.tmp 59) 22 rfl (w2.heap.size + 1) 3 i0 (.int .i64 0) 1 8 Try.underlying22 hi0 hz0 hz1 hz2 rfl (by decide) (.slice A D.length q) D.length (D.map vI) rfl (HO.out.alloc _) ⟨wr.heap.size, 0, none⟩ 1 1 [vI a] rfl rfl ?g1c1 ?g1c2 ?g1c3 ?g1c4 ?g1c5 ?_)
     try case g1c1 => exact new_cells _ _ _
     case g1c2 => first | rfl | (intro u hu; simp at hu; subst hu; rfl)
     case g1c3 => unfold maxLen; omega
     case g1c4 => omega
     case g1c5 => first | omega | (simp; omega)
     intro v' w' hown hgrow hnil
     have hsh := own_shape hown
     obtain ⟨A', q', rfl⟩ := hsh
     have HO2 : Hid (OwN w' (w2.heap.size + 1) (.slice A' (D ++ [a]).length q') (D ++ [a])) := lhid (by simpa [OwN] using hown)
     have HC2 : Hid (w'.heap[w2.heap.size]? = some (.cells #[vI d, vI a, vI b, vI k] 3 (0, 0))) := lhid ((hgrow.block w2.heap.size (by simp; omega) (fun e => by have := own_lt HO.out w2.heap.size (by first | exact e.symm | exact e); omega)).trans ((Below.heap_alloc _ _ _ hRlt).trans HC.out))
     have HB3 := lhid (Below.grown (HB.out.alloc HB.out.size _) hgrow (by simp; have := HB.out.size; omega) (fun k e => by have := own_lt HO.out k e; omega))
     obtain ⟨E, hE⟩ : ∃ E, D ++ [a] = E := ⟨_, rfl⟩
     have hEl : D.length + 1 = E.length := by rw [← hE]; simp
     rw [hE] at HO2 HD2
     clear hown hgrow hnil hE
     go_wp2_with fail
     go_roundw
     case rel => exact ⟨E, A', q', 2, by rw [hEl], rfl, by omega, by omega, HD2, HO2, HC2, HB3⟩
     case measure => simp [intOf]
    ·
     have HD2 : Hid (D = usW sv[1] sv[2] sv[3] a b k 2) := lhid (by rw [HD.out]; simp [usW, HDT.out])
     clear hD2
     go_wp2_with fail
     go_roundw
     case rel => exact ⟨D, A, q, 2, rfl, rfl, by omega, by omega, HD2, HO, HC, HB⟩
     case measure => simp [intOf]
   ·
    rcases tk2_ways sv[2] b with ⟨HT, t0⟩ | ⟨HT, t0, t1⟩ | ⟨HT, t0, t1⟩ | ⟨HT, t0, t1⟩
    all_goals
     have hD2 := HD.out
     have HDT := lhid HT
     clear HT
    ·
     have HD2 : Hid (D = usW sv[1] sv[2] sv[3] a b k 3) := lhid (by rw [HD.out]; simp [usW, HDT.out])
     clear hD2
     go_wp2_with fail
     go_roundw
     case rel => exact ⟨D, A, q, 3, rfl, rfl, by omega, by omega, HD2, HO, HC, HB⟩
     case measure => simp [intOf]
    ·
     have HD2 : Hid (D ++ [b] = usW sv[1] sv[2] sv[3] a b k 3) := lhid (by rw [HD.out]; simp [usW, HDT.out])
     clear hD2
     go_wp2_with (at_builtin; refine wpList_append_own _ rfl (.tmp 54) (.tmp 59) 22 rfl (w2.heap.size + 1) 3 i0 (.int .i64 0) 1 8 Try.underlying22 hi0 hz0 hz1 hz2 rfl (by decide) (.slice A D.length q) D.length (D.map vI) rfl (HO.out.alloc _) ⟨wr.heap.size, 0, none⟩ 1 1 [vI b] rfl rfl ?g2c1 ?g2c2 ?g2c3 ?g2c4 ?g2c5 ?_)
     try case g2c1 => exact new_cells _ _ _
     case g2c2 => first | rfl | (intro u hu; simp at hu; subst hu; rfl)
     case g2c3 => unfold maxLen; omega
     case g2c4 => omega
     case g2c5 => first | omega | (simp; omega)
     intro v' w' hown hgrow hnil
     have hsh := own_shape hown
     obtain ⟨A', q', rfl⟩ := hsh
     have HO2 : Hid (OwN w' (w2.heap.size + 1) (.slice A' (D ++ [b]).length q') (D ++ [b])) := lhid (by simpa [OwN] using hown)
     have HC2 : Hid (w'.heap[w2.heap.size]? = some (.cells #[vI d, vI a, vI b, vI k] 3 (0, 0))) := lhid ((hgrow.block w2.heap.size (by simp; omega) (fun e => by have := own_lt HO.out w2.heap.size (by first | exact e.symm | exact e); omega)).trans ((Below.heap_alloc _ _ _ hRlt).trans HC.out))
     have HB3 := lhid (Below.grown (HB.out.alloc HB.out.size _) hgrow (by simp; have := HB.out.size; omega) (fun k e => by have := own_lt HO.out k e; omega))
     obtain ⟨E, hE⟩ : ∃ E, D ++ [b] = E := ⟨_, rfl⟩
     have hEl : D.length + 1 = E.length := by rw [← hE]; simp
     rw [hE] at HO2 HD2
     clear hown hgrow hnil hE
     go_wp2_with fail
     go_roundw
     case rel => exact ⟨E, A', q', 3, by rw [hEl], rfl, by omega, by omega, HD2, HO2, HC2, HB3⟩
     case measure => simp [intOf]
    ·
     have HD2 : Hid (D ++ [b] = usW sv[1] sv[2] sv[3] a b k 3) := lhid (by rw [HD.out]; simp [usW, HDT.out])
     clear hD2
     go_wp2_with (at_builtin; refine wpList_append_own _ rfl (.tmp 54) (.tmp 59) 22 rfl (w2.heap.size + 1) 3 i0 (.int .i64 0) 1 8 Try.underlying22 hi0 hz0 hz1 hz2 rfl (by decide) (.slice A D.length q) D.length (D.map vI) rfl (HO.out.alloc _) ⟨wr.heap.size, 0, none⟩ 1 1 [vI b] rfl rfl ?g3c1 ?g3c2 ?g3c3 ?g3c4 ?g3c5 ?_)
     try case g3c1 => exact new_cells _ _ _
     case g3c2 => first | rfl | (intro u hu; simp at hu; subst hu; rfl)
     case g3c3 => unfold maxLen; omega
     case g3c4 => omega
     case g3c5 => first | omega | (simp; omega)
     intro v' w' hown hgrow hnil
     have hsh := own_shape hown
     obtain ⟨A', q', rfl⟩ := hsh
     have HO2 : Hid (OwN w' (w2.heap.size + 1) (.slice A' (D ++ [b]).length q') (D ++ [b])) := lhid (by simpa [OwN] using hown)
     have HC2 : Hid (w'.heap[w2.heap.size]? = some (.cells #[vI d, vI a, vI b, vI k] 3 (0, 0))) := lhid ((hgrow.block w2.heap.size (by simp; omega) (fun e => by have := own_lt HO.out w2.heap.size (by first | exact e.symm | exact e); omega)).trans ((Below.heap_alloc _ _ _ hRlt).trans HC.out))
     have HB3 := lhid (Below.grown (HB.out.alloc HB.out.size _) hgrow (by simp; have := HB.out.size; omega) (fun k e => by have := own_lt HO.out k e; omega))
     obtain ⟨E, hE⟩ : ∃ E, D ++ [b] = E := ⟨_, rfl⟩
     have hEl : D.length + 1 = E.length := by rw [← hE]; simp
     rw [hE] at HO2 HD2
     clear hown hgrow hnil hE
     go_wp2_with fail
     go_roundw
     case rel => exact ⟨E, A', q', 3, by rw [hEl], rfl, by omega, by omega, HD2, HO2, HC2, HB3⟩
     case measure => simp [intOf]
    ·
     have HD2 : Hid (D = usW sv[1] sv[2] sv[3] a b k 3) := lhid (by rw [HD.out]; simp [usW, HDT.out])
     clear hD2
     go_wp2_with fail
     go_roundw
     case rel => exact ⟨D, A, q, 3, rfl, rfl, by omega, by omega, HD2, HO, HC, HB⟩
     case measure => simp [intOf]
   ·
    rcases tk2_ways sv[3] k with ⟨HT, t0⟩ | ⟨HT, t0, t1⟩ | ⟨HT, t0, t1⟩ | ⟨HT, t0, t1⟩
    all_goals
     have hD2 := HD.out
     have HDT := lhid HT
     clear HT
    ·
     have HD2 : Hid (D = usW sv[1] sv[2] sv[3] a b k 4) := lhid (by rw [HD.out]; simp [usW, HDT.out])
     clear hD2
     go_wp2_with fail
     go_roundw
     case rel => exact ⟨D, A, q, 4, rfl, rfl, by omega, by omega, HD2, HO, HC, HB⟩
     case measure => simp [intOf]
    ·
     have HD2 : Hid (D ++ [k] = usW sv[1] sv[2] sv[3] a b k 4) := lhid (by rw [HD.out]; simp [usW, HDT.out])
     clear hD2
     go_wp2_with (at_builtin; refine wpList_append_own _ rfl (.tmp 54) (.tmp 59) 22 rfl (w2.heap.size + 1) 3 i0 (.int .i64 0) 1 8 Try.underlying22 hi0 hz0 hz1 hz2 rfl (by decide) (.slice A D.length q) D.length (D.map vI) rfl (HO.out.alloc _) ⟨wr.heap.size, 0, none⟩ 1 1 [vI k] rfl rfl ?g4c1 ?g4c2 ?g4c3 ?g4c4 ?g4c5 ?_)
     try case g4c1 => exact new_cells _ _ _
     case g4c2 => first | rfl | (intro u hu; simp at hu; subst hu; rfl)
     case g4c3 => unfold maxLen; omega
     case g4c4 => omega
     case g4c5 => first | omega | (simp; omega)
     intro v' w' hown hgrow hnil
     have hsh := own_shape hown
     obtain ⟨A', q', rfl⟩ := hsh
     have HO2 : Hid (OwN w' (w2.heap.size + 1) (.slice A' (D ++ [k]).length q') (D ++ [k])) := lhid (by simpa [OwN] using hown)
     have HC2 : Hid (w'.heap[w2.heap.size]? = some (.cells #[vI d, vI a, vI b, vI k] 3 (0, 0))) := lhid ((hgrow.block w2.heap.size (by simp; omega) (fun e => by have := own_lt HO.out w2.heap.size (by first | exact e.symm | exact e); omega)).trans ((Below.heap_alloc _ _ _ hRlt).trans HC.out))
     have HB3 := lhid (Below.grown (HB.out.alloc HB.out.size _) hgrow (by simp; have := HB.out.size; omega) (fun k e => by have := own_lt HO.out k e; omega))
     obtain ⟨E, hE⟩ : ∃ E, D ++ [k] = E := ⟨_, rfl⟩
     have hEl : D.length + 1 = E.length := by rw [← hE]; simp
     rw [hE] at HO2 HD2
     clear hown hgrow hnil hE
     go_wp2_with fail
     go_roundw
     case rel => exact ⟨E, A', q', 4, by rw [hEl], rfl, by omega, by omega, HD2, HO2, HC2, HB3⟩
     case measure => simp [intOf]
    ·
     have HD2 : Hid (D ++ [k] = usW sv[1] sv[2] sv[3] a b k 4) := lhid (by rw [HD.out]; simp [usW, HDT.out])
     clear hD2
     go_wp2_with (at_builtin; refine wpList_append_own _ rfl (.tmp 54) (.tmp 59) 22 rfl (w2.heap.size + 1) 3 i0 (.int .i64 0) 1 8 Try.underlying22 hi0 hz0 hz1 hz2 rfl (by decide) (.slice A D.length q) D.length (D.map vI) rfl (HO.out.alloc _) ⟨wr.heap.size, 0, none⟩ 1 1 [vI k] rfl rfl ?g5c1 ?g5c2 ?g5c3 ?g5c4 ?g5c5 ?_)
     try case g5c1 => exact new_cells _ _ _
     case g5c2 => first | rfl | (intro u hu; simp at hu; subst hu; rfl)
     case g5c3 => unfold maxLen; omega
     case g5c4 => omega
     case g5c5 => first | omega | (simp; omega)
     intro v' w' hown hgrow hnil
     have hsh := own_shape hown
     obtain ⟨A', q', rfl⟩ := hsh
     have HO2 : Hid (OwN w' (w2.heap.size + 1) (.slice A' (D ++ [k]).length q') (D ++ [k])) := lhid (by simpa [OwN] using hown)
     have HC2 : Hid (w'.heap[w2.heap.size]? = some (.cells #[vI d, vI a, vI b, vI k] 3 (0, 0))) := lhid ((hgrow.block w2.heap.size (by simp; omega) (fun e => by have := own_lt HO.out w2.heap.size (by first | exact e.symm | exact e); omega)).trans ((Below.heap_alloc _ _ _ hRlt).trans HC.out))
     have HB3 := lhid (Below.grown (HB.out.alloc HB.out.size _) hgrow (by simp; have := HB.out.size; omega) (fun k e => by have := own_lt HO.out k e; omega))
     obtain ⟨E, hE⟩ : ∃ E, D ++ [k] = E := ⟨_, rfl⟩
     have hEl : D.length + 1 = E.length := by rw [← hE]; simp
     rw [hE] at HO2 HD2
     clear hown hgrow hnil hE
     go_wp2_with fail
     go_roundw
     case rel => exact ⟨E, A', q', 4, by rw [hEl], rfl, by omega, by omega, HD2, HO2, HC2, HB3⟩
     case measure => simp [intOf]
    ·
     have HD2 : Hid (D = usW sv[1] sv[2] sv[3] a b k 4) := lhid (by rw [HD.out]; simp [usW, HDT.out])
     clear hD2
     go_wp2_with fail
     go_roundw
     case rel => exact ⟨D, A, q, 4, rfl, rfl, by omega, by omega, HD2, HO, HC, HB⟩
     case measure => simp [intOf]
   ·go_wp2_with fail
    go_ret
    refine ⟨_, rfl, ?_, HB.out⟩
    rw [← HU0.out, ← HD.out]
    exact own_base HO.out (by omega)
set_option maxHeartbeats 8000000 in
set_option maxRecDepth 100000 in
theorem ruses_5 {P : Nat → Prop} (d a b k n t : Int) (r : Bs) (v : Value) (U : List Int) (w : World) (s : ByteArray) (HU : Hid (U = us2 42 a ++ us2 42 b ++ us2 45 k))
  (HCa : ∀ w, Hid (Calls Try.prog 41 #[.int .i64 5] w fun e w' => e = .returned (.bool false) ∧ w = w'))
  (HR : ∀ w, Hid (Calls Try.prog 42 #[.int .i64 5] w fun e w' => e = .returned (.string s) ∧ Below w.heap.size w w')) :
  Calls Try.prog 16 #[inL 5 d a b k n t r v] w fun e w' => ∃ v', e = .returned v' ∧ OwN w' w.heap.size v' U ∧ Below w.heap.size w w' := by
  obtain ⟨i0, hi0, hz0, hz1, hz2⟩ := info_parts info_nuP
  have HU0 := lhid (show usW 42 42 45 a b k 4 = U from by rw [HU.out]; simp [usW])
  go_enter Try.func16, Try.ntmps16
  go_wp2_with fail
  with_reducible refine (HCa _).out.mono ?_
  rintro e w1 ⟨rfl, rfl⟩
  go_wp2_with fail
  with_reducible refine (HR _).out.mono ?_
  rintro e w2 ⟨rfl, hb⟩
  have h0 := (hb.block w.heap.size (by simp)).trans (heap_alloc_new w _)
  have c0 : w2.cell? ⟨w.heap.size, 0, none⟩ = some (vI 5) := heap_cell h0 rfl
  have c1 : w2.cell? ⟨w.heap.size, 1, none⟩ = some (vI d) := heap_cell h0 rfl
  have c2 : w2.cell? ⟨w.heap.size, 2, none⟩ = some (vI a) := heap_cell h0 rfl
  have c3 : w2.cell? ⟨w.heap.size, 3, none⟩ = some (vI b) := heap_cell h0 rfl
  have c4 : w2.cell? ⟨w.heap.size, 4, none⟩ = some (vI k) := heap_cell h0 rfl
  have HB2 := lhid (((Below.refl w.heap.size w).alloc (Nat.le_refl _) _).trans (hb.mono (by simp)))
  have hs2 : w.heap.size < w2.heap.size := by have := hb.size; simp at this; omega
  have n2 : ¬ w.heap.size = w2.heap.size := by omega
  have n2' : ¬ w2.heap.size = w.heap.size := by omega
  clear hb h0
  go_wp2_with fail
  go_loopw [3, 6] (fun v i wr => ∃ (D : List Int) (A : Option Addr) (q j : Nat), v = .slice A D.length q ∧ i = .int .i64 j ∧ 1 ≤ j ∧ j ≤ 4 ∧ Hid (D = usW 42 42 45 a b k j) ∧ Hid (OwN wr (w2.heap.size + 1) (.slice A D.length q) D) ∧ Hid (wr.heap[w2.heap.size]? = some (.cells #[vI d, vI a, vI b, vI k] 3 (0, 0))) ∧ Hid (Below w.heap.size w wr)) (fun _ i _ => 4 - (intOf i).toNat)
  case atStart => exact ⟨[], none, 0, 1, rfl, rfl, by omega, by omega, lhid (by simp [usW]), lhid (World.ownsRow_nil _ _ _ _), lhid (heap_alloc_new _ _), lhid (HB2.out.alloc HB2.out.size _)⟩
  case round =>
   obtain ⟨D, A, q, j, rfl, rfl, hj0, hj, HD, HO, HC, HB⟩ := hrel
   have r0 : wr.cell? ⟨w2.heap.size, 1, none⟩ = some (vI a) := heap_cell HC.out rfl
   have r1 : wr.cell? ⟨w2.heap.size, 2, none⟩ = some (vI b) := heap_cell HC.out rfl
   have r2 : wr.cell? ⟨w2.heap.size, 3, none⟩ = some (vI k) := heap_cell HC.out rfl
   have hDl : D.length ≤ 3 := by
    rw [HD.out]
    simp only [usW, us2]
    repeat' split
    all_goals simp
   have hRlt : w2.heap.size < wr.heap.size := heap_lt HC.out
   have hj4 : j = 1 ∨ j = 2 ∨ j = 3 ∨ j = 4 := by omega
   rcases hj4 with rfl | rfl | rfl | rfl
   ·
    ·
     have hD2 := HD.out
     have HDT : Hid (us2 42 a = [a]) := lhid rfl
     have HD2 : Hid (D ++ [a] = usW 42 42 45 a b k 2) := lhid (by rw [HD.out]; simp [usW, HDT.out])
     clear hD2
     go_wp2_with (at_builtin; refine wpList_append_own _ rfl (.tmp 54) (.tmp 59) 22 rfl (w2.heap.size + 1) 3 i0 (.int .i64 0) 1 8 Try.underlying22 hi0 hz0 hz1 hz2 rfl (by decide) (.slice A D.length q) D.length (D.map vI) rfl (HO.out.alloc _) ⟨wr.heap.size, 0, none⟩ 1 1 [vI a] rfl rfl ?g6c1 ?g6c2 ?g6c3 ?g6c4 ?g6c5 ?_)
     try case g6c1 => exact new_cells _ _ _
     case g6c2 => first | rfl | (intro u hu; simp at hu; subst hu; rfl)
     case g6c3 => unfold maxLen; omega
     case g6c4 => omega
     case g6c5 => first | omega | (simp; omega)
     intro v' w' hown hgrow hnil
     have hsh := own_shape hown
     obtain ⟨A', q', rfl⟩ := hsh
     have HO2 : Hid (OwN w' (w2.heap.size + 1) (.slice A' (D ++ [a]).length q') (D ++ [a])) := lhid (by simpa [OwN] using hown)
     have HC2 : Hid (w'.heap[w2.heap.size]? = some (.cells #[vI d, vI a, vI b, vI k] 3 (0, 0))) := lhid ((hgrow.block w2.heap.size (by simp; omega) (fun e => by have := own_lt HO.out w2.heap.size (by first | exact e.symm | exact e); omega)).trans ((Below.heap_alloc _ _ _ hRlt).trans HC.out))
     have HB3 := lhid (Below.grown (HB.out.alloc HB.out.size _) hgrow (by simp; have := HB.out.size; omega) (fun k e => by have := own_lt HO.out k e; omega))
     obtain ⟨E, hE⟩ : ∃ E, D ++ [a] = E := ⟨_, rfl⟩
     have hEl : D.length + 1 = E.length := by rw [← hE]; simp
     rw [hE] at HO2 HD2
     clear hown hgrow hnil hE
     go_wp2_with fail
     go_roundw
     case rel => exact ⟨E, A', q', 2, by rw [hEl], rfl, by omega, by omega, HD2, HO2, HC2, HB3⟩
     case measure => simp [intOf]
   ·
    ·
     have hD2 := HD.out
     have HDT : Hid (us2 42 b = [b]) := lhid rfl
     have HD2 : Hid (D ++ [b] = usW 42 42 45 a b k 3) := lhid (by rw [HD.out]; simp [usW, HDT.out])
     clear hD2
     go_wp2_with (at_builtin; refine wpList_append_own _ rfl (.tmp 54) (.tmp 59) 22 rfl (w2.heap.size + 1) 3 i0 (.int .i64 0) 1 8 Try.underlying22 hi0 hz0 hz1 hz2 rfl (by decide) (.slice A D.length q) D.length (D.map vI) rfl (HO.out.alloc _) ⟨wr.heap.size, 0, none⟩ 1 1 [vI b] rfl rfl ?g7c1 ?g7c2 ?g7c3 ?g7c4 ?g7c5 ?_)
     try case g7c1 => exact new_cells _ _ _
     case g7c2 => first | rfl | (intro u hu; simp at hu; subst hu; rfl)
     case g7c3 => unfold maxLen; omega
     case g7c4 => omega
     case g7c5 => first | omega | (simp; omega)
     intro v' w' hown hgrow hnil
     have hsh := own_shape hown
     obtain ⟨A', q', rfl⟩ := hsh
     have HO2 : Hid (OwN w' (w2.heap.size + 1) (.slice A' (D ++ [b]).length q') (D ++ [b])) := lhid (by simpa [OwN] using hown)
     have HC2 : Hid (w'.heap[w2.heap.size]? = some (.cells #[vI d, vI a, vI b, vI k] 3 (0, 0))) := lhid ((hgrow.block w2.heap.size (by simp; omega) (fun e => by have := own_lt HO.out w2.heap.size (by first | exact e.symm | exact e); omega)).trans ((Below.heap_alloc _ _ _ hRlt).trans HC.out))
     have HB3 := lhid (Below.grown (HB.out.alloc HB.out.size _) hgrow (by simp; have := HB.out.size; omega) (fun k e => by have := own_lt HO.out k e; omega))
     obtain ⟨E, hE⟩ : ∃ E, D ++ [b] = E := ⟨_, rfl⟩
     have hEl : D.length + 1 = E.length := by rw [← hE]; simp
     rw [hE] at HO2 HD2
     clear hown hgrow hnil hE
     go_wp2_with fail
     go_roundw
     case rel => exact ⟨E, A', q', 3, by rw [hEl], rfl, by omega, by omega, HD2, HO2, HC2, HB3⟩
     case measure => simp [intOf]
   ·
    ·
     have hD2 := HD.out
     have HDT : Hid (us2 45 k = []) := lhid rfl
     have HD2 : Hid (D = usW 42 42 45 a b k 4) := lhid (by rw [HD.out]; simp [usW, HDT.out])
     clear hD2
     go_wp2_with fail
     go_roundw
     case rel => exact ⟨D, A, q, 4, rfl, rfl, by omega, by omega, HD2, HO, HC, HB⟩
     case measure => simp [intOf]
   ·go_wp2_with fail
    go_ret
    refine ⟨_, rfl, ?_, HB.out⟩
    rw [← HU0.out, ← HD.out]
    exact own_base HO.out (by omega)
set_option maxHeartbeats 8000000 in
set_option maxRecDepth 100000 in
theorem ruses_6 {P : Nat → Prop} (d a b k n t : Int) (r : Bs) (v : Value) (U : List Int) (w : World) (s : ByteArray) (HU : Hid (U = us2 42 a ++ us2 45 b ++ us2 45 k))
  (HCa : ∀ w, Hid (Calls Try.prog 41 #[.int .i64 6] w fun e w' => e = .returned (.bool false) ∧ w = w'))
  (HR : ∀ w, Hid (Calls Try.prog 42 #[.int .i64 6] w fun e w' => e = .returned (.string s) ∧ Below w.heap.size w w')) :
  Calls Try.prog 16 #[inL 6 d a b k n t r v] w fun e w' => ∃ v', e = .returned v' ∧ OwN w' w.heap.size v' U ∧ Below w.heap.size w w' := by
  obtain ⟨i0, hi0, hz0, hz1, hz2⟩ := info_parts info_nuP
  have HU0 := lhid (show usW 42 45 45 a b k 4 = U from by rw [HU.out]; simp [usW])
  go_enter Try.func16, Try.ntmps16
  go_wp2_with fail
  with_reducible refine (HCa _).out.mono ?_
  rintro e w1 ⟨rfl, rfl⟩
  go_wp2_with fail
  with_reducible refine (HR _).out.mono ?_
  rintro e w2 ⟨rfl, hb⟩
  have h0 := (hb.block w.heap.size (by simp)).trans (heap_alloc_new w _)
  have c0 : w2.cell? ⟨w.heap.size, 0, none⟩ = some (vI 6) := heap_cell h0 rfl
  have c1 : w2.cell? ⟨w.heap.size, 1, none⟩ = some (vI d) := heap_cell h0 rfl
  have c2 : w2.cell? ⟨w.heap.size, 2, none⟩ = some (vI a) := heap_cell h0 rfl
  have c3 : w2.cell? ⟨w.heap.size, 3, none⟩ = some (vI b) := heap_cell h0 rfl
  have c4 : w2.cell? ⟨w.heap.size, 4, none⟩ = some (vI k) := heap_cell h0 rfl
  have HB2 := lhid (((Below.refl w.heap.size w).alloc (Nat.le_refl _) _).trans (hb.mono (by simp)))
  have hs2 : w.heap.size < w2.heap.size := by have := hb.size; simp at this; omega
  have n2 : ¬ w.heap.size = w2.heap.size := by omega
  have n2' : ¬ w2.heap.size = w.heap.size := by omega
  clear hb h0
  go_wp2_with fail
  go_loopw [3, 6] (fun v i wr => ∃ (D : List Int) (A : Option Addr) (q j : Nat), v = .slice A D.length q ∧ i = .int .i64 j ∧ 1 ≤ j ∧ j ≤ 4 ∧ Hid (D = usW 42 45 45 a b k j) ∧ Hid (OwN wr (w2.heap.size + 1) (.slice A D.length q) D) ∧ Hid (wr.heap[w2.heap.size]? = some (.cells #[vI d, vI a, vI b, vI k] 3 (0, 0))) ∧ Hid (Below w.heap.size w wr)) (fun _ i _ => 4 - (intOf i).toNat)
  case atStart => exact ⟨[], none, 0, 1, rfl, rfl, by omega, by omega, lhid (by simp [usW]), lhid (World.ownsRow_nil _ _ _ _), lhid (heap_alloc_new _ _), lhid (HB2.out.alloc HB2.out.size _)⟩
  case round =>
   obtain ⟨D, A, q, j, rfl, rfl, hj0, hj, HD, HO, HC, HB⟩ := hrel
   have r0 : wr.cell? ⟨w2.heap.size, 1, none⟩ = some (vI a) := heap_cell HC.out rfl
   have r1 : wr.cell? ⟨w2.heap.size, 2, none⟩ = some (vI b) := heap_cell HC.out rfl
   have r2 : wr.cell? ⟨w2.heap.size, 3, none⟩ = some (vI k) := heap_cell HC.out rfl
   have hDl : D.length ≤ 3 := by
    rw [HD.out]
    simp only [usW, us2]
    repeat' split
    all_goals simp
   have hRlt : w2.heap.size < wr.heap.size := heap_lt HC.out
   have hj4 : j = 1 ∨ j = 2 ∨ j = 3 ∨ j = 4 := by omega
   rcases hj4 with rfl | rfl | rfl | rfl
   ·
    ·
     have hD2 := HD.out
     have HDT : Hid (us2 42 a = [a]) := lhid rfl
     have HD2 : Hid (D ++ [a] = usW 42 45 45 a b k 2) := lhid (by rw [HD.out]; simp [usW, HDT.out])
     clear hD2
     go_wp2_with (at_builtin; refine wpList_append_own _ rfl (.tmp 54) (.tmp 59) 22 rfl (w2.heap.size + 1) 3 i0 (.int .i64 0) 1 8 Try.underlying22 hi0 hz0 hz1 hz2 rfl (by decide) (.slice A D.length q) D.length (D.map vI) rfl (HO.out.alloc _) ⟨wr.heap.size, 0, none⟩ 1 1 [vI a] rfl rfl ?g8c1 ?g8c2 ?g8c3 ?g8c4 ?g8c5 ?_)
     try case g8c1 => exact new_cells _ _ _
     case g8c2 => first | rfl | (intro u hu; simp at hu; subst hu; rfl)
     case g8c3 => unfold maxLen; omega
     case g8c4 => omega
     case g8c5 => first | omega | (simp; omega)
     intro v' w' hown hgrow hnil
     have hsh := own_shape hown
     obtain ⟨A', q', rfl⟩ := hsh
     have HO2 : Hid (OwN w' (w2.heap.size + 1) (.slice A' (D ++ [a]).length q') (D ++ [a])) := lhid (by simpa [OwN] using hown)
     have HC2 : Hid (w'.heap[w2.heap.size]? = some (.cells #[vI d, vI a, vI b, vI k] 3 (0, 0))) := lhid ((hgrow.block w2.heap.size (by simp; omega) (fun e => by have := own_lt HO.out w2.heap.size (by first | exact e.symm | exact e); omega)).trans ((Below.heap_alloc _ _ _ hRlt).trans HC.out))
     have HB3 := lhid (Below.grown (HB.out.alloc HB.out.size _) hgrow (by simp; have := HB.out.size; omega) (fun k e => by have := own_lt HO.out k e; omega))
     obtain ⟨E, hE⟩ : ∃ E, D ++ [a] = E := ⟨_, rfl⟩
     have hEl : D.length + 1 = E.length := by rw [← hE]; simp
     rw [hE] at HO2 HD2
     clear hown hgrow hnil hE
     go_wp2_with fail
     go_roundw
     case rel => exact ⟨E, A', q', 2, by rw [hEl], rfl, by omega, by omega, HD2, HO2, HC2, HB3⟩
     case measure => simp [intOf]
   ·
    ·
     have hD2 := HD.out
     have HDT : Hid (us2 45 b = []) := lhid rfl
     have HD2 : Hid (D = usW 42 45 45 a b k 3) := lhid (by rw [HD.out]; simp [usW, HDT.out])
     clear hD2
     go_wp2_with fail
     go_roundw
     case rel => exact ⟨D, A, q, 3, rfl, rfl, by omega, by omega, HD2, HO, HC, HB⟩
     case measure => simp [intOf]
   ·
    ·
     have hD2 := HD.out
     have HDT : Hid (us2 45 k = []) := lhid rfl
     have HD2 : Hid (D = usW 42 45 45 a b k 4) := lhid (by rw [HD.out]; simp [usW, HDT.out])
     clear hD2
     go_wp2_with fail
     go_roundw
     case rel => exact ⟨D, A, q, 4, rfl, rfl, by omega, by omega, HD2, HO, HC, HB⟩
     case measure => simp [intOf]
   ·go_wp2_with fail
    go_ret
    refine ⟨_, rfl, ?_, HB.out⟩
    rw [← HU0.out, ← HD.out]
    exact own_base HO.out (by omega)
end Go.Proofs.Ytoommeiiadobfaa
