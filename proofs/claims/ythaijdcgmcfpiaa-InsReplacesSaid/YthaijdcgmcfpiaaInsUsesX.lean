/- Contract of Uses, the program's: the walk. -/
import Derived.Test.YthaijdcgmcfpiaaInsUsesW
namespace Go.Proofs.Ythaijdcgmcfpiaa
open Go.RowKit Go
set_option linter.unusedVariables false
set_option linter.unusedSimpArgs false

abbrev vI (z : Int) : Value := .int .i64 z
/-- A list of numbers that a call made. -/
abbrev OwN (w : World) (B : Nat) (v : Value) (l : List Int) : Prop := w.ownsRow B 3 1 v l.length (l.map vI)
theorem rowsE_nu {w : World} {l : List Int} {xs : List Value} (h : RowsE 1 (NuE w) l xs) : xs = l.map vI := by
  apply List.ext_getElem?
  intro i
  rw [List.getElem?_map]
  cases hi : l[i]? with
  | none =>
    have h1 := List.getElem?_eq_none_iff.1 hi
    rw [List.getElem?_eq_none_iff.2 (by rw [h.1]; omega)]
    rfl
  | some z =>
    obtain ⟨c, h2, h3⟩ := h.2 i z hi
    rw [h2] at h3
    have := h3 0 (vI z) rfl
    rw [Nat.mul_one, Nat.add_zero] at this
    rw [this]
    rfl
theorem nu_rowsE (w : World) (l : List Int) : RowsE 1 (NuE w) l (l.map vI) := by
  refine ⟨by simp, fun i a hi => ⟨[vI a], rfl, fun j u hj => ?_⟩⟩
  cases j with
  | succ j => simp at hj
  | zero =>
    simp at hj
    subst hj
    rw [Nat.mul_one, Nat.add_zero, List.getElem?_map, hi]
    rfl
theorem OwN.rd {w : World} {B : Nat} {v : Value} {l : List Int} (h : OwN w B v l) (hl : l.length ≤ 140737488355328) : RdX (fun g => B ≤ g ∧ v.ownBlock = some g) 1 NuE w v l := rdX_own h hl (nu_rowsE w l)
theorem info_nuP : (Try.prog.info? 3).map (fun i => (i.zero, i.size, i.bytes)) = some (some (.int .i64 0), 1, 8) := by kernel_rfl
theorem idx3 (a b k : Int) : (∀ w', (Instr.index 61 (.agg #[vI a, vI b, vI k]) (vI 0)).run Try.prog w' = .ok (vI a) w') ∧ (∀ w', (Instr.index 61 (.agg #[vI a, vI b, vI k]) (vI 1)).run Try.prog w' = .ok (vI b) w') ∧ (∀ w', (Instr.index 61 (.agg #[vI a, vI b, vI k]) (vI 2)).run Try.prog w' = .ok (vI k) w') :=
  ⟨fun w' => by kernel_rfl, fun w' => by kernel_rfl, fun w' => by kernel_rfl⟩
theorem tk_ways (f r : Int) : (us1 f r = [] ∧ (f == 0) = true) ∨ (us1 f r = [r] ∧ ¬ f = 0 ∧ ¬ r < 0) ∨ (us1 f r = [] ∧ ¬ f = 0 ∧ r < 0 ∧ hasB f 0 = true) ∨ (us1 f r = [r] ∧ ¬ f = 0 ∧ r < 0 ∧ hasB f 0 = false) := by
  unfold us1 tkB
  by_cases h0 : f = 0
  · exact .inl (by simp [h0])
  · by_cases h1 : r < 0
    · cases h2 : hasB f 0
      · exact .inr (.inr (.inr (by simp [h0, h1])))
      · exact .inr (.inr (.inl (by simp [h0, h1])))
    · exact .inr (.inl (by simp [h0, h1]))
/-- What is told of the first j fields. -/
def usU (f1 f2 f3 a b k : Int) (j : Nat) : List Int := (if 0 < j then us1 f1 a else []) ++ (if 1 < j then us1 f2 b else []) ++ (if 2 < j then us1 f3 k else [])
set_option maxHeartbeats 8000000 in
set_option maxRecDepth 100000 in
theorem uses_any {P : Nat → Prop} (x : InI) (v : Value) (w : World) (h : Hid (RdX P 1 NuE w v x.args)) (hby : Hid (x.args.length * 8 ≤ 140737488355328)) :
    Calls Try.prog 14 #[inA x v] w fun e w' => ∃ v', e = .returned v' ∧ OwN w' w.heap.size v' (usesI x) ∧ Below w.heap.size w w' := by
  have hus := uses_us x
  have huc : callsB x.op = true → usesI x = x.args := by
    intro hc
    unfold callsB at hc
    rw [decide_eq_true_eq] at hc
    have : rk x.op = 6 := by
      simp only [List.mem_cons, List.not_mem_nil, or_false] at hc
      rcases hc with e | e | e | e <;> rw [e] <;> decide
    unfold usesI
    rw [this]
    rfl
  have hfs := fd_sets x.op
  have HCa : ∀ w, Hid (Calls Try.prog 18 #[inA x v] w fun e w' => e = .returned (.bool (callsB x.op)) ∧ Below w.heap.size w w') := fun w => lhid (calls_any x v w)
  have HF : ∀ w, Hid (Calls Try.prog 51 #[.int .i64 x.op] w fun e w' => e = .returned (fdV x.op) ∧ Below w.heap.size w w') := fun w => lhid (fieldsOf_any x.op w)
  unfold fdV at HF
  generalize usesI x = U at *
  generalize callsB x.op = z at *
  generalize (fdT x.op).1 = f0 at *
  generalize (fdT x.op).2.1 = f1 at *
  generalize (fdT x.op).2.2.1 = f2 at *
  generalize (fdT x.op).2.2.2 = f3 at *
  obtain ⟨c, d, a, b, k, n, t, r, l⟩ := x
  dsimp only [inA] at *
  cases z
  · have HU := lhid (hus rfl)
    have HFS := lhid hfs
    clear hus huc hfs
    have hq := field_r f0 f1 f2 f3
    obtain ⟨x0, x1, x2⟩ := idx3 a b k
    obtain ⟨i0, hi0, hz0, hz1, hz2⟩ := info_parts info_nuP
    go_enter Try.func14, Try.ntmps14
    go_wp2_with fail
    with_reducible refine (HCa _).out.mono ?_
    rintro e w1 ⟨rfl, hb⟩
    have h0 := (hb.block w.heap.size (by simp)).trans (heap_alloc_new w _)
    have c0 : w1.cell? ⟨w.heap.size, 0, none⟩ = some (vI c) := heap_cell h0 rfl
    have H0 := lhid h0
    have HB1 := lhid (((Below.refl w.heap.size w).alloc (Nat.le_refl _) _).trans (hb.mono (by simp)))
    have HS1 := lhid (show w.heap.size + 1 ≤ w1.heap.size by have := hb.size; simpa using this)
    clear hb h0
    go_wp2_with fail
    with_reducible refine (HF _).out.mono ?_
    rintro e w2 ⟨rfl, hb⟩
    have h0 := (hb.block w.heap.size (by have := HS1.out; omega)).trans H0.out
    have c2 : w2.cell? ⟨w.heap.size, 2, none⟩ = some (vI a) := heap_cell h0 rfl
    have c3 : w2.cell? ⟨w.heap.size, 3, none⟩ = some (vI b) := heap_cell h0 rfl
    have c4 : w2.cell? ⟨w.heap.size, 4, none⟩ = some (vI k) := heap_cell h0 rfl
    have HB2 := lhid (HB1.out.trans (hb.mono HB1.out.size))
    have hs2 : w.heap.size < w2.heap.size := by have := HS1.out; have := hb.size; omega
    have n2 : ¬ w.heap.size = w2.heap.size := by omega
    have n2' : ¬ w2.heap.size = w.heap.size := by omega
    clear hb h0
    go_wp2_with fail
    have HU0 := lhid (show usU f1 f2 f3 a b k 3 = U from by rw [HU.out]; simp [usU])
    have HW3 := lhid (Below.refl w2.heap.size w2)
    go_loopw [3, 23] (fun v i wr => ∃ (D : List Int) (A : Option Addr) (q j : Nat), v = .slice A D.length q ∧ i = .int .i64 j ∧ j ≤ 3 ∧ Hid (D = usU f1 f2 f3 a b k j) ∧ Hid (OwN wr (w2.heap.size + 1) (.slice A D.length q) D) ∧ Hid (wr.heap[w2.heap.size]? = some (.cells #[.int .u64 f1, .int .u64 f2, .int .u64 f3] 57 (0, 0))) ∧ Hid (Below w.heap.size w wr)) (fun _ i _ => 3 - (intOf i).toNat)
    case atStart => exact ⟨[], none, 0, 0, rfl, rfl, by omega, lhid (by simp [usU]), lhid (World.ownsRow_nil _ _ _ _), lhid (heap_alloc_new _ _), lhid (HB2.out.alloc HB2.out.size _)⟩
    case round =>
      obtain ⟨D, A, q, j, rfl, rfl, hj, HD, HO, HC, HB⟩ := hrel
      have r0 : wr.cell? ⟨w2.heap.size, 0, none⟩ = some (.int .u64 f1) := heap_cell HC.out rfl
      have r1 : wr.cell? ⟨w2.heap.size, 1, none⟩ = some (.int .u64 f2) := heap_cell HC.out rfl
      have r2 : wr.cell? ⟨w2.heap.size, 2, none⟩ = some (.int .u64 f3) := heap_cell HC.out rfl
      have hDl : D.length ≤ 3 := by
        rw [HD.out]
        simp only [usU, us1]
        repeat' split
        all_goals simp
      have hRlt : w2.heap.size < wr.heap.size := heap_lt HC.out
      have hj4 : j = 0 ∨ j = 1 ∨ j = 2 ∨ j = 3 := by omega
      have hfs := HFS.out
      rcases hj4 with rfl | rfl | rfl | rfl
      · have HH := has_any f1 0 hfs.1 (.inl rfl)
        have HHH := lhid HH
        clear HH hfs
        rcases tk_ways f1 a with ⟨HT, t0⟩ | ⟨HT, t0, t1⟩ | ⟨HT, t0, t1, t2⟩ | ⟨HT, t0, t1, t2⟩
        all_goals
          have hD2 := HD.out
          have HDT := lhid HT
          clear HT
        · have HD2 : Hid (D = usU f1 f2 f3 a b k 1) := lhid (by rw [HD.out]; simp [usU, HDT.out])
          clear hD2
          obtain rfl := eq_of_beq t0
          clear t0
          go_wp2_with fail
          go_roundw
          case rel => exact ⟨D, A, q, 1, rfl, rfl, by omega, HD2, HO, HC, HB⟩
          case measure => simp [intOf]
        · have HD2 : Hid (D ++ [a] = usU f1 f2 f3 a b k 1) := lhid (by rw [HD.out]; simp [usU, HDT.out])
          clear hD2
          go_wp2_with (at_builtin; refine wpList_append_own _ rfl (.tmp 42) (.tmp 44) 22 rfl (w2.heap.size + 1) 3 i0 (.int .i64 0) 1 8 Try.underlying22 hi0 hz0 hz1 hz2 rfl (by decide) (.slice A D.length q) D.length (D.map vI) rfl (HO.out.alloc _) ⟨wr.heap.size, 0, none⟩ 1 1 [vI a] rfl rfl ?g0c1 ?g0c2 ?g0c3 ?g0c4 ?g0c5 ?_)
          try case g0c1 => exact new_cells _ _ _
          case g0c2 => first | rfl | (intro u hu; simp at hu; subst hu; rfl)
          case g0c3 => unfold maxLen; omega
          case g0c4 => omega
          case g0c5 => first | omega | (simp; omega)
          intro v' w' hown hgrow hnil
          have hsh := own_shape hown
          obtain ⟨A', q', rfl⟩ := hsh
          have HO2 : Hid (OwN w' (w2.heap.size + 1) (.slice A' (D ++ [a]).length q') (D ++ [a])) := lhid (by simpa [OwN] using hown)
          have HC2 : Hid (w'.heap[w2.heap.size]? = some (.cells #[.int .u64 f1, .int .u64 f2, .int .u64 f3] 57 (0, 0))) := lhid ((hgrow.block w2.heap.size (by simp; omega) (fun e => by have := own_lt HO.out w2.heap.size (by first | exact e.symm | exact e); omega)).trans ((Below.heap_alloc _ _ _ hRlt).trans HC.out))
          have HB3 := lhid (Below.grown (HB.out.alloc HB.out.size _) hgrow (by simp; have := HB.out.size; omega) (fun k e => by have := own_lt HO.out k e; omega))
          obtain ⟨E, hE⟩ : ∃ E, D ++ [a] = E := ⟨_, rfl⟩
          have hEl : D.length + 1 = E.length := by rw [← hE]; simp
          rw [hE] at HO2 HD2
          clear hown hgrow hnil hE
          go_wp2_with fail
          go_roundw
          case rel => exact ⟨E, A', q', 1, by rw [hEl], rfl, by omega, HD2, HO2, HC2, HB3⟩
          case measure => simp [intOf]
        · have HD2 : Hid (D = usU f1 f2 f3 a b k 1) := lhid (by rw [HD.out]; simp [usU, HDT.out])
          clear hD2
          rw [t2] at HHH
          go_wp2_with fail
          with_reducible refine (HHH.out _).mono ?_
          rintro e w3 ⟨rfl, rfl⟩
          go_wp2_with fail
          go_roundw
          case rel => exact ⟨D, A, q, 1, rfl, rfl, by omega, HD2, HO, HC, HB⟩
          case measure => simp [intOf]
        · rw [t2] at HHH
          have HD2 : Hid (D ++ [a] = usU f1 f2 f3 a b k 1) := lhid (by rw [HD.out]; simp [usU, HDT.out])
          clear hD2
          go_wp2_with fail
          with_reducible refine (HHH.out _).mono ?_
          rintro e w3 ⟨rfl, rfl⟩
          go_wp2_with (at_builtin; refine wpList_append_own _ rfl (.tmp 42) (.tmp 44) 22 rfl (w2.heap.size + 1) 3 i0 (.int .i64 0) 1 8 Try.underlying22 hi0 hz0 hz1 hz2 rfl (by decide) (.slice A D.length q) D.length (D.map vI) rfl (HO.out.alloc _) ⟨wr.heap.size, 0, none⟩ 1 1 [vI a] rfl rfl ?g1c1 ?g1c2 ?g1c3 ?g1c4 ?g1c5 ?_)
          try case g1c1 => exact new_cells _ _ _
          case g1c2 => first | rfl | (intro u hu; simp at hu; subst hu; rfl)
          case g1c3 => unfold maxLen; omega
          case g1c4 => omega
          case g1c5 => first | omega | (simp; omega)
          intro v' w' hown hgrow hnil
          have hsh := own_shape hown
          obtain ⟨A', q', rfl⟩ := hsh
          have HO2 : Hid (OwN w' (w2.heap.size + 1) (.slice A' (D ++ [a]).length q') (D ++ [a])) := lhid (by simpa [OwN] using hown)
          have HC2 : Hid (w'.heap[w2.heap.size]? = some (.cells #[.int .u64 f1, .int .u64 f2, .int .u64 f3] 57 (0, 0))) := lhid ((hgrow.block w2.heap.size (by simp; omega) (fun e => by have := own_lt HO.out w2.heap.size (by first | exact e.symm | exact e); omega)).trans ((Below.heap_alloc _ _ _ hRlt).trans HC.out))
          have HB3 := lhid (Below.grown (HB.out.alloc HB.out.size _) hgrow (by simp; have := HB.out.size; omega) (fun k e => by have := own_lt HO.out k e; omega))
          obtain ⟨E, hE⟩ : ∃ E, D ++ [a] = E := ⟨_, rfl⟩
          have hEl : D.length + 1 = E.length := by rw [← hE]; simp
          rw [hE] at HO2 HD2
          clear hown hgrow hnil hE
          go_wp2_with fail
          go_roundw
          case rel => exact ⟨E, A', q', 1, by rw [hEl], rfl, by omega, HD2, HO2, HC2, HB3⟩
          case measure => simp [intOf]
      · have HH := has_any f2 0 hfs.2.1 (.inl rfl)
        have HHH := lhid HH
        clear HH hfs
        rcases tk_ways f2 b with ⟨HT, t0⟩ | ⟨HT, t0, t1⟩ | ⟨HT, t0, t1, t2⟩ | ⟨HT, t0, t1, t2⟩
        all_goals
          have hD2 := HD.out
          have HDT := lhid HT
          clear HT
        · have HD2 : Hid (D = usU f1 f2 f3 a b k 2) := lhid (by rw [HD.out]; simp [usU, HDT.out])
          clear hD2
          obtain rfl := eq_of_beq t0
          clear t0
          go_wp2_with fail
          go_roundw
          case rel => exact ⟨D, A, q, 2, rfl, rfl, by omega, HD2, HO, HC, HB⟩
          case measure => simp [intOf]
        · have HD2 : Hid (D ++ [b] = usU f1 f2 f3 a b k 2) := lhid (by rw [HD.out]; simp [usU, HDT.out])
          clear hD2
          go_wp2_with (at_builtin; refine wpList_append_own _ rfl (.tmp 42) (.tmp 44) 22 rfl (w2.heap.size + 1) 3 i0 (.int .i64 0) 1 8 Try.underlying22 hi0 hz0 hz1 hz2 rfl (by decide) (.slice A D.length q) D.length (D.map vI) rfl (HO.out.alloc _) ⟨wr.heap.size, 0, none⟩ 1 1 [vI b] rfl rfl ?g2c1 ?g2c2 ?g2c3 ?g2c4 ?g2c5 ?_)
          try case g2c1 => exact new_cells _ _ _
          case g2c2 => first | rfl | (intro u hu; simp at hu; subst hu; rfl)
          case g2c3 => unfold maxLen; omega
          case g2c4 => omega
          case g2c5 => first | omega | (simp; omega)
          intro v' w' hown hgrow hnil
          have hsh := own_shape hown
          obtain ⟨A', q', rfl⟩ := hsh
          have HO2 : Hid (OwN w' (w2.heap.size + 1) (.slice A' (D ++ [b]).length q') (D ++ [b])) := lhid (by simpa [OwN] using hown)
          have HC2 : Hid (w'.heap[w2.heap.size]? = some (.cells #[.int .u64 f1, .int .u64 f2, .int .u64 f3] 57 (0, 0))) := lhid ((hgrow.block w2.heap.size (by simp; omega) (fun e => by have := own_lt HO.out w2.heap.size (by first | exact e.symm | exact e); omega)).trans ((Below.heap_alloc _ _ _ hRlt).trans HC.out))
          have HB3 := lhid (Below.grown (HB.out.alloc HB.out.size _) hgrow (by simp; have := HB.out.size; omega) (fun k e => by have := own_lt HO.out k e; omega))
          obtain ⟨E, hE⟩ : ∃ E, D ++ [b] = E := ⟨_, rfl⟩
          have hEl : D.length + 1 = E.length := by rw [← hE]; simp
          rw [hE] at HO2 HD2
          clear hown hgrow hnil hE
          go_wp2_with fail
          go_roundw
          case rel => exact ⟨E, A', q', 2, by rw [hEl], rfl, by omega, HD2, HO2, HC2, HB3⟩
          case measure => simp [intOf]
        · have HD2 : Hid (D = usU f1 f2 f3 a b k 2) := lhid (by rw [HD.out]; simp [usU, HDT.out])
          clear hD2
          rw [t2] at HHH
          go_wp2_with fail
          with_reducible refine (HHH.out _).mono ?_
          rintro e w3 ⟨rfl, rfl⟩
          go_wp2_with fail
          go_roundw
          case rel => exact ⟨D, A, q, 2, rfl, rfl, by omega, HD2, HO, HC, HB⟩
          case measure => simp [intOf]
        · rw [t2] at HHH
          have HD2 : Hid (D ++ [b] = usU f1 f2 f3 a b k 2) := lhid (by rw [HD.out]; simp [usU, HDT.out])
          clear hD2
          go_wp2_with fail
          with_reducible refine (HHH.out _).mono ?_
          rintro e w3 ⟨rfl, rfl⟩
          go_wp2_with (at_builtin; refine wpList_append_own _ rfl (.tmp 42) (.tmp 44) 22 rfl (w2.heap.size + 1) 3 i0 (.int .i64 0) 1 8 Try.underlying22 hi0 hz0 hz1 hz2 rfl (by decide) (.slice A D.length q) D.length (D.map vI) rfl (HO.out.alloc _) ⟨wr.heap.size, 0, none⟩ 1 1 [vI b] rfl rfl ?g3c1 ?g3c2 ?g3c3 ?g3c4 ?g3c5 ?_)
          try case g3c1 => exact new_cells _ _ _
          case g3c2 => first | rfl | (intro u hu; simp at hu; subst hu; rfl)
          case g3c3 => unfold maxLen; omega
          case g3c4 => omega
          case g3c5 => first | omega | (simp; omega)
          intro v' w' hown hgrow hnil
          have hsh := own_shape hown
          obtain ⟨A', q', rfl⟩ := hsh
          have HO2 : Hid (OwN w' (w2.heap.size + 1) (.slice A' (D ++ [b]).length q') (D ++ [b])) := lhid (by simpa [OwN] using hown)
          have HC2 : Hid (w'.heap[w2.heap.size]? = some (.cells #[.int .u64 f1, .int .u64 f2, .int .u64 f3] 57 (0, 0))) := lhid ((hgrow.block w2.heap.size (by simp; omega) (fun e => by have := own_lt HO.out w2.heap.size (by first | exact e.symm | exact e); omega)).trans ((Below.heap_alloc _ _ _ hRlt).trans HC.out))
          have HB3 := lhid (Below.grown (HB.out.alloc HB.out.size _) hgrow (by simp; have := HB.out.size; omega) (fun k e => by have := own_lt HO.out k e; omega))
          obtain ⟨E, hE⟩ : ∃ E, D ++ [b] = E := ⟨_, rfl⟩
          have hEl : D.length + 1 = E.length := by rw [← hE]; simp
          rw [hE] at HO2 HD2
          clear hown hgrow hnil hE
          go_wp2_with fail
          go_roundw
          case rel => exact ⟨E, A', q', 2, by rw [hEl], rfl, by omega, HD2, HO2, HC2, HB3⟩
          case measure => simp [intOf]
      · have HH := has_any f3 0 hfs.2.2.1 (.inl rfl)
        have HHH := lhid HH
        clear HH hfs
        rcases tk_ways f3 k with ⟨HT, t0⟩ | ⟨HT, t0, t1⟩ | ⟨HT, t0, t1, t2⟩ | ⟨HT, t0, t1, t2⟩
        all_goals
          have hD2 := HD.out
          have HDT := lhid HT
          clear HT
        · have HD2 : Hid (D = usU f1 f2 f3 a b k 3) := lhid (by rw [HD.out]; simp [usU, HDT.out])
          clear hD2
          obtain rfl := eq_of_beq t0
          clear t0
          go_wp2_with fail
          go_roundw
          case rel => exact ⟨D, A, q, 3, rfl, rfl, by omega, HD2, HO, HC, HB⟩
          case measure => simp [intOf]
        · have HD2 : Hid (D ++ [k] = usU f1 f2 f3 a b k 3) := lhid (by rw [HD.out]; simp [usU, HDT.out])
          clear hD2
          go_wp2_with (at_builtin; refine wpList_append_own _ rfl (.tmp 42) (.tmp 44) 22 rfl (w2.heap.size + 1) 3 i0 (.int .i64 0) 1 8 Try.underlying22 hi0 hz0 hz1 hz2 rfl (by decide) (.slice A D.length q) D.length (D.map vI) rfl (HO.out.alloc _) ⟨wr.heap.size, 0, none⟩ 1 1 [vI k] rfl rfl ?g4c1 ?g4c2 ?g4c3 ?g4c4 ?g4c5 ?_)
          try case g4c1 => exact new_cells _ _ _
          case g4c2 => first | rfl | (intro u hu; simp at hu; subst hu; rfl)
          case g4c3 => unfold maxLen; omega
          case g4c4 => omega
          case g4c5 => first | omega | (simp; omega)
          intro v' w' hown hgrow hnil
          have hsh := own_shape hown
          obtain ⟨A', q', rfl⟩ := hsh
          have HO2 : Hid (OwN w' (w2.heap.size + 1) (.slice A' (D ++ [k]).length q') (D ++ [k])) := lhid (by simpa [OwN] using hown)
          have HC2 : Hid (w'.heap[w2.heap.size]? = some (.cells #[.int .u64 f1, .int .u64 f2, .int .u64 f3] 57 (0, 0))) := lhid ((hgrow.block w2.heap.size (by simp; omega) (fun e => by have := own_lt HO.out w2.heap.size (by first | exact e.symm | exact e); omega)).trans ((Below.heap_alloc _ _ _ hRlt).trans HC.out))
          have HB3 := lhid (Below.grown (HB.out.alloc HB.out.size _) hgrow (by simp; have := HB.out.size; omega) (fun k e => by have := own_lt HO.out k e; omega))
          obtain ⟨E, hE⟩ : ∃ E, D ++ [k] = E := ⟨_, rfl⟩
          have hEl : D.length + 1 = E.length := by rw [← hE]; simp
          rw [hE] at HO2 HD2
          clear hown hgrow hnil hE
          go_wp2_with fail
          go_roundw
          case rel => exact ⟨E, A', q', 3, by rw [hEl], rfl, by omega, HD2, HO2, HC2, HB3⟩
          case measure => simp [intOf]
        · have HD2 : Hid (D = usU f1 f2 f3 a b k 3) := lhid (by rw [HD.out]; simp [usU, HDT.out])
          clear hD2
          rw [t2] at HHH
          go_wp2_with fail
          with_reducible refine (HHH.out _).mono ?_
          rintro e w3 ⟨rfl, rfl⟩
          go_wp2_with fail
          go_roundw
          case rel => exact ⟨D, A, q, 3, rfl, rfl, by omega, HD2, HO, HC, HB⟩
          case measure => simp [intOf]
        · rw [t2] at HHH
          have HD2 : Hid (D ++ [k] = usU f1 f2 f3 a b k 3) := lhid (by rw [HD.out]; simp [usU, HDT.out])
          clear hD2
          go_wp2_with fail
          with_reducible refine (HHH.out _).mono ?_
          rintro e w3 ⟨rfl, rfl⟩
          go_wp2_with (at_builtin; refine wpList_append_own _ rfl (.tmp 42) (.tmp 44) 22 rfl (w2.heap.size + 1) 3 i0 (.int .i64 0) 1 8 Try.underlying22 hi0 hz0 hz1 hz2 rfl (by decide) (.slice A D.length q) D.length (D.map vI) rfl (HO.out.alloc _) ⟨wr.heap.size, 0, none⟩ 1 1 [vI k] rfl rfl ?g5c1 ?g5c2 ?g5c3 ?g5c4 ?g5c5 ?_)
          try case g5c1 => exact new_cells _ _ _
          case g5c2 => first | rfl | (intro u hu; simp at hu; subst hu; rfl)
          case g5c3 => unfold maxLen; omega
          case g5c4 => omega
          case g5c5 => first | omega | (simp; omega)
          intro v' w' hown hgrow hnil
          have hsh := own_shape hown
          obtain ⟨A', q', rfl⟩ := hsh
          have HO2 : Hid (OwN w' (w2.heap.size + 1) (.slice A' (D ++ [k]).length q') (D ++ [k])) := lhid (by simpa [OwN] using hown)
          have HC2 : Hid (w'.heap[w2.heap.size]? = some (.cells #[.int .u64 f1, .int .u64 f2, .int .u64 f3] 57 (0, 0))) := lhid ((hgrow.block w2.heap.size (by simp; omega) (fun e => by have := own_lt HO.out w2.heap.size (by first | exact e.symm | exact e); omega)).trans ((Below.heap_alloc _ _ _ hRlt).trans HC.out))
          have HB3 := lhid (Below.grown (HB.out.alloc HB.out.size _) hgrow (by simp; have := HB.out.size; omega) (fun k e => by have := own_lt HO.out k e; omega))
          obtain ⟨E, hE⟩ : ∃ E, D ++ [k] = E := ⟨_, rfl⟩
          have hEl : D.length + 1 = E.length := by rw [← hE]; simp
          rw [hE] at HO2 HD2
          clear hown hgrow hnil hE
          go_wp2_with fail
          go_roundw
          case rel => exact ⟨E, A', q', 3, by rw [hEl], rfl, by omega, HD2, HO2, HC2, HB3⟩
          case measure => simp [intOf]
      · go_wp2_with fail
        go_ret
        refine ⟨_, rfl, ?_, HB.out⟩
        rw [← HU0.out, ← HD.out]
        exact own_base HO.out (by omega)
  · have HU := lhid (huc rfl)
    clear hus huc hfs
    have HX := h
    go_enter Try.func14, Try.ntmps14
    go_wp2_with fail
    with_reducible refine (HCa _).out.mono ?_
    rintro e w1 ⟨rfl, hb⟩
    have h0 := (hb.block w.heap.size (by simp)).trans (heap_alloc_new w _)
    have c8 : w1.cell? ⟨w.heap.size, 8, none⟩ = some v := heap_cell h0 rfl
    have hb1 := ((Below.refl w.heap.size w).alloc (Nat.le_refl _) _).trans (hb.mono (by simp))
    have HB1 := lhid hb1
    have HX1 := lhid (h.out.below (keptX_nu _) hb1)
    clear hb h0 hb1
    go_wp2_with fail
    with_reducible refine (clone_nu row_nu _ _ _ HX1 hby.out).mono ?_
    rintro e w2 ⟨v', xs, rfl, ho, hr, hb⟩
    have HB2 := lhid (HB1.out.trans (hb.mono HB1.out.size))
    have HO := lhid ho
    have HR := lhid (rowsE_nu hr)
    have HS := lhid HB1.out.size
    clear ho hr hb
    go_wp2_with fail
    go_ret
    refine ⟨_, rfl, ?_, HB2.out⟩
    rw [HU.out]
    have := HO.out
    rw [HR.out] at this
    exact own_base this HS.out
end Go.Proofs.Ythaijdcgmcfpiaa
