/- Texts of this claim, joined: ChkOp, ChkFill, ChkCopy, ChkFits, ChkIMap, ChkLeave. -/
import Derived.Test.YtpdnonlelocfbaaGreatDoorJChkCall
import Derived.Laws.CopyOwn
import Derived.Laws.MakeOwn
/- Package check: do, the table as a whole. -/
namespace Go.Proofs.YtpdnonlelocfbaaGreatDoor
open Go.RowKit Go Go.Maps
set_option linter.unusedVariables false
section
variable {E : Chk} {Z : Nat → Prop} {wT : World} {c : Nat} {F : Fx} {N : Nat} {s : Cs} {kn : Bool} {st : Value} {w : World}
set_option maxHeartbeats 4000000 in
set_option maxRecDepth 100000 in
theorem do_c (HE : Hid (Env E F.tb wT)) (HF : Hid (Fit E F wT)) (HC : Hid (Ck E Z wT c F N s kn st w)) (p o : Int) (a : Nat) (q : Int) (ha : a ≤ 4294967296) (hN : N ≤ 8589934592) (HO : Hid (0 ≤ o ∧ o ≤ 255)) :
    Calls Tryz.prog 106 #[.pointer (some ⟨c, 0, none⟩), .agg #[.int .i64 p, .int .i64 o, .int .i64 a, .int .i64 q]] w (CkOut E Z wT c F (N + 1) (s.doOp E o a) kn st w (.returned (.tuple #[]))) := by
  have hb0 : Below w.heap.size w (w.alloc (.cells #[.int .i64 p, .int .i64 o, .int .i64 a, .int .i64 q] 187)) := (Below.refl _ _).alloc (Nat.le_refl _) _
  have hz0 := heap_alloc_new w (.cells #[.int .i64 p, .int .i64 o, .int .i64 a, .int .i64 q] 187)
  have HB0 := lhid hb0
  have HZ0 := lhid hz0
  have HK0 := lhid (HC.out.below hb0)
  have HC0 := lhid (Ch.of (X := Z) hb0)
  have b0 : (w.alloc (.cells #[.int .i64 p, .int .i64 o, .int .i64 a, .int .i64 q] 187)).cell? ⟨w.heap.size, 0, none⟩ = some (.int .i64 p) := heap_cell hz0 rfl
  have b3 : (w.alloc (.cells #[.int .i64 p, .int .i64 o, .int .i64 a, .int .i64 q] 187)).cell? ⟨w.heap.size, 3, none⟩ = some (.int .i64 q) := heap_cell hz0 rfl
  have b1 : (w.alloc (.cells #[.int .i64 p, .int .i64 o, .int .i64 a, .int .i64 q] 187)).cell? ⟨w.heap.size, 1, none⟩ = some (.int .i64 o) := heap_cell hz0 rfl
  have b2 : (w.alloc (.cells #[.int .i64 p, .int .i64 o, .int .i64 a, .int .i64 q] 187)).cell? ⟨w.heap.size, 2, none⟩ = some (.int .i64 a) := heap_cell hz0 rfl
  clear hb0 hz0
  have hN' : N ≤ N + 1 := Nat.le_succ N
  go_enter Tryz.func106, Tryz.ntmps106
  go_upto_region 1 with fail
  generalize w.alloc (.cells #[.int .i64 p, .int .i64 o, .int .i64 a, .int .i64 q] 187) = w0 at *
  by_cases h0 : o ≤ 19
  · have HR : Hid (s.doOp E o a = s.tell E o a) := lhid (by unfold Cs.doOp; rw [if_pos h0])
    go_wp2_with fail
    with_reducible refine (tell_c HE HF HK0 p o a q ha).mono ?_
    rintro e w1 ⟨rfl, hk, hc⟩
    have HK1 := lhid hk
    have HC1 := lhid (HC0.out.tr hc)
    clear hk hc
    go_wp2_with fail
    go_end0
    rw [HR.out]
    exact ⟨rfl, HK1.out.more hN', HC1.out⟩
  by_cases h1 : o ≤ 25
  · have HR : Hid (s.doOp E o a = s.load E o a) := lhid (by unfold Cs.doOp; rw [if_neg h0, if_pos h1])
    go_wp2_with fail
    with_reducible refine (load_c HE HF HK0 p o a q ha).mono ?_
    rintro e w1 ⟨rfl, hk, hc⟩
    have HK1 := lhid hk
    have HC1 := lhid (HC0.out.tr hc)
    clear hk hc
    go_wp2_with fail
    go_end0
    rw [HR.out]
    exact ⟨rfl, HK1.out.more hN', HC1.out⟩
  by_cases h2 : o ≤ 50
  · have HR : Hid (s.doOp E o a = s.getE E o) := lhid (by unfold Cs.doOp; rw [if_neg h0, if_neg h1, if_pos h2])
    go_wp2_with fail
    with_reducible refine (getElement_c HE HF HK0 o).mono ?_
    rintro e w1 ⟨rfl, hk, hc⟩
    have HK1 := lhid hk
    have HC1 := lhid (HC0.out.tr hc)
    clear hk hc
    go_wp2_with fail
    go_end0
    rw [HR.out]
    exact ⟨rfl, HK1.out.more hN', HC1.out⟩
  by_cases h3 : o ≤ 58
  · have HR : Hid (s.doOp E o a = s.store E o a) := lhid (by unfold Cs.doOp; rw [if_neg h0, if_neg h1, if_neg h2, if_pos h3])
    go_wp2_with fail
    with_reducible refine (store_c HE HF HK0 p o a q ha).mono ?_
    rintro e w1 ⟨rfl, hk, hc⟩
    have HK1 := lhid hk
    have HC1 := lhid (HC0.out.tr hc)
    clear hk hc
    go_wp2_with fail
    go_end0
    rw [HR.out]
    exact ⟨rfl, HK1.out.more hN', HC1.out⟩
  by_cases h4 : o ≤ 83
  · have HR : Hid (s.doOp E o a = s.putE E o) := lhid (by unfold Cs.doOp; rw [if_neg h0, if_neg h1, if_neg h2, if_neg h3, if_pos h4])
    go_wp2_with fail
    with_reducible refine (putElement_c HE HF HK0 o).mono ?_
    rintro e w1 ⟨rfl, hk, hc⟩
    have HK1 := lhid hk
    have HC1 := lhid (HC0.out.tr hc)
    clear hk hc
    go_wp2_with fail
    go_end0
    rw [HR.out]
    exact ⟨rfl, HK1.out.more hN', HC1.out⟩
  by_cases h5 : o ≤ 95
  · have HR : Hid (s.doOp E o a = s.turn E o) := lhid (by unfold Cs.doOp; rw [if_neg h0, if_neg h1, if_neg h2, if_neg h3, if_neg h4, if_pos h5])
    go_wp2_with fail
    with_reducible refine (turn_c HE HF HK0 o).mono ?_
    rintro e w1 ⟨rfl, hk, hc⟩
    have HK1 := lhid hk
    have HC1 := lhid (HC0.out.tr hc)
    clear hk hc
    go_wp2_with fail
    go_end0
    rw [HR.out]
    exact ⟨rfl, HK1.out.more hN', HC1.out⟩
  by_cases h6 : o = 132
  · have HR : Hid (s.doOp E o a = s.count a) := lhid (by unfold Cs.doOp; rw [if_neg h0, if_neg h1, if_neg h2, if_neg h3, if_neg h4, if_neg h5, if_pos h6])
    have d6 : (o == 132) = true := by rw [h6]; rfl
    clear h6
    go_wp2_with fail
    with_reducible refine (local_c HK0 a ha).mono ?_
    rintro e w1 ⟨rfl, hk, hc⟩
    have HK1 := lhid hk
    have HC1 := lhid (HC0.out.tr hc)
    clear hk hc
    obtain ⟨y, hy⟩ : ∃ y, (s.local a).1 = y := ⟨_, rfl⟩
    have HRC : Hid (s.count a = (s.local a).2.refuse (decide (y ≠ [73])) 62) := lhid (by unfold Cs.count; rw [hy]; rfl)
    rw [hy]
    obtain ⟨qy, hqy⟩ : ∃ q, decide (y ≠ [73]) = q := ⟨_, rfl⟩
    have e9 : ((tx y).toList == [73]) = !qy := by rw [tx_toL, ← hqy, Bool.eq_iff_iff]; simp
    rw [hqy] at HRC
    clear hy hqy
    go_wp2_with fail
    with_reducible refine (refuse_b HK1 (b' := qy) ?hb 62).mono ?_
    case hb => first | rfl | exact Bool.not_not _
    rintro e w2 ⟨rfl, hk, hc⟩
    have HK2 := lhid hk
    have HC2 := lhid (HC1.out.tr hc)
    clear hk hc
    go_wp2_with fail
    go_end0
    rw [HR.out, HRC.out]
    exact ⟨rfl, HK2.out.more hN', HC2.out⟩
  by_cases h7 : o ≤ 148
  · have HR : Hid (s.doOp E o a = s.compute E o) := lhid (by unfold Cs.doOp; rw [if_neg h0, if_neg h1, if_neg h2, if_neg h3, if_neg h4, if_neg h5, if_neg h6, if_pos h7])
    have d6 := ne_beq h6
    clear h6
    go_wp2_with fail
    with_reducible refine (compute_c HE HF HK0 o HO).mono ?_
    rintro e w1 ⟨rfl, hk, hc⟩
    have HK1 := lhid hk
    have HC1 := lhid (HC0.out.tr hc)
    clear hk hc
    go_wp2_with fail
    go_end0
    rw [HR.out]
    exact ⟨rfl, HK1.out.more hN', HC1.out⟩
  by_cases h8 : o ≤ 167 ∨ 198 ≤ o
  · have d6 := ne_beq h6
    by_cases h8a : o ≤ 167
    · have HR : Hid (s.doOp E o a = s.compare E o) := lhid (by unfold Cs.doOp; rw [if_neg h0, if_neg h1, if_neg h2, if_neg h3, if_neg h4, if_neg h5, if_neg h6, if_neg h7, if_pos h8])
      clear h8
      go_wp2_with fail
      with_reducible refine (compare_c HE HF HK0 o).mono ?_
      rintro e w1 ⟨rfl, hk, hc⟩
      have HK1 := lhid hk
      have HC1 := lhid (HC0.out.tr hc)
      clear hk hc
      go_wp2_with fail
      go_end0
      rw [HR.out]
      exact ⟨rfl, HK1.out.more hN', HC1.out⟩
    · have h8b : 198 ≤ o := h8.resolve_left h8a
      have HR : Hid (s.doOp E o a = s.compare E o) := lhid (by unfold Cs.doOp; rw [if_neg h0, if_neg h1, if_neg h2, if_neg h3, if_neg h4, if_neg h5, if_neg h6, if_neg h7, if_pos h8])
      clear h8
      go_wp2_with fail
      with_reducible refine (compare_c HE HF HK0 o).mono ?_
      rintro e w1 ⟨rfl, hk, hc⟩
      have HK1 := lhid hk
      have HC1 := lhid (HC0.out.tr hc)
      clear hk hc
      go_wp2_with fail
      go_end0
      rw [HR.out]
      exact ⟨rfl, HK1.out.more hN', HC1.out⟩
  by_cases h9 : o ≤ 177
  · have HR : Hid (s.doOp E o a = s.giveBack E o) := lhid (by unfold Cs.doOp; rw [if_neg h0, if_neg h1, if_neg h2, if_neg h3, if_neg h4, if_neg h5, if_neg h6, if_neg h7, if_neg h8, if_pos h9])
    have h8a : ¬ o ≤ 167 := fun h => h8 (.inl h)
    have h8b : ¬ 198 ≤ o := fun h => h8 (.inr h)
    have d6 := ne_beq h6
    clear h8 h6
    go_wp2_with fail
    with_reducible refine (giveBack_c HE HF HK0 o).mono ?_
    rintro e w1 ⟨rfl, hk, hc⟩
    have HK1 := lhid hk
    have HC1 := lhid (HC0.out.tr hc)
    clear hk hc
    go_wp2_with fail
    go_end0
    rw [HR.out]
    exact ⟨rfl, HK1.out.more hN', HC1.out⟩
  by_cases h10 : o ≤ 181
  · have HR : Hid (s.doOp E o a = s.field E o a) := lhid (by unfold Cs.doOp; rw [if_neg h0, if_neg h1, if_neg h2, if_neg h3, if_neg h4, if_neg h5, if_neg h6, if_neg h7, if_neg h8, if_neg h9, if_pos h10])
    have h8a : ¬ o ≤ 167 := fun h => h8 (.inl h)
    have h8b : ¬ 198 ≤ o := fun h => h8 (.inr h)
    have d6 := ne_beq h6
    clear h8 h6
    go_wp2_with fail
    with_reducible refine (field_c HE HF HK0 p o a q ha).mono ?_
    rintro e w1 ⟨rfl, hk, hc⟩
    have HK1 := lhid hk
    have HC1 := lhid (HC0.out.tr hc)
    clear hk hc
    go_wp2_with fail
    go_end0
    rw [HR.out]
    exact ⟨rfl, HK1.out.more hN', HC1.out⟩
  by_cases h11 : o ≤ 185
  · have HR : Hid (s.doOp E o a = s.call E o a) := lhid (by unfold Cs.doOp; rw [if_neg h0, if_neg h1, if_neg h2, if_neg h3, if_neg h4, if_neg h5, if_neg h6, if_neg h7, if_neg h8, if_neg h9, if_neg h10, if_pos h11])
    have h8a : ¬ o ≤ 167 := fun h => h8 (.inl h)
    have h8b : ¬ 198 ≤ o := fun h => h8 (.inr h)
    have d6 := ne_beq h6
    clear h8 h6
    go_wp2_with fail
    with_reducible refine (call_c HE HF HK0 p o a q ha hN).mono ?_
    rintro e w1 ⟨rfl, hk, hc⟩
    have HK1 := lhid hk
    have HC1 := lhid (HC0.out.tr hc)
    clear hk hc
    go_wp2_with fail
    go_end0
    rw [HR.out]
    exact ⟨rfl, HK1.out, HC1.out⟩
  · have HR : Hid (s.doOp E o a = s.thing E o a) := lhid (by unfold Cs.doOp; rw [if_neg h0, if_neg h1, if_neg h2, if_neg h3, if_neg h4, if_neg h5, if_neg h6, if_neg h7, if_neg h8, if_neg h9, if_neg h10, if_neg h11])
    have h8a : ¬ o ≤ 167 := fun h => h8 (.inl h)
    have h8b : ¬ 198 ≤ o := fun h => h8 (.inr h)
    have d6 := ne_beq h6
    clear h8 h6
    go_wp2_with fail
    with_reducible refine (thing_c HE HF HK0 p o a q ha hN).mono ?_
    rintro e w1 ⟨rfl, hk, hc⟩
    have HK1 := lhid hk
    have HC1 := lhid (HC0.out.tr hc)
    clear hk hc
    go_wp2_with fail
    go_end0
    rw [HR.out]
    exact ⟨rfl, HK1.out, HC1.out⟩
end
end Go.Proofs.YtpdnonlelocfbaaGreatDoor
/- Package check: filled, copied, allFit, fits. -/
namespace Go.Proofs.YtpdnonlelocfbaaGreatDoor
open Go.RowKit Go Go.Maps
set_option linter.unusedVariables false
theorem fill_le {l : List Bs} {n : Nat} (h : l.length ≤ n) : fill l n = l ++ List.replicate (n - l.length) [] := by
  unfold fill
  rw [List.take_append, List.take_of_length_le h, List.take_replicate, Nat.min_eq_left (by omega)]
theorem made_str (n : Nat) : madeCells (Value.string ⟨#[]⟩).cells n = (List.replicate n (Value.string ⟨#[]⟩)).toArray := by
  have h := toList_madeCells_one (.string ⟨#[]⟩) n
  rw [← h]
  simp
  rfl
theorem szSt1 : (Tryz.prog.info? 9).map (·.size) = some 1 := by kernel_rfl
theorem rdX_cell {P : Nat → Prop} {w : World} {A : Option Addr} {n cap : Nat} {l : List Bs} (h : RdX P 1 StE w (.slice A n cap) l) {i : Nat} {t : Bs} (hi : l[i]? = some t) : ∃ g o, A = some ⟨g, o, none⟩ ∧ P g ∧ w.cell? ⟨g, o + i, none⟩ = some (.string (tx t)) := by
  obtain ⟨g, o, c, hA, hP, hE, hc⟩ := h.at' hi
  refine ⟨g, o, hA, hP, ?_⟩
  have := hc 0 (.string (tx t)) (by rw [show c = [.string (tx t)] from hE]; rfl)
  rwa [Nat.mul_one, Nat.add_zero] at this
theorem rdX_addr {P : Nat → Prop} {w : World} {A : Option Addr} {n cap : Nat} {l : List Bs} (h : RdX P 1 StE w (.slice A n cap) l) (hl : 0 < l.length) : ∃ ad, A = some ad ∧ ∀ j v, (lnV l)[j]? = some v → w.cell? (ad.add j) = some v := by
  obtain ⟨g, o, hA, _, _⟩ := rdX_cell h (List.getElem?_eq_getElem hl)
  refine ⟨_, hA, fun j v hv => ?_⟩
  have hj : j < l.length := by have := (List.getElem?_eq_some_iff.1 hv).1; simpa [lnV] using this
  obtain ⟨g', o', hA', _, hc⟩ := rdX_cell h (List.getElem?_eq_getElem hj)
  rw [hA] at hA'
  injection hA' with hA'
  injection hA' with h1 h2 _
  subst h1 h2
  rw [addr_add, hc, ← hv]
  simp [lnV, hj]
section
variable {E : Chk} {Z : Nat → Prop} {wT : World} {c : Nat} {F : Fx} {N : Nat} {s : Cs} {kn : Bool} {st : Value} {w : World}
set_option maxHeartbeats 2000000 in
set_option maxRecDepth 100000 in
theorem filled_c (P : Nat → Prop) (v : Value) (l : List Bs) (n : Nat) (w : World) (h : Hid (RdX P 1 StE w v l)) (hl : l.length ≤ n) (hn : n ≤ 1000) :
    Calls Tryz.prog 100 #[v, .int .i64 n] w fun e w' => ∃ v', e = .returned v' ∧ w'.ownsRow w.heap.size 9 1 v' n (lnV (fill l n)) ∧ Below w.heap.size w w' := by
  obtain ⟨A, cap, rfl⟩ := h.out.shape
  obtain ⟨i0, hi, hz0, hz1, hz2⟩ := infoSt_parts
  have hmk := run_make (P := Tryz.prog) w 34 9 i0 _ Tryz.underlying34 hi hz0 .i64 .i64 n n (by omega) (Int.le_refl _) (by rw [hz2]; omega) (by omega)
  rw [hz1, Nat.mul_one, Int.toNat_natCast, made_str] at hmk
  have hb0 : Below w.heap.size w (w.alloc (.cells (List.replicate n (Value.string ⟨#[]⟩)).toArray 9)) := (Below.refl _ _).alloc (Nat.le_refl _) _
  have hgc := heap_alloc_new w (.cells (List.replicate n (Value.string ⟨#[]⟩)).toArray 9)
  obtain ⟨w1, hw1⟩ : ∃ x, w.alloc (.cells (List.replicate n (Value.string ⟨#[]⟩)).toArray 9) = x := ⟨_, rfl⟩
  rw [hw1] at hmk hb0 hgc
  obtain ⟨X, hX⟩ : ∃ X, lnV l = X := ⟨_, rfl⟩
  have HXX := lhid hX
  have hXl : X.length = l.length := by rw [← hX, lnV_len]
  have hpos : 0 < X.length → (some (⟨w.heap.size, 0, none⟩ : Addr) = some ⟨w.heap.size, 0, none⟩ ∧ ∃ ad, A = some ad ∧ ∀ j v, X[j]? = some v → w1.cell? (ad.add j) = some v) := fun h0 => by
    obtain ⟨ad, h1, h2⟩ := rdX_addr h.out (by omega)
    refine ⟨rfl, ad, h1, fun j v hv => ?_⟩
    rw [← hX] at hv
    have h3 := h2 j v hv
    exact (hb0.cell (cell_lt h3)).trans h3
  have HPOS := lhid hpos
  have HGC := lhid hgc
  have HB0 := lhid hb0
  have HXL := lhid hXl
  have h1c : ∀ u ∈ X, u.oneCell' = true := fun u hu => by
    rw [← hX] at hu
    obtain ⟨t, _, rfl⟩ := List.mem_map.1 hu
    rfl
  have H1C := lhid h1c
  clear hw1 hX hXl hpos hgc hb0 h1c
  go_enter Tryz.func100, Tryz.ntmps100
  go_wp2_with ((refine wpList_copy_splice rfl _ _ 34 34 rfl 9 Tryz.underlying34 szSt1 _ _ _ _ _ _ rfl rfl w.heap.size 0 (List.replicate n (Value.string ⟨#[]⟩)) 9 HGC.out X (HXL.out.trans (Nat.min_eq_left hl).symm) (fun h0 => ⟨rfl, (HPOS.out h0).2⟩) (by rw [HXL.out]; simp; omega) H1C.out w.heap.size w HB0.out (Nat.le_refl _) ?_))
  intro w2 hg2 hb2
  have HB2 := lhid hb2
  have HG2 := hg2
  clear hb2 hg2
  go_wp2_with fail
  go_ret
  refine ⟨_, by rfl, ⟨by rw [lnV_len, fill_len]; omega, .inr ⟨w.heap.size, n, _, rfl, Nat.le_refl _, HG2.out, Nat.le_refl _, ?_, ?_, ?_⟩⟩, HB2.out⟩
  · exact Nat.le_trans hn (by decide)
  · simp only [List.size_toArray]
    rw [length_splice _ _ _ (by rw [HXL.out]; simp; omega)]
    simp
  · have hsp : splice (List.replicate n (Value.string ⟨#[]⟩)) 0 X = lnV (fill l n) := by
      unfold splice
      rw [fill_le hl, lnV_app, HXX.out, List.take_zero, List.nil_append, Nat.zero_add, HXL.out, List.drop_replicate]
      congr 1
      simp [lnV]
      exact .inr rfl
    rw [hsp]
    simp [List.take_of_length_le, lnV_len, fill_len]
end
end Go.Proofs.YtpdnonlelocfbaaGreatDoor
/- Package check: copied, allFit, fits. -/
namespace Go.Proofs.YtpdnonlelocfbaaGreatDoor
open Go.RowKit Go Go.Maps
set_option linter.unusedVariables false
/-- A list of types that can be read, in blocks of P. -/
abbrev Ls (P : Nat → Prop) (w : World) (v : Value) (l : List Bs) : Prop := RdX P 1 StE w v l
theorem ls_kept {P : Nat → Prop} {w w' : World} {v : Value} {l : List Bs} (h : Ls P w v l) (hb : ∀ g, P g → g < w.heap.size → w'.heap[g]? = w.heap[g]?) : Ls P w' v l := h.kept (fun _ _ _ _ _ h => h) hb
theorem ls_below {P : Nat → Prop} {w w' : World} {v : Value} {l : List Bs} (h : Ls P w v l) (hb : Below w.heap.size w w') : Ls P w' v l := ls_kept h fun g _ hl => hb.block g hl
theorem fill_self (l : List Bs) : fill l l.length = l := by
  rw [fill_le (Nat.le_refl _), Nat.sub_self, List.replicate_zero, List.append_nil]
/-- Two cells are stored as one. -/
theorem put_two {W : World} {g : Nat} {cs : Array Value} {t : TypeId} {y1 y2 : Value} (h : W.heap[g]? = some (.cells cs t (0, 0))) (hs : cs.size = 2) (h1 : y1.oneCell' = true) (h2 : y2.oneCell' = true) :
    (storeCells ⟨g, 0, none⟩ [y1, y2]).run Tryz.prog W = .ok () (W.setCells g 0 [y1, y2]) ∧ (W.setCells g 0 [y1, y2]).cell? ⟨g, 0, none⟩ = some y1 ∧ (W.setCells g 0 [y1, y2]).cell? ⟨g, 1, none⟩ = some y2 := by
  have ht : W.there g 0 2 := fun j hj => ⟨by rw [Nat.zero_add, heap_cell h (Array.getElem?_eq_getElem (by omega))]; rfl, heap_thaw h _⟩
  have h3 := run_storeCells_cells (P := Tryz.prog) g 0 [y1, y2] 0 W (fun j hj => by simpa using (ht j hj).1) (fun j hj => by simpa using (ht j hj).2) (by simp [h1, h2])
  have h4 := World.rangeAt_setCells_same W g 0 [y1, y2] (by exact ht)
  exact ⟨by simpa using h3, by simpa using h4 0 y1 rfl, by simpa using h4 1 y2 rfl⟩
theorem own_one {w : World} {B : Nat} {t : TypeId} {k n : Nat} {v : Value} {cs : List Value} (h : w.ownsRow B t k v n cs) : v.oneCell' = true := by
  obtain ⟨A, c, rfl⟩ := own_shape h
  rfl
theorem own_put {w : World} {B : Nat} {t : TypeId} {k n : Nat} {v : Value} {cs : List Value} (h : w.ownsRow B t k v n cs) {b : Nat} (hb : v.ownBlock ≠ some b) (o : Nat) (vs : List Value) : (w.setCells b o vs).ownsRow B t k v n cs :=
  own_of h fun g hg => setCells_other (fun e => hb (by rw [hg]; exact congrArg some e)) vs o w
theorem own_less {w : World} {B B' : Nat} {t : TypeId} {k n : Nat} {v : Value} {cs : List Value} (h : w.ownsRow B t k v n cs) (hB : B' ≤ B) : w.ownsRow B' t k v n cs := by
  refine ⟨h.1, ?_⟩
  rcases h.2 with h | ⟨g, cap, cur, h1, h2, h3⟩
  · exact .inl h
  · exact .inr ⟨g, cap, cur, h1, Nat.le_trans hB h2, h3⟩
section
variable {E : Chk} {Z : Nat → Prop} {wT : World} {c : Nat} {F : Fx} {N : Nat} {s : Cs} {kn : Bool} {st : Value} {w : World}
set_option maxHeartbeats 2000000 in
set_option maxRecDepth 100000 in
theorem copied_c (P : Nat → Prop) (v1 v2 : Value) (l1 l2 : List Bs) (w : World) (h1 : Hid (Ls P w v1 l1)) (h2 : Hid (Ls P w v2 l2)) (n1 : l1.length ≤ 1000) (n2 : l2.length ≤ 1000) :
    Calls Tryz.prog 105 #[.agg #[v1, v2]] w fun e w' => ∃ y1 y2, e = .returned (.agg #[y1, y2]) ∧ w'.ownsRow w.heap.size 9 1 y1 l1.length (lnV l1) ∧ w'.ownsRow w.heap.size 9 1 y2 l2.length (lnV l2) ∧ (∀ k, y1.ownBlock = some k → y2.ownBlock ≠ some k) ∧ Below w.heap.size w w' := by
  obtain ⟨A1, c1, rfl⟩ := h1.out.shape
  obtain ⟨A2, c2, rfl⟩ := h2.out.shape
  have hr1 : ∀ w', Below w.heap.size w w' → Ls P w' (.slice A1 l1.length c1) l1 := fun w' hb => ls_below h1.out hb
  have hr2 : ∀ w', Below w.heap.size w w' → Ls P w' (.slice A2 l2.length c2) l2 := fun w' hb => ls_below h2.out hb
  have HR1 := lhid hr1
  have HR2 := lhid hr2
  clear hr1 hr2
  have hz : (w.alloc (.cells #[.slice A1 l1.length c1, .slice A2 l2.length c2] 44)).heap.size = w.heap.size + 1 := by simp
  have hb1 : Below w.heap.size w (w.alloc (.cells #[.slice A1 l1.length c1, .slice A2 l2.length c2] 44)) := (Below.refl _ _).alloc (Nat.le_refl _) _
  have hb2 : Below w.heap.size w ((w.alloc (.cells #[.slice A1 l1.length c1, .slice A2 l2.length c2] 44)).alloc (.cells #[.slice none 0 0, .slice none 0 0] 44)) := hb1.alloc hb1.size _
  have hg2 := heap_alloc_new (w.alloc (.cells #[.slice A1 l1.length c1, .slice A2 l2.length c2] 44)) (.cells #[.slice none 0 0, .slice none 0 0] 44)
  have hg1 : ((w.alloc (.cells #[.slice A1 l1.length c1, .slice A2 l2.length c2] 44)).alloc (.cells #[.slice none 0 0, .slice none 0 0] 44)).heap[w.heap.size]? = some (.cells #[.slice A1 l1.length c1, .slice A2 l2.length c2] 44 (0, 0)) := (Below.heap_alloc _ _ _ (by simp)).trans (heap_alloc_new w _)
  rw [hz] at hg2
  obtain ⟨W, hW⟩ : ∃ x, (w.alloc (.cells #[.slice A1 l1.length c1, .slice A2 l2.length c2] 44)).alloc (.cells #[.slice none 0 0, .slice none 0 0] 44) = x := ⟨_, rfl⟩
  have hzW : W.heap.size = w.heap.size + 2 := by rw [← hW]; simp
  rw [hW] at hb2 hg1 hg2
  have HW := lhid hW
  have HZW := lhid hzW
  have HB2 := lhid hb2
  have HG1 := lhid hg1
  have HG2 := lhid hg2
  clear hz hb1 hb2 hg1 hg2 hW hzW
  have hHS : ∀ w', Below W.heap.size W w' → (w'.cell? ⟨w.heap.size, 0, none⟩ = some (.slice A1 l1.length c1) ∧ w'.cell? ⟨w.heap.size, 1, none⟩ = some (.slice A2 l2.length c2)) := fun w' hb => by
    have := (hb.block _ (heap_lt HG1.out)).trans HG1.out
    exact ⟨heap_cell this rfl, heap_cell this rfl⟩
  have hHT : ∀ w' u v, Below W.heap.size W w' → (((w'.setCell ⟨w.heap.size + 1, 0, none⟩ u).setCell ⟨w.heap.size + 1, 1, none⟩ v).cell? ⟨w.heap.size, 0, none⟩ = some (.slice A1 l1.length c1) ∧ ((w'.setCell ⟨w.heap.size + 1, 0, none⟩ u).setCell ⟨w.heap.size + 1, 1, none⟩ v).cell? ⟨w.heap.size, 1, none⟩ = some (.slice A2 l2.length c2)) := fun w' u v hb => by
    have h0 : ((w'.setCell ⟨w.heap.size + 1, 0, none⟩ u).setCell ⟨w.heap.size + 1, 1, none⟩ v).heap[w.heap.size]? = w'.heap[w.heap.size]? := (Below.heap_setCell _ _ _ _ (by simp)).trans (Below.heap_setCell _ _ _ _ (by simp))
    have := h0.trans ((hb.block _ (heap_lt HG1.out)).trans HG1.out)
    exact ⟨heap_cell this rfl, heap_cell this rfl⟩
  have HS := lhid hHS
  have HT := lhid hHT
  clear hHT
  clear hHS
  go_enter Tryz.func105, Tryz.ntmps105
  go_upto_region 1 with fail
  rw [HW.out]
  go_region_held3 (fun w' => w'.cell? ⟨w.heap.size, 0, none⟩ = some (.slice A1 l1.length c1) ∧ w'.cell? ⟨w.heap.size, 1, none⟩ = some (.slice A2 l2.length c2)) (first | with_reducible exact HS.out _ (Below.drew' (Below.refl _ _)) | with_reducible exact HS.out _ hb5 | with_reducible exact HS.out _ hb6 | with_reducible exact HT.out _ _ _ hb6 | with_reducible exact HT.out _ _ _ hb5) (first
    | ((with_reducible refine (filled_c P (.slice A1 l1.length c1) l1 l1.length _ (lhid (HR1.out _ (by first | exact Below.drew' HB2.out | exact HB2.out.trans (Below.less hb6 HB2.out.size)))) (Nat.le_refl _) n1).mono ?_); rintro e w5 ⟨y1, rfl, ho5, hb5'⟩; obtain ⟨B1, d1, rfl⟩ := own_shape ho5; have hb5 : Below W.heap.size W w5 := (by first | exact (Below.drew' (Below.refl _ _)).trans (Below.less hb5' (Nat.le_refl _)) | exact hb6.trans (Below.less hb5' hb6.size)); try (have hone := own_one ho5; have hone2 := own_one ho6; clear hone hone2; have hcc := (hb5.block _ (heap_lt HG2.out)).trans HG2.out; have hput0 := heap_cell (i := 0) hcc rfl; have hput1 := heap_cell (i := 1) hcc rfl; have hputf0 := heap_thaw hcc 0; have hputf1 := heap_thaw hcc 1; clear hcc))
    | ((with_reducible refine (filled_c P (.slice A2 l2.length c2) l2 l2.length _ (lhid (HR2.out _ (by first | exact Below.drew' HB2.out | exact HB2.out.trans (Below.less hb5 HB2.out.size)))) (Nat.le_refl _) n2).mono ?_); rintro e w6 ⟨y2, rfl, ho6, hb6'⟩; obtain ⟨B2, d2, rfl⟩ := own_shape ho6; have hb6 : Below W.heap.size W w6 := (by first | exact (Below.drew' (Below.refl _ _)).trans (Below.less hb6' (Nat.le_refl _)) | exact hb5.trans (Below.less hb6' hb5.size)); try (have hone := own_one ho5; have hone2 := own_one ho6; clear hone hone2; have hcc := (hb6.block _ (heap_lt HG2.out)).trans HG2.out; have hput0 := heap_cell (i := 0) hcc rfl; have hput1 := heap_cell (i := 1) hcc rfl; have hputf0 := heap_thaw hcc 0; have hputf1 := heap_thaw hcc 1; clear hcc)))
  go_wp2_with fail
  have hcc := (hb6.block _ (heap_lt HG2.out)).trans HG2.out
  obtain ⟨hput, y0, y1⟩ := put_two (y1 := .slice B1 l1.length d1) (y2 := .slice B2 l2.length d2) hcc rfl rfl rfl
  have hWf : ((w6.setCell ⟨w.heap.size + 1, 0, none⟩ (.slice B1 l1.length d1)).setCell ⟨w.heap.size + 1, 1, none⟩ (.slice B2 l2.length d2)) = w6.setCells (w.heap.size + 1) 0 [.slice B1 l1.length d1, .slice B2 l2.length d2] := rfl
  rw [hWf]
  have hsz := HZW.out
  have hs5 := hb5.size
  have hs6 := hb6'.size
  refine bodyPost_ret (v := .agg #[.slice B1 l1.length d1, .slice B2 l2.length d2]) (by simp [results, Tryz.results105, go_sem, y0, y1]) rfl ?_
  rw [fill_self] at ho5 ho6
  have hd5 : W.drew.heap.size = W.heap.size := rfl
  refine ⟨_, _, rfl, own_put (own_less (own_of ho5 fun g hg => hb6'.block g (ho5.lt g hg).2) (by omega)) (fun e => ?_) _ _, own_put (own_less ho6 (by omega)) (fun e => ?_) _ _, fun k h1 h2 => ?_, below_put (HB2.out.trans (Below.less hb6 HB2.out.size)) (by omega) _ _⟩
  · have := (ho5.lt _ e).1
    omega
  · have := (ho6.lt _ e).1
    omega
  · have h3 := (ho5.lt _ h1).2
    have h4 := (ho6.lt _ h2).1
    omega
end
end Go.Proofs.YtpdnonlelocfbaaGreatDoor
/- Package check: allFit, fits. -/
namespace Go.Proofs.YtpdnonlelocfbaaGreatDoor
open Go.RowKit Go Go.Maps
set_option linter.unusedVariables false
theorem allFit_step {E : Chk} {l m : List Bs} {k : Nat} {t u : Bs} (ht : l[k]? = some t) (hu : m[k]? = some u) : allFit E (l.drop k) (m.drop k) = (E.fits t u && allFit E (l.drop (k + 1)) (m.drop (k + 1))) := by
  obtain ⟨h1, rfl⟩ := List.getElem?_eq_some_iff.1 ht
  obtain ⟨h2, rfl⟩ := List.getElem?_eq_some_iff.1 hu
  rw [List.drop_eq_getElem_cons h1, List.drop_eq_getElem_cons h2]
  rfl
theorem ls_below' {P : Nat → Prop} {w w' : World} {v : Value} {l : List Bs} (h : Ls P w v l) (hb : Below w.heap.size w w') : Ls P w' v l := ls_below h hb
section
variable {E : Chk} {Z : Nat → Prop} {wT : World} {c : Nat} {F : Fx} {N : Nat} {s : Cs} {kn : Bool} {st : Value} {w : World}
set_option maxHeartbeats 2000000 in
set_option maxRecDepth 100000 in
theorem allFit_b (HE : Hid (Env E F.tb wT)) (hT : Below wT.heap.size wT w) (hc : w.cell? ⟨c, 0, none⟩ = some (.pointer (some ⟨F.tb, 0, none⟩))) (P1 P2 : Nat → Prop) (v1 v2 : Value) (l1 l2 : List Bs) (h1 : Ls P1 w v1 l1) (h2 : Ls P2 w v2 l2) (hl : l2.length ≤ l1.length) (s1 : ∀ t ∈ l1, t.length ≤ ML) (s2 : ∀ t ∈ l2, t.length ≤ ML) :
    Calls Tryz.prog 158 #[.pointer (some ⟨c, 0, none⟩), v1, v2] w fun e w' => e = .returned (.bool (allFit E l1 l2)) ∧ Below w.heap.size w w' := by
  obtain ⟨A1, c1, rfl⟩ := h1.shape
  obtain ⟨A2, c2, rfl⟩ := h2.shape
  have HT := lhid hT
  have HC := lhid hc
  have H1 := lhid h1
  have H2 := lhid h2
  have HL := lhid hl
  have S1 := lhid s1
  have S2 := lhid s2
  clear hT hc h1 h2 hl s1 s2
  go_enter Tryz.func158, Tryz.ntmps158
  go_wp2_with fail
  go_loopw [11] (fun i wr => ∃ k : Nat, i = .int .i64 k ∧ k ≤ l2.length ∧ Hid (Below w.heap.size w wr) ∧ Hid (allFit E l1 l2 = allFit E (l1.drop k) (l2.drop k))) (fun i _ => l2.length - (intOf i).toNat)
  case atStart => exact ⟨0, rfl, Nat.zero_le _, lhid (Below.refl _ _), lhid (by simp)⟩
  case round =>
    obtain ⟨k, rfl, hk, HB, HA⟩ := hrel
    have hm2 : l2.length ≤ 4294967296 := by obtain ⟨_, _, _, _, h, _⟩ := H2.out; exact h
    by_cases hlt : k < l2.length
    · obtain ⟨u, hu⟩ : ∃ u, l2[k]? = some u := ⟨_, List.getElem?_eq_getElem hlt⟩
      obtain ⟨t, ht⟩ : ∃ t, l1[k]? = some t := ⟨_, List.getElem?_eq_getElem (by have := HL.out; omega)⟩
      have hlt1 : k < l1.length := by have := HL.out; omega
      obtain ⟨g1, o1, hA1, _, x1⟩ := rdX_cell H1.out ht
      obtain ⟨g2, o2, hA2, _, x2⟩ := rdX_cell H2.out hu
      subst hA1 hA2
      have y1 := (HB.out.cell (cell_lt x1)).trans x1
      have y2 := (HB.out.cell (cell_lt x2)).trans x2
      have y0 := (HB.out.cell (cell_lt HC.out)).trans HC.out
      have HTW := lhid (HT.out.trans (Below.less HB.out HT.out.size))
      have HST := lhid (allFit_step (E := E) ht hu)
      have hst := S1.out t (List.mem_of_getElem? ht)
      have hsu := S2.out u (List.mem_of_getElem? hu)
      have hSS : ∀ w', Below wr.heap.size wr w' → (w'.cell? ⟨c, 0, none⟩ = some (.pointer (some ⟨F.tb, 0, none⟩)) ∧ w'.cell? ⟨g1, o1 + k, none⟩ = some (.string (tx t))) := fun w' hb => ⟨(hb.cell (cell_lt y0)).trans y0, (hb.cell (cell_lt y1)).trans y1⟩
      have HSS := lhid hSS
      obtain ⟨b, hb⟩ : ∃ b, E.fits t u = b := ⟨_, rfl⟩
      have HBB := lhid hb
      have k3 : (k : Int) < l2.length := by omega
      have k4 : (k : Int) < l1.length := by omega
      clear hSS x1 x2 hb ht hu
      go_upto_region 4 with fail
      go_region_held3 (fun w' => w'.cell? ⟨c, 0, none⟩ = some (.pointer (some ⟨F.tb, 0, none⟩)) ∧ w'.cell? ⟨g1, o1 + k, none⟩ = some (.string (tx t))) (first | with_reducible exact HSS.out _ (Below.drew' (Below.refl _ _)) | with_reducible exact HSS.out _ hb5) (first
        | ((with_reducible refine (HE.out.fits t u _ hst hsu (HTW.out.trans (Below.less (Below.drew' (Below.refl _ _)) HTW.out.size))).mono ?_); rintro e w5 ⟨rfl, hb5'⟩; rw [HBB.out]; have hb5 : Below wr.heap.size wr w5 := ⟨hb5'.os, hb5'.tape, hb5'.output, hb5'.size, hb5'.block⟩))
      cases b with
      | true =>
        go_wp2_with fail
        go_roundw
        case rel => exact ⟨k + 1, by go_num, by omega, lhid (HB.out.trans (Below.less hb5 HB.out.size)), lhid (by rw [HA.out, HST.out, HBB.out, Bool.true_and])⟩
        case measure => simp [intOf]; omega
      | false =>
        go_wp2_with fail
        go_ret
        exact ⟨by rw [HA.out, HST.out, HBB.out, Bool.false_and]; rfl, HB.out.trans (Below.less hb5 HB.out.size)⟩
    · go_wp2_with fail
      go_ret
      have : k = l2.length := by omega
      subst this
      refine ⟨?_, HB.out⟩
      rw [HA.out, List.drop_length]
      cases l1.drop l2.length <;> rfl
set_option maxHeartbeats 2000000 in
set_option maxRecDepth 100000 in
theorem fits_b (HE : Hid (Env E F.tb wT)) (hT : Below wT.heap.size wT w) (hc : w.cell? ⟨c, 0, none⟩ = some (.pointer (some ⟨F.tb, 0, none⟩))) (P1 P2 : Nat → Prop) (v1 v2 u1 u2 : Value) (s : Cs) (f : Fm) (h1 : Ls P1 w v1 s.loc) (h2 : Ls P1 w v2 s.stk) (g1 : Ls P2 w u1 f.loc) (g2 : Ls P2 w u2 f.stk) (hl : f.loc.length ≤ s.loc.length)
    (s1 : ∀ t ∈ s.loc, t.length ≤ ML) (s2 : ∀ t ∈ s.stk, t.length ≤ ML) (s3 : ∀ t ∈ f.loc, t.length ≤ ML) (s4 : ∀ t ∈ f.stk, t.length ≤ ML) :
    Calls Tryz.prog 157 #[.pointer (some ⟨c, 0, none⟩), .agg #[v1, v2], .agg #[u1, u2]] w fun e w' => e = .returned (.bool (fitsF E s f)) ∧ Below w.heap.size w w' := by
  obtain ⟨A1, c1, rfl⟩ := h1.shape
  obtain ⟨A2, c2, rfl⟩ := h2.shape
  obtain ⟨B1, d1, rfl⟩ := g1.shape
  obtain ⟨B2, d2, rfl⟩ := g2.shape
  have hz : (w.alloc (.cells #[.slice A1 s.loc.length c1, .slice A2 s.stk.length c2] 44)).heap.size = w.heap.size + 1 := by simp
  have hb1 : Below w.heap.size w (w.alloc (.cells #[.slice A1 s.loc.length c1, .slice A2 s.stk.length c2] 44)) := (Below.refl _ _).alloc (Nat.le_refl _) _
  have hb2 : Below w.heap.size w ((w.alloc (.cells #[.slice A1 s.loc.length c1, .slice A2 s.stk.length c2] 44)).alloc (.cells #[.slice B1 f.loc.length d1, .slice B2 f.stk.length d2] 44)) := hb1.alloc hb1.size _
  have hg2 := heap_alloc_new (w.alloc (.cells #[.slice A1 s.loc.length c1, .slice A2 s.stk.length c2] 44)) (.cells #[.slice B1 f.loc.length d1, .slice B2 f.stk.length d2] 44)
  have hg1 : ((w.alloc (.cells #[.slice A1 s.loc.length c1, .slice A2 s.stk.length c2] 44)).alloc (.cells #[.slice B1 f.loc.length d1, .slice B2 f.stk.length d2] 44)).heap[w.heap.size]? = some (.cells #[.slice A1 s.loc.length c1, .slice A2 s.stk.length c2] 44 (0, 0)) := (Below.heap_alloc _ _ _ (by simp)).trans (heap_alloc_new w _)
  rw [hz] at hg2
  obtain ⟨W, hW⟩ : ∃ x, (w.alloc (.cells #[.slice A1 s.loc.length c1, .slice A2 s.stk.length c2] 44)).alloc (.cells #[.slice B1 f.loc.length d1, .slice B2 f.stk.length d2] 44) = x := ⟨_, rfl⟩
  have hzW : W.heap.size = w.heap.size + 2 := by rw [← hW]; simp
  rw [hW] at hb2 hg1 hg2
  have HW := lhid hW
  have HZW := lhid hzW
  have HB2 := lhid hb2
  have HG1 := lhid hg1
  have HG2 := lhid hg2
  clear hz hb1 hb2 hg1 hg2 hW hzW
  have HT := lhid hT
  have HC := lhid hc
  have H1 := lhid h1
  have H2 := lhid h2
  have G1 := lhid g1
  have G2 := lhid g2
  have HL := lhid hl
  have S1 := lhid s1
  have S2 := lhid s2
  have S3 := lhid s3
  have S4 := lhid s4
  clear hT hc h1 h2 g1 g2 hl s1 s2 s3 s4
  have hHS : ∀ w', Below W.heap.size W w' → (w'.cell? ⟨w.heap.size, 0, none⟩ = some (.slice A1 s.loc.length c1) ∧ w'.cell? ⟨w.heap.size, 1, none⟩ = some (.slice A2 s.stk.length c2) ∧ w'.cell? ⟨w.heap.size + 1, 0, none⟩ = some (.slice B1 f.loc.length d1) ∧ w'.cell? ⟨w.heap.size + 1, 1, none⟩ = some (.slice B2 f.stk.length d2)) := fun w' hb => by
    have h1 := (hb.block _ (heap_lt HG1.out)).trans HG1.out
    have h2 := (hb.block _ (heap_lt HG2.out)).trans HG2.out
    exact ⟨heap_cell h1 rfl, heap_cell h1 rfl, heap_cell h2 rfl, heap_cell h2 rfl⟩
  have HS := lhid hHS
  clear hHS
  go_enter Tryz.func157, Tryz.ntmps157
  go_upto_region 1 with fail
  rw [HW.out]
  obtain ⟨x0, x1, x2, x3⟩ := HS.out W (Below.refl _ _)
  by_cases hq : s.stk.length = f.stk.length
  · have k0 : ((s.stk.length : Int) == (f.stk.length : Int)) = true := by rw [hq]; simp
    have HQ := lhid hq
    obtain ⟨b1, hb1⟩ : ∃ b, allFit E s.loc f.loc = b := ⟨_, rfl⟩
    have HB1 := lhid hb1
    clear hq hb1
    go_wp2_with fail
    with_reducible refine (allFit_b HE (HT.out.trans (Below.less HB2.out HT.out.size)) ((HB2.out.cell (cell_lt HC.out)).trans HC.out) P1 P2 _ _ _ _ (ls_below' H1.out HB2.out) (ls_below' G1.out HB2.out) HL.out S1.out S3.out).mono ?_
    rintro e w5 ⟨rfl, hb5⟩
    rw [HB1.out]
    have HB5 := lhid (HB2.out.trans (Below.less hb5 HB2.out.size))
    have HBW := lhid hb5
    clear hb5
    obtain ⟨x0, x1, x2, x3⟩ := HS.out w5 HBW.out
    cases b1 with
    | false =>
      go_wp2_with fail
      go_ret
      exact ⟨by unfold fitsF; rw [HB1.out]; simp, HB5.out⟩
    | true =>
      go_wp2_with fail
      with_reducible refine (allFit_b HE (HT.out.trans (Below.less HB5.out HT.out.size)) ((HB5.out.cell (cell_lt HC.out)).trans HC.out) P1 P2 _ _ _ _ (ls_below' H2.out HB5.out) (ls_below' G2.out HB5.out) (by rw [HQ.out]; exact Nat.le_refl _) S2.out S4.out).mono ?_
      rintro e w6 ⟨rfl, hb6⟩
      go_wp2_with fail
      go_ret
      exact ⟨by unfold fitsF; rw [HB1.out, HQ.out]; simp, HB5.out.trans (Below.less hb6 HB5.out.size)⟩
  · have k0 : ((s.stk.length : Int) == (f.stk.length : Int)) = false := by simp; omega
    have HQ := lhid hq
    clear hq
    go_wp2_with fail
    go_ret
    exact ⟨by unfold fitsF; rw [show (s.stk.length == f.stk.length) = false from by simpa using HQ.out]; rfl, HB2.out⟩
end
end Go.Proofs.YtpdnonlelocfbaaGreatDoor
/- Maps of numbers: what stands at each number. -/
namespace Go.Proofs.YtpdnonlelocfbaaGreatDoor
open Go.RowKit Go Go.Maps
set_option linter.unusedVariables false
abbrev I6 (n : Int) : Prop := -9223372036854775808 ≤ n ∧ n ≤ 9223372036854775807
theorem lawI : Keyed Tryz.prog 3 := int_keyed Tryz.underlying3
abbrev litI (n : Int) : Lit := .int .i64 n
theorem key_i {n : Int} (h : I6 n) : keyOf Tryz.prog 3 (.int .i64 n) = some (litI n) := keyOf_int_mk Tryz.underlying3 (WalkArith.wf_i64 (by have := h.1; have := h.2; omega))
/-- Block b is a map of at most n entries: at the number s stands f s. -/
def MI (w : World) (b n : Nat) (f : Int → Option Value) : Prop :=
  ∃ D : DataW Value, w.ownsMap Tryz.prog 3 hv b n D ∧ ∀ s : Int, I6 s → has D (litI s) = (f s).isSome ∧ ∀ v, f s = some v → ∀ z, D.atKey (litI s) z = .held v
theorem MI.lt {w : World} {b n : Nat} {f : Int → Option Value} (h : MI w b n f) : b < w.heap.size := by
  obtain ⟨D, h1, _⟩ := h
  exact h1.lt
theorem MI.of {w w' : World} {b n : Nat} {f : Int → Option Value} (h : MI w b n f) (e : w'.heap[b]? = w.heap[b]?) : MI w' b n f := by
  obtain ⟨D, ⟨es, clock, h1, h2⟩, h3⟩ := h
  exact ⟨D, ⟨es, clock, e.trans h1, h2⟩, h3⟩
theorem MI.ch {X : Nat → Prop} {w w' : World} {b n : Nat} {f : Int → Option Value} (h : MI w b n f) (hc : Ch X w w') (hX : ¬ X b) : MI w' b n f := h.of (hc.block b h.lt hX)
theorem MI.below {w w' : World} {b n : Nat} {f : Int → Option Value} (h : MI w b n f) (hb : Below w.heap.size w w') : MI w' b n f := h.of (hb.block b h.lt)
theorem MI.alloc {w : World} {b n : Nat} {f : Int → Option Value} (h : MI w b n f) (o : Obj) : MI (w.alloc o) b n f := h.of (Below.heap_alloc _ _ _ h.lt)
theorem MI.set {w : World} {b n : Nat} {f : Int → Option Value} (h : MI w b n f) {p : Addr} (hp : b ≠ p.block) (u : Value) : MI (w.setCell p u) b n f := h.of (Below.heap_setCell _ _ _ _ hp)
theorem MI.mono {w : World} {b n m : Nat} {f : Int → Option Value} (h : MI w b n f) (hn : n ≤ m) : MI w b m f := by
  obtain ⟨D, h1, h2⟩ := h
  exact ⟨D, h1.mono hn, h2⟩
theorem MI.ext {w : World} {b n : Nat} {f f' : Int → Option Value} (h : MI w b n f) (hf : ∀ s, f s = f' s) : MI w b n f' := by
  have : f = f' := funext hf
  rw [← this]
  exact h
theorem mi_made (w : World) : MI (w.alloc (.map #[] 0)) w.heap.size 0 (fun _ => none) :=
  ⟨_, World.ownsMap_made _ _ _ _, fun s _ => ⟨rfl, fun v h => by cases h⟩⟩
/-- 'm[k]' and 'v, ok := m[k]'. -/
theorem MI.look {w : World} {b n : Nat} {f : Int → Option Value} (h : MI w b n f) {t e : TypeId} (ht : Tryz.prog.underlying t = some (.map 3 e)) {z : Value} (hz : (zeroValue e).run Tryz.prog w = .ok z w) {s : Int} (hs : I6 s) :
    (Instr.lookup t (.map (some b)) (.int .i64 s) false).run Tryz.prog w = .ok ((f s).getD z) w ∧ (Instr.lookup t (.map (some b)) (.int .i64 s) true).run Tryz.prog w = .ok (.tuple #[(f s).getD z, .bool (f s).isSome]) w := by
  obtain ⟨D, h1, h2⟩ := h
  obtain ⟨h3, h4⟩ := h2 s hs
  have hat : ∀ v, .held v = D.atKey (litI s) (.held z) → v = (f s).getD z := fun v hv' => by
    cases hf : f s with
    | none =>
      rw [hf] at h3
      rw [atKey_of_not_has h3] at hv'
      injection hv'
    | some u =>
      rw [h4 u hf] at hv'
      injection hv'
  constructor
  · obtain ⟨v, ps, hr, hv'⟩ := h1.lookup lawI ht hz (zd := .held z) (zp := []) rfl (key_i hs)
    rw [hr, hat v (hv_eq hv').symm]
  · obtain ⟨v, ps, hr, hv'⟩ := h1.look_ok lawI ht hz (zd := .held z) (zp := []) rfl (key_i hs)
    rw [hr, hat v (hv_eq hv').symm, h3]
theorem mi_put {f : Int → Option Value} {D : DataW Value} {s : Int} {v : Value} (hm : IsMap D) (h : ∀ t : Int, I6 t → has D (litI t) = (f t).isSome ∧ ∀ u, f t = some u → ∀ z, D.atKey (litI t) z = .held u) :
    ∀ t : Int, I6 t → has (D.put (litI s) (.held v)) (litI t) = (if t = s then some v else f t).isSome ∧ ∀ u, (if t = s then some v else f t) = some u → ∀ z, (D.put (litI s) (.held v)).atKey (litI t) z = .held u := by
  intro t ht
  by_cases e : t = s
  · subst e
    rw [if_pos rfl]
    exact ⟨has_put_same hm (by trivial) _, fun u hu z => by injection hu with hu; rw [← hu]; exact atKey_put_same hm (by trivial) _ _⟩
  · rw [if_neg e]
    have e2 : litI t ≠ litI s := fun e3 => e (by injection e3)
    exact ⟨by rw [has_put_other e2]; exact (h t ht).1, fun u hu z => by rw [atKey_put_other e2]; exact (h t ht).2 u hu z⟩
/-- 'm[k] = v'. -/
theorem MI.put {w : World} {b n : Nat} {f : Int → Option Value} (h : MI w b n f) {t e : TypeId} (ht : Tryz.prog.underlying t = some (.map 3 e)) (hn : n < maxLen) {s : Int} (hs : I6 s) (v : Value) :
    ∃ w', (Instr.mapUpdate t (.map (some b)) (.int .i64 s) v).run Tryz.prog w = .ok () w' ∧ MI w' b (n + 1) (fun t => if t = s then some v else f t) ∧ w.grownBy w' (some b) ∧ w'.heap.size = w.heap.size := by
  obtain ⟨D, h1, h2⟩ := h
  obtain ⟨w', hr, h3, h4⟩ := h1.store lawI ht hn (key_i hs) (d := .held v) (ps := []) rfl
  refine ⟨w', hr, ⟨_, h3, mi_put h1.isMap h2⟩, h4.grown, ?_⟩
  obtain ⟨es, clock, es', clock', _, rfl⟩ := h4
  simp [Go.ChangeMaps.setBlock]
/-- .. at the operation. -/
theorem wpList_put_mi (w : World) {ops : Array Oper} {rest : List Oper} {o : Oper} {a : Act} {Q : Exit → Act → World → Prop}
    (hg : o.guard = none) (m x v : Operand) (t : TypeId) (hop : o.op = Op.mapUpdate t m x v) (e : TypeId) (ht : Tryz.prog.underlying t = some (.map 3 e)) (b n : Nat) (f : Int → Option Value)
    (hm : a.eval m = .map (some b)) (hown : MI w b n f) (hn : n < maxLen) (s : Int) (hx : a.eval x = .int .i64 s) (hs : I6 s) (val : Value) (hv : a.eval v = val)
    (hK : ∀ w', MI w' b (n + 1) (fun t => if t = s then some val else f t) → w.grownBy w' (some b) → w'.heap.size = w.heap.size → wpList Tryz.prog ops Q rest (a.put o.dst undef) w') :
    wpList Tryz.prog ops Q (o :: rest) a w := by
  refine wpList_plain hg fun K' hK' => ?_
  obtain ⟨w', hrun, r1, r2, r3⟩ := hown.put ht hn hs val
  unfold Oper.wp
  simp [execOp, hop, hm, hx, hv, hrun, Result.andThen]
  exact hK' _ _ (hK w' r1 r2 r3)
theorem wpList_look_mi (w : World) {ops : Array Oper} {rest : List Oper} {o : Oper} {a : Act} {Q : Exit → Act → World → Prop}
    (hg : o.guard = none) (m x : Operand) (t : TypeId) (hop : o.op = Op.lookup t m x false) (e : TypeId) (ht : Tryz.prog.underlying t = some (.map 3 e)) (z : Value) (hz : (zeroValue e).run Tryz.prog w = .ok z w) (b n : Nat) (f : Int → Option Value)
    (hm : a.eval m = .map (some b)) (hown : MI w b n f) (s : Int) (hx : a.eval x = .int .i64 s) (hs : I6 s) (v : Value) (hv : (f s).getD z = v)
    (hK : wpList Tryz.prog ops Q rest (a.put o.dst v) w) :
    wpList Tryz.prog ops Q (o :: rest) a w := by
  refine wpList_plain hg fun K' hK' => ?_
  have hrun := (hown.look ht hz hs).1
  rw [hv] at hrun
  unfold Oper.wp
  simp [execOp, hop, hm, hx, hrun, Result.andThen]
  exact hK' _ _ hK
theorem wpList_lookok_mi (w : World) {ops : Array Oper} {rest : List Oper} {o : Oper} {a : Act} {Q : Exit → Act → World → Prop}
    (hg : o.guard = none) (m x : Operand) (t : TypeId) (hop : o.op = Op.lookup t m x true) (e : TypeId) (ht : Tryz.prog.underlying t = some (.map 3 e)) (z : Value) (hz : (zeroValue e).run Tryz.prog w = .ok z w) (b n : Nat) (f : Int → Option Value)
    (hm : a.eval m = .map (some b)) (hown : MI w b n f) (s : Int) (hx : a.eval x = .int .i64 s) (hs : I6 s) (v : Value) (hv : (f s).getD z = v) (ok : Bool) (hok : (f s).isSome = ok)
    (hK : wpList Tryz.prog ops Q rest (a.put o.dst (.tuple #[v, .bool ok])) w) :
    wpList Tryz.prog ops Q (o :: rest) a w := by
  refine wpList_plain hg fun K' hK' => ?_
  have hrun := (hown.look ht hz hs).2
  rw [hv, hok] at hrun
  unfold Oper.wp
  simp [execOp, hop, hm, hx, hrun, Result.andThen]
  exact hK' _ _ hK
end Go.Proofs.YtpdnonlelocfbaaGreatDoor
/- Package check: frames by their places; leave. -/
namespace Go.Proofs.YtpdnonlelocfbaaGreatDoor
open Go.RowKit Go Go.Maps
set_option linter.unusedVariables false
theorem und_fm : Tryz.prog.underlying 103 = some (.map 3 44) := by kernel_rfl
theorem zero_fm (w : World) : (zeroValue 44).run Tryz.prog w = .ok (.agg #[.slice none 0 0, .slice none 0 0]) w := by kernel_rfl
/-- A frame, or none, as a map's look answers. -/
def FmA (P : Nat → Prop) (w : World) (x : Option Fm) (u : Option Value) : Prop := match x with
  | none => u = none
  | some f => ∃ v1 v2, u = some (.agg #[v1, v2]) ∧ Ls P w v1 f.loc ∧ Ls P w v2 f.stk
/-- The frames by their places. -/
def FM (P : Nat → Prop) (w : World) (b N : Nat) (fs : List Fm) : Prop := ∃ n f, n ≤ N ∧ MI w b n f ∧ ∀ pc, I6 pc → FmA P w (frm fs pc) (f pc)
theorem FmA.of {P : Nat → Prop} {w w' : World} {x : Option Fm} {u : Option Value} (h : FmA P w x u) (hb : ∀ g, P g → g < w.heap.size → w'.heap[g]? = w.heap[g]?) : FmA P w' x u := by
  cases x with
  | none => exact h
  | some f =>
    obtain ⟨v1, v2, h1, h2, h3⟩ := h
    exact ⟨v1, v2, h1, ls_kept h2 hb, ls_kept h3 hb⟩
theorem FM.of {P : Nat → Prop} {w w' : World} {b N : Nat} {fs : List Fm} (h : FM P w b N fs) (e : w'.heap[b]? = w.heap[b]?) (hb : ∀ g, P g → g < w.heap.size → w'.heap[g]? = w.heap[g]?) : FM P w' b N fs := by
  obtain ⟨n, f, h1, h2, h3⟩ := h
  exact ⟨n, f, h1, h2.of e, fun pc hp => (h3 pc hp).of hb⟩
theorem FM.ch {P Z : Nat → Prop} {w w' : World} {b N : Nat} {fs : List Fm} (h : FM P w b N fs) (hc : Ch Z w w') (hz : ¬ Z b) (hP : ∀ k, P k → ¬ Z k) : FM P w' b N fs := by
  have hl : b < w.heap.size := by obtain ⟨n, f, _, h2, _⟩ := h; exact h2.lt
  exact h.of (hc.block b hl hz) fun g hg hs => hc.block g hs (hP g hg)
/-- What a look at a place answers. -/
theorem FM.look {P : Nat → Prop} {w : World} {b N : Nat} {fs : List Fm} (h : FM P w b N fs) {pc : Int} (hp : I6 pc) : ∃ v1 v2, Ls P w v1 ((frm fs pc).elim [] fun f => f.loc) ∧ Ls P w v2 ((frm fs pc).elim [] fun f => f.stk) ∧
    (∀ w', w'.heap[b]? = w.heap[b]? → (Instr.lookup 103 (.map (some b)) (.int .i64 pc) false).run Tryz.prog w' = .ok (.agg #[v1, v2]) w' ∧ (Instr.lookup 103 (.map (some b)) (.int .i64 pc) true).run Tryz.prog w' = .ok (.tuple #[.agg #[v1, v2], .bool (frm fs pc).isSome]) w') := by
  obtain ⟨n, f, h1, h2, h3⟩ := h
  have h4 := h3 pc hp
  cases hf : frm fs pc with
  | none =>
    rw [hf] at h4
    have h5 : f pc = none := h4
    refine ⟨.slice none 0 0, .slice none 0 0, ⟨none, 0, rfl, fun _ => rfl, Nat.zero_le _, fun i a h => by cases h⟩, ⟨none, 0, rfl, fun _ => rfl, Nat.zero_le _, fun i a h => by cases h⟩, fun w' hw => ?_⟩
    have := (h2.of hw).look und_fm (zero_fm w') hp
    rw [h5] at this
    exact this
  | some x =>
    rw [hf] at h4
    obtain ⟨v1, v2, h5, h6, h7⟩ := h4
    refine ⟨v1, v2, h6, h7, fun w' hw => ?_⟩
    have := (h2.of hw).look und_fm (zero_fm w') hp
    rw [h5] at this
    exact this
theorem ow_ls {Z : Nat → Prop} {T : Nat} {w : World} {v : Value} {l : List Bs} (h : Ow Z T w v l) (hl : l.length ≤ 1000) : Ls (fun _ => True) w v l := by
  obtain ⟨A, cap, rfl⟩ := own_shape h.row
  refine ⟨A, cap, rfl, fun e => ?_, Nat.le_trans hl (by decide), fun i a hi => ?_⟩
  · subst e
    rcases h.row.2 with ⟨h1, _⟩ | ⟨g, cap', cur, h1, _⟩
    · injection h1
    · injection h1 with h1 _ _
      cases h1
  · obtain ⟨g, rfl, hc⟩ := h.cell hi
    refine ⟨g, 0, [.string (tx a)], rfl, trivial, rfl, fun j u hj => ?_⟩
    have hj0 : j = 0 := by
      have := (List.getElem?_eq_some_iff.1 hj).1
      simp at this
      omega
    subst hj0
    injection hj with hj
    subst hj
    rwa [Nat.zero_add, Nat.mul_one, Nat.add_zero]
/-- What an instruction's code says of where it leads. -/
structure CodeS (o : Int) (en le : Bool) : Prop where
  ends : ∀ w, Calls Tryz.prog 173 #[.int .i64 o] w fun e w' => e = .returned (.bool en) ∧ w = w'
  leads : ∀ w, Calls Tryz.prog 174 #[.int .i64 o] w fun e w' => e = .returned (.bool le) ∧ w = w'
section
variable {E : Chk} {Z : Nat → Prop} {wT : World} {c : Nat} {F : Fx} {N : Nat} {s : Cs} {kn : Bool} {st : Value} {w : World}
theorem Ck.setKn (h : Ck E Z wT c F N s kn st w) (b : Bool) : Ck E Z wT c F N s b st (w.setCell ⟨c, 22, none⟩ (.bool b)) ∧ Ch Z w (w.setCell ⟨c, 22, none⟩ (.bool b)) := by
  obtain ⟨vl, vs, hc, hl, hs, hd⟩ := h.it
  exact h.store (s' := s) (heap_set hc _) hl hs hd
set_option maxHeartbeats 4000000 in
set_option maxRecDepth 100000 in
theorem leave_c (HE : Hid (Env E F.tb wT)) (HC : Hid (Ck E Z wT c F N s kn st w)) {P : Nat → Prop} {M : Nat} {fs : List Fm} (HFM : Hid (FM P w F.fb M fs)) (hfz : ¬ Z F.fb) (hPz : ∀ k, P k → ¬ Z k) (p o a q : Int) (ha : I6 a) (en le : Bool) (HS : Hid (CodeS o en le))
    (n1 : s.loc.length ≤ 1000) (n2 : s.stk.length ≤ 1000) (hn : ∀ f ∈ fs, f.loc.length ≤ s.loc.length) (hsm : ∀ f ∈ fs, (∀ t ∈ f.loc, t.length ≤ ML) ∧ ∀ t ∈ f.stk, t.length ≤ ML) :
    Calls Tryz.prog 107 #[.pointer (some ⟨c, 0, none⟩), .agg #[.int .i64 p, .int .i64 o, .int .i64 a, .int .i64 q]] w (CkOut E Z wT c F N s (!en) st w (.returned (.int .i64 (leave E fs ⟨p, o, a, le, en⟩ s)))) := by
  have hb0 : Below w.heap.size w (w.alloc (.cells #[.int .i64 p, .int .i64 o, .int .i64 a, .int .i64 q] 187)) := (Below.refl _ _).alloc (Nat.le_refl _) _
  have hz0 := heap_alloc_new w (.cells #[.int .i64 p, .int .i64 o, .int .i64 a, .int .i64 q] 187)
  have hsz : (w.alloc (.cells #[.int .i64 p, .int .i64 o, .int .i64 a, .int .i64 q] 187)).heap.size = w.heap.size + 1 := by simp
  obtain ⟨W, hW⟩ : ∃ x, w.alloc (.cells #[.int .i64 p, .int .i64 o, .int .i64 a, .int .i64 q] 187) = x := ⟨_, rfl⟩
  rw [hW] at hb0 hz0 hsz
  have HW := lhid hW
  have HB0 := lhid hb0
  have HZ0 := lhid hz0
  have HSZ := lhid hsz
  have HK := lhid (HC.out.box hb0 (Nat.le_refl _) (by rw [hsz]; omega))
  have hc22 : ∃ u, W.cell? ⟨c, 22, none⟩ = some u ∧ W.frozen? ⟨c, 22, none⟩ = false := by
    obtain ⟨vl, vs, hc, _⟩ := HK.out.it
    exact ⟨_, heap_cell hc rfl, heap_thaw hc 22⟩
  obtain ⟨u22, c22, z22⟩ := hc22
  have o1 := heap_cell (i := 1) HZ0.out rfl
  have hk2 := HK.out.setKn (!en)
  obtain ⟨W2, hW2⟩ : ∃ x, W.setCell ⟨c, 22, none⟩ (.bool (!en)) = x := ⟨_, rfl⟩
  rw [hW2] at hk2
  have HW2 := lhid hW2
  have HK2 := lhid hk2
  have hcw : w.heap.size ≠ c := fun e => by
    obtain ⟨vl, vs, hc, _⟩ := HC.out.it
    have := heap_lt hc
    omega
  have HZ2 := lhid (hk2.2.keep hz0 (fun h => h.2 rfl))
  have HCF : Hid (Ch Z w W2) := lhid ((Ch.of hb0).tr (hk2.2.mono fun _ _ h => h.1))
  have HFM2 := lhid (HFM.out.ch HCF.out hfz hPz)
  clear hW hb0 hz0 hsz hk2 hW2
  have o1' := heap_cell (i := 1) HZ2.out rfl
  go_enter Tryz.func107, Tryz.ntmps107
  go_upto_region 1 with fail
  rw [HW.out]
  go_wp2_with fail
  with_reducible refine (HS.out.ends _).mono ?_
  rintro e w5 ⟨rfl, rfl⟩
  go_wp2_with fail
  rw [HW2.out]
  with_reducible refine (HS.out.leads _).mono ?_
  rintro e w5 ⟨rfl, rfl⟩
  clear c22 z22 o1
  cases le with
  | false =>
    go_wp2_with fail
    go_ret
    exact ⟨rfl, HK2.out.1.unbox HC.out (fun _ h => h.1) HCF.out.size, HCF.out⟩
  | true =>
    obtain ⟨v1, v2, hv1, hv2, hlk⟩ := HFM2.out.look ha
    obtain ⟨b, hb⟩ : ∃ b, (frm fs a).isSome = b := ⟨_, rfl⟩
    rw [hb] at hlk
    have HB := lhid hb
    have hfb : F.fb < W2.heap.size := by obtain ⟨n, f, _, h2, _⟩ := HFM2.out; exact h2.lt
    obtain ⟨vl, vs, hc2, hl2, hs2, hd2⟩ := HK2.out.1.it
    obtain ⟨A1, d1, rfl⟩ := hv1.shape
    obtain ⟨A2, d2, rfl⟩ := hv2.shape
    have HV1 := lhid hv1
    have HV2 := lhid hv2
    have hSS : ∀ w' : World, Below W2.heap.size W2 w' → (w'.cell? ⟨c, 18, none⟩ = some (.map (some F.fb)) ∧ w'.cell? ⟨w.heap.size, 2, none⟩ = some (.int .i64 a) ∧ (Instr.lookup 103 (.map (some F.fb)) (.int .i64 a) true).run Tryz.prog w' = .ok (.tuple #[.agg #[.slice A1 ((frm fs a).elim [] fun f => f.loc).length d1, .slice A2 ((frm fs a).elim [] fun f => f.stk).length d2], .bool b]) w') := fun w' hb => ⟨heap_cell ((hb.block _ (heap_lt hc2)).trans hc2) rfl, heap_cell ((hb.block _ (heap_lt HZ2.out)).trans HZ2.out) rfl, (hlk w' (hb.block _ hfb)).2⟩
    have HSS := lhid hSS
    obtain ⟨L1, hL1⟩ : ∃ x, ((frm fs a).elim [] fun f => f.loc) = x := ⟨_, rfl⟩
    obtain ⟨L2, hL2⟩ : ∃ x, ((frm fs a).elim [] fun f => f.stk) = x := ⟨_, rfl⟩
    rw [hL1] at HV1 HSS
    rw [hL2] at HV2 HSS
    have HL1 := lhid hL1
    have HL2 := lhid hL2
    clear hSS hlk hv1 hv2 hb hL1 hL2 hc2 hl2 hs2 hd2
    have hb9 : Below W2.heap.size W2 (W2.alloc (.cells #[.slice A1 L1.length d1, .slice A2 L2.length d2] 44)).drew := Below.drew' ((Below.refl _ _).alloc (Nat.le_refl _) _)
    have hz9 : (W2.alloc (.cells #[.slice A1 L1.length d1, .slice A2 L2.length d2] 44)).drew.heap[W2.heap.size]? = some (.cells #[.slice A1 L1.length d1, .slice A2 L2.length d2] 44 (0, 0)) := heap_alloc_new W2 (.cells #[.slice A1 L1.length d1, .slice A2 L2.length d2] 44)
    obtain ⟨W9, hW9⟩ : ∃ x, (W2.alloc (.cells #[.slice A1 L1.length d1, .slice A2 L2.length d2] 44)).drew = x := ⟨_, rfl⟩
    rw [hW9] at hb9 hz9
    have HW9 := lhid hW9
    have HB9 := lhid hb9
    have HZ9 := lhid hz9
    have HK9 := lhid (HK2.out.1.below hb9)
    have HV1' := lhid (ls_below' HV1.out hb9)
    have HV2' := lhid (ls_below' HV2.out hb9)
    have HCF9 : Hid (Ch Z w W9) := lhid (HCF.out.below hb9)
    clear hW9 hb9 hz9 HV1 HV2
    go_upto_region 4 with fail
    go_region_held3 (fun w' => w'.cell? ⟨c, 18, none⟩ = some (.map (some F.fb)) ∧ w'.cell? ⟨w.heap.size, 2, none⟩ = some (.int .i64 a) ∧ (Instr.lookup 103 (.map (some F.fb)) (.int .i64 a) true).run Tryz.prog w' = .ok (.tuple #[.agg #[.slice A1 L1.length d1, .slice A2 L2.length d2], .bool b]) w') (first | with_reducible exact HSS.out _ (Below.drew' (Below.refl _ _)) | with_reducible exact HSS.out _ (Below.alloc (Below.drew' (Below.refl _ _)) (Nat.le_refl _) _) | with_reducible exact HSS.out _ (Below.drew' (Below.alloc (Below.refl _ _) (Nat.le_refl _) _))) (fail)
    all_goals
      rw [HW9.out]
      cases b with
      | false =>
        have hf : frm fs a = none := by
          have := HB.out
          cases h : frm fs a with
          | none => rfl
          | some f => rw [h] at this; cases this
        have HLV : Hid (leave E fs ⟨p, o, a, true, en⟩ s = 60) := lhid (by unfold leave; rw [if_pos rfl]; dsimp only; rw [hf])
        clear hf
        go_wp2_with fail
        go_ret
        rw [HLV.out]
        exact ⟨rfl, HK9.out.unbox HC.out (fun _ h => h.1) HCF9.out.size, HCF9.out⟩
      | true =>
        obtain ⟨f, hf⟩ : ∃ f, frm fs a = some f := by
          have := HB.out
          cases h : frm fs a with
          | none => rw [h] at this; cases this
          | some f => exact ⟨f, rfl⟩
        obtain rfl : f.loc = L1 := by rw [← HL1.out, hf]; rfl
        obtain rfl : f.stk = L2 := by rw [← HL2.out, hf]; rfl
        have HMF := lhid (List.mem_of_find?_eq_some hf)
        have HLV : Hid (leave E fs ⟨p, o, a, true, en⟩ s = if fitsF E s f then 0 else 62) := lhid (by unfold leave; rw [if_pos rfl]; dsimp only; rw [hf])
        clear hf
        obtain ⟨vl, vs, hc9, hl9, hs9, hd9⟩ := HK9.out.it
        have hq1 := ow_ls hl9 n1
        have hq2 := ow_ls hs9 n2
        have hm1 := hl9.small
        have hm2 := hs9.small
        obtain ⟨B1, e1, rfl⟩ := hq1.shape
        obtain ⟨B2, e2, rfl⟩ := hq2.shape
        have hSS : ∀ w' : World, Below W9.heap.size W9 w' → (w'.cell? ⟨c, 20, none⟩ = some (.slice B1 s.loc.length e1) ∧ w'.cell? ⟨c, 21, none⟩ = some (.slice B2 s.stk.length e2) ∧ w'.cell? ⟨W2.heap.size, 0, none⟩ = some (.slice A1 f.loc.length d1) ∧ w'.cell? ⟨W2.heap.size, 1, none⟩ = some (.slice A2 f.stk.length d2)) := fun w' hb => by
          have h1 := (hb.block _ (heap_lt hc9)).trans hc9
          have h2 := (hb.block _ (heap_lt HZ9.out)).trans HZ9.out
          exact ⟨heap_cell h1 rfl, heap_cell h1 rfl, heap_cell h2 rfl, heap_cell h2 rfl⟩
        have HSS2 := lhid hSS
        have HQ1 := lhid hq1
        have HQ2 := lhid hq2
        have HM1 := lhid hm1
        have HM2 := lhid hm2
        obtain ⟨r, hr⟩ : ∃ r, fitsF E s f = r := ⟨_, rfl⟩
        have HR := lhid hr
        clear hSS hc9 hl9 hs9 hd9 hq1 hq2 hm1 hm2 hr
        go_upto_region 7 with fail
        go_region_held3 (fun w' => w'.cell? ⟨c, 20, none⟩ = some (.slice B1 s.loc.length e1) ∧ w'.cell? ⟨c, 21, none⟩ = some (.slice B2 s.stk.length e2) ∧ w'.cell? ⟨W2.heap.size, 0, none⟩ = some (.slice A1 f.loc.length d1) ∧ w'.cell? ⟨W2.heap.size, 1, none⟩ = some (.slice A2 f.stk.length d2)) (first | with_reducible exact HSS2.out _ (Below.drew' (Below.refl _ _)) | with_reducible exact HSS2.out _ hb5) (first
          | ((with_reducible refine (fits_b HE (HK9.out.below (Below.drew' (Below.refl _ _))).std (HK9.out.below (Below.drew' (Below.refl _ _))).cell (fun _ => True) P _ _ _ _ s f (ls_below' HQ1.out (Below.drew' (Below.refl _ _))) (ls_below' HQ2.out (Below.drew' (Below.refl _ _))) (ls_below' HV1'.out (Below.drew' (Below.refl _ _))) (ls_below' HV2'.out (Below.drew' (Below.refl _ _))) (hn f HMF.out) HM1.out HM2.out (hsm f HMF.out).1 (hsm f HMF.out).2).mono ?_); rintro e w5 ⟨rfl, hb5'⟩; rw [HR.out]; have hb5 : Below W9.heap.size W9 w5 := ⟨hb5'.os, hb5'.tape, hb5'.output, hb5'.size, hb5'.block⟩))
        cases r with
        | false =>
          go_wp2_with fail
          go_ret
          rw [HLV.out, HR.out]
          exact ⟨rfl, (HK9.out.below hb5).unbox HC.out (fun _ h => h.1) (HCF9.out.below hb5).size, HCF9.out.below hb5⟩
        | true =>
          go_wp2_with fail
          go_ret
          rw [HLV.out, HR.out]
          exact ⟨rfl, (HK9.out.below hb5).unbox HC.out (fun _ h => h.1) (HCF9.out.below hb5).size, HCF9.out.below hb5⟩
end
end Go.Proofs.YtpdnonlelocfbaaGreatDoor
