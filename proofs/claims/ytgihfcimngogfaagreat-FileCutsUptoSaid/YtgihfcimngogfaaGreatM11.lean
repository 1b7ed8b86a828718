/- Texts of this claim, joined: FileRow, FileList, FileListS, FileFrame, FileField, FileRef3, FileRef5, FileRef4. -/
import Derived.Test.YtgihfcimngogfaaGreatJFileRead
import Derived.Test.YtgihfcimngogfaaGreatM10
import Derived.Test.YtgihfcimngogfaaGreatM5
import Derived.Test.YtgihfcimngogfaaGreatM9
namespace Go.Proofs.YtgihfcimngogfaaGreat
open Go.RowKit Go
set_option linter.unusedVariables false
set_option maxHeartbeats 4000000 in
set_option maxRecDepth 100000 in
theorem caught_any (P R g cf : Nat) (L : List Con) (s : Bs) (w : World) (h : Hid (Rdy w P R g L cf s)) :
  Calls Tryz.prog 143 #[.pointer (some ⟨P, 0, none⟩)] w (Out P R g L cf TxtV (cghP L s) w) := by
 go_enter Tryz.func143, Tryz.ntmps143
 have HR1 := lhid h.out
 go_wp2_with fail
 with_reducible refine (number_k P R g cf L s 2 2 _ HR1 (by omega) (by omega) (lhid rfl)).mono ?_
 rintro e w1 ho
 have HO1 := lhid ho.1
 cases hp : numP 2 s with
 | er x =>
  have hx := ho.er hp
  have HP := lhid hp
  clear ho hp
  obtain rfl := hx
  go_wp2_with fail
  exact ⟨rfl, out_er HO1.out (by have hp := HP.out; unfold cghP; rw [hp]; rfl)⟩
 | ok i r =>
  have hx := ho.ok hp
  have HP1 := lhid hp
  clear ho hp
  obtain ⟨v, rfl, rfl, hr⟩ := hx
  have H1 := lhid hr
  clear hr
  by_cases hi : i = 0
  ·subst hi
   have hz : (((0 : Nat) : Int) == 0) = true := rfl
   go_wp2_with fail
   go_ret
   exact out_ok HO1.out (by unfold cghP; rw [HP1.out]; rfl) rfl H1.out
  ·have hz : ((i : Int) == 0) = false := by rw [beq_eq_false_iff_ne]; omega
   have HR2 := lhid H1.out
   go_wp2_with fail
   with_reducible refine (constantAt_any P R g cf L r i 7 7 _ HR2 (lhid rfl)).mono ?_
   rintro e w2 ho
   have HO2 := lhid (HO1.out.trans ho.1)
   cases hp : atP L i 7 r with
   | er x =>
    have hx := ho.er hp
    have HP := lhid hp
    clear ho hp
    obtain rfl := hx
    go_wp2_with fail
    exact ⟨rfl, out_er HO2.out (by have hp := HP.out; unfold cghP; rw [HP1.out]; simp only [Pr.then]; rw [if_neg hi, hp])⟩
   | ok c r2 =>
    have hx := ho.ok hp
    have HP2 := lhid hp
    clear ho hp
    obtain ⟨v, rfl, rfl, hr⟩ := hx
    have H2 := lhid hr
    clear hr
    have hft := field_text (.int .i64 c.kind) (.int .i64 c.num) (.string (tx c.text)) (.string (tx c.name)) (.string (tx c.desc))
    have hnm := at_named h.out.p.good HP2.out
    have HNM := lhid hnm.1
    cases hb : (c.text.head? == some 91)
    ·have HB := lhid hb
     clear hb hnm
     go_wp2_with fail
     with_reducible refine (isArray_any c.text false _ HNM HB).mono ?_
     rintro e w3 ⟨rfl, rfl⟩
     go_wp2_with fail
     with_reducible refine (refuse_no 12 _).mono ?_
     rintro e w3 ⟨rfl, rfl⟩
     go_wp2_with fail
     go_ret
     exact out_ok HO2.out (by unfold cghP; rw [HP1.out]; simp only [Pr.then]; rw [if_neg hi, HP2.out]; simp only [flatP]; rw [if_neg (by simpa using HB.out)]) rfl H2.out
    ·have HB := lhid hb
     clear hb hnm
     go_wp2_with fail
     with_reducible refine (isArray_any c.text true _ HNM HB).mono ?_
     rintro e w3 ⟨rfl, rfl⟩
     go_wp2_with fail
     with_reducible refine (refuse_yes 12 _).mono ?_
     rintro e w3 ⟨rfl, rfl⟩
     go_wp2_with fail
     exact ⟨rfl, out_er HO2.out (by unfold cghP; rw [HP1.out]; simp only [Pr.then]; rw [if_neg hi, HP2.out]; simp only [flatP]; rw [if_pos (by simpa using HB.out)])⟩
def RwV (_ : World) (r : Rw) (v : Value) : Prop := v = .agg #[.int .i64 r.fr, .int .i64 r.to, .int .i64 r.at_, .string (tx r.cls)]
set_option maxHeartbeats 4000000 in
set_option maxRecDepth 100000 in
theorem row_any (P R g cf : Nat) (L : List Con) (s : Bs) (w : World) (h : Hid (Rdy w P R g L cf s)) :
  Calls Tryz.prog 133 #[.pointer (some ⟨P, 0, none⟩)] w (Out P R g L cf RwV (rowP L s) w) := by
 have HB := lhid (((Only.refl R w).alloc (.cells #[.int .i64 0, .int .i64 0, .int .i64 0, .string ⟨#[]⟩] 88)).alloc (.cells #[.int .i64 0, .int .i64 0, .int .i64 0, .string ⟨#[]⟩] 88))
 have H0 := lhid ((h.out.alloc (.cells #[.int .i64 0, .int .i64 0, .int .i64 0, .string ⟨#[]⟩] 88)).alloc (.cells #[.int .i64 0, .int .i64 0, .int .i64 0, .string ⟨#[]⟩] 88))
 have hlts := h.out.lts
 have HX0 := lhid (new_one w (.cells #[.int .i64 0, .int .i64 0, .int .i64 0, .string ⟨#[]⟩] 88) (.cells #[.int .i64 0, .int .i64 0, .int .i64 0, .string ⟨#[]⟩] 88))
 have HXN : Hid (w.heap.size ≠ R) := lhid (by omega)
 have HXC : Hid (P < w.heap.size ∧ R < w.heap.size ∧ g < w.heap.size) := lhid (by omega)
 have HY0 := lhid (new_two w (.cells #[.int .i64 0, .int .i64 0, .int .i64 0, .string ⟨#[]⟩] 88) (.cells #[.int .i64 0, .int .i64 0, .int .i64 0, .string ⟨#[]⟩] 88))
 have HYN : Hid ((w.heap.size + 1) ≠ R) := lhid (by omega)
 have HYC : Hid (P < (w.heap.size + 1) ∧ R < (w.heap.size + 1) ∧ g < (w.heap.size + 1)) := lhid (by omega)
 clear hlts
 go_enter Tryz.func133, Tryz.ntmps133
 have HR1 := lhid H0.out
 go_wp2_with fail
 with_reducible refine (number_k P R g cf L s 2 2 _ HR1 (by omega) (by omega) (lhid rfl)).mono ?_
 rintro e w1 ho
 have HO1 := lhid (HB.out.trans ho.1)
 have HX1 := lhid (Only.keep ho.1 HX0.out HXN.out)
 have HY1 := lhid (Only.keep ho.1 HY0.out HYN.out)
 cases hp : numP 2 s with
 | er x =>
  have hx := ho.er hp
  have HP := lhid hp
  clear ho hp
  obtain rfl := hx
  go_wp2_with fail
  exact ⟨rfl, out_er HO1.out (by have hp := HP.out; unfold rowP; rw [hp]; rfl)⟩
 | ok a r =>
  have hx := ho.ok hp
  have HP1 := lhid hp
  clear ho hp
  obtain ⟨v, rfl, rfl, hr⟩ := hx
  have H1 := lhid hr
  clear hr
  have qHY0 := heap_cell (i := 0) HY1.out rfl
  have zHY0 := heap_thaw HY1.out 0
  have HY1s0 : Hid ((w1.setCell ⟨(w.heap.size + 1), 0, none⟩ (.int .i64 a)).heap[(w.heap.size + 1)]? = some (.cells #[.int .i64 a, .int .i64 0, .int .i64 0, .string ⟨#[]⟩] 88 (0, 0))) := lhid (heap_set HY1.out _)
  have HX1s0 : Hid ((w1.setCell ⟨(w.heap.size + 1), 0, none⟩ (.int .i64 a)).heap[w.heap.size]? = some (.cells #[.int .i64 0, .int .i64 0, .int .i64 0, .string ⟨#[]⟩] 88 (0, 0))) := lhid ((Below.heap_setCell _ _ _ _ (by simp)).trans HX1.out)
  have HR2 := lhid (H1.out.cell HYC.out 0 (.int .i64 a))
  go_wp2_with fail
  with_reducible refine (number_k P R g cf L r 2 2 _ HR2 (by omega) (by omega) (lhid rfl)).mono ?_
  rintro e w2 ho
  have HO2 := lhid ((HO1.out.setCell (p := ⟨(w.heap.size + 1), 0, none⟩) (.inr (Nat.le_succ _)) (.int .i64 a)).trans ho.1)
  have HX2 := lhid (Only.keep ho.1 HX1s0.out HXN.out)
  have HY2 := lhid (Only.keep ho.1 HY1s0.out HYN.out)
  cases hp : numP 2 r with
  | er x =>
   have hx := ho.er hp
   have HP := lhid hp
   clear ho hp
   obtain rfl := hx
   go_wp2_with fail
   exact ⟨rfl, out_er HO2.out (by have hp := HP.out; unfold rowP; rw [HP1.out]; simp only [Pr.then]; rw [hp])⟩
  | ok b r2 =>
   have hx := ho.ok hp
   have HP2 := lhid hp
   clear ho hp
   obtain ⟨v, rfl, rfl, hr⟩ := hx
   have H2 := lhid hr
   clear hr
   have qHY1 := heap_cell (i := 1) HY2.out rfl
   have zHY1 := heap_thaw HY2.out 1
   have HY2s1 : Hid ((w2.setCell ⟨(w.heap.size + 1), 1, none⟩ (.int .i64 b)).heap[(w.heap.size + 1)]? = some (.cells #[.int .i64 a, .int .i64 b, .int .i64 0, .string ⟨#[]⟩] 88 (0, 0))) := lhid (heap_set HY2.out _)
   have HX2s1 : Hid ((w2.setCell ⟨(w.heap.size + 1), 1, none⟩ (.int .i64 b)).heap[w.heap.size]? = some (.cells #[.int .i64 0, .int .i64 0, .int .i64 0, .string ⟨#[]⟩] 88 (0, 0))) := lhid ((Below.heap_setCell _ _ _ _ (by simp)).trans HX2.out)
   have HR3 := lhid (H2.out.cell HYC.out 1 (.int .i64 b))
   go_wp2_with fail
   with_reducible refine (number_k P R g cf L r2 2 2 _ HR3 (by omega) (by omega) (lhid rfl)).mono ?_
   rintro e w3 ho
   have HO3 := lhid ((HO2.out.setCell (p := ⟨(w.heap.size + 1), 1, none⟩) (.inr (Nat.le_succ _)) (.int .i64 b)).trans ho.1)
   have HX3 := lhid (Only.keep ho.1 HX2s1.out HXN.out)
   have HY3 := lhid (Only.keep ho.1 HY2s1.out HYN.out)
   cases hp : numP 2 r2 with
   | er x =>
    have hx := ho.er hp
    have HP := lhid hp
    clear ho hp
    obtain rfl := hx
    go_wp2_with fail
    exact ⟨rfl, out_er HO3.out (by have hp := HP.out; unfold rowP; rw [HP1.out]; simp only [Pr.then]; rw [HP2.out]; simp only []; rw [hp])⟩
   | ok c r3 =>
    have hx := ho.ok hp
    have HP3 := lhid hp
    clear ho hp
    obtain ⟨v, rfl, rfl, hr⟩ := hx
    have H3 := lhid hr
    clear hr
    have qHY2 := heap_cell (i := 2) HY3.out rfl
    have zHY2 := heap_thaw HY3.out 2
    have HY3s2 : Hid ((w3.setCell ⟨(w.heap.size + 1), 2, none⟩ (.int .i64 c)).heap[(w.heap.size + 1)]? = some (.cells #[.int .i64 a, .int .i64 b, .int .i64 c, .string ⟨#[]⟩] 88 (0, 0))) := lhid (heap_set HY3.out _)
    have HX3s2 : Hid ((w3.setCell ⟨(w.heap.size + 1), 2, none⟩ (.int .i64 c)).heap[w.heap.size]? = some (.cells #[.int .i64 0, .int .i64 0, .int .i64 0, .string ⟨#[]⟩] 88 (0, 0))) := lhid ((Below.heap_setCell _ _ _ _ (by simp)).trans HX3.out)
    have HR4 := lhid (H3.out.cell HYC.out 2 (.int .i64 c))
    go_wp2_with fail
    with_reducible refine (caught_any P R g cf L r3 _ HR4).mono ?_
    rintro e w4 ho
    have HO4 := lhid ((HO3.out.setCell (p := ⟨(w.heap.size + 1), 2, none⟩) (.inr (Nat.le_succ _)) (.int .i64 c)).trans ho.1)
    have HX4 := lhid (Only.keep ho.1 HX3s2.out HXN.out)
    have HY4 := lhid (Only.keep ho.1 HY3s2.out HYN.out)
    cases hp : cghP L r3 with
    | er x =>
     have hx := ho.er hp
     have HP := lhid hp
     clear ho hp
     obtain rfl := hx
     go_wp2_with fail
     exact ⟨rfl, out_er HO4.out (by have hp := HP.out; unfold rowP; rw [HP1.out]; simp only [Pr.then]; rw [HP2.out]; simp only []; rw [HP3.out]; simp only []; rw [hp])⟩
    | ok d r4 =>
     have hx := ho.ok hp
     have HP4 := lhid hp
     clear ho hp
     obtain ⟨v, rfl, rfl, hr⟩ := hx
     have H4 := lhid hr
     clear hr
     have qHY3 := heap_cell (i := 3) HY4.out rfl
     have zHY3 := heap_thaw HY4.out 3
     have HY4s3 : Hid ((w4.setCell ⟨(w.heap.size + 1), 3, none⟩ (.string (tx d))).heap[(w.heap.size + 1)]? = some (.cells #[.int .i64 a, .int .i64 b, .int .i64 c, .string (tx d)] 88 (0, 0))) := lhid (heap_set HY4.out _)
     have HX4s3 : Hid ((w4.setCell ⟨(w.heap.size + 1), 3, none⟩ (.string (tx d))).heap[w.heap.size]? = some (.cells #[.int .i64 0, .int .i64 0, .int .i64 0, .string ⟨#[]⟩] 88 (0, 0))) := lhid ((Below.heap_setCell _ _ _ _ (by simp)).trans HX4.out)
     have q0 := heap_cell (i := 0) HY4s3.out rfl
     have zq0 := heap_thaw HY4s3.out 0
     have q1 := heap_cell (i := 1) HY4s3.out rfl
     have zq1 := heap_thaw HY4s3.out 1
     have q2 := heap_cell (i := 2) HY4s3.out rfl
     have zq2 := heap_thaw HY4s3.out 2
     have q3 := heap_cell (i := 3) HY4s3.out rfl
     have zq3 := heap_thaw HY4s3.out 3
     have p0 := heap_cell (i := 0) HX4s3.out rfl
     have zp0 := heap_thaw HX4s3.out 0
     have p1 := heap_cell (i := 1) HX4s3.out rfl
     have zp1 := heap_thaw HX4s3.out 1
     have p2 := heap_cell (i := 2) HX4s3.out rfl
     have zp2 := heap_thaw HX4s3.out 2
     have p3 := heap_cell (i := 3) HX4s3.out rfl
     have zp3 := heap_thaw HX4s3.out 3
     go_wp2_with fail
     refine bodyPost_ret (v := .agg #[.int .i64 a, .int .i64 b, .int .i64 c, .string (tx d)]) (by simp [results, Tryz.results133, go_sem, p0, p1, p2, p3]) rfl ?_
     exact out_ok (a := ⟨a, b, c, d⟩) (r := r4) (only_cells (Nat.le_refl _) [.int .i64 a, .int .i64 b, .int .i64 c, .string (tx d)] 0 _ (HO4.out.setCell (p := ⟨(w.heap.size + 1), 3, none⟩) (.inr (Nat.le_succ _)) (.string (tx d)))) (by unfold rowP; rw [HP1.out]; simp only [Pr.then]; rw [HP2.out]; simp only []; rw [HP3.out]; simp only []; rw [HP4.out]) rfl (rdy_cells HXC.out [.int .i64 a, .int .i64 b, .int .i64 c, .string (tx d)] 0 _ (H4.out.cell HYC.out 3 (.string (tx d))))
theorem typP_4 {L : List Con} {s r : Bs} (h : numP 1 s = .ok 4 r) : typP L s = (conP L 7 r).then fun c r2 => .ok (ofL c.text) r2 := by unfold typP; rw [h]; rfl
set_option maxHeartbeats 4000000 in
set_option maxRecDepth 100000 in
theorem frameType_any (P R g cf : Nat) (L : List Con) (s : Bs) (w : World) (h : Hid (Rdy w P R g L cf s)) :
  Calls Tryz.prog 144 #[.pointer (some ⟨P, 0, none⟩)] w (Out P R g L cf TxtV (typP L s) w) := by
 go_enter Tryz.func144, Tryz.ntmps144
 have HR1 := lhid h.out
 go_wp2_with fail
 with_reducible refine (number_k P R g cf L s 1 1 _ HR1 (by omega) (by omega) (lhid rfl)).mono ?_
 rintro e w1 ho
 have HO1 := lhid ho.1
 cases hp : numP 1 s with
 | er x =>
  have hx := ho.er hp
  have HP := lhid hp
  clear ho hp
  obtain rfl := hx
  go_wp2_with fail
  exact ⟨rfl, out_er HO1.out (by have hp := HP.out; unfold typP; rw [hp]; rfl)⟩
 | ok k r =>
  have hx := ho.ok hp
  have HP1 := lhid hp
  clear ho hp
  obtain ⟨v, rfl, rfl, hr⟩ := hx
  have H1 := lhid hr
  clear hr
  by_cases h0 : k = 0
  ·subst h0
   go_wp2_with fail
   go_ret
   exact out_ok (a := []) HO1.out (by unfold typP; rw [HP1.out]; rfl) rfl H1.out
  ·have t0 : ((k : Int) == 0) = false := by rw [beq_eq_false_iff_ne]; omega
   by_cases h1 : k = 1
   ·subst h1
    go_wp2_with fail
    go_ret
    exact out_ok (a := [73]) HO1.out (by unfold typP; rw [HP1.out]; rfl) rfl H1.out
   ·have t1 : ((k : Int) == 1) = false := by rw [beq_eq_false_iff_ne]; omega
    by_cases h2 : k = 2
    ·subst h2
     go_wp2_with fail
     go_ret
     exact out_ok (a := [74]) HO1.out (by unfold typP; rw [HP1.out]; rfl) rfl H1.out
    ·have t2 : ((k : Int) == 2) = false := by rw [beq_eq_false_iff_ne]; omega
     by_cases h3 : k = 3
     ·subst h3
      go_wp2_with fail
      go_ret
      exact out_ok (a := [78]) HO1.out (by unfold typP; rw [HP1.out]; rfl) rfl H1.out
     ·have t3 : ((k : Int) == 3) = false := by rw [beq_eq_false_iff_ne]; omega
      by_cases h4 : k = 4
      ·subst h4
       have HR2 := lhid H1.out
       go_wp2_with fail
       with_reducible refine (constant_any P R g cf L r 7 7 _ HR2 (lhid rfl)).mono ?_
       rintro e w2 ho
       have HO2 := lhid (HO1.out.trans ho.1)
       cases hp : conP L 7 r with
       | er x =>
        have hx := ho.er hp
        have HP := lhid hp
        clear ho hp
        obtain rfl := hx
        go_wp2_with fail
        exact ⟨rfl, out_er HO2.out (by have hp := HP.out; rw [typP_4 HP1.out, hp]; rfl)⟩
       | ok c r2 =>
        have hx := ho.ok hp
        have HP2 := lhid hp
        clear ho hp
        obtain ⟨v, rfl, rfl, hr⟩ := hx
        have H2 := lhid hr
        clear hr
        have hft := field_text (.int .i64 c.kind) (.int .i64 c.num) (.string (tx c.text)) (.string (tx c.name)) (.string (tx c.desc))
        have hsh := con_short H1.out.p.good HP2.out
        go_wp2_with fail
        with_reducible refine (of_any (tx c.text) _ (by rw [tx_size]; omega)).mono ?_
        rintro e w3 ⟨rfl, rfl⟩
        go_wp2_with fail
        go_ret
        refine out_ok (a := ofL c.text) (r := r2) HO2.out (by rw [typP_4 HP1.out, HP2.out]; rfl) ?_ H2.out
        show Value.string (mk (ofL (tx c.text).data.toList)) = _
        rw [tx_list]
        rfl
      ·have t4 : ((k : Int) == 4) = false := by rw [beq_eq_false_iff_ne]; omega
       go_wp2_with fail
       exact ⟨rfl, out_er HO1.out (by unfold typP; rw [HP1.out]; simp only [Pr.then]; rw [if_neg h0, if_neg h1, if_neg h2, if_neg h3, if_neg h4])⟩
end Go.Proofs.YtgihfcimngogfaaGreat
namespace Go.Proofs.YtgihfcimngogfaaGreat
open Go.RowKit Go
set_option linter.unusedVariables false
theorem Rdy.grown {w w' : World} {P R g cf : Nat} {L : List Con} {s : Bs} {row : Option Nat} (h : Rdy w P R g L cf s) (hg : w.grownBy w' row) (hr : ∀ k, row = some k → P < k ∧ R < k ∧ g < k) : Rdy w' P R g L cf s := by
 have hb : ∀ k, k < w.heap.size → (k = P ∨ k = R ∨ k = g) → w'.heap[k]? = w.heap[k]? := fun k hk hc => hg.block k hk (fun e => by have := hr k e.symm; omega)
 exact ⟨⟨(hb P h.p.lt (.inl rfl)).trans h.p.blk, h.p.rows.of_block (hb g h.p.rows.lt (.inr (.inr rfl))), h.p.pr, h.p.gr, h.p.good, h.p.small, h.p.flag⟩, (hb R h.r.lt (.inr (.inl rfl))).trans h.r⟩
theorem Only.grown {a w w' : World} {R : Nat} {row : Option Nat} (h : Only R a w) (hg : w.grownBy w' row) (hr : ∀ k, row = some k → a.heap.size ≤ k) : Only R a w' :=
 ⟨hg.os.trans h.os, hg.tape.trans h.tape, hg.output.trans h.output, Nat.le_trans h.size hg.size, fun k hk hR => (hg.block k (Nat.lt_of_lt_of_le hk h.size) (fun e => by have := hr k e.symm; omega)).trans (h.block k hk hR)⟩
theorem new_cells (w : World) (l : List Value) (T : TypeId) : ∀ (j : Nat) (u : Value), l[j]? = some u → (w.alloc (.cells l.toArray T)).cell? ((⟨w.heap.size, 0, none⟩ : Addr).add j) = some u := by
 intro j u hu
 have hadd : (⟨w.heap.size, 0, none⟩ : Addr).add j = ⟨w.heap.size, j, none⟩ := by unfold Addr.add; split <;> simp_all
 rw [hadd]
 exact heap_cell (heap_alloc_new w _) (by simpa using hu)
theorem manyP_on {α : Type} (p : Bs → Pr α) {n : Nat} {s r : Bs} {acc : List α} {a : α} (hp : p s = .ok a r) (hn : acc.length < n) : manyP p (n - acc.length) s acc = manyP p (n - (acc ++ [a]).length) r (acc ++ [a]) := by
 rw [show n - acc.length = n - (acc ++ [a]).length + 1 by simp; omega, manyP, hp]
 rfl
theorem manyP_no {α : Type} (p : Bs → Pr α) {n : Nat} {s : Bs} {acc : List α} {x : Nat} (hp : p s = .er x) (hn : acc.length < n) : manyP p (n - acc.length) s acc = .er x := by
 rw [show n - acc.length = n - acc.length - 1 + 1 by omega, manyP, hp]
 rfl
theorem manyP_end {α : Type} (p : Bs → Pr α) {n : Nat} {s : Bs} {acc : List α} (hn : acc.length = n) : manyP p (n - acc.length) s acc = .ok acc s := by
 rw [show n - acc.length = 0 by omega]
 rfl
def ListV {α : Type} (T k : Nat) (E : World → α → List Value → Prop) (w : World) (l : List α) (v : Value) : Prop := SlO T k E w v l
theorem own_lt {w : World} {B e size n : Nat} {v : Value} {xs : List Value} (h : w.ownsRow B e size v n xs) : ∀ k, v.ownBlock = some k → B ≤ k := fun k hk => (h.lt k hk).1
theorem own_shape {w : World} {B e size n : Nat} {v : Value} {xs : List Value} (h : w.ownsRow B e size v n xs) : ∃ A c, v = .slice A n c := by
 rcases h.2 with ⟨rfl, rfl⟩ | ⟨g, cap, cur, rfl, _⟩
 ·exact ⟨_, _, rfl⟩
 ·exact ⟨_, _, rfl⟩
def FrmV (w : World) (f : Frm) (v : Value) : Prop := ∃ a b, v = .agg #[.int .i64 f.pc, a, b] ∧ StrsO w a f.locals ∧ StrsO w b f.stack
def FldV (_ : World) (f : Fld) (v : Value) : Prop := v = .agg #[.int .i64 f.flags, .string (tx f.name), .string (tx f.desc)]
def MetV (w : World) (m : Met) (v : Value) : Prop := ∃ a b d, v = .agg #[.int .i64 m.flags, .string (tx m.name), .string (tx m.desc), .int .i64 m.stack, .int .i64 m.locals, a, b, d] ∧ BytsO w a m.code ∧ RwsO w b m.rows ∧ FrmsO w d m.frames
theorem keepsStr (Ts : List TypeId) : Keeps Ts StrE := keeps_pure _ _ fun _ _ => rfl
theorem keepsFld (Ts : List TypeId) : Keeps Ts FldE := keeps_pure _ _ fun _ _ => rfl
theorem keepsRw (Ts : List TypeId) : Keeps Ts RwE := keeps_pure _ _ fun _ _ => rfl
theorem infoStr : (Tryz.prog.info? 9).map (fun i => (i.zero, i.size, i.bytes)) = some (some (.string ⟨#[]⟩), 1, 16) := by kernel_rfl
theorem infoFld : (Tryz.prog.info? 57).map (fun i => (i.zero, i.size, i.bytes)) = some (some (.agg #[.int .i64 0, .string ⟨#[]⟩, .string ⟨#[]⟩]), 3, 40) := by kernel_rfl
theorem infoRw : (Tryz.prog.info? 88).map (fun i => (i.zero, i.size, i.bytes)) = some (some (.agg #[.int .i64 0, .int .i64 0, .int .i64 0, .string ⟨#[]⟩]), 4, 40) := by kernel_rfl
theorem infoFrm : (Tryz.prog.info? 74).map (fun i => (i.zero, i.size, i.bytes)) = some (some (.agg #[.int .i64 0, .slice none 0 0, .slice none 0 0]), 3, 56) := by kernel_rfl
theorem infoMet : (Tryz.prog.info? 62).map (fun i => (i.zero, i.size, i.bytes)) = some (some (.agg #[.int .i64 0, .string ⟨#[]⟩, .string ⟨#[]⟩, .int .i64 0, .int .i64 0, .slice none 0 0, .slice none 0 0, .slice none 0 0]), 8, 128) := by kernel_rfl
theorem rdr_stay {w w' : World} {R : Nat} {s : St} (h : Rdr w R s) (ho : Only R w w') : Stay tC w w' := ho.stay h (by simp [tC, tM, tF])
theorem slO_shape {α : Type} {T k : Nat} {E : World → α → List Value → Prop} {w : World} {v : Value} {l : List α} (h : SlO T k E w v l) : ∃ A c, v = .slice A l.length c := by
 obtain ⟨xs, h1, _⟩ := h
 exact own_shape h1
theorem byts_shape {w : World} {v : Value} {l : Bs} (h : BytsO w v l) : ∃ A c, v = .slice A l.length c := by
 rcases h with ⟨rfl, rfl⟩ | ⟨g, cap, c, f, rfl, _⟩
 ·exact ⟨_, _, rfl⟩
 ·exact ⟨_, _, rfl⟩
def Boxed (w : World) (b : Nat) (t : TypeId) : Prop := ∃ c f, w.heap[b]? = some (.cells c t f)
theorem Boxed.set {w : World} {b : Nat} {t : TypeId} (h : Boxed w b t) (b' i : Nat) (u : Value) : Boxed (w.setCell ⟨b', i, none⟩ u) b t := by
 obtain ⟨c, f, h⟩ := h
 by_cases e : b = b'
 ·subst e
  refine ⟨c.setIfInBounds i u, f, ?_⟩
  simp [World.setCell, Array.getElem?_modify, h]
 ·exact ⟨c, f, by rw [Below.heap_setCell _ _ _ _ e]; exact h⟩
theorem stay_cells {Ts : List TypeId} {b : Nat} {t : TypeId} (ht : t ∉ Ts) : ∀ (vs : List Value) (o : Nat) (w : World), Boxed w b t → Stay Ts w (w.setCells b o vs)
 | [], _, w, _ => Stay.refl Ts w
 | v :: r, o, w, h => by
  rw [World.setCells]
  refine Stay.trans ?_ (stay_cells ht r (o + 1) _ (h.set b o v))
  obtain ⟨c, f, hp⟩ := h
  exact (Stay.refl Ts w).set (p := ⟨b, o, none⟩) hp ht v
theorem strs_rdr {w w' : World} {R : Nat} {s : St} {v : Value} {l : List Bs} (h : StrsO w v l) (hr : Rdr w R s) (ho : Only R w w') : StrsO w' v l := strs_stay (by simp [tC, tM, tF]) h (rdr_stay hr ho)
theorem strs_set {w : World} {b : Nat} {t : TypeId} {v : Value} {l : List Bs} (h : StrsO w v l) (hp : Boxed w b t) (ht : t ∉ ([9] : List TypeId)) (i : Nat) (u : Value) : StrsO (w.setCell ⟨b, i, none⟩ u) v l := by
 obtain ⟨c, f, hp⟩ := hp
 exact strs_stay (by simp) h ((Stay.refl [9] w).set (p := ⟨b, i, none⟩) hp ht u)
theorem strs_alloc {w : World} {v : Value} {l : List Bs} (h : StrsO w v l) (o : Obj) : StrsO (w.alloc o) v l := strs_stay (by simp) h ((Stay.refl [9] w).alloc o)
theorem strs_drewN {w : World} {v : Value} {l : List Bs} (h : StrsO w v l) (n : Nat) : StrsO (w.drewN n) v l := strs_stay (by simp) h ((Stay.refl [9] w).drewN n)
theorem strs_cells {w : World} {b : Nat} {t : TypeId} {v : Value} {l : List Bs} (h : StrsO w v l) (hp : Boxed w b t) (ht : t ∉ ([9] : List TypeId)) (vs : List Value) (o : Nat) : StrsO (w.setCells b o vs) v l := strs_stay (by simp) h (stay_cells ht vs o w hp)
theorem byts_rdr {w w' : World} {R : Nat} {s : St} {v : Value} {l : Bs} (h : BytsO w v l) (hr : Rdr w R s) (ho : Only R w w') : BytsO w' v l := byts_stay (by simp [tC, tM, tF]) h (rdr_stay hr ho)
theorem byts_set {w : World} {b : Nat} {t : TypeId} {v : Value} {l : Bs} (h : BytsO w v l) (hp : Boxed w b t) (ht : t ∉ ([5] : List TypeId)) (i : Nat) (u : Value) : BytsO (w.setCell ⟨b, i, none⟩ u) v l := by
 obtain ⟨c, f, hp⟩ := hp
 exact byts_stay (by simp) h ((Stay.refl [5] w).set (p := ⟨b, i, none⟩) hp ht u)
theorem byts_drewN {w : World} {v : Value} {l : Bs} (h : BytsO w v l) (n : Nat) : BytsO (w.drewN n) v l := byts_stay (by simp) h ((Stay.refl [5] w).drewN n)
theorem byts_cells {w : World} {b : Nat} {t : TypeId} {v : Value} {l : Bs} (h : BytsO w v l) (hp : Boxed w b t) (ht : t ∉ ([5] : List TypeId)) (vs : List Value) (o : Nat) : BytsO (w.setCells b o vs) v l := byts_stay (by simp) h (stay_cells ht vs o w hp)
theorem rws_rdr {w w' : World} {R : Nat} {s : St} {v : Value} {l : List Rw} (h : RwsO w v l) (hr : Rdr w R s) (ho : Only R w w') : RwsO w' v l := rws_stay (by simp [tC, tM, tF]) h (rdr_stay hr ho)
theorem rws_set {w : World} {b : Nat} {t : TypeId} {v : Value} {l : List Rw} (h : RwsO w v l) (hp : Boxed w b t) (ht : t ∉ ([88] : List TypeId)) (i : Nat) (u : Value) : RwsO (w.setCell ⟨b, i, none⟩ u) v l := by
 obtain ⟨c, f, hp⟩ := hp
 exact rws_stay (by simp) h ((Stay.refl [88] w).set (p := ⟨b, i, none⟩) hp ht u)
theorem rws_cells {w : World} {b : Nat} {t : TypeId} {v : Value} {l : List Rw} (h : RwsO w v l) (hp : Boxed w b t) (ht : t ∉ ([88] : List TypeId)) (vs : List Value) (o : Nat) : RwsO (w.setCells b o vs) v l := rws_stay (by simp) h (stay_cells ht vs o w hp)
theorem flds_rdr {w w' : World} {R : Nat} {s : St} {v : Value} {l : List Fld} (h : FldsO w v l) (hr : Rdr w R s) (ho : Only R w w') : FldsO w' v l := flds_stay (by simp [tC]) h (rdr_stay hr ho)
theorem flds_set {w : World} {b : Nat} {t : TypeId} {v : Value} {l : List Fld} (h : FldsO w v l) (hp : Boxed w b t) (ht : t ∉ ([57] : List TypeId)) (i : Nat) (u : Value) : FldsO (w.setCell ⟨b, i, none⟩ u) v l := by
 obtain ⟨c, f, hp⟩ := hp
 exact flds_stay (by simp) h ((Stay.refl [57] w).set (p := ⟨b, i, none⟩) hp ht u)
theorem flds_alloc {w : World} {v : Value} {l : List Fld} (h : FldsO w v l) (o : Obj) : FldsO (w.alloc o) v l := flds_stay (by simp) h ((Stay.refl [57] w).alloc o)
theorem flds_drewN {w : World} {v : Value} {l : List Fld} (h : FldsO w v l) (n : Nat) : FldsO (w.drewN n) v l := flds_stay (by simp) h ((Stay.refl [57] w).drewN n)
theorem flds_cells {w : World} {b : Nat} {t : TypeId} {v : Value} {l : List Fld} (h : FldsO w v l) (hp : Boxed w b t) (ht : t ∉ ([57] : List TypeId)) (vs : List Value) (o : Nat) : FldsO (w.setCells b o vs) v l := flds_stay (by simp) h (stay_cells ht vs o w hp)
theorem frms_set {w : World} {b : Nat} {t : TypeId} {v : Value} {l : List Frm} (h : FrmsO w v l) (hp : Boxed w b t) (ht : t ∉ ([9, 74] : List TypeId)) (i : Nat) (u : Value) : FrmsO (w.setCell ⟨b, i, none⟩ u) v l := by
 obtain ⟨c, f, hp⟩ := hp
 exact frms_stay (by simp) (by simp) h ((Stay.refl [9, 74] w).set (p := ⟨b, i, none⟩) hp ht u)
theorem frms_cells {w : World} {b : Nat} {t : TypeId} {v : Value} {l : List Frm} (h : FrmsO w v l) (hp : Boxed w b t) (ht : t ∉ ([9, 74] : List TypeId)) (vs : List Value) (o : Nat) : FrmsO (w.setCells b o vs) v l := frms_stay (by simp) (by simp) h (stay_cells ht vs o w hp)
theorem mets_set {w : World} {b : Nat} {t : TypeId} {v : Value} {l : List Met} (h : MetsO w v l) (hp : Boxed w b t) (ht : t ∉ (tC : List TypeId)) (i : Nat) (u : Value) : MetsO (w.setCell ⟨b, i, none⟩ u) v l := by
 obtain ⟨c, f, hp⟩ := hp
 exact mets_stay (fun _ h => h) h ((Stay.refl tC w).set (p := ⟨b, i, none⟩) hp ht u)
theorem mets_alloc {w : World} {v : Value} {l : List Met} (h : MetsO w v l) (o : Obj) : MetsO (w.alloc o) v l := mets_stay (fun _ h => h) h ((Stay.refl tC w).alloc o)
theorem mets_drewN {w : World} {v : Value} {l : List Met} (h : MetsO w v l) (n : Nat) : MetsO (w.drewN n) v l := mets_stay (fun _ h => h) h ((Stay.refl tC w).drewN n)
theorem mets_cells {w : World} {b : Nat} {t : TypeId} {v : Value} {l : List Met} (h : MetsO w v l) (hp : Boxed w b t) (ht : t ∉ (tC : List TypeId)) (vs : List Value) (o : Nat) : MetsO (w.setCells b o vs) v l := mets_stay (fun _ h => h) h (stay_cells ht vs o w hp)
end Go.Proofs.YtgihfcimngogfaaGreat
namespace Go.Proofs.YtgihfcimngogfaaGreat
open Go.RowKit Go
set_option linter.unusedVariables false
set_option maxHeartbeats 8000000 in
set_option maxRecDepth 100000 in
theorem listS_any (P R g cf : Nat) (L : List Con) (s : Bs) (n : Nat) (w : World) (h : Hid (Rdy w P R g L cf s)) (hn : n ≤ 4000) :
  Calls Tryz.prog 87 #[.int .i64 n, .func (.func 144) #[.pointer (some ⟨P, 0, none⟩)] #[]] w (Out P R g L cf (ListV 9 1 StrE) (manyP (typP L) n s []) w) := by
 obtain ⟨q, hq⟩ : ∃ q, manyP (typP L) n s [] = q := ⟨_, rfl⟩
 have HQ := lhid hq
 rw [hq]
 clear hq
 obtain ⟨i0, hi0, hz0, hz1, hz2⟩ := info_parts infoStr
 have hlts := h.out.lts
 have HLT := lhid hlts
 clear hlts
 go_enter Tryz.func87, Tryz.ntmps87
 go_wp2_with fail
 go_loopw [5, 7] (fun v i wr => ∃ (acc : List Bs) (s' : Bs) (A : Option Addr) (c : Nat) (xs : List Value), v = .slice A acc.length c ∧ i = .int .i64 acc.length ∧ acc.length ≤ n ∧ Hid (wr.ownsRow w.heap.size 9 1 (.slice A acc.length c) acc.length xs) ∧ Hid (ListE (StrE wr) acc xs) ∧ Hid (Rdy wr P R g L cf s') ∧ Hid (Only R w wr) ∧ Hid (manyP (typP L) (n - acc.length) s' acc = q)) (fun _ i _ => n - (intOf i).toNat)
 case atStart => exact ⟨[], s, none, 0, [], rfl, rfl, Nat.zero_le _, lhid (World.ownsRow_nil _ _ _ _), lhid rfl, h, lhid (Only.refl _ _), HQ⟩
 case round =>
  obtain ⟨acc, s', A, c, xs, rfl, rfl, hle, HO, HE, HR, HW, HM⟩ := hrel
  by_cases hlt : acc.length < n
  ·have hlt2 : (acc.length : Int) < n := by omega
   go_wp2_with fail
   with_reducible refine (frameType_any P R g cf L s' _ HR).mono ?_
   rintro e w1 ho
   have HO1 := lhid (HW.out.trans ho.1)
   have HS := lhid (rdr_stay HR.out.r ho.1)
   cases hp : (typP L) s' with
   | er x =>
    have hx := ho.er hp
    have HP := lhid hp
    clear ho hp
    obtain rfl := hx
    go_wp2_with fail
    exact ⟨rfl, out_er HO1.out (HM.out.symm.trans (manyP_no _ HP.out hlt))⟩
   | ok a r =>
    have hx := ho.ok hp
    have HP := lhid hp
    clear ho hp
    obtain ⟨v, rfl, hv, hr⟩ := hx
    obtain rfl := hv
    have H1 := lhid hr
    skip
    clear hr
    have HO2 := lhid (own_stay HO.out HS.out (by simp [tC, tM, tF]))
    have HE2 := lhid (HE.out.imp fun a c => keepsStr tC _ _ a c HS.out)
    have HEA : Hid (StrE w1 a [.string (tx a)]) := lhid rfl
    have hbw := HO1.out.size
    go_wp2_with (at_builtin; refine wpList_append_own _ rfl (.tmp 9) (.tmp 12) 22 rfl w.heap.size 9 i0 (.string ⟨#[]⟩) 1 16 Tryz.underlying22 hi0 hz0 hz1 hz2 rfl (by decide) (.slice A acc.length c) acc.length xs rfl (HO2.out.alloc _) ⟨w1.heap.size, 0, none⟩ 1 1 [.string (tx a)] rfl rfl ?c1 ?c2 ?c3 ?c4 ?c5 ?_)
    case c1 => exact new_cells w1 [.string (tx a)] _
    case c2 => intro u hu; simp at hu; subst hu; rfl
    case c3 => unfold maxLen; omega
    case c4 => omega
    case c5 => simp; omega
    intro v' w2 hown hgrow _
    obtain ⟨A', c', rfl⟩ := own_shape hown
    have HO3 := lhid hown
    have hge := own_lt (HO2.out.alloc (.cells #[.string (tx a)] 9))
    have HS2 := lhid (((Stay.refl ([] : List TypeId) w1).alloc (.cells #[.string (tx a)] 9)).trans (grown_stay hgrow (HO2.out.alloc _) (by simp)))
    have HR2 := lhid ((H1.out.alloc (.cells #[.string (tx a)] 9)).grown hgrow (fun k hk => by have := hge k hk; have := HLT.out; omega))
    have HW2 := lhid ((HO1.out.alloc (.cells #[.string (tx a)] 9)).grown hgrow hge)
    clear hown hgrow hge
    go_wp2
    go_roundw
    case rel =>
     refine ⟨acc ++ [a], r, A', c', xs ++ [.string (tx a)], by simp, by simp, by simp; omega, lhid (by simpa using HO3.out), lhid (ListE.snoc (keepsStr [] _ _ a _ HS2.out HEA.out) (HE2.out.imp fun a c => keepsStr [] _ _ a c HS2.out)), HR2, HW2, lhid ?_⟩
     exact (manyP_on _ HP.out hlt).symm.trans HM.out
    case measure => simp [intOf]; omega
  ·have he : acc.length = n := by omega
   have hlt2 : ¬ (acc.length : Int) < n := by omega
   have HN := lhid he
   clear he
   go_wp2_with fail
   go_ret
   exact out_ok (a := acc) (r := s') HW.out (HM.out.symm.trans (manyP_end _ HN.out)) ⟨xs, own_base HO.out (Nat.zero_le _), HE.out⟩ HR.out
end Go.Proofs.YtgihfcimngogfaaGreat
namespace Go.Proofs.YtgihfcimngogfaaGreat
open Go.RowKit Go
set_option linter.unusedVariables false
theorem cntP_le {n most : Nat} {s r : Bs} {k : Nat} (h : cntP n most s = .ok k r) : k ≤ most := by
 unfold cntP at h
 cases hp : numP n s with
 | er x => rw [hp] at h; cases h
 | ok k' r' =>
  rw [hp] at h
  simp only [Pr.then] at h
  split at h
  ·cases h
  ·cases h
   omega
theorem count_k (P R g cf : Nat) (L : List Con) (s : Bs) (n most : Nat) (n' m' : Int) (w : World) (h : Hid (Rdy w P R g L cf s)) (h1 : 1 ≤ n) (h2 : n ≤ 2) (hn : Hid (n' = n)) (hm : Hid (m' = most)) :
  Calls Tryz.prog 88 #[.pointer (some ⟨P, 0, none⟩), .int .i64 n', .int .i64 m'] w (Out P R g L cf IntV (cntP n most s) w) := by
 rw [hn.out, hm.out]
 exact count_any P R g cf L s n most h1 h2 w h
set_option maxHeartbeats 4000000 in
set_option maxRecDepth 100000 in
theorem frame_any (P R g cf : Nat) (L : List Con) (s : Bs) (w : World) (h : Hid (Rdy w P R g L cf s)) :
  Calls Tryz.prog 135 #[.pointer (some ⟨P, 0, none⟩)] w (Out P R g L cf FrmV (frmP L s) w) := by
 have HB := lhid ((Only.refl R w).alloc (.cells #[.int .i64 0, .slice none 0 0, .slice none 0 0] 74))
 have H0 := lhid (h.out.alloc (.cells #[.int .i64 0, .slice none 0 0, .slice none 0 0] 74))
 have hlts := h.out.lts
 have HX0 := lhid (heap_alloc_new w (.cells #[.int .i64 0, .slice none 0 0, .slice none 0 0] 74))
 have HXN : Hid (w.heap.size ≠ R) := lhid (by omega)
 have HXC : Hid (P < w.heap.size ∧ R < w.heap.size ∧ g < w.heap.size) := lhid (by omega)
 clear hlts
 have hmf : ∀ (fn : Fn) (first cap : Array Value) (w : World), (Instr.makeFunc fn first cap).run Tryz.prog w = .ok (.func fn first cap) w := fun _ _ _ _ => rfl
 go_enter Tryz.func135, Tryz.ntmps135
 have HR1 := lhid H0.out
 go_wp2_with fail
 with_reducible refine (number_k P R g cf L s 2 2 _ HR1 (by omega) (by omega) (lhid rfl)).mono ?_
 rintro e w1 ho
 have HO1 := lhid (HB.out.trans ho.1)
 have HX1 := lhid (Only.keep ho.1 HX0.out HXN.out)
 cases hp : numP 2 s with
 | er x =>
  have hx := ho.er hp
  have HP := lhid hp
  clear ho hp
  obtain rfl := hx
  go_wp2_with fail
  exact ⟨rfl, out_er HO1.out (by have hp := HP.out; simp only [frmP, tysP, Pr.then, hp])⟩
 | ok pc r =>
  have hx := ho.ok hp
  have HP1 := lhid hp
  clear ho hp
  obtain ⟨v, rfl, rfl, hr⟩ := hx
  have H1 := lhid hr
  clear hr
  have hltsHY := H1.out.lts
  have HYN : Hid (w1.heap.size ≠ R) := lhid (by omega)
  have HYC : Hid (P < w1.heap.size ∧ R < w1.heap.size ∧ g < w1.heap.size) := lhid (by omega)
  have HYL : Hid (w.heap.size ≤ w1.heap.size) := lhid HO1.out.size
  clear hltsHY
  have HX1n := lhid ((Below.heap_alloc w1 (.cells #[.int .i64 pc, .slice none 0 0, .slice none 0 0] 74) _ (heap_lt HX1.out)).trans HX1.out)
  have HXHYNE : Hid (w.heap.size ≠ w1.heap.size) := lhid (Nat.ne_of_lt (heap_lt HX1.out))
  have HY1n := lhid (heap_alloc_new w1 (.cells #[.int .i64 pc, .slice none 0 0, .slice none 0 0] 74))
  have HR2 := lhid (H1.out.alloc (.cells #[.int .i64 pc, .slice none 0 0, .slice none 0 0] 74))
  go_wp2_with fail
  with_reducible refine (count_k P R g cf L r 1 40 1 40 _ HR2 (by omega) (by omega) (lhid rfl) (lhid rfl)).mono ?_
  rintro e w2 ho
  have HO2 := lhid ((HO1.out.alloc (.cells #[.int .i64 pc, .slice none 0 0, .slice none 0 0] 74)).trans ho.1)
  have HX2 := lhid (Only.keep ho.1 HX1n.out HXN.out)
  have HY2 := lhid (Only.keep ho.1 HY1n.out HYN.out)
  cases hp : cntP 1 40 r with
  | er x =>
   have hx := ho.er hp
   have HP := lhid hp
   clear ho hp
   obtain rfl := hx
   go_wp2_with fail
   exact ⟨rfl, out_er HO2.out (by have hp := HP.out; simp only [frmP, tysP, Pr.then, HP1.out, hp])⟩
  | ok a r2 =>
   have hx := ho.ok hp
   have HP2 := lhid hp
   clear ho hp
   obtain ⟨v, rfl, rfl, hr⟩ := hx
   have H2 := lhid hr
   clear hr
   have hle2 := cntP_le HP2.out
   have HR3 := lhid H2.out
   go_wp2_with fail
   with_reducible refine (listS_any P R g cf L r2 a _ HR3 (by omega)).mono ?_
   rintro e w3 ho
   have HO3 := lhid (HO2.out.trans ho.1)
   have HX3 := lhid (Only.keep ho.1 HX2.out HXN.out)
   have HY3 := lhid (Only.keep ho.1 HY2.out HYN.out)
   cases hp : manyP (typP L) a r2 [] with
   | er x =>
    have hx := ho.er hp
    have HP := lhid hp
    clear ho hp
    obtain rfl := hx
    go_wp2_with fail
    exact ⟨rfl, out_er HO3.out (by have hp := HP.out; simp only [frmP, tysP, Pr.then, HP1.out, HP2.out, hp])⟩
   | ok la r3 =>
    have hx := ho.ok hp
    have HP3 := lhid hp
    clear ho hp
    obtain ⟨v, rfl, hv1, hr⟩ := hx
    have H3 := lhid hr
    clear hr
    obtain ⟨A1, c1, rfl⟩ := slO_shape hv1
    have HV1_3 := lhid hv1
    clear hv1
    have qHY1 := heap_cell (i := 1) HY3.out rfl
    have zHY1 := heap_thaw HY3.out 1
    have HY3s1 : Hid ((w3.setCell ⟨w1.heap.size, 1, none⟩ (.slice A1 la.length c1)).heap[w1.heap.size]? = some (.cells #[.int .i64 pc, .slice A1 la.length c1, .slice none 0 0] 74 (0, 0))) := lhid (heap_set HY3.out _)
    have HX3s1 : Hid ((w3.setCell ⟨w1.heap.size, 1, none⟩ (.slice A1 la.length c1)).heap[w.heap.size]? = some (.cells #[.int .i64 0, .slice none 0 0, .slice none 0 0] 74 (0, 0))) := lhid ((Below.heap_setCell _ _ _ _ HXHYNE.out).trans HX3.out)
    have HV1_3s1 := lhid (strs_set HV1_3.out ⟨_, _, HY3.out⟩ (by decide) 1 (.slice A1 la.length c1))
    have HR4 := lhid (H3.out.cell HYC.out 1 (.slice A1 la.length c1))
    go_wp2_with fail
    with_reducible refine (count_k P R g cf L r3 1 20 1 20 _ HR4 (by omega) (by omega) (lhid rfl) (lhid rfl)).mono ?_
    rintro e w4 ho
    have HO4 := lhid ((HO3.out.setCell (p := ⟨w1.heap.size, 1, none⟩) (.inr HYL.out) (.slice A1 la.length c1)).trans ho.1)
    have HX4 := lhid (Only.keep ho.1 HX3s1.out HXN.out)
    have HY4 := lhid (Only.keep ho.1 HY3s1.out HYN.out)
    have HV1_4 := lhid (strs_rdr HV1_3s1.out HR4.out.r ho.1)
    cases hp : cntP 1 20 r3 with
    | er x =>
     have hx := ho.er hp
     have HP := lhid hp
     clear ho hp
     obtain rfl := hx
     go_wp2_with fail
     exact ⟨rfl, out_er HO4.out (by have hp := HP.out; simp only [frmP, tysP, Pr.then, HP1.out, HP2.out, HP3.out, hp])⟩
    | ok d r4 =>
     have hx := ho.ok hp
     have HP4 := lhid hp
     clear ho hp
     obtain ⟨v, rfl, rfl, hr⟩ := hx
     have H4 := lhid hr
     clear hr
     have hle4 := cntP_le HP4.out
     have HR5 := lhid H4.out
     go_wp2_with fail
     with_reducible refine (listS_any P R g cf L r4 d _ HR5 (by omega)).mono ?_
     rintro e w5 ho
     have HO5 := lhid (HO4.out.trans ho.1)
     have HX5 := lhid (Only.keep ho.1 HX4.out HXN.out)
     have HY5 := lhid (Only.keep ho.1 HY4.out HYN.out)
     have HV1_5 := lhid (strs_rdr HV1_4.out HR5.out.r ho.1)
     cases hp : manyP (typP L) d r4 [] with
     | er x =>
      have hx := ho.er hp
      have HP := lhid hp
      clear ho hp
      obtain rfl := hx
      go_wp2_with fail
      exact ⟨rfl, out_er HO5.out (by have hp := HP.out; simp only [frmP, tysP, Pr.then, HP1.out, HP2.out, HP3.out, HP4.out, hp])⟩
     | ok lb r5 =>
      have hx := ho.ok hp
      have HP5 := lhid hp
      clear ho hp
      obtain ⟨v, rfl, hv2, hr⟩ := hx
      have H5 := lhid hr
      clear hr
      obtain ⟨A2, c2, rfl⟩ := slO_shape hv2
      have HV2_5 := lhid hv2
      clear hv2
      have qHY2 := heap_cell (i := 2) HY5.out rfl
      have zHY2 := heap_thaw HY5.out 2
      have HY5s2 : Hid ((w5.setCell ⟨w1.heap.size, 2, none⟩ (.slice A2 lb.length c2)).heap[w1.heap.size]? = some (.cells #[.int .i64 pc, .slice A1 la.length c1, .slice A2 lb.length c2] 74 (0, 0))) := lhid (heap_set HY5.out _)
      have HX5s2 : Hid ((w5.setCell ⟨w1.heap.size, 2, none⟩ (.slice A2 lb.length c2)).heap[w.heap.size]? = some (.cells #[.int .i64 0, .slice none 0 0, .slice none 0 0] 74 (0, 0))) := lhid ((Below.heap_setCell _ _ _ _ HXHYNE.out).trans HX5.out)
      have HV1_5s2 := lhid (strs_set HV1_5.out ⟨_, _, HY5.out⟩ (by decide) 2 (.slice A2 lb.length c2))
      have HV2_5s2 := lhid (strs_set HV2_5.out ⟨_, _, HY5.out⟩ (by decide) 2 (.slice A2 lb.length c2))
      have q0 := heap_cell (i := 0) HY5s2.out rfl
      have zq0 := heap_thaw HY5s2.out 0
      have q1 := heap_cell (i := 1) HY5s2.out rfl
      have zq1 := heap_thaw HY5s2.out 1
      have q2 := heap_cell (i := 2) HY5s2.out rfl
      have zq2 := heap_thaw HY5s2.out 2
      have p0 := heap_cell (i := 0) HX5s2.out rfl
      have zp0 := heap_thaw HX5s2.out 0
      have p1 := heap_cell (i := 1) HX5s2.out rfl
      have zp1 := heap_thaw HX5s2.out 1
      have p2 := heap_cell (i := 2) HX5s2.out rfl
      have zp2 := heap_thaw HX5s2.out 2
      go_wp2_with fail
      refine bodyPost_ret (v := .agg #[.int .i64 pc, .slice A1 la.length c1, .slice A2 lb.length c2]) (by simp [results, Tryz.results135, go_sem, p0, p1, p2]) rfl ?_
      exact out_ok (a := (⟨pc, la, lb⟩ : Frm)) (r := r5) (only_cells (Nat.le_refl _) [.int .i64 pc, .slice A1 la.length c1, .slice A2 lb.length c2] 0 _ (HO5.out.setCell (p := ⟨w1.heap.size, 2, none⟩) (.inr HYL.out) (.slice A2 lb.length c2))) (by simp only [frmP, tysP, Pr.then, HP1.out, HP2.out, HP3.out, HP4.out, HP5.out]) ⟨_, _, rfl, (strs_cells HV1_5s2.out ⟨_, _, HX5s2.out⟩ (by decide) [.int .i64 pc, .slice A1 la.length c1, .slice A2 lb.length c2] 0), (strs_cells HV2_5s2.out ⟨_, _, HX5s2.out⟩ (by decide) [.int .i64 pc, .slice A1 la.length c1, .slice A2 lb.length c2] 0)⟩ (rdy_cells HXC.out [.int .i64 pc, .slice A1 la.length c1, .slice A2 lb.length c2] 0 _ (H5.out.cell HYC.out 2 (.slice A2 lb.length c2)))
end Go.Proofs.YtgihfcimngogfaaGreat
namespace Go.Proofs.YtgihfcimngogfaaGreat
open Go.RowKit Go
set_option linter.unusedVariables false
theorem memP_short {L : List Con} {s r : Bs} {m : Bs × Bs} (hg : ∀ c, c ∈ L → GoodC c) (h : memP L s = .ok m r) : m.1.length < 65536 ∧ m.2.length < 65536 := by
 unfold memP at h
 cases h1 : conP L 1 s with
 | er x => rw [h1] at h; cases h
 | ok a r1 =>
  cases h2 : conP L 1 r1 with
  | er x => simp only [h1, h2, Pr.then] at h; cases h
  | ok b r2 =>
   simp only [h1, h2, Pr.then] at h
   cases h
   exact ⟨con_short hg h1, con_short hg h2⟩
theorem tx_maxLen {l : Bs} (h : l.length < 65536) : (tx l).size ≤ maxLen := by
 rw [tx_size]
 unfold maxLen
 omega
theorem nameT (l : Bs) (m r : Bool) (w : World) (h : Hid (nameB l m = r)) (hs : l.length < 65536) :
  Calls Tryz.prog 112 #[.string (tx l), .bool m] w fun e w' => e = .returned (.bool r) ∧ w = w' :=
 name_r (tx l) m r w (lhid (by rw [tx_list]; exact h.out)) (tx_maxLen hs)
theorem typeT (l : Bs) (r : Bool) (w : World) (h : Hid (typeB l = r)) (hs : l.length < 65536) :
  Calls Tryz.prog 113 #[.string (tx l)] w fun e w' => e = .returned (.bool r) ∧ ∃ n, w' = w.drewN n :=
 type_r (tx l) r w (lhid (tx_maxLen hs)) (lhid (by rw [tx_list]; exact h.out))
theorem flgP_16 {b : Nat} {s r : Bs} {f : Nat} (h : flgP b s = .ok f r) : f < 65536 ∧ f &&& b = f := by
 unfold flgP at h
 cases hp : numP 2 s with
 | er x => rw [hp] at h; cases h
 | ok k r1 =>
  rw [hp] at h
  simp only [Pr.then] at h
  split at h
  ·cases h
   exact ⟨numP_16 (Nat.le_refl 2) hp, by assumption⟩
  ·cases h
theorem someFlags_k (P R g cf : Nat) (L : List Con) (s : Bs) (b : Nat) (b' : Int) (hb : b < 65536) (w : World) (h : Hid (Rdy w P R g L cf s)) (hbb : Hid (b' = b)) :
  Calls Tryz.prog 85 #[.pointer (some ⟨P, 0, none⟩), .int .i64 b'] w (Out P R g L cf IntV (flgP b s) w) := by
 rw [hbb.out]
 exact someFlags_any P R g cf L s b hb w h
set_option maxHeartbeats 4000000 in
set_option maxRecDepth 100000 in
theorem field_any (P R g cf : Nat) (L : List Con) (s : Bs) (w : World) (h : Hid (Rdy w P R g L cf s)) :
  Calls Tryz.prog 90 #[.pointer (some ⟨P, 0, none⟩)] w (Out P R g L cf FldV (fldP L cf s) w) := by
 have HB := lhid ((Only.refl R w).alloc (.cells #[.int .i64 0, .string ⟨#[]⟩, .string ⟨#[]⟩] 57))
 have H0 := lhid (h.out.alloc (.cells #[.int .i64 0, .string ⟨#[]⟩, .string ⟨#[]⟩] 57))
 have hlts := h.out.lts
 have HX0 := lhid (heap_alloc_new w (.cells #[.int .i64 0, .string ⟨#[]⟩, .string ⟨#[]⟩] 57))
 have HXN : Hid (w.heap.size ≠ R) := lhid (by omega)
 have HXC : Hid (P < w.heap.size ∧ R < w.heap.size ∧ g < w.heap.size) := lhid (by omega)
 clear hlts
 go_enter Tryz.func90, Tryz.ntmps90
 have HR1 := lhid H0.out
 go_wp2_with fail
 with_reducible refine (someFlags_k P R g cf L s 8 8 (by omega) _ HR1 (lhid rfl)).mono ?_
 rintro e w1 ho
 have HO1 := lhid (HB.out.trans ho.1)
 have HX1 := lhid (Only.keep ho.1 HX0.out HXN.out)
 cases hp : flgP 8 s with
 | er x =>
  have hx := ho.er hp
  have HP := lhid hp
  clear ho hp
  obtain rfl := hx
  go_wp2_with fail
  exact ⟨rfl, out_er HO1.out (by have hp := HP.out; simp only [fldP, Pr.then, hp])⟩
 | ok f r =>
  have hx := ho.ok hp
  have HP1 := lhid hp
  clear ho hp
  obtain ⟨v, rfl, rfl, hr⟩ := hx
  have H1 := lhid hr
  clear hr
  have hltsHY := H1.out.lts
  have HYN : Hid (w1.heap.size ≠ R) := lhid (by omega)
  have HYC : Hid (P < w1.heap.size ∧ R < w1.heap.size ∧ g < w1.heap.size) := lhid (by omega)
  have HYL : Hid (w.heap.size ≤ w1.heap.size) := lhid HO1.out.size
  clear hltsHY
  have HX1n := lhid ((Below.heap_alloc w1 (.cells #[.int .i64 f, .string ⟨#[]⟩, .string ⟨#[]⟩] 57) _ (heap_lt HX1.out)).trans HX1.out)
  have HXHYNE : Hid (w.heap.size ≠ w1.heap.size) := lhid (Nat.ne_of_lt (heap_lt HX1.out))
  have HY1n := lhid (heap_alloc_new w1 (.cells #[.int .i64 f, .string ⟨#[]⟩, .string ⟨#[]⟩] 57))
  have HR2 := lhid (H1.out.alloc (.cells #[.int .i64 f, .string ⟨#[]⟩, .string ⟨#[]⟩] 57))
  go_wp2_with fail
  with_reducible refine (nameAndDescriptor_any P R g cf L r _ HR2).mono ?_
  rintro e w2 ho
  have HO2 := lhid ((HO1.out.alloc (.cells #[.int .i64 f, .string ⟨#[]⟩, .string ⟨#[]⟩] 57)).trans ho.1)
  have HX2 := lhid (Only.keep ho.1 HX1n.out HXN.out)
  have HY2 := lhid (Only.keep ho.1 HY1n.out HYN.out)
  cases hp : memP L r with
  | er x =>
   have hx := ho.er hp
   have HP := lhid hp
   clear ho hp
   obtain rfl := hx
   go_wp2_with fail
   exact ⟨rfl, out_er HO2.out (by have hp := HP.out; simp only [fldP, Pr.then, HP1.out, hp])⟩
  | ok m r2 =>
   have hx := ho.ok hp
   have HP2 := lhid hp
   clear ho hp
   obtain ⟨v, rfl, rfl, hr⟩ := hx
   have H2 := lhid hr
   clear hr
   have hsh := memP_short h.out.p.good HP2.out
   have h16 := (flgP_16 HP1.out).1
   have qHY1 := heap_cell (i := 1) HY2.out rfl
   have zHY1 := heap_thaw HY2.out 1
   have HY2s1 : Hid ((w2.setCell ⟨w1.heap.size, 1, none⟩ (.string (tx m.1))).heap[w1.heap.size]? = some (.cells #[.int .i64 f, .string (tx m.1), .string ⟨#[]⟩] 57 (0, 0))) := lhid (heap_set HY2.out _)
   have HX2s1 : Hid ((w2.setCell ⟨w1.heap.size, 1, none⟩ (.string (tx m.1))).heap[w.heap.size]? = some (.cells #[.int .i64 0, .string ⟨#[]⟩, .string ⟨#[]⟩] 57 (0, 0))) := lhid ((Below.heap_setCell _ _ _ _ HXHYNE.out).trans HX2.out)
   have qHY2 := heap_cell (i := 2) HY2s1.out rfl
   have zHY2 := heap_thaw HY2s1.out 2
   have HY2s2 : Hid (((w2.setCell ⟨w1.heap.size, 1, none⟩ (.string (tx m.1))).setCell ⟨w1.heap.size, 2, none⟩ (.string (tx m.2))).heap[w1.heap.size]? = some (.cells #[.int .i64 f, .string (tx m.1), .string (tx m.2)] 57 (0, 0))) := lhid (heap_set HY2s1.out _)
   have HX2s2 : Hid (((w2.setCell ⟨w1.heap.size, 1, none⟩ (.string (tx m.1))).setCell ⟨w1.heap.size, 2, none⟩ (.string (tx m.2))).heap[w.heap.size]? = some (.cells #[.int .i64 0, .string ⟨#[]⟩, .string ⟨#[]⟩] 57 (0, 0))) := lhid ((Below.heap_setCell _ _ _ _ HXHYNE.out).trans HX2s1.out)
   have g0 := heap_cell (i := 0) HY2s2.out rfl
   have zg0 := heap_thaw HY2s2.out 0
   have g1 := heap_cell (i := 1) HY2s2.out rfl
   have zg1 := heap_thaw HY2s2.out 1
   have g2 := heap_cell (i := 2) HY2s2.out rfl
   have zg2 := heap_thaw HY2s2.out 2
   cases hnb : nameB m.1 false
   ·have HNB := lhid hnb
    clear hnb
    go_wp2_with fail
    with_reducible refine (nameT m.1 false false _ HNB hsh.1).mono ?_
    rintro e wz ⟨rfl, rfl⟩
    go_wp2_with fail
    with_reducible refine (refuse_yes 20 _).mono ?_
    rintro e wz ⟨rfl, rfl⟩
    go_wp2_with fail
    exact ⟨rfl, out_er ((HO2.out.setCell (p := ⟨w1.heap.size, 1, none⟩) (.inr HYL.out) (.string (tx m.1))).setCell (p := ⟨w1.heap.size, 2, none⟩) (.inr HYL.out) (.string (tx m.2))) (by simp only [fldP, fldJ, Pr.then, HP1.out, HP2.out]; rw [if_pos HNB.out])⟩
   ·have HNB := lhid hnb
    clear hnb
    go_wp2_with fail
    with_reducible refine (nameT m.1 false true _ HNB hsh.1).mono ?_
    rintro e wz ⟨rfl, rfl⟩
    go_wp2_with fail
    with_reducible refine (refuse_no 20 _).mono ?_
    rintro e wz ⟨rfl, rfl⟩
    cases htb : typeB m.2
    ·have HTB := lhid htb
     clear htb
     go_wp2_with fail
     with_reducible refine (typeT m.2 false _ HTB hsh.2).mono ?_
     rintro e wz ⟨rfl, nz, rfl⟩
     go_wp2_with fail
     with_reducible refine (refuse_yes 21 _).mono ?_
     rintro e wz ⟨rfl, rfl⟩
     go_wp2_with fail
     exact ⟨rfl, out_er (((HO2.out.setCell (p := ⟨w1.heap.size, 1, none⟩) (.inr HYL.out) (.string (tx m.1))).setCell (p := ⟨w1.heap.size, 2, none⟩) (.inr HYL.out) (.string (tx m.2))).drewN nz) (by simp only [fldP, fldJ, Pr.then, HP1.out, HP2.out]; rw [if_neg (by rw [HNB.out]; simp), if_pos HTB.out])⟩
    ·have HTB := lhid htb
     clear htb
     go_wp2_with fail
     with_reducible refine (typeT m.2 true _ HTB hsh.2).mono ?_
     rintro e wz ⟨rfl, nz, rfl⟩
     go_wp2_with fail
     with_reducible refine (refuse_no 21 _).mono ?_
     rintro e wz ⟨rfl, rfl⟩
     have c2 := (((H2.out.cell HYC.out 1 (.string (tx m.1))).cell HYC.out 2 (.string (tx m.2)))).p.c2
     have hcf : cf < 65536 := h.out.p.flag
     have a2 : bits .and .i64 (cf : Int) 512 = ((cf &&& 512 : Nat) : Int) := and16 cf 512 hcf (by omega)
     by_cases hz : cf &&& 512 = 0
     ·have HZ := lhid hz
      have a3 : (bits .and .i64 (cf : Int) 512 != 0) = false := by rw [a2, hz]; rfl
      clear hz a2
      go_wp2_with fail
      with_reducible refine (refuse_no 22 _).mono ?_
      rintro e wz ⟨rfl, rfl⟩
      have q0 := heap_cell (i := 0) HY2s2.out rfl
      have zq0 := heap_thaw HY2s2.out 0
      have q1 := heap_cell (i := 1) HY2s2.out rfl
      have zq1 := heap_thaw HY2s2.out 1
      have q2 := heap_cell (i := 2) HY2s2.out rfl
      have zq2 := heap_thaw HY2s2.out 2
      have p0 := heap_cell (i := 0) HX2s2.out rfl
      have zp0 := heap_thaw HX2s2.out 0
      have p1 := heap_cell (i := 1) HX2s2.out rfl
      have zp1 := heap_thaw HX2s2.out 1
      have p2 := heap_cell (i := 2) HX2s2.out rfl
      have zp2 := heap_thaw HX2s2.out 2
      go_wp2_with fail
      refine bodyPost_ret (v := .agg #[.int .i64 f, .string (tx m.1), .string (tx m.2)]) (by simp [results, Tryz.results90, go_sem, p0, p1, p2]) rfl ?_
      exact out_ok (a := (⟨f, m.1, m.2⟩ : Fld)) (r := r2) (only_cells (Nat.le_refl _) [.int .i64 f, .string (tx m.1), .string (tx m.2)] 0 _ (((HO2.out.setCell (p := ⟨w1.heap.size, 1, none⟩) (.inr HYL.out) (.string (tx m.1))).setCell (p := ⟨w1.heap.size, 2, none⟩) (.inr HYL.out) (.string (tx m.2))).drewN nz)) (by simp only [fldP, fldJ, Pr.then, HP1.out, HP2.out]; rw [if_neg (by rw [HNB.out]; simp), if_neg (by rw [HTB.out]; simp), if_neg (by rintro ⟨h1, h2⟩; exact h1 HZ.out)]) rfl (rdy_cells HXC.out [.int .i64 f, .string (tx m.1), .string (tx m.2)] 0 _ (((H2.out.cell HYC.out 1 (.string (tx m.1))).cell HYC.out 2 (.string (tx m.2))).drewN nz))
     ·have HZ := lhid hz
      have a3 : (bits .and .i64 (cf : Int) 512 != 0) = true := by rw [a2, bne_iff_ne]; omega
      clear hz a2
      by_cases hf0 : f = 0
      ·have HF0 := lhid hf0
       have a4 : ((f : Int) == 0) = true := by rw [hf0]; rfl
       clear hf0
       go_wp2_with fail
       with_reducible refine (refuse_yes 22 _).mono ?_
       rintro e wz ⟨rfl, rfl⟩
       go_wp2_with fail
       exact ⟨rfl, out_er (((HO2.out.setCell (p := ⟨w1.heap.size, 1, none⟩) (.inr HYL.out) (.string (tx m.1))).setCell (p := ⟨w1.heap.size, 2, none⟩) (.inr HYL.out) (.string (tx m.2))).drewN nz) (by simp only [fldP, fldJ, Pr.then, HP1.out, HP2.out]; rw [if_neg (by rw [HNB.out]; simp), if_neg (by rw [HTB.out]; simp), if_pos ⟨HZ.out, HF0.out⟩])⟩
      ·have HF0 := lhid hf0
       have a4 : ((f : Int) == 0) = false := by rw [beq_eq_false_iff_ne]; omega
       clear hf0
       go_wp2_with fail
       with_reducible refine (refuse_no 22 _).mono ?_
       rintro e wz ⟨rfl, rfl⟩
       have q0 := heap_cell (i := 0) HY2s2.out rfl
       have zq0 := heap_thaw HY2s2.out 0
       have q1 := heap_cell (i := 1) HY2s2.out rfl
       have zq1 := heap_thaw HY2s2.out 1
       have q2 := heap_cell (i := 2) HY2s2.out rfl
       have zq2 := heap_thaw HY2s2.out 2
       have p0 := heap_cell (i := 0) HX2s2.out rfl
       have zp0 := heap_thaw HX2s2.out 0
       have p1 := heap_cell (i := 1) HX2s2.out rfl
       have zp1 := heap_thaw HX2s2.out 1
       have p2 := heap_cell (i := 2) HX2s2.out rfl
       have zp2 := heap_thaw HX2s2.out 2
       go_wp2_with fail
       refine bodyPost_ret (v := .agg #[.int .i64 f, .string (tx m.1), .string (tx m.2)]) (by simp [results, Tryz.results90, go_sem, p0, p1, p2]) rfl ?_
       exact out_ok (a := (⟨f, m.1, m.2⟩ : Fld)) (r := r2) (only_cells (Nat.le_refl _) [.int .i64 f, .string (tx m.1), .string (tx m.2)] 0 _ (((HO2.out.setCell (p := ⟨w1.heap.size, 1, none⟩) (.inr HYL.out) (.string (tx m.1))).setCell (p := ⟨w1.heap.size, 2, none⟩) (.inr HYL.out) (.string (tx m.2))).drewN nz)) (by simp only [fldP, fldJ, Pr.then, HP1.out, HP2.out]; rw [if_neg (by rw [HNB.out]; simp), if_neg (by rw [HTB.out]; simp), if_neg (by rintro ⟨h1, h2⟩; exact HF0.out h2)]) rfl (rdy_cells HXC.out [.int .i64 f, .string (tx m.1), .string (tx m.2)] 0 _ (((H2.out.cell HYC.out 1 (.string (tx m.1))).cell HYC.out 2 (.string (tx m.2))).drewN nz))
end Go.Proofs.YtgihfcimngogfaaGreat
namespace Go.Proofs.YtgihfcimngogfaaGreat
open Go.RowKit Go
set_option linter.unusedVariables false
theorem tx_toList' (l : Bs) : (tx l).toList = l := by rw [Lib.toList_data, tx_list]
theorem tx_cons_size (c : UInt8) (r : Bs) : 0 < (tx (c :: r)).size := by rw [tx_size]; simp
set_option maxHeartbeats 2000000 in
set_option maxRecDepth 100000 in
theorem rclass_any (ρ : Rc) (σ : Sg) (w : World) (h : Hid (Rf ρ σ w)) :
  Calls Tryz.prog 50 #[.pointer (some ⟨ρ.M, 0, none⟩)] w (RO ρ (rCls ρ.L σ).2 (.string (tx (rCls ρ.L σ).1)) w) := by
 obtain ⟨⟨t, τ⟩, ht⟩ : ∃ p, rTxt ρ.L 7 σ = p := ⟨_, rfl⟩
 have HK := lhid ht
 cases t with
 | nil =>
  have HE : Hid (rCls ρ.L σ = ([], τ)) := lhid (by unfold rCls; rw [ht]; rfl)
  have hq : ((tx []).toList == []) = true := by rw [tx_toList']; rfl
  have hq2 : (tx []).toList.isEmpty = true := by rw [tx_toList']; rfl
  clear ht
  go_enter Tryz.func50, Tryz.ntmps50
  go_wp2_with fail
  with_reducible refine (rtext_any ρ σ 7 7 _ h (lhid rfl)).mono ?_
  rintro e w1 ⟨rfl, hr, ho⟩
  rw [HK.out] at hr ⊢
  have HR := lhid hr
  have HO := lhid ho
  clear hr ho
  go_wp2_with fail
  go_ret
  rw [HE.out]
  exact ⟨rfl, HR.out, HO.out⟩
 | cons c r =>
  have hs := tx_cons_size c r
  have hs2 : (0 : Int) < (tx (c :: r)).size := by omega
  have hq : ((tx (c :: r)).toList == []) = false := by rw [tx_toList']; rfl
  have hq2 : (tx (c :: r)).toList.isEmpty = false := by rw [tx_toList']; rfl
  cases hb : (c == 91) with
  | true =>
   have HE : Hid (rCls ρ.L σ = (c :: r, wrS 20 τ)) := lhid (by unfold rCls; rw [ht]; simp only []; rw [if_pos (by simpa using hb)])
   have hx : ((((tx (c :: r))[0]'hs).toNat : Int) == 91) = true := by rw [tx_at]; exact u8_lit c 91 (by omega) _ hb
   clear ht hb
   go_enter Tryz.func50, Tryz.ntmps50
   go_wp2_with fail
   with_reducible refine (rtext_any ρ σ 7 7 _ h (lhid rfl)).mono ?_
   rintro e w1 ⟨rfl, hr, ho⟩
   rw [HK.out] at hr ⊢
   have HR := lhid hr
   have HO := lhid ho
   clear hr ho
   go_wp2_with fail
   with_reducible refine (rwrong_any ρ τ 20 20 (by decide) _ HR (lhid rfl)).mono ?_
   rintro e w2 ⟨rfl, hr, ho⟩
   have HR2 := lhid hr
   have HO2 := lhid (HO.out.trans ho)
   clear hr ho
   go_wp2_with fail
   go_ret
   rw [HE.out]
   exact ⟨rfl, HR2.out, HO2.out⟩
  | false =>
   have HE : Hid (rCls ρ.L σ = (c :: r, τ)) := lhid (by unfold rCls; rw [ht]; simp only []; rw [if_neg (by simpa using hb)])
   have hx : ((((tx (c :: r))[0]'hs).toNat : Int) == 91) = false := by rw [tx_at]; exact u8_lit c 91 (by omega) _ hb
   clear ht hb
   go_enter Tryz.func50, Tryz.ntmps50
   go_wp2_with fail
   with_reducible refine (rtext_any ρ σ 7 7 _ h (lhid rfl)).mono ?_
   rintro e w1 ⟨rfl, hr, ho⟩
   rw [HK.out] at hr ⊢
   have HR := lhid hr
   have HO := lhid ho
   clear hr ho
   go_wp2_with fail
   go_ret
   rw [HE.out]
   exact ⟨rfl, HR.out, HO.out⟩
theorem refNameT (l : Bs) (m r : Bool) (w : World) (h : Hid (nameB l m = r)) (hs : l.length < 65536) :
  Calls Tryz.prog 79 #[.string (tx l), .bool m] w fun e w' => e = .returned (.bool r) ∧ w = w' :=
 refName_r (tx l) m r w (lhid (by rw [tx_list]; exact h.out)) (lhid (tx_maxLen hs))
theorem refTypeT (l : Bs) (r : Bool) (w : World) (h : Hid (typeB l = r)) (hs : l.length < 65536) :
  Calls Tryz.prog 81 #[.string (tx l)] w fun e w' => e = .returned (.bool r) ∧ w = w' :=
 refType_r (tx l) r w (lhid (tx_maxLen hs)) (lhid (by rw [tx_list]; exact h.out))
theorem refMethodT (l : Bs) (r : Bool) (w : World) (h : Hid ((metB l).isSome = r)) (hs : l.length < 65536) :
  Calls Tryz.prog 80 #[.string (tx l)] w fun e w' => (∃ v t, e = .returned (.tuple #[v, .string t, .int .i64 (if r then 0 else 21)])) ∧ Below w.heap.size w w' := by
 refine (refMethod_any (tx l) w (by rw [tx_size]; omega)).mono ?_
 rintro e w' ⟨h1, h2⟩
 rw [tx_list] at h2
 cases hm : metB l with
 | none =>
  rw [hm] at h2
  have := h.out
  rw [hm] at this
  subst this
  exact ⟨⟨_, _, h2⟩, h1⟩
 | some p =>
  obtain ⟨ps, rest⟩ := p
  rw [hm] at h2
  obtain ⟨v, h2, _⟩ := h2
  have := h.out
  rw [hm] at this
  subst this
  exact ⟨⟨v, _, h2⟩, h1⟩
theorem Rf.below {ρ : Rc} {σ : Sg} {w w' : World} (h : Rf ρ σ w) (hb : Below w.heap.size w w') : Rf ρ σ w' :=
 ⟨h.d.below hb, fun h0 => ⟨(h.pool h0).1, below_rows (h.pool h0).2.1 hb, (h.pool h0).2.2⟩, h.good, h.small⟩
end Go.Proofs.YtgihfcimngogfaaGreat
namespace Go.Proofs.YtgihfcimngogfaaGreat
open Go.RowKit Go
set_option linter.unusedVariables false
def tyT (k : Nat) : Bs := if k = 0 then [] else if k = 1 then [73] else if k = 2 then [74] else [78]
def tyLoop (L : List Con) : Nat → List Bs → Sg → List Bs × Sg
 | 0, acc, σ => (acc, σ)
 | n + 1, acc, σ =>
  if σ.1 ≠ 0 then (acc, σ)
  else if 4 < (rNum 1 σ).1 then ([], wrS 60 (rNum 1 σ).2)
  else if (rNum 1 σ).1 < 4 then tyLoop L n (acc ++ [tyT (rNum 1 σ).1]) (rNum 1 σ).2
  else tyLoop L n (acc ++ [ofL (rTxt L 7 (rNum 1 σ).2).1]) (rTxt L 7 (rNum 1 σ).2).2
def rTys (L : List Con) (most : Nat) (σ : Sg) : List Bs × Sg := tyLoop L (rCnt 1 most σ).1 [] (rCnt 1 most σ).2
theorem rCnt_le (n most : Nat) (σ : Sg) : (rCnt n most σ).1 ≤ most := by
 unfold rCnt
 split
 ·omega
 ·omega
theorem Rf.stay {ρ : Rc} {σ : Sg} {w w' : World} (h : Rf ρ σ w) (ho : Only ρ.M w w') : Stay tC w w' := ho.stay h.d.doc (by show 94 ∉ tC; decide)
theorem Rf.grown {ρ : Rc} {σ : Sg} {w w' : World} {row : Option Nat} (h : Rf ρ σ w) (hg : w.grownBy w' row) (hs : Stay [94, 39] w w') (hr : ∀ k, row = some k → ρ.B ≤ k) : Rf ρ σ w' := by
 have hb : Below ρ.B w w' := ⟨hg.os, hg.tape, hg.output, hg.size, fun k hk => hg.block k (Nat.lt_of_lt_of_le hk h.d.bw) (fun e => by have := hr k e.symm; omega)⟩
 refine ⟨⟨hs _ _ _ _ (by show 94 ∈ _; simp) h.d.doc, h.d.le, h.d.suf, rdB_below h.d.rd h.d.low hb, h.d.base, h.d.low, Nat.le_trans h.d.bw hg.size⟩, fun h0 => ⟨(h.pool h0).1, ?_, (h.pool h0).2.2⟩, h.good, h.small⟩
 obtain ⟨c, h1, h2⟩ := (h.pool h0).2.1
 exact ⟨c, hs _ _ _ _ (by simp) h1, h2⟩
theorem refOfT (l : Bs) (w : World) (hs : l.length < 65536) :
  Calls Tryz.prog 119 #[.string (tx l)] w fun e w' => e = .returned (.string (tx (ofL l))) ∧ w = w' := by
 refine (refOf_any (tx l) w (by rw [tx_size]; omega)).mono ?_
 rintro e w' ⟨rfl, rfl⟩
 refine ⟨?_, rfl⟩
 rw [tx_list]
 rfl
set_option maxHeartbeats 16000000 in
set_option maxRecDepth 100000 in
theorem rtypes_any (ρ : Rc) (σ : Sg) (most : Nat) (m' : Int) (w : World) (h : Hid (Rf ρ σ w)) (hmost : most ≤ 4000) (hm : Hid (m' = most)) :
  Calls Tryz.prog 102 #[.pointer (some ⟨ρ.M, 0, none⟩), .int .i64 m'] w fun e w' => ∃ v, e = .returned v ∧ StrsO w' v (rTys ρ.L most σ).1 ∧ Rf ρ (rTys ρ.L most σ).2 w' ∧ Only ρ.M w w' := by
 have hcl := rCnt_le 1 most σ
 obtain ⟨⟨n, τ⟩, hn⟩ : ∃ p, rCnt 1 most σ = p := ⟨_, rfl⟩
 rw [hn] at hcl
 have hcl' : n ≤ most := hcl
 have HN := lhid hn
 obtain ⟨⟨l0, σ0⟩, hq⟩ : ∃ q, tyLoop ρ.L n [] τ = q := ⟨_, rfl⟩
 have HQ := lhid hq
 have HE : Hid (rTys ρ.L most σ = (l0, σ0)) := lhid (by unfold rTys; rw [hn]; exact hq)
 have hml := h.out.lt
 have hbw := h.out.d.bw
 have HLT : Hid (ρ.M < w.heap.size ∧ ρ.B ≤ w.heap.size) := lhid ⟨hml, hbw⟩
 rw [HE.out]
 clear hq hn hcl
 obtain ⟨i0, hi0, hz0, hz1, hz2⟩ := info_parts infoStr
 go_enter Tryz.func102, Tryz.ntmps102
 go_wp2_with fail
 with_reducible refine (rcount_any ρ σ 1 most 1 m' _ h (by omega) (lhid rfl) hm).mono ?_
 rintro e w0 ⟨rfl, hr, ho⟩
 rw [HN.out] at hr ⊢
 have HR0 := lhid hr
 have HOO := lhid ho
 have hw0 := ho.size
 clear hr ho
 go_wp2_with fail
 go_loopw [5, 7] (fun v i wr => ∃ (acc : List Bs) (σ' : Sg) (A : Option Addr) (c : Nat) (xs : List Value), v = .slice A acc.length c ∧ i = .int .i64 acc.length ∧ acc.length ≤ n ∧ Hid (wr.ownsRow w.heap.size 9 1 (.slice A acc.length c) acc.length xs) ∧ Hid (ListE (StrE wr) acc xs) ∧ Hid (Rf ρ σ' wr) ∧ Hid (Only ρ.M w wr) ∧ Hid (tyLoop ρ.L (n - acc.length) acc σ' = (l0, σ0))) (fun _ i _ => n - (intOf i).toNat)
 case atStart => exact ⟨[], τ, none, 0, [], rfl, rfl, Nat.zero_le _, lhid (World.ownsRow_nil _ _ _ _), lhid rfl, HR0, HOO, HQ⟩
 case round =>
  obtain ⟨acc, σ', A, c, xs, rfl, rfl, hle, HO, HE1, HR, HW, HM⟩ := hrel
  have c4 := HR.out.c4
  by_cases hlt : acc.length < n
  ·have hlt2 : (acc.length : Int) < n := by omega
   by_cases h0 : σ'.1 = 0
   ·have t0 : ((σ'.1 : Int) == 0) = true := by rw [h0]; rfl
    have H0 := lhid h0
    obtain ⟨⟨k, υ⟩, hk⟩ : ∃ p, rNum 1 σ' = p := ⟨_, rfl⟩
    have HK := lhid hk
    clear hk h0
    by_cases hk4 : 4 < k
    ·have t4 : (4 : Int) < k := by omega
     go_wp2_with fail
     with_reducible refine (rnum_any ρ σ' 1 1 _ HR (by omega) (lhid rfl)).mono ?_
     rintro e w1 ⟨rfl, hr, ho⟩
     rw [HK.out] at hr ⊢
     have HR1 := lhid hr
     have HO1 := lhid (HW.out.trans ho)
     clear hr ho
     go_wp2_with fail
     with_reducible refine (rwrong_any ρ υ 60 60 (by decide) _ HR1 (lhid rfl)).mono ?_
     rintro e w2 ⟨rfl, hr, ho⟩
     have HR2 := lhid hr
     have HO2 := lhid (HO1.out.trans ho)
     clear hr ho
     go_wp2_with fail
     go_ret
     have hm2 := HM.out
     rw [show n - acc.length = n - acc.length - 1 + 1 by omega, tyLoop, if_neg (by rw [H0.out]; simp), HK.out, if_pos hk4] at hm2
     injection hm2 with e1 e2
     subst e1 e2
     exact ⟨_, rfl, ⟨[], World.ownsRow_nil _ _ _ _, rfl⟩, HR2.out, HO2.out⟩
    ·have t4 : ¬ (4 : Int) < k := by omega
     rcases (show k = 0 ∨ k = 1 ∨ k = 2 ∨ k = 3 ∨ k = 4 by omega) with rfl | rfl | rfl | rfl | rfl
     ·go_wp2_with fail
      with_reducible refine (rnum_any ρ σ' 1 1 _ HR (by omega) (lhid rfl)).mono ?_
      rintro e wQ ⟨rfl, hr, ho⟩
      rw [HK.out] at hr ⊢
      have HRQ := lhid hr
      have HOQ := lhid (HW.out.trans ho)
      have HSQ := lhid (HR.out.stay ho)
      have HO2 := lhid (own_stay HO.out HSQ.out (by decide))
      have HE := lhid (HE1.out.imp fun a c => keepsStr tC _ _ a c HSQ.out)
      have hbq := HOQ.out.size
      clear hr ho
      go_wp2_with (at_builtin; refine wpList_append_own _ rfl (.tmp 32) (.tmp 37) 22 rfl w.heap.size 9 i0 (.string ⟨#[]⟩) 1 16 Tryz.underlying22 hi0 hz0 hz1 hz2 rfl (by decide) (.slice A acc.length c) acc.length xs rfl ((HO2.out.alloc (.cells #[.string ⟨#[]⟩, .string ⟨#[73]⟩, .string ⟨#[74]⟩, .string ⟨#[78]⟩] 9)).alloc _) ⟨wQ.heap.size + 1, 0, none⟩ 1 1 [.string (⟨#[]⟩)] rfl rfl ?c1k0 ?c2k0 ?c3k0 ?c4k0 ?c5k0 ?_)
      case c1k0 =>
       have := new_cells (wQ.alloc (.cells #[.string ⟨#[]⟩, .string ⟨#[73]⟩, .string ⟨#[74]⟩, .string ⟨#[78]⟩] 9)) [.string (⟨#[]⟩)] 9
       simpa using this
      case c2k0 => intro u hu; simp at hu; subst hu; rfl
      case c3k0 => unfold maxLen; omega
      case c4k0 => omega
      case c5k0 => simp; omega
      intro v' w2 hown hgrow _
      obtain ⟨A', c', rfl⟩ := own_shape hown
      have HO3 := lhid hown
      have hge := own_lt ((HO2.out.alloc (.cells #[.string ⟨#[]⟩, .string ⟨#[73]⟩, .string ⟨#[74]⟩, .string ⟨#[78]⟩] 9)).alloc (.cells #[.string (⟨#[]⟩)] 9))
      have HR3 := lhid (Rf.grown ((HRQ.out.alloc (.cells #[.string ⟨#[]⟩, .string ⟨#[73]⟩, .string ⟨#[74]⟩, .string ⟨#[78]⟩] 9)).alloc (.cells #[.string (⟨#[]⟩)] 9)) hgrow (grown_stay hgrow ((HO2.out.alloc (.cells #[.string ⟨#[]⟩, .string ⟨#[73]⟩, .string ⟨#[74]⟩, .string ⟨#[78]⟩] 9)).alloc (.cells #[.string (⟨#[]⟩)] 9)) (by decide)) (fun k hk => Nat.le_trans HLT.out.2 (hge k hk)))
      have HW3 := lhid (Only.grown ((HOQ.out.alloc (.cells #[.string ⟨#[]⟩, .string ⟨#[73]⟩, .string ⟨#[74]⟩, .string ⟨#[78]⟩] 9)).alloc (.cells #[.string (⟨#[]⟩)] 9)) hgrow hge)
      clear hown hgrow hge
      go_wp2
      go_roundw
      case rel =>
       refine ⟨acc ++ [([] : Bs)], _, A', c', xs ++ [.string (⟨#[]⟩)], by simp, by simp, by simp; omega, lhid (by simpa using HO3.out), lhid (ListE.snoc (E := StrE w2) rfl HE.out), HR3, HW3, lhid ?_⟩
       rw [← HM.out, show n - acc.length = n - (acc ++ [([] : Bs)]).length + 1 by simp; omega, tyLoop, if_neg (by rw [H0.out]; simp), HK.out]
       simp only []
       rfl
      case measure => simp [intOf]; omega
     ·go_wp2_with fail
      with_reducible refine (rnum_any ρ σ' 1 1 _ HR (by omega) (lhid rfl)).mono ?_
      rintro e wQ ⟨rfl, hr, ho⟩
      rw [HK.out] at hr ⊢
      have HRQ := lhid hr
      have HOQ := lhid (HW.out.trans ho)
      have HSQ := lhid (HR.out.stay ho)
      have HO2 := lhid (own_stay HO.out HSQ.out (by decide))
      have HE := lhid (HE1.out.imp fun a c => keepsStr tC _ _ a c HSQ.out)
      have hbq := HOQ.out.size
      clear hr ho
      go_wp2_with (at_builtin; refine wpList_append_own _ rfl (.tmp 32) (.tmp 37) 22 rfl w.heap.size 9 i0 (.string ⟨#[]⟩) 1 16 Tryz.underlying22 hi0 hz0 hz1 hz2 rfl (by decide) (.slice A acc.length c) acc.length xs rfl ((HO2.out.alloc (.cells #[.string ⟨#[]⟩, .string ⟨#[73]⟩, .string ⟨#[74]⟩, .string ⟨#[78]⟩] 9)).alloc _) ⟨wQ.heap.size + 1, 0, none⟩ 1 1 [.string (⟨#[73]⟩)] rfl rfl ?c1k1 ?c2k1 ?c3k1 ?c4k1 ?c5k1 ?_)
      case c1k1 =>
       have := new_cells (wQ.alloc (.cells #[.string ⟨#[]⟩, .string ⟨#[73]⟩, .string ⟨#[74]⟩, .string ⟨#[78]⟩] 9)) [.string (⟨#[73]⟩)] 9
       simpa using this
      case c2k1 => intro u hu; simp at hu; subst hu; rfl
      case c3k1 => unfold maxLen; omega
      case c4k1 => omega
      case c5k1 => simp; omega
      intro v' w2 hown hgrow _
      obtain ⟨A', c', rfl⟩ := own_shape hown
      have HO3 := lhid hown
      have hge := own_lt ((HO2.out.alloc (.cells #[.string ⟨#[]⟩, .string ⟨#[73]⟩, .string ⟨#[74]⟩, .string ⟨#[78]⟩] 9)).alloc (.cells #[.string (⟨#[73]⟩)] 9))
      have HR3 := lhid (Rf.grown ((HRQ.out.alloc (.cells #[.string ⟨#[]⟩, .string ⟨#[73]⟩, .string ⟨#[74]⟩, .string ⟨#[78]⟩] 9)).alloc (.cells #[.string (⟨#[73]⟩)] 9)) hgrow (grown_stay hgrow ((HO2.out.alloc (.cells #[.string ⟨#[]⟩, .string ⟨#[73]⟩, .string ⟨#[74]⟩, .string ⟨#[78]⟩] 9)).alloc (.cells #[.string (⟨#[73]⟩)] 9)) (by decide)) (fun k hk => Nat.le_trans HLT.out.2 (hge k hk)))
      have HW3 := lhid (Only.grown ((HOQ.out.alloc (.cells #[.string ⟨#[]⟩, .string ⟨#[73]⟩, .string ⟨#[74]⟩, .string ⟨#[78]⟩] 9)).alloc (.cells #[.string (⟨#[73]⟩)] 9)) hgrow hge)
      clear hown hgrow hge
      go_wp2
      go_roundw
      case rel =>
       refine ⟨acc ++ [([73] : Bs)], _, A', c', xs ++ [.string (⟨#[73]⟩)], by simp, by simp, by simp; omega, lhid (by simpa using HO3.out), lhid (ListE.snoc (E := StrE w2) rfl HE.out), HR3, HW3, lhid ?_⟩
       rw [← HM.out, show n - acc.length = n - (acc ++ [([73] : Bs)]).length + 1 by simp; omega, tyLoop, if_neg (by rw [H0.out]; simp), HK.out]
       simp only []
       rfl
      case measure => simp [intOf]; omega
     ·go_wp2_with fail
      with_reducible refine (rnum_any ρ σ' 1 1 _ HR (by omega) (lhid rfl)).mono ?_
      rintro e wQ ⟨rfl, hr, ho⟩
      rw [HK.out] at hr ⊢
      have HRQ := lhid hr
      have HOQ := lhid (HW.out.trans ho)
      have HSQ := lhid (HR.out.stay ho)
      have HO2 := lhid (own_stay HO.out HSQ.out (by decide))
      have HE := lhid (HE1.out.imp fun a c => keepsStr tC _ _ a c HSQ.out)
      have hbq := HOQ.out.size
      clear hr ho
      go_wp2_with (at_builtin; refine wpList_append_own _ rfl (.tmp 32) (.tmp 37) 22 rfl w.heap.size 9 i0 (.string ⟨#[]⟩) 1 16 Tryz.underlying22 hi0 hz0 hz1 hz2 rfl (by decide) (.slice A acc.length c) acc.length xs rfl ((HO2.out.alloc (.cells #[.string ⟨#[]⟩, .string ⟨#[73]⟩, .string ⟨#[74]⟩, .string ⟨#[78]⟩] 9)).alloc _) ⟨wQ.heap.size + 1, 0, none⟩ 1 1 [.string (⟨#[74]⟩)] rfl rfl ?c1k2 ?c2k2 ?c3k2 ?c4k2 ?c5k2 ?_)
      case c1k2 =>
       have := new_cells (wQ.alloc (.cells #[.string ⟨#[]⟩, .string ⟨#[73]⟩, .string ⟨#[74]⟩, .string ⟨#[78]⟩] 9)) [.string (⟨#[74]⟩)] 9
       simpa using this
      case c2k2 => intro u hu; simp at hu; subst hu; rfl
      case c3k2 => unfold maxLen; omega
      case c4k2 => omega
      case c5k2 => simp; omega
      intro v' w2 hown hgrow _
      obtain ⟨A', c', rfl⟩ := own_shape hown
      have HO3 := lhid hown
      have hge := own_lt ((HO2.out.alloc (.cells #[.string ⟨#[]⟩, .string ⟨#[73]⟩, .string ⟨#[74]⟩, .string ⟨#[78]⟩] 9)).alloc (.cells #[.string (⟨#[74]⟩)] 9))
      have HR3 := lhid (Rf.grown ((HRQ.out.alloc (.cells #[.string ⟨#[]⟩, .string ⟨#[73]⟩, .string ⟨#[74]⟩, .string ⟨#[78]⟩] 9)).alloc (.cells #[.string (⟨#[74]⟩)] 9)) hgrow (grown_stay hgrow ((HO2.out.alloc (.cells #[.string ⟨#[]⟩, .string ⟨#[73]⟩, .string ⟨#[74]⟩, .string ⟨#[78]⟩] 9)).alloc (.cells #[.string (⟨#[74]⟩)] 9)) (by decide)) (fun k hk => Nat.le_trans HLT.out.2 (hge k hk)))
      have HW3 := lhid (Only.grown ((HOQ.out.alloc (.cells #[.string ⟨#[]⟩, .string ⟨#[73]⟩, .string ⟨#[74]⟩, .string ⟨#[78]⟩] 9)).alloc (.cells #[.string (⟨#[74]⟩)] 9)) hgrow hge)
      clear hown hgrow hge
      go_wp2
      go_roundw
      case rel =>
       refine ⟨acc ++ [([74] : Bs)], _, A', c', xs ++ [.string (⟨#[74]⟩)], by simp, by simp, by simp; omega, lhid (by simpa using HO3.out), lhid (ListE.snoc (E := StrE w2) rfl HE.out), HR3, HW3, lhid ?_⟩
       rw [← HM.out, show n - acc.length = n - (acc ++ [([74] : Bs)]).length + 1 by simp; omega, tyLoop, if_neg (by rw [H0.out]; simp), HK.out]
       simp only []
       rfl
      case measure => simp [intOf]; omega
     ·go_wp2_with fail
      with_reducible refine (rnum_any ρ σ' 1 1 _ HR (by omega) (lhid rfl)).mono ?_
      rintro e wQ ⟨rfl, hr, ho⟩
      rw [HK.out] at hr ⊢
      have HRQ := lhid hr
      have HOQ := lhid (HW.out.trans ho)
      have HSQ := lhid (HR.out.stay ho)
      have HO2 := lhid (own_stay HO.out HSQ.out (by decide))
      have HE := lhid (HE1.out.imp fun a c => keepsStr tC _ _ a c HSQ.out)
      have hbq := HOQ.out.size
      clear hr ho
      go_wp2_with (at_builtin; refine wpList_append_own _ rfl (.tmp 32) (.tmp 37) 22 rfl w.heap.size 9 i0 (.string ⟨#[]⟩) 1 16 Tryz.underlying22 hi0 hz0 hz1 hz2 rfl (by decide) (.slice A acc.length c) acc.length xs rfl ((HO2.out.alloc (.cells #[.string ⟨#[]⟩, .string ⟨#[73]⟩, .string ⟨#[74]⟩, .string ⟨#[78]⟩] 9)).alloc _) ⟨wQ.heap.size + 1, 0, none⟩ 1 1 [.string (⟨#[78]⟩)] rfl rfl ?c1k3 ?c2k3 ?c3k3 ?c4k3 ?c5k3 ?_)
      case c1k3 =>
       have := new_cells (wQ.alloc (.cells #[.string ⟨#[]⟩, .string ⟨#[73]⟩, .string ⟨#[74]⟩, .string ⟨#[78]⟩] 9)) [.string (⟨#[78]⟩)] 9
       simpa using this
      case c2k3 => intro u hu; simp at hu; subst hu; rfl
      case c3k3 => unfold maxLen; omega
      case c4k3 => omega
      case c5k3 => simp; omega
      intro v' w2 hown hgrow _
      obtain ⟨A', c', rfl⟩ := own_shape hown
      have HO3 := lhid hown
      have hge := own_lt ((HO2.out.alloc (.cells #[.string ⟨#[]⟩, .string ⟨#[73]⟩, .string ⟨#[74]⟩, .string ⟨#[78]⟩] 9)).alloc (.cells #[.string (⟨#[78]⟩)] 9))
      have HR3 := lhid (Rf.grown ((HRQ.out.alloc (.cells #[.string ⟨#[]⟩, .string ⟨#[73]⟩, .string ⟨#[74]⟩, .string ⟨#[78]⟩] 9)).alloc (.cells #[.string (⟨#[78]⟩)] 9)) hgrow (grown_stay hgrow ((HO2.out.alloc (.cells #[.string ⟨#[]⟩, .string ⟨#[73]⟩, .string ⟨#[74]⟩, .string ⟨#[78]⟩] 9)).alloc (.cells #[.string (⟨#[78]⟩)] 9)) (by decide)) (fun k hk => Nat.le_trans HLT.out.2 (hge k hk)))
      have HW3 := lhid (Only.grown ((HOQ.out.alloc (.cells #[.string ⟨#[]⟩, .string ⟨#[73]⟩, .string ⟨#[74]⟩, .string ⟨#[78]⟩] 9)).alloc (.cells #[.string (⟨#[78]⟩)] 9)) hgrow hge)
      clear hown hgrow hge
      go_wp2
      go_roundw
      case rel =>
       refine ⟨acc ++ [([78] : Bs)], _, A', c', xs ++ [.string (⟨#[78]⟩)], by simp, by simp, by simp; omega, lhid (by simpa using HO3.out), lhid (ListE.snoc (E := StrE w2) rfl HE.out), HR3, HW3, lhid ?_⟩
       rw [← HM.out, show n - acc.length = n - (acc ++ [([78] : Bs)]).length + 1 by simp; omega, tyLoop, if_neg (by rw [H0.out]; simp), HK.out]
       simp only []
       rfl
      case measure => simp [intOf]; omega
     ·go_wp2_with fail
      with_reducible refine (rnum_any ρ σ' 1 1 _ HR (by omega) (lhid rfl)).mono ?_
      rintro e wQ ⟨rfl, hr, ho⟩
      rw [HK.out] at hr ⊢
      have HRQ := lhid hr
      have HOQ := lhid (HW.out.trans ho)
      have HSQ := lhid (HR.out.stay ho)
      have HO2 := lhid (own_stay HO.out HSQ.out (by decide))
      have HE := lhid (HE1.out.imp fun a c => keepsStr tC _ _ a c HSQ.out)
      have hbq := HOQ.out.size
      clear hr ho
      obtain ⟨⟨t, φ⟩, htx⟩ : ∃ p, rTxt ρ.L 7 υ = p := ⟨_, rfl⟩
      have htl := rTxt_len (k := 7) (σ := υ) HRQ.out.good
      rw [htx] at htl
      have HTX := lhid htx
      clear htx
      go_wp2_with fail
      with_reducible refine (rtext_any ρ υ 7 7 _ HRQ (lhid rfl)).mono ?_
      rintro e wT ⟨rfl, hr, ho⟩
      rw [HTX.out] at hr ⊢
      have HST := lhid (HRQ.out.stay ho)
      have HOT := lhid (HOQ.out.trans ho)
      have HRT := lhid hr
      have HO2T := lhid (own_stay HO2.out HST.out (by decide))
      have HET := lhid (HE.out.imp fun a c => keepsStr tC _ _ a c HST.out)
      have hbt := HOT.out.size
      clear hr ho hbq
      go_wp2_with fail
      with_reducible refine (refOfT t _ htl).mono ?_
      rintro e wz ⟨rfl, rfl⟩
      go_wp2_with (at_builtin; refine wpList_append_own _ rfl (.tmp 39) (.tmp 43) 22 rfl w.heap.size 9 i0 (.string ⟨#[]⟩) 1 16 Tryz.underlying22 hi0 hz0 hz1 hz2 rfl (by decide) (.slice A acc.length c) acc.length xs rfl (HO2T.out.alloc _) ⟨wT.heap.size, 0, none⟩ 1 1 [.string (tx (ofL t))] rfl rfl ?c1k4 ?c2k4 ?c3k4 ?c4k4 ?c5k4 ?_)
      case c1k4 =>
       have := new_cells wT [.string (tx (ofL t))] 9
       simpa using this
      case c2k4 => intro u hu; simp at hu; subst hu; rfl
      case c3k4 => unfold maxLen; omega
      case c4k4 => omega
      case c5k4 => simp; omega
      intro v' w2 hown hgrow _
      obtain ⟨A', c', rfl⟩ := own_shape hown
      have HO3 := lhid hown
      have hge := own_lt (HO2T.out.alloc (.cells #[.string (tx (ofL t))] 9))
      have HR3 := lhid (Rf.grown (HRT.out.alloc (.cells #[.string (tx (ofL t))] 9)) hgrow (grown_stay hgrow (HO2T.out.alloc (.cells #[.string (tx (ofL t))] 9)) (by decide)) (fun k hk => Nat.le_trans HLT.out.2 (hge k hk)))
      have HW3 := lhid (Only.grown (HOT.out.alloc (.cells #[.string (tx (ofL t))] 9)) hgrow hge)
      clear hown hgrow hge
      go_wp2
      go_roundw
      case rel =>
       refine ⟨acc ++ [(ofL t)], _, A', c', xs ++ [.string (tx (ofL t))], by simp, by simp, by simp; omega, lhid (by simpa using HO3.out), lhid (ListE.snoc (E := StrE w2) rfl HET.out), HR3, HW3, lhid ?_⟩
       rw [← HM.out, show n - acc.length = n - (acc ++ [(ofL t)]).length + 1 by simp; omega, tyLoop, if_neg (by rw [H0.out]; simp), HK.out]
       simp only []
       rw [HTX.out]; rfl
      case measure => simp [intOf]; omega
   ·have t0 : ((σ'.1 : Int) == 0) = false := by rw [beq_eq_false_iff_ne]; omega
    have H0 := lhid h0
    clear h0
    go_wp2_with fail
    go_ret
    have hm2 := HM.out
    rw [show n - acc.length = n - acc.length - 1 + 1 by omega, tyLoop, if_pos H0.out] at hm2
    injection hm2 with e1 e2
    subst e1 e2
    exact ⟨_, rfl, ⟨xs, own_base HO.out (Nat.zero_le _), HE1.out⟩, HR.out, HW.out⟩
  ·have he : acc.length = n := by omega
   have hlt2 : ¬ (acc.length : Int) < n := by omega
   have HEN := lhid he
   clear he
   go_wp2_with fail
   go_ret
   have hm2 := HM.out
   rw [HEN.out, Nat.sub_self] at hm2
   injection hm2 with e1 e2
   subst e1 e2
   exact ⟨_, rfl, ⟨xs, own_base HO.out (Nat.zero_le _), HE1.out⟩, HR.out, HW.out⟩
end Go.Proofs.YtgihfcimngogfaaGreat
namespace Go.Proofs.YtgihfcimngogfaaGreat
open Go.RowKit Go
set_option linter.unusedVariables false
set_option maxHeartbeats 4000000 in
set_option maxRecDepth 100000 in
theorem rmember_bad (m : Bool) (ρ : Rc) (σ τ υ : Sg) (a d : Bs) (w : World) (h : Hid (Rf ρ σ w)) (H1 : Hid (rTxt ρ.L 1 σ = (a, τ))) (H2 : Hid (rTxt ρ.L 1 τ = (d, υ))) (h0 : υ.1 ≠ 0) :
  Calls Tryz.prog 52 #[.pointer (some ⟨ρ.M, 0, none⟩), .bool m] w (RO ρ υ (.tuple #[.string ⟨#[]⟩, .string ⟨#[]⟩]) w) := by
 have t0 : ((υ.1 : Int) != 0) = true := by rw [bne_iff_ne]; omega
 go_enter Tryz.func52, Tryz.ntmps52
 go_wp2_with fail
 with_reducible refine (rtext_any ρ σ 1 1 _ h (lhid rfl)).mono ?_
 rintro e w1 ⟨rfl, hr, ho⟩
 rw [H1.out] at hr ⊢
 have HR := lhid hr
 have HO := lhid ho
 clear hr ho
 go_wp2_with fail
 with_reducible refine (rtext_any ρ τ 1 1 _ HR (lhid rfl)).mono ?_
 rintro e w2 ⟨rfl, hr, ho⟩
 rw [H2.out] at hr ⊢
 have HR2 := lhid hr
 have HO2 := lhid (HO.out.trans ho)
 have c4 := hr.c4
 clear hr ho
 go_wp2_with fail
 go_ret2
 exact ⟨rfl, HR2.out, HO2.out⟩
set_option maxHeartbeats 4000000 in
set_option maxRecDepth 100000 in
theorem rmember_ttt (ρ : Rc) (σ τ υ : Sg) (a d : Bs) (w : World) (h : Hid (Rf ρ σ w)) (H1 : Hid (rTxt ρ.L 1 σ = (a, τ))) (H2 : Hid (rTxt ρ.L 1 τ = (d, υ))) (h0 : υ.1 = 0) (ha : a.length < 65536) (hd : d.length < 65536) (HN : Hid (nameB a true = true)) (HD : Hid ((metB d).isSome = true)) :
  Calls Tryz.prog 52 #[.pointer (some ⟨ρ.M, 0, none⟩), .bool true] w (RO ρ υ (.tuple #[.string (tx a), .string (tx d)]) w) := by
 have t0 : ((υ.1 : Int) != 0) = false := by rw [h0]; rfl
 clear h0
 go_enter Tryz.func52, Tryz.ntmps52
 go_wp2_with fail
 with_reducible refine (rtext_any ρ σ 1 1 _ h (lhid rfl)).mono ?_
 rintro e w1 ⟨rfl, hr, ho⟩
 rw [H1.out] at hr ⊢
 have HR := lhid hr
 have HO := lhid ho
 clear hr ho
 go_wp2_with fail
 with_reducible refine (rtext_any ρ τ 1 1 _ HR (lhid rfl)).mono ?_
 rintro e w2 ⟨rfl, hr, ho⟩
 rw [H2.out] at hr ⊢
 have HR2 := lhid hr
 have HO2 := lhid (HO.out.trans ho)
 have c4 := hr.c4
 clear hr ho
 go_wp2_with fail
 with_reducible refine (refNameT a true true _ HN ha).mono ?_
 rintro e wz ⟨rfl, rfl⟩
 go_wp2_with fail
 with_reducible refine (refMethodT d true _ HD hd).mono ?_
 rintro e w4 ⟨⟨v, t, rfl⟩, hb⟩
 have HR4 := lhid (HR2.out.below hb)
 have HO4 := lhid (HO2.out.trans (Below.only hb))
 clear hb
 go_wp2_with fail
 go_ret2
 exact ⟨rfl, HR4.out, HO4.out⟩
set_option maxHeartbeats 4000000 in
set_option maxRecDepth 100000 in
theorem rmember_ttf (ρ : Rc) (σ τ υ : Sg) (a d : Bs) (w : World) (h : Hid (Rf ρ σ w)) (H1 : Hid (rTxt ρ.L 1 σ = (a, τ))) (H2 : Hid (rTxt ρ.L 1 τ = (d, υ))) (h0 : υ.1 = 0) (ha : a.length < 65536) (hd : d.length < 65536) (HN : Hid (nameB a true = true)) (HD : Hid ((metB d).isSome = false)) :
  Calls Tryz.prog 52 #[.pointer (some ⟨ρ.M, 0, none⟩), .bool true] w (RO ρ (wrS 21 υ) (.tuple #[.string (tx a), .string (tx d)]) w) := by
 have t0 : ((υ.1 : Int) != 0) = false := by rw [h0]; rfl
 clear h0
 go_enter Tryz.func52, Tryz.ntmps52
 go_wp2_with fail
 with_reducible refine (rtext_any ρ σ 1 1 _ h (lhid rfl)).mono ?_
 rintro e w1 ⟨rfl, hr, ho⟩
 rw [H1.out] at hr ⊢
 have HR := lhid hr
 have HO := lhid ho
 clear hr ho
 go_wp2_with fail
 with_reducible refine (rtext_any ρ τ 1 1 _ HR (lhid rfl)).mono ?_
 rintro e w2 ⟨rfl, hr, ho⟩
 rw [H2.out] at hr ⊢
 have HR2 := lhid hr
 have HO2 := lhid (HO.out.trans ho)
 have c4 := hr.c4
 clear hr ho
 go_wp2_with fail
 with_reducible refine (refNameT a true true _ HN ha).mono ?_
 rintro e wz ⟨rfl, rfl⟩
 go_wp2_with fail
 with_reducible refine (refMethodT d false _ HD hd).mono ?_
 rintro e w4 ⟨⟨v, t, rfl⟩, hb⟩
 have HR4 := lhid (HR2.out.below hb)
 have HO4 := lhid (HO2.out.trans (Below.only hb))
 clear hb
 go_wp2_with fail
 with_reducible refine (rwrong_any ρ υ 21 21 (by decide) _ HR4 (lhid rfl)).mono ?_
 rintro e w5 ⟨rfl, hr, ho⟩
 have HR5 := lhid hr
 have HO5 := lhid (HO4.out.trans ho)
 clear hr ho
 go_wp2_with fail
 go_ret2
 exact ⟨rfl, HR5.out, HO5.out⟩
set_option maxHeartbeats 4000000 in
set_option maxRecDepth 100000 in
theorem rmember_tft (ρ : Rc) (σ τ υ : Sg) (a d : Bs) (w : World) (h : Hid (Rf ρ σ w)) (H1 : Hid (rTxt ρ.L 1 σ = (a, τ))) (H2 : Hid (rTxt ρ.L 1 τ = (d, υ))) (h0 : υ.1 = 0) (ha : a.length < 65536) (hd : d.length < 65536) (HN : Hid (nameB a true = false)) (HD : Hid ((metB d).isSome = true)) :
  Calls Tryz.prog 52 #[.pointer (some ⟨ρ.M, 0, none⟩), .bool true] w (RO ρ (wrS 20 υ) (.tuple #[.string (tx a), .string (tx d)]) w) := by
 have t0 : ((υ.1 : Int) != 0) = false := by rw [h0]; rfl
 clear h0
 go_enter Tryz.func52, Tryz.ntmps52
 go_wp2_with fail
 with_reducible refine (rtext_any ρ σ 1 1 _ h (lhid rfl)).mono ?_
 rintro e w1 ⟨rfl, hr, ho⟩
 rw [H1.out] at hr ⊢
 have HR := lhid hr
 have HO := lhid ho
 clear hr ho
 go_wp2_with fail
 with_reducible refine (rtext_any ρ τ 1 1 _ HR (lhid rfl)).mono ?_
 rintro e w2 ⟨rfl, hr, ho⟩
 rw [H2.out] at hr ⊢
 have HR2 := lhid hr
 have HO2 := lhid (HO.out.trans ho)
 have c4 := hr.c4
 clear hr ho
 go_wp2_with fail
 with_reducible refine (refNameT a true false _ HN ha).mono ?_
 rintro e wz ⟨rfl, rfl⟩
 go_wp2_with fail
 with_reducible refine (rwrong_any ρ υ 20 20 (by decide) _ HR2 (lhid rfl)).mono ?_
 rintro e w3 ⟨rfl, hr, ho⟩
 have HR3 := lhid hr
 have HO3 := lhid (HO2.out.trans ho)
 clear hr ho
 go_wp2_with fail
 with_reducible refine (refMethodT d true _ HD hd).mono ?_
 rintro e w4 ⟨⟨v, t, rfl⟩, hb⟩
 have HR4 := lhid (HR3.out.below hb)
 have HO4 := lhid (HO3.out.trans (Below.only hb))
 clear hb
 go_wp2_with fail
 go_ret2
 exact ⟨rfl, HR4.out, HO4.out⟩
set_option maxHeartbeats 4000000 in
set_option maxRecDepth 100000 in
theorem rmember_tff (ρ : Rc) (σ τ υ : Sg) (a d : Bs) (w : World) (h : Hid (Rf ρ σ w)) (H1 : Hid (rTxt ρ.L 1 σ = (a, τ))) (H2 : Hid (rTxt ρ.L 1 τ = (d, υ))) (h0 : υ.1 = 0) (ha : a.length < 65536) (hd : d.length < 65536) (HN : Hid (nameB a true = false)) (HD : Hid ((metB d).isSome = false)) :
  Calls Tryz.prog 52 #[.pointer (some ⟨ρ.M, 0, none⟩), .bool true] w (RO ρ (wrS 21 (wrS 20 υ)) (.tuple #[.string (tx a), .string (tx d)]) w) := by
 have t0 : ((υ.1 : Int) != 0) = false := by rw [h0]; rfl
 clear h0
 go_enter Tryz.func52, Tryz.ntmps52
 go_wp2_with fail
 with_reducible refine (rtext_any ρ σ 1 1 _ h (lhid rfl)).mono ?_
 rintro e w1 ⟨rfl, hr, ho⟩
 rw [H1.out] at hr ⊢
 have HR := lhid hr
 have HO := lhid ho
 clear hr ho
 go_wp2_with fail
 with_reducible refine (rtext_any ρ τ 1 1 _ HR (lhid rfl)).mono ?_
 rintro e w2 ⟨rfl, hr, ho⟩
 rw [H2.out] at hr ⊢
 have HR2 := lhid hr
 have HO2 := lhid (HO.out.trans ho)
 have c4 := hr.c4
 clear hr ho
 go_wp2_with fail
 with_reducible refine (refNameT a true false _ HN ha).mono ?_
 rintro e wz ⟨rfl, rfl⟩
 go_wp2_with fail
 with_reducible refine (rwrong_any ρ υ 20 20 (by decide) _ HR2 (lhid rfl)).mono ?_
 rintro e w3 ⟨rfl, hr, ho⟩
 have HR3 := lhid hr
 have HO3 := lhid (HO2.out.trans ho)
 clear hr ho
 go_wp2_with fail
 with_reducible refine (refMethodT d false _ HD hd).mono ?_
 rintro e w4 ⟨⟨v, t, rfl⟩, hb⟩
 have HR4 := lhid (HR3.out.below hb)
 have HO4 := lhid (HO3.out.trans (Below.only hb))
 clear hb
 go_wp2_with fail
 with_reducible refine (rwrong_any ρ (wrS 20 υ) 21 21 (by decide) _ HR4 (lhid rfl)).mono ?_
 rintro e w5 ⟨rfl, hr, ho⟩
 have HR5 := lhid hr
 have HO5 := lhid (HO4.out.trans ho)
 clear hr ho
 go_wp2_with fail
 go_ret2
 exact ⟨rfl, HR5.out, HO5.out⟩
set_option maxHeartbeats 4000000 in
set_option maxRecDepth 100000 in
theorem rmember_ftt (ρ : Rc) (σ τ υ : Sg) (a d : Bs) (w : World) (h : Hid (Rf ρ σ w)) (H1 : Hid (rTxt ρ.L 1 σ = (a, τ))) (H2 : Hid (rTxt ρ.L 1 τ = (d, υ))) (h0 : υ.1 = 0) (ha : a.length < 65536) (hd : d.length < 65536) (HN : Hid (nameB a false = true)) (q : Bool) (HD : Hid ((metB d).isSome = q)) (HT : Hid (typeB d = true)) :
  Calls Tryz.prog 52 #[.pointer (some ⟨ρ.M, 0, none⟩), .bool false] w (RO ρ υ (.tuple #[.string (tx a), .string (tx d)]) w) := by
 have t0 : ((υ.1 : Int) != 0) = false := by rw [h0]; rfl
 clear h0
 go_enter Tryz.func52, Tryz.ntmps52
 go_wp2_with fail
 with_reducible refine (rtext_any ρ σ 1 1 _ h (lhid rfl)).mono ?_
 rintro e w1 ⟨rfl, hr, ho⟩
 rw [H1.out] at hr ⊢
 have HR := lhid hr
 have HO := lhid ho
 clear hr ho
 go_wp2_with fail
 with_reducible refine (rtext_any ρ τ 1 1 _ HR (lhid rfl)).mono ?_
 rintro e w2 ⟨rfl, hr, ho⟩
 rw [H2.out] at hr ⊢
 have HR2 := lhid hr
 have HO2 := lhid (HO.out.trans ho)
 have c4 := hr.c4
 clear hr ho
 go_wp2_with fail
 with_reducible refine (refNameT a false true _ HN ha).mono ?_
 rintro e wz ⟨rfl, rfl⟩
 go_wp2_with fail
 with_reducible refine (refMethodT d q _ HD hd).mono ?_
 rintro e w4 ⟨⟨v, t, rfl⟩, hb⟩
 have HR4 := lhid (HR2.out.below hb)
 have HO4 := lhid (HO2.out.trans (Below.only hb))
 clear hb
 generalize (if q then (0 : Int) else 21) = ee
 go_wp2_with fail
 with_reducible refine (refTypeT d true _ HT hd).mono ?_
 rintro e wz ⟨rfl, rfl⟩
 go_wp2_with fail
 go_ret2
 exact ⟨rfl, HR4.out, HO4.out⟩
set_option maxHeartbeats 4000000 in
set_option maxRecDepth 100000 in
theorem rmember_ftf (ρ : Rc) (σ τ υ : Sg) (a d : Bs) (w : World) (h : Hid (Rf ρ σ w)) (H1 : Hid (rTxt ρ.L 1 σ = (a, τ))) (H2 : Hid (rTxt ρ.L 1 τ = (d, υ))) (h0 : υ.1 = 0) (ha : a.length < 65536) (hd : d.length < 65536) (HN : Hid (nameB a false = true)) (q : Bool) (HD : Hid ((metB d).isSome = q)) (HT : Hid (typeB d = false)) :
  Calls Tryz.prog 52 #[.pointer (some ⟨ρ.M, 0, none⟩), .bool false] w (RO ρ (wrS 21 υ) (.tuple #[.string (tx a), .string (tx d)]) w) := by
 have t0 : ((υ.1 : Int) != 0) = false := by rw [h0]; rfl
 clear h0
 go_enter Tryz.func52, Tryz.ntmps52
 go_wp2_with fail
 with_reducible refine (rtext_any ρ σ 1 1 _ h (lhid rfl)).mono ?_
 rintro e w1 ⟨rfl, hr, ho⟩
 rw [H1.out] at hr ⊢
 have HR := lhid hr
 have HO := lhid ho
 clear hr ho
 go_wp2_with fail
 with_reducible refine (rtext_any ρ τ 1 1 _ HR (lhid rfl)).mono ?_
 rintro e w2 ⟨rfl, hr, ho⟩
 rw [H2.out] at hr ⊢
 have HR2 := lhid hr
 have HO2 := lhid (HO.out.trans ho)
 have c4 := hr.c4
 clear hr ho
 go_wp2_with fail
 with_reducible refine (refNameT a false true _ HN ha).mono ?_
 rintro e wz ⟨rfl, rfl⟩
 go_wp2_with fail
 with_reducible refine (refMethodT d q _ HD hd).mono ?_
 rintro e w4 ⟨⟨v, t, rfl⟩, hb⟩
 have HR4 := lhid (HR2.out.below hb)
 have HO4 := lhid (HO2.out.trans (Below.only hb))
 clear hb
 generalize (if q then (0 : Int) else 21) = ee
 go_wp2_with fail
 with_reducible refine (refTypeT d false _ HT hd).mono ?_
 rintro e wz ⟨rfl, rfl⟩
 go_wp2_with fail
 with_reducible refine (rwrong_any ρ υ 21 21 (by decide) _ HR4 (lhid rfl)).mono ?_
 rintro e w5 ⟨rfl, hr, ho⟩
 have HR5 := lhid hr
 have HO5 := lhid (HO4.out.trans ho)
 clear hr ho
 go_wp2_with fail
 go_ret2
 exact ⟨rfl, HR5.out, HO5.out⟩
set_option maxHeartbeats 4000000 in
set_option maxRecDepth 100000 in
theorem rmember_fft (ρ : Rc) (σ τ υ : Sg) (a d : Bs) (w : World) (h : Hid (Rf ρ σ w)) (H1 : Hid (rTxt ρ.L 1 σ = (a, τ))) (H2 : Hid (rTxt ρ.L 1 τ = (d, υ))) (h0 : υ.1 = 0) (ha : a.length < 65536) (hd : d.length < 65536) (HN : Hid (nameB a false = false)) (q : Bool) (HD : Hid ((metB d).isSome = q)) (HT : Hid (typeB d = true)) :
  Calls Tryz.prog 52 #[.pointer (some ⟨ρ.M, 0, none⟩), .bool false] w (RO ρ (wrS 20 υ) (.tuple #[.string (tx a), .string (tx d)]) w) := by
 have t0 : ((υ.1 : Int) != 0) = false := by rw [h0]; rfl
 clear h0
 go_enter Tryz.func52, Tryz.ntmps52
 go_wp2_with fail
 with_reducible refine (rtext_any ρ σ 1 1 _ h (lhid rfl)).mono ?_
 rintro e w1 ⟨rfl, hr, ho⟩
 rw [H1.out] at hr ⊢
 have HR := lhid hr
 have HO := lhid ho
 clear hr ho
 go_wp2_with fail
 with_reducible refine (rtext_any ρ τ 1 1 _ HR (lhid rfl)).mono ?_
 rintro e w2 ⟨rfl, hr, ho⟩
 rw [H2.out] at hr ⊢
 have HR2 := lhid hr
 have HO2 := lhid (HO.out.trans ho)
 have c4 := hr.c4
 clear hr ho
 go_wp2_with fail
 with_reducible refine (refNameT a false false _ HN ha).mono ?_
 rintro e wz ⟨rfl, rfl⟩
 go_wp2_with fail
 with_reducible refine (rwrong_any ρ υ 20 20 (by decide) _ HR2 (lhid rfl)).mono ?_
 rintro e w3 ⟨rfl, hr, ho⟩
 have HR3 := lhid hr
 have HO3 := lhid (HO2.out.trans ho)
 clear hr ho
 go_wp2_with fail
 with_reducible refine (refMethodT d q _ HD hd).mono ?_
 rintro e w4 ⟨⟨v, t, rfl⟩, hb⟩
 have HR4 := lhid (HR3.out.below hb)
 have HO4 := lhid (HO3.out.trans (Below.only hb))
 clear hb
 generalize (if q then (0 : Int) else 21) = ee
 go_wp2_with fail
 with_reducible refine (refTypeT d true _ HT hd).mono ?_
 rintro e wz ⟨rfl, rfl⟩
 go_wp2_with fail
 go_ret2
 exact ⟨rfl, HR4.out, HO4.out⟩
set_option maxHeartbeats 4000000 in
set_option maxRecDepth 100000 in
theorem rmember_fff (ρ : Rc) (σ τ υ : Sg) (a d : Bs) (w : World) (h : Hid (Rf ρ σ w)) (H1 : Hid (rTxt ρ.L 1 σ = (a, τ))) (H2 : Hid (rTxt ρ.L 1 τ = (d, υ))) (h0 : υ.1 = 0) (ha : a.length < 65536) (hd : d.length < 65536) (HN : Hid (nameB a false = false)) (q : Bool) (HD : Hid ((metB d).isSome = q)) (HT : Hid (typeB d = false)) :
  Calls Tryz.prog 52 #[.pointer (some ⟨ρ.M, 0, none⟩), .bool false] w (RO ρ (wrS 21 (wrS 20 υ)) (.tuple #[.string (tx a), .string (tx d)]) w) := by
 have t0 : ((υ.1 : Int) != 0) = false := by rw [h0]; rfl
 clear h0
 go_enter Tryz.func52, Tryz.ntmps52
 go_wp2_with fail
 with_reducible refine (rtext_any ρ σ 1 1 _ h (lhid rfl)).mono ?_
 rintro e w1 ⟨rfl, hr, ho⟩
 rw [H1.out] at hr ⊢
 have HR := lhid hr
 have HO := lhid ho
 clear hr ho
 go_wp2_with fail
 with_reducible refine (rtext_any ρ τ 1 1 _ HR (lhid rfl)).mono ?_
 rintro e w2 ⟨rfl, hr, ho⟩
 rw [H2.out] at hr ⊢
 have HR2 := lhid hr
 have HO2 := lhid (HO.out.trans ho)
 have c4 := hr.c4
 clear hr ho
 go_wp2_with fail
 with_reducible refine (refNameT a false false _ HN ha).mono ?_
 rintro e wz ⟨rfl, rfl⟩
 go_wp2_with fail
 with_reducible refine (rwrong_any ρ υ 20 20 (by decide) _ HR2 (lhid rfl)).mono ?_
 rintro e w3 ⟨rfl, hr, ho⟩
 have HR3 := lhid hr
 have HO3 := lhid (HO2.out.trans ho)
 clear hr ho
 go_wp2_with fail
 with_reducible refine (refMethodT d q _ HD hd).mono ?_
 rintro e w4 ⟨⟨v, t, rfl⟩, hb⟩
 have HR4 := lhid (HR3.out.below hb)
 have HO4 := lhid (HO3.out.trans (Below.only hb))
 clear hb
 generalize (if q then (0 : Int) else 21) = ee
 go_wp2_with fail
 with_reducible refine (refTypeT d false _ HT hd).mono ?_
 rintro e wz ⟨rfl, rfl⟩
 go_wp2_with fail
 with_reducible refine (rwrong_any ρ (wrS 20 υ) 21 21 (by decide) _ HR4 (lhid rfl)).mono ?_
 rintro e w5 ⟨rfl, hr, ho⟩
 have HR5 := lhid hr
 have HO5 := lhid (HO4.out.trans ho)
 clear hr ho
 go_wp2_with fail
 go_ret2
 exact ⟨rfl, HR5.out, HO5.out⟩
theorem rmember_any (m : Bool) (ρ : Rc) (σ : Sg) (w : World) (h : Hid (Rf ρ σ w)) :
  Calls Tryz.prog 52 #[.pointer (some ⟨ρ.M, 0, none⟩), .bool m] w (RO ρ (rMem ρ.L m σ).2 (.tuple #[.string (tx (rMem ρ.L m σ).1.1), .string (tx (rMem ρ.L m σ).1.2)]) w) := by
 have ha := rTxt_len (k := 1) (σ := σ) h.out.good
 obtain ⟨⟨a, τ⟩, h1⟩ : ∃ p, rTxt ρ.L 1 σ = p := ⟨_, rfl⟩
 have hd := rTxt_len (k := 1) (σ := τ) h.out.good
 obtain ⟨⟨d, υ⟩, h2⟩ : ∃ p, rTxt ρ.L 1 τ = p := ⟨_, rfl⟩
 rw [h1] at ha
 rw [h2] at hd
 unfold rMem
 rw [h1]
 simp only []
 rw [h2]
 simp only []
 by_cases h0 : υ.1 = 0
 ·rw [if_neg (by rw [h0]; simp)]
  unfold memW
  cases m with
  | true =>
   cases hn : nameB a true <;> cases hm : (metB d).isSome
   ·simpa using rmember_tff ρ σ τ υ a d w h (lhid h1) (lhid h2) h0 ha hd (lhid hn) (lhid hm)
   ·simpa using rmember_tft ρ σ τ υ a d w h (lhid h1) (lhid h2) h0 ha hd (lhid hn) (lhid hm)
   ·simpa using rmember_ttf ρ σ τ υ a d w h (lhid h1) (lhid h2) h0 ha hd (lhid hn) (lhid hm)
   ·simpa using rmember_ttt ρ σ τ υ a d w h (lhid h1) (lhid h2) h0 ha hd (lhid hn) (lhid hm)
  | false =>
   cases hn : nameB a false <;> cases hm : typeB d
   ·simpa using rmember_fff ρ σ τ υ a d w h (lhid h1) (lhid h2) h0 ha hd (lhid hn) _ (lhid rfl) (lhid hm)
   ·simpa using rmember_fft ρ σ τ υ a d w h (lhid h1) (lhid h2) h0 ha hd (lhid hn) _ (lhid rfl) (lhid hm)
   ·simpa using rmember_ftf ρ σ τ υ a d w h (lhid h1) (lhid h2) h0 ha hd (lhid hn) _ (lhid rfl) (lhid hm)
   ·simpa using rmember_ftt ρ σ τ υ a d w h (lhid h1) (lhid h2) h0 ha hd (lhid hn) _ (lhid rfl) (lhid hm)
 ·rw [if_pos h0]
  exact rmember_bad m ρ σ τ υ a d w h (lhid h1) (lhid h2) h0
end Go.Proofs.YtgihfcimngogfaaGreat
