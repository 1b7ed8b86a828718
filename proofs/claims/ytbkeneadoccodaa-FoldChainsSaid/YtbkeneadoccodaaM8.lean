/- Texts of this claim, joined: CInsChk7, CInsChk8, CInsTells. -/
import Derived.Test.YtbkeneadoccodaaJCInsChk6
import Derived.Test.YtbkeneadoccodaaM3
import Derived.Laws.AppendOwnNone
import Derived.Test.YtbkeneadoccodaaM6
/- Contracts of rowsFit, Check, and law 10's holds. -/
namespace Go.Proofs.Ytbkeneadoccodaa
open Go.RowKit Go
set_option linter.unusedVariables false
set_option linter.unusedSimpArgs false
theorem rw_cells {P : Nat → Prop} {w : World} {A : Option Addr} {n cap : Nat} {l : List RwI} {i : Nat} {x : RwI} (h : RdX P 4 RwE w (.slice A n cap) l) (hi : l[i]? = some x) : ∃ g o, A = some ⟨g, o, none⟩ ∧
  w.cell? ⟨g, o + i * 4, none⟩ = some (.int .i64 x.fr) ∧ w.cell? ⟨g, o + i * 4 + 1, none⟩ = some (.int .i64 x.too) ∧ w.cell? ⟨g, o + i * 4 + 2, none⟩ = some (.int .i64 x.at_) ∧ w.cell? ⟨g, o + i * 4 + 3, none⟩ = some (.string (tx x.cls)) := by
 obtain ⟨g, o, cc, rfl, hP, rfl, hc⟩ := h.at' hi
 exact ⟨g, o, rfl, hc 0 _ rfl, hc 1 _ rfl, hc 2 _ rfl, hc 3 _ rfl⟩
theorem in_cells3 {P : Nat → Prop} {w : World} {A : Option Addr} {n cap : Nat} {l : List InI} {i : Nat} {x : InI} (h : RdX P 9 (InE P) w (.slice A n cap) l) (hi : l[i]? = some x) : ∃ g o, A = some ⟨g, o, none⟩ ∧ w.cell? ⟨g, o + i * 9, none⟩ = some (.int .i64 x.op) := by
 obtain ⟨g, o, v, e, h1, h2, h3, _⟩ := in_cells h hi
 exact ⟨g, o, e, h3⟩
set_option maxHeartbeats 4000000 in
set_option maxRecDepth 100000 in
theorem rowsFit_any {P : Nat → Prop} (f : FuI) (fa fb fd fe : Value) (w : World) (h : Hid (FuV P w f fa fb fd fe)) :
  Calls Try.prog 42 #[fuL fa fb f.ret fd fe] w fun e w' => e = .returned (.bool (rowsB f)) ∧ Below w.heap.size w w' := by
 obtain ⟨D, dcap, hD⟩ := h.out.d.shape
 subst hD
 obtain ⟨E, ecap, hE⟩ := h.out.e.shape
 subst hE
 have hdl := h.out.d.len
 have hel := h.out.e.len
 go_enter Try.func42, Try.ntmps42
 go_wp2_with fail
 go_loopw [12] (fun i wr => ∃ k : Nat, i = .int .i64 k ∧ k ≤ f.rows.length ∧ Hid (∀ (i : Nat) r, i < k → f.rows[i]? = some r → rowB f r = true) ∧ Hid (Below w.heap.size w wr) ∧ Hid (FBox wr w.heap.size fa fb f.ret (.slice D f.code.length dcap) (.slice E f.rows.length ecap))) (fun i _ => f.rows.length - (intOf i).toNat)
 case atStart => exact ⟨0, rfl, Nat.zero_le _, lhid (fun i z hi => absurd hi (by omega)), lhid ((Below.refl w.heap.size w).alloc (Nat.le_refl _) _), lhid (heap_alloc_new w _)⟩
 case round =>
  obtain ⟨k, rfl, hk', HP, HB, HF⟩ := hrel
  by_cases hlt : k < f.rows.length
  ·obtain ⟨x, hx⟩ : ∃ x, f.rows[k]? = some x := ⟨_, List.getElem?_eq_getElem hlt⟩
   obtain ⟨g, o, rfl, c0, c1, c2, c3⟩ := rw_cells (h.out.e.below (keptX_rw _) HB.out) hx
   have k3 : (k : Int) < f.rows.length := by omega
   have HBAD : rowB f x = false → Hid (rowsB f = false) := fun e => lhid (all_bad hx e)
   have HXX := lhid hx
   have HM : rowB f x = true → Hid (∀ (i : Nat) r, i < k + 1 → f.rows[i]? = some r → rowB f r = true) := fun ht => lhid (fun i z hi hz => by
    rcases Nat.lt_or_ge i k with h | h
    ·exact HP.out i z h hz
    ·have e : i = k := by omega
     subst e
     rw [← Option.some.inj (HXX.out.symm.trans hz)]
     exact ht)
   obtain ⟨p0, p1, p2, p3, p4⟩ := HF.out.cells
   have hlw : w.heap.size < wr.heap.size := heap_lt HF.out
   have hd := h.out.d.below (keptX_in _) HB.out
   have HB2 := lhid (HB.out.alloc HB.out.size (.cells #[.int .i64 x.fr, .int .i64 x.too, .int .i64 x.at_, .string (tx x.cls)] 52))
   have HF2 : Hid (FBox (wr.alloc (.cells #[.int .i64 x.fr, .int .i64 x.too, .int .i64 x.at_, .string (tx x.cls)] 52)) w.heap.size fa fb f.ret (.slice D f.code.length dcap) (.slice (some ⟨g, o, none⟩) f.rows.length ecap)) := lhid ((Below.heap_alloc _ _ _ hlw).trans HF.out)
   clear hx
   obtain ⟨y0, y1, y2, y3⟩ := x
   dsimp only at c0 c1 c2 c3 HB2 HF2
   have HRB : Hid (rowB f ⟨y0, y1, y2, y3⟩ = (decide (0 ≤ y0) && decide (y0 < y1) && decide (y1 ≤ f.code.length) && decide (0 ≤ y2) && decide (y2 < f.code.length) && opAt f.code y2 == 32)) := lhid rfl
   by_cases t0 : y0 < 0
   ·have HZ := HBAD (by rw [HRB.out, decide_eq_false (show ¬ 0 ≤ y0 by omega)]; rfl)
    clear hd HM HBAD
    go_wp2_with fail
    go_ret
    exact ⟨by rw [HZ.out]; rfl, HB2.out⟩
   by_cases t1 : y1 ≤ y0
   ·have HZ := HBAD (by rw [HRB.out, decide_eq_false (show ¬ y0 < y1 by omega)]; simp)
    clear hd HM HBAD
    go_wp2_with fail
    go_ret
    exact ⟨by rw [HZ.out]; rfl, HB2.out⟩
   by_cases t2 : (f.code.length : Int) < y1
   ·have HZ := HBAD (by rw [HRB.out, decide_eq_false (show ¬ y1 ≤ f.code.length by omega)]; simp)
    clear hd HM HBAD
    go_wp2_with fail
    go_ret
    exact ⟨by rw [HZ.out]; rfl, HB2.out⟩
   by_cases t3 : 0 ≤ y2 ∧ y2 < f.code.length
   ·obtain ⟨m, rfl⟩ : ∃ m : Nat, y2 = m := ⟨y2.toNat, by omega⟩
    obtain ⟨q, hq⟩ : ∃ q, f.code[m]? = some q := ⟨_, List.getElem?_eq_getElem (by omega)⟩
    obtain ⟨gd, od, rfl, b0⟩ := in_cells3 hd hq
    have b1 : gd < wr.heap.size := cell_lt b0
    have b2 : ¬ gd = wr.heap.size := by omega
    have HAT : Hid ((decide ((0 : Int) ≤ m) && decide ((m : Int) < (f.code.length : Int))) = true) := lhid (by simp [t3.2])
    have hop : opAt f.code (m : Int) = q.op := opAt_some hq
    have m1 : (m : Int) < f.code.length := t3.2
    have hv : decide (0 ≤ y0) = true ∧ decide (y0 < y1) = true ∧ decide (y1 ≤ (f.code.length : Int)) = true ∧ decide ((0 : Int) ≤ m) = true ∧ decide ((m : Int) < (f.code.length : Int)) = true := by simp; omega
    by_cases q32 : q.op = 32
    ·have q2 : (q.op == 32) = true := by rw [beq_iff_eq]; exact q32
     have HM2 := HM (by rw [HRB.out, hv.1, hv.2.1, hv.2.2.1, hv.2.2.2.1, hv.2.2.2.2, hop, q2]; rfl)
     clear hd HM HBAD hq hop hv t3 q2
     rw [q32] at b0
     clear q32
     go_wp2_with fail
     with_reducible refine (isAt_r _ _ true _ HAT).mono ?_
     rintro e w6 ⟨rfl, rfl⟩
     go_wp2_with fail
     go_roundw
     case rel => exact ⟨k + 1, by go_num, by omega, HM2, HB2, HF2⟩
     case measure => simp [intOf]; omega
    ·have q2 : (q.op == 32) = false := by rw [beq_eq_false_iff_ne]; exact q32
     have q3 : (q.op != 32) = true := by rw [bne, q2]; rfl
     have HZ := HBAD (by rw [HRB.out, hop, q2]; simp)
     clear hd HM HBAD hq hop hv t3 q32
     go_wp2_with fail
     with_reducible refine (isAt_r _ _ true _ HAT).mono ?_
     rintro e w6 ⟨rfl, rfl⟩
     go_wp2_with fail
     go_ret
     exact ⟨by rw [HZ.out]; rfl, HB2.out⟩
   ·have HAT : Hid ((decide (0 ≤ y2) && decide (y2 < (f.code.length : Int))) = false) := lhid (by rw [Bool.and_eq_false_iff, decide_eq_false_iff_not, decide_eq_false_iff_not]; omega)
    have HZ := HBAD (by
     rw [HRB.out]
     rcases Bool.and_eq_false_iff.1 HAT.out with e | e <;> rw [e] <;> simp)
    clear hd HM HBAD t3
    go_wp2_with fail
    with_reducible refine (isAt_r _ _ false _ HAT).mono ?_
    rintro e w6 ⟨rfl, rfl⟩
    go_wp2_with fail
    go_ret
    exact ⟨by rw [HZ.out]; rfl, HB2.out⟩
  ·have k3 : ¬ (k : Int) < f.rows.length := by omega
   have HC := lhid (all_of (p := rowB f) (l := f.rows) (fun i r hi hr => HP.out i r (by omega) hr))
   have HC2 : Hid (rowsB f = true) := HC
   go_wp2_with fail
   go_ret
   exact ⟨by rw [HC2.out]; rfl, HB.out⟩
end Go.Proofs.Ytbkeneadoccodaa
/- Contracts of Check, and of law 10's holds. -/
namespace Go.Proofs.Ytbkeneadoccodaa
open Go.RowKit Go
set_option linter.unusedVariables false
set_option linter.unusedSimpArgs false
theorem registersFit_r {P : Nat → Prop} (f : FuI) (fa fb fd fe : Value) (z : Bool) (w : World) (h : Hid (FuV P w f fa fb fd fe)) (hcap : Hid (∀ A n cap, fb = .slice A n cap → n ≤ cap ∧ cap ≤ maxLen)) (hz : Hid (regsB f = z)) :
  Calls Try.prog 40 #[fuL fa fb f.ret fd fe] w fun e w' => e = .returned (.bool z) ∧ Below w.heap.size w w' := by
 have := registersFit_any f fa fb fd fe w h hcap
 rwa [hz.out] at this
theorem codeFits_r {P : Nat → Prop} (f : FuI) (fa fb fd fe : Value) (z : Bool) (w : World) (h : Hid (FuV P w f fa fb fd fe)) (hk : Hid (KR f.regs)) (hq : Hid (FuQ f)) (hz : Hid (codeB f = z)) :
  Calls Try.prog 41 #[fuL fa fb f.ret fd fe] w fun e w' => e = .returned (.bool z) ∧ Below w.heap.size w w' := by
 have := codeFits_any f fa fb fd fe w h hk hq
 rwa [hz.out] at this
theorem rowsFit_r {P : Nat → Prop} (f : FuI) (fa fb fd fe : Value) (z : Bool) (w : World) (h : Hid (FuV P w f fa fb fd fe)) (hz : Hid (rowsB f = z)) :
  Calls Try.prog 42 #[fuL fa fb f.ret fd fe] w fun e w' => e = .returned (.bool z) ∧ Below w.heap.size w w' := by
 have := rowsFit_any f fa fb fd fe w h
 rwa [hz.out] at this
set_option maxHeartbeats 4000000 in
set_option maxRecDepth 100000 in
theorem check_any {P : Nat → Prop} (f : FuI) (fa fb fd fe : Value) (w : World) (h : Hid (FuV P w f fa fb fd fe)) (hq : Hid (FuQ f)) (hcap : Hid (∀ A n cap, fb = .slice A n cap → n ≤ cap ∧ cap ≤ maxLen)) :
  Calls Try.prog 17 #[fuL fa fb f.ret fd fe] w fun e w' => e = .returned (.int .i64 (chkN f)) ∧ Below w.heap.size w w' := by
 obtain ⟨z1, hz1⟩ : ∃ z, regsB f = z := ⟨_, rfl⟩
 obtain ⟨z2, hz2⟩ : ∃ z, codeB f = z := ⟨_, rfl⟩
 obtain ⟨z3, hz3⟩ : ∃ z, rowsB f = z := ⟨_, rfl⟩
 have H1 := lhid hz1
 have H2 := lhid hz2
 have H3 := lhid hz3
 have HC : Hid (chkN f = if z1 && z2 && z3 then 0 else 80) := lhid (by unfold chkN checkB; rw [hz1, hz2, hz3])
 have h1 := h.out.below ((Below.refl w.heap.size w).alloc (Nat.le_refl _) (.cells #[fa, fb, .int .i64 f.ret, fd, fe] 27))
 have HV1 := lhid h1
 clear hz1 hz2 hz3 h1
 cases z1 with
 | false =>
  go_enter Try.func17, Try.ntmps17
  go_wp2_with fail
  with_reducible refine (registersFit_r f fa fb fd fe false _ HV1 hcap H1).mono ?_
  rintro e w1 ⟨rfl, hb⟩
  have HB1 := lhid (((Below.refl w.heap.size w).alloc (Nat.le_refl _) _).trans (hb.mono (by simp)))
  clear hb
  go_wp2_with fail
  go_ret
  exact ⟨by rw [HC.out]; rfl, HB1.out⟩
 | true =>
  have HK := lhid (regsB_kr H1.out)
  cases z2 with
  | false =>
   go_enter Try.func17, Try.ntmps17
   go_wp2_with fail
   with_reducible refine (registersFit_r f fa fb fd fe true _ HV1 hcap H1).mono ?_
   rintro e w1 ⟨rfl, hb⟩
   have hb1 := ((Below.refl w.heap.size w).alloc (Nat.le_refl _) _).trans (hb.mono (by simp))
   have HB1 := lhid hb1
   have hF : FBox w1 w.heap.size fa fb f.ret fd fe := heap_keep (heap_alloc_new w _) hb
   obtain ⟨p0, p1, p2, p3, p4⟩ := hF.cells
   have HV2 := lhid (h.out.below hb1)
   clear hb hb1 hF
   go_wp2_with fail
   with_reducible refine (codeFits_r f fa fb fd fe false _ HV2 HK hq H2).mono ?_
   rintro e w2 ⟨rfl, hb⟩
   have HB2 := lhid (HB1.out.trans (hb.mono HB1.out.size))
   clear hb
   go_wp2_with fail
   go_ret
   exact ⟨by rw [HC.out]; rfl, HB2.out⟩
  | true =>
   cases z3
   all_goals
    go_enter Try.func17, Try.ntmps17
    go_wp2_with fail
    with_reducible refine (registersFit_r f fa fb fd fe true _ HV1 hcap H1).mono ?_
    rintro e w1 ⟨rfl, hb⟩
    have hb1 := ((Below.refl w.heap.size w).alloc (Nat.le_refl _) _).trans (hb.mono (by simp))
    have HB1 := lhid hb1
    have hF : FBox w1 w.heap.size fa fb f.ret fd fe := heap_keep (heap_alloc_new w _) hb
    obtain ⟨p0, p1, p2, p3, p4⟩ := hF.cells
    have HV2 := lhid (h.out.below hb1)
    have HF1 := lhid hF
    clear hb hb1 hF
    go_wp2_with fail
    with_reducible refine (codeFits_r f fa fb fd fe true _ HV2 HK hq H2).mono ?_
    rintro e w2 ⟨rfl, hb⟩
    have hb2 := HB1.out.trans (hb.mono HB1.out.size)
    have HB2 := lhid hb2
    have hF : FBox w2 w.heap.size fa fb f.ret fd fe := heap_keep HF1.out hb
    obtain ⟨p0, p1, p2, p3, p4⟩ := hF.cells
    have HV3 := lhid (h.out.below hb2)
    clear hb hb2 hF
    go_wp2_with fail
    with_reducible refine (rowsFit_r f fa fb fd fe _ _ HV3 H3).mono ?_
    rintro e w3 ⟨rfl, hb⟩
    have HB3 := lhid (HB2.out.trans (hb.mono HB2.out.size))
    clear hb
    go_wp2_with fail
    go_ret
    exact ⟨by rw [HC.out]; rfl, HB3.out⟩
theorem check_r {P : Nat → Prop} (f : FuI) (fa fb fd fe : Value) (c : Int) (w : World) (h : Hid (FuV P w f fa fb fd fe)) (hq : Hid (FuQ f)) (hcap : Hid (∀ A n cap, fb = .slice A n cap → n ≤ cap ∧ cap ≤ maxLen)) (hc : Hid (chkN f = c)) :
  Calls Try.prog 17 #[fuL fa fb f.ret fd fe] w fun e w' => e = .returned (.int .i64 c) ∧ Below w.heap.size w w' := by
 have := check_any f fa fb fd fe w h hq hcap
 rwa [hc.out] at this
theorem nil_cap : Hid (∀ A n cap, (Value.slice none 0 0) = .slice A n cap → n ≤ cap ∧ cap ≤ maxLen) := lhid (fun A n cap e => by
 injection e with e1 e2 e3
 subst e2 e3
 exact ⟨Nat.le_refl _, by decide⟩)
abbrev nop0 : InI := ⟨33, 0, 0, 0, 0, 0, 0, [], []⟩
abbrev ret0 : InI := ⟨30, 0, -1, 0, 0, 0, 0, [], []⟩
end Go.Proofs.Ytbkeneadoccodaa
/- The walk of law 10's InsTells. -/
namespace Go.Proofs.Ytbkeneadoccodaa
open Go.RowKit Go
set_option linter.unusedVariables false
set_option linter.unusedSimpArgs false
theorem rints_b {P Q : Nat → Prop} (v u : Value) (l : List Int) (w : World) (h1 : Hid (RdX P 1 NuE w v l)) (h2 : Hid (RdX Q 1 NuE w u l)) :
  Calls Try.prog 30 #[v, u] w fun e w' => e = .returned (.bool true) ∧ Below w.heap.size w w' := by
 refine (rints_any v u l l w h1 h2).mono ?_
 rintro e w1 ⟨rfl, n, rfl⟩
 exact ⟨ret_bool (by simp), Below.drewN' (Below.refl _ _) n⟩
end Go.Proofs.Ytbkeneadoccodaa
