/- Contracts of Check, and of law 10's holds. -/
import Derived.Test.YthaijdcgmcfpiaaInsChk7
namespace Go.Proofs.Ythaijdcgmcfpiaa
open Go.RowKit Go
set_option linter.unusedVariables false
set_option linter.unusedSimpArgs false

theorem registersFit_r {P : Nat → Prop} (f : FuI) (fa fb fd fe : Value) (z : Bool) (w : World) (h : Hid (FuV P w f fa fb fd fe)) (hcap : Hid (∀ A n cap, fb = .slice A n cap → n ≤ cap ∧ cap ≤ maxLen)) (hz : Hid (regsB f = z)) :
    Calls Try.prog 55 #[fuL fa fb f.ret fd fe] w fun e w' => e = .returned (.bool z) ∧ Below w.heap.size w w' := by
  have := registersFit_any f fa fb fd fe w h hcap
  rwa [hz.out] at this
theorem codeFits_r {P : Nat → Prop} (f : FuI) (fa fb fd fe : Value) (z : Bool) (w : World) (h : Hid (FuV P w f fa fb fd fe)) (hk : Hid (KR f.regs)) (hq : Hid (FuQ f)) (hz : Hid (codeB f = z)) :
    Calls Try.prog 56 #[fuL fa fb f.ret fd fe] w fun e w' => e = .returned (.bool z) ∧ Below w.heap.size w w' := by
  have := codeFits_any f fa fb fd fe w h hk hq
  rwa [hz.out] at this
theorem rowsFit_r {P : Nat → Prop} (f : FuI) (fa fb fd fe : Value) (z : Bool) (w : World) (h : Hid (FuV P w f fa fb fd fe)) (hz : Hid (rowsB f = z)) :
    Calls Try.prog 57 #[fuL fa fb f.ret fd fe] w fun e w' => e = .returned (.bool z) ∧ Below w.heap.size w w' := by
  have := rowsFit_any f fa fb fd fe w h
  rwa [hz.out] at this
set_option maxHeartbeats 4000000 in
set_option maxRecDepth 100000 in
theorem check_any {P : Nat → Prop} (f : FuI) (fa fb fd fe : Value) (w : World) (h : Hid (FuV P w f fa fb fd fe)) (hq : Hid (FuQ f)) (hcap : Hid (∀ A n cap, fb = .slice A n cap → n ≤ cap ∧ cap ≤ maxLen)) :
    Calls Try.prog 28 #[fuL fa fb f.ret fd fe] w fun e w' => e = .returned (.int .i64 (chkN f)) ∧ Below w.heap.size w w' := by
  obtain ⟨z1, hz1⟩ : ∃ z, regsB f = z := ⟨_, rfl⟩
  obtain ⟨z2, hz2⟩ : ∃ z, codeB f = z := ⟨_, rfl⟩
  obtain ⟨z3, hz3⟩ : ∃ z, rowsB f = z := ⟨_, rfl⟩
  have H1 := lhid hz1
  have H2 := lhid hz2
  have H3 := lhid hz3
  have HC : Hid (chkN f = if z1 && z2 && z3 then 0 else 80) := lhid (by unfold chkN checkB; rw [hz1, hz2, hz3])
  have h1 := h.out.below ((Below.refl w.heap.size w).alloc (Nat.le_refl _) (.cells #[fa, fb, .int .i64 f.ret, fd, fe] 34))
  have HV1 := lhid h1
  clear hz1 hz2 hz3 h1
  cases z1 with
  | false =>
    go_enter Try.func28, Try.ntmps28
    go_wp2_with fail
    with_reducible refine (registersFit_r f fa fb fd fe false _ HV1 hcap H1).mono ?_
    rintro e w1 ⟨rfl, hb⟩
    have HB1 := lhid (((Below.refl w.heap.size w).alloc (Nat.le_refl _) _).trans (hb.mono (by simp)))
    clear hb
    go_wp2_with fail
    go_ret
    exact ⟨by rw [HC.out]; rfl, HB1.out⟩
  | true =>
    have HK := lhid (regsB_kr H1.out)
    cases z2 with
    | false =>
      go_enter Try.func28, Try.ntmps28
      go_wp2_with fail
      with_reducible refine (registersFit_r f fa fb fd fe true _ HV1 hcap H1).mono ?_
      rintro e w1 ⟨rfl, hb⟩
      have hb1 := ((Below.refl w.heap.size w).alloc (Nat.le_refl _) _).trans (hb.mono (by simp))
      have HB1 := lhid hb1
      have hF : FBox w1 w.heap.size fa fb f.ret fd fe := heap_keep (heap_alloc_new w _) hb
      obtain ⟨p0, p1, p2, p3, p4⟩ := hF.cells
      have HV2 := lhid (h.out.below hb1)
      clear hb hb1 hF
      go_wp2_with fail
      with_reducible refine (codeFits_r f fa fb fd fe false _ HV2 HK hq H2).mono ?_
      rintro e w2 ⟨rfl, hb⟩
      have HB2 := lhid (HB1.out.trans (hb.mono HB1.out.size))
      clear hb
      go_wp2_with fail
      go_ret
      exact ⟨by rw [HC.out]; rfl, HB2.out⟩
    | true =>
      cases z3
      all_goals
        go_enter Try.func28, Try.ntmps28
        go_wp2_with fail
        with_reducible refine (registersFit_r f fa fb fd fe true _ HV1 hcap H1).mono ?_
        rintro e w1 ⟨rfl, hb⟩
        have hb1 := ((Below.refl w.heap.size w).alloc (Nat.le_refl _) _).trans (hb.mono (by simp))
        have HB1 := lhid hb1
        have hF : FBox w1 w.heap.size fa fb f.ret fd fe := heap_keep (heap_alloc_new w _) hb
        obtain ⟨p0, p1, p2, p3, p4⟩ := hF.cells
        have HV2 := lhid (h.out.below hb1)
        have HF1 := lhid hF
        clear hb hb1 hF
        go_wp2_with fail
        with_reducible refine (codeFits_r f fa fb fd fe true _ HV2 HK hq H2).mono ?_
        rintro e w2 ⟨rfl, hb⟩
        have hb2 := HB1.out.trans (hb.mono HB1.out.size)
        have HB2 := lhid hb2
        have hF : FBox w2 w.heap.size fa fb f.ret fd fe := heap_keep HF1.out hb
        obtain ⟨p0, p1, p2, p3, p4⟩ := hF.cells
        have HV3 := lhid (h.out.below hb2)
        clear hb hb2 hF
        go_wp2_with fail
        with_reducible refine (rowsFit_r f fa fb fd fe _ _ HV3 H3).mono ?_
        rintro e w3 ⟨rfl, hb⟩
        have HB3 := lhid (HB2.out.trans (hb.mono HB2.out.size))
        clear hb
        go_wp2_with fail
        go_ret
        exact ⟨by rw [HC.out]; rfl, HB3.out⟩
theorem check_r {P : Nat → Prop} (f : FuI) (fa fb fd fe : Value) (c : Int) (w : World) (h : Hid (FuV P w f fa fb fd fe)) (hq : Hid (FuQ f)) (hcap : Hid (∀ A n cap, fb = .slice A n cap → n ≤ cap ∧ cap ≤ maxLen)) (hc : Hid (chkN f = c)) :
    Calls Try.prog 28 #[fuL fa fb f.ret fd fe] w fun e w' => e = .returned (.int .i64 c) ∧ Below w.heap.size w w' := by
  have := check_any f fa fb fd fe w h hq hcap
  rwa [hc.out] at this
/-- A function of one instruction, written out. -/
def oneF (x : InI) : FuI := ⟨[], [], 0, [x], []⟩
theorem one_new (w : World) (x : InI) (cs : Array Value) (T : TypeId) (hx : x.args = []) (hr : x.ref = []) (hcs : cs = #[.int .i64 x.op, .int .i64 x.dst, .int .i64 x.a, .int .i64 x.b, .int .i64 x.c, .int .i64 x.num, .int .i64 x.too, .string (tx []), .slice none 0 0]) (W : World) (g : Nat) (hW : W.heap[g]? = some (.cells cs T (0, 0))) :
    FuV Tru W (oneF x) (.slice none 0 0) (.slice none 0 0) (.slice (some ⟨g, 0, none⟩) 1 1) (.slice none 0 0) := by
  refine ⟨rdX_nil _ _ _ _ _ _ (fun _ => rfl), rdX_nil _ _ _ _ _ _ (fun _ => rfl), ⟨_, 1, rfl, fun e => (by cases e), by simp [oneF], fun i a hi => ?_⟩, rdX_nil _ _ _ _ _ _ (fun _ => rfl)⟩
  cases i with
  | succ i => simp [oneF] at hi
  | zero =>
    simp [oneF] at hi
    subst hi
    refine ⟨g, 0, cs.toList, rfl, trivial, ⟨.slice none 0 0, by rw [hcs, hr], by rw [hx]; exact rdX_nil _ _ _ _ _ _ (fun _ => rfl)⟩, fun j u hj => ?_⟩
    refine heap_cell hW ?_
    simpa using hj
theorem nil_cap : Hid (∀ A n cap, (Value.slice none 0 0) = .slice A n cap → n ≤ cap ∧ cap ≤ maxLen) := lhid (fun A n cap e => by
  injection e with e1 e2 e3
  subst e2 e3
  exact ⟨Nat.le_refl _, by decide⟩)
abbrev nop0 : InI := ⟨33, 0, 0, 0, 0, 0, 0, [], []⟩
abbrev ret0 : InI := ⟨30, 0, -1, 0, 0, 0, 0, [], []⟩
abbrev sto0 : InI := ⟨14, 0, 1, 2, 3, 0, 0, [], []⟩
abbrev cal0 : InI := ⟨23, -1, 0, 0, 0, 0, 0, [], []⟩
theorem chk_nop : chkN (oneF nop0) = 80 := by decide +kernel
theorem chk_ret : chkN (oneF ret0) = 0 := by decide +kernel
theorem fq_one (x : InI) (h : I64 x.num) (hr : x.ref = []) : FuQ (oneF x) := ⟨fun y hy => by simp [oneF] at hy; subst hy; exact h, fun y hy => by simp [oneF] at hy; subst hy; rw [hr]; exact Nat.zero_le _⟩
theorem check_nop (w : World) : Calls Try.prog 28 #[.agg #[.slice none 0 0, .slice none 0 0, .int .i64 0, .slice (some ⟨w.heap.size, 0, none⟩) 1 1, .slice none 0 0]] (w.alloc (.cells #[.int .i64 33, .int .i64 0, .int .i64 0, .int .i64 0, .int .i64 0, .int .i64 0, .int .i64 0, .string ⟨#[]⟩, .slice none 0 0] 24)) fun e w' => e = .returned (.int .i64 80) ∧ Below w.heap.size w w' := by
  refine (check_r (P := Tru) (oneF nop0) (.slice none 0 0) (.slice none 0 0) (.slice (some ⟨w.heap.size, 0, none⟩) 1 1) (.slice none 0 0) 80 (w.alloc (.cells #[.int .i64 33, .int .i64 0, .int .i64 0, .int .i64 0, .int .i64 0, .int .i64 0, .int .i64 0, .string ⟨#[]⟩, .slice none 0 0] 24)) (lhid (one_new w nop0 #[.int .i64 33, .int .i64 0, .int .i64 0, .int .i64 0, .int .i64 0, .int .i64 0, .int .i64 0, .string ⟨#[]⟩, .slice none 0 0] 24 rfl rfl rfl _ _ (heap_alloc_new w _))) (lhid (fq_one nop0 (by unfold I64; decide) rfl)) nil_cap (lhid chk_nop)).mono ?_
  rintro e w1 ⟨rfl, hb⟩
  exact ⟨rfl, ((Below.refl w.heap.size w).alloc (Nat.le_refl _) _).trans (hb.mono (by simp))⟩
theorem check_ret (w : World) : Calls Try.prog 28 #[.agg #[.slice none 0 0, .slice none 0 0, .int .i64 0, .slice (some ⟨w.heap.size, 0, none⟩) 1 1, .slice none 0 0]] (w.alloc (.cells #[.int .i64 30, .int .i64 0, .int .i64 (-1), .int .i64 0, .int .i64 0, .int .i64 0, .int .i64 0, .string ⟨#[]⟩, .slice none 0 0] 24)) fun e w' => e = .returned (.int .i64 0) ∧ Below w.heap.size w w' := by
  refine (check_r (P := Tru) (oneF ret0) (.slice none 0 0) (.slice none 0 0) (.slice (some ⟨w.heap.size, 0, none⟩) 1 1) (.slice none 0 0) 0 (w.alloc (.cells #[.int .i64 30, .int .i64 0, .int .i64 (-1), .int .i64 0, .int .i64 0, .int .i64 0, .int .i64 0, .string ⟨#[]⟩, .slice none 0 0] 24)) (lhid (one_new w ret0 #[.int .i64 30, .int .i64 0, .int .i64 (-1), .int .i64 0, .int .i64 0, .int .i64 0, .int .i64 0, .string ⟨#[]⟩, .slice none 0 0] 24 rfl rfl rfl _ _ (heap_alloc_new w _))) (lhid (fq_one ret0 (by unfold I64; decide) rfl)) nil_cap (lhid chk_ret)).mono ?_
  rintro e w1 ⟨rfl, hb⟩
  exact ⟨rfl, ((Below.refl w.heap.size w).alloc (Nat.le_refl _) _).trans (hb.mono (by simp))⟩
set_option maxHeartbeats 4000000 in
set_option maxRecDepth 100000 in
theorem holds_any (w : World) : Calls Try.prog 12 #[] w fun e w' => e = .returned (.bool true) ∧ Below w.heap.size w w' := by
  have hn := tx_nil
  have HU : Hid (∀ w, Calls Try.prog 14 #[inL 14 0 1 2 3 0 0 [] (.slice none 0 0)] w fun e w' => ∃ v', e = .returned v' ∧ OwN w' w.heap.size v' [1, 2, 3] ∧ Below w.heap.size w w') := lhid (fun w => uses_any (P := Tru) sto0 (.slice none 0 0) w (lhid (rdX_nil _ _ _ _ _ _ (fun _ => rfl))) (lhid (by decide)))
  have HD : Hid (∀ w, Calls Try.prog 16 #[inL 23 (-1) 0 0 0 0 0 [] (.slice none 0 0)] w fun e w' => e = .returned (.int .i64 (-1)) ∧ Below w.heap.size w w') := lhid (fun w => def_any cal0 (.slice none 0 0) w)
  unfold inL at HU HD
  rw [hn] at HU HD
  go_enter Try.func12, Try.ntmps12
  go_wp2_with fail
  with_reducible refine (HU.out _).mono ?_
  rintro e w1 ⟨v', rfl, ho, hb⟩
  have HB1 := lhid hb
  obtain ⟨A1, q1, rfl⟩ := own_shape ho
  obtain ⟨g, o, rfl, _, c2⟩ := rd_cell (i := 2) (ho.rd (by decide)) rfl
  clear ho hb
  go_wp2_with fail
  with_reducible refine (HD.out _).mono ?_
  rintro e w2 ⟨rfl, hb⟩
  have HB2 := lhid (HB1.out.trans (hb.mono HB1.out.size))
  clear hb c2
  go_wp2_with fail
  with_reducible refine (check_nop w2).mono ?_
  rintro e w3 ⟨rfl, hb⟩
  have HB3 := lhid (HB2.out.trans (hb.mono HB2.out.size))
  clear hb
  go_wp2_with fail
  with_reducible refine (check_ret w3).mono ?_
  rintro e w4 ⟨rfl, hb⟩
  have HB4 := lhid (HB3.out.trans (hb.mono HB3.out.size))
  clear hb
  go_wp2_with fail
  go_ret
  exact ⟨rfl, HB4.out⟩
end Go.Proofs.Ythaijdcgmcfpiaa
