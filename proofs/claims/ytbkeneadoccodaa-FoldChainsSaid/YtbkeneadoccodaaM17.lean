/- Texts of this claim, joined: CFlwSet, CFolForm, CFolForms, CFolWays0, CFolWays, CFolCh0. -/
import Derived.Test.YtbkeneadoccodaaJCFlwReads
import Derived.Test.YtbkeneadoccodaaM15
import Derived.Test.YtbkeneadoccodaaM13
import Derived.Test.YtbkeneadoccodaaM14
/- Is each register written ahead of all that reads it: the program's Set. -/
namespace Go.Proofs.Ytbkeneadoccodaa
open Go.RowKit Go
set_option linter.unusedVariables false
set_option linter.unusedSimpArgs false
def RdUn (f : FuI) (r : Nat) : Prop := ((r : Nat) : Int) ∉ f.params ∧ ∃ i x, f.code[i]? = some x ∧ ((r : Nat) : Int) ∈ usesI x ∧ UnR f ((r : Nat) : Int) i
def SetN (f : FuI) : Prop := chkN f = 0 ∧ ∀ r : Nat, r < f.regs.length → ¬ RdUn f r
def SetOut (f : FuI) (w : World) (e : Ending) (w' : World) : Prop := ∃ z : Bool, e = .returned (.bool z) ∧ (z = true ↔ SetN f) ∧ Below w.heap.size w w'
theorem chk_sizes {f : FuI} (h : chkN f = 0) : f.regs.length ≤ 20000 ∧ f.code.length ≤ 20000 ∧ ∀ r ∈ f.params, 0 ≤ r ∧ r < f.regs.length := by
 unfold chkN checkB at h
 cases h1 : (regsB f && codeB f && rowsB f) with
 | false => rw [h1] at h; simp at h
 | true =>
  simp only [Bool.and_eq_true] at h1
  have h2 := h1.1.1
  have h3 := h1.1.2
  unfold regsB at h2
  unfold codeB at h3
  simp only [Bool.and_eq_true, decide_eq_true_eq, List.all_eq_true, List.mem_range] at h2 h3
  refine ⟨h2.1.1.1.1, h3.1.1.2, fun r hr => ?_⟩
  obtain ⟨i, hi, rfl⟩ := List.getElem_of_mem hr
  have h4 := h2.2 i hi
  unfold parB at h4
  rw [List.getElem?_eq_getElem hi] at h4
  simp only [inB, Bool.and_eq_true, decide_eq_true_eq] at h4
  exact h4.1
theorem webOf_n {P : Nat → Prop} (f : FuI) (n : Nat) (hn : f.code.length = n) (fa fb fd fe : Value) (w : World) (h : Hid (FuV P w f fa fb fd fe)) (hcl : Hid (f.code.length * 96 ≤ 140737488355328)) :
  Calls Try.prog 32 #[fuL fa fb f.ret fd fe] w fun e w' => ∃ gn gs : Nat, e = .returned (.agg #[fa, fb, .int .i64 f.ret, fd, fe, .slice (some ⟨gn, 0, none⟩) n n, .slice (some ⟨gs, 0, none⟩) n n]) ∧ w.heap.size ≤ gn ∧ w.heap.size ≤ gs ∧ LstB w' gn n w.heap.size (fun i => nextL f i) n ∧ NumB w' gs n (strN f.rows) n ∧ Below w.heap.size w w' := by
 subst hn
 exact webOf_any f fa fb fd fe w h hcl
theorem reads_n {P : Nat → Prop} (f : FuI) (n R : Nat) (hn : f.code.length = n) (hR : f.regs.length = R) (fa fb fd fe : Value) (gn gs F : Nat) (w : World) (h : Hid (FuV P w f fa fb fd fe)) (hcl : Hid ((f.code.length + 1) * 1024 ≤ 140737488355328)) (hrn : Hid (RwN f.rows)) (hrl : Hid (f.rows.length * 8 ≤ 140737488355328)) (hLn : Hid (LstB w gn n 0 (fun i => nextL f i) n)) (hSn : Hid (NumB w gs n (strN f.rows) n))
  (hF : Hid (F < R)) (hl : Hid (R ≤ 1099511627776)) (hp : Hid (∀ r ∈ f.params, I64 r)) (hI : Hid (∀ x ∈ f.code, I64 (defI x) ∧ (∀ u ∈ usesI x, I64 u) ∧ x.args.length * 8 ≤ 140737488355328 ∧ (usesI x).length * 8 ≤ 140737488355328)) :
  Calls Try.prog 33 #[.agg #[fa, fb, .int .i64 f.ret, fd, fe, .slice (some ⟨gn, 0, none⟩) n n, .slice (some ⟨gs, 0, none⟩) n n], .int .i64 (F : Int)] w fun e w' => ∃ z : Bool, e = .returned (.bool z) ∧ (z = true ↔ ∃ r, F ≤ r ∧ r < F + 64 ∧ r < R ∧ RdUn f r) ∧ Below w.heap.size w w' := by
 subst hn hR
 refine (reads_c f fa fb fd fe gn gs F w h hcl hrn hrl hLn hSn hF hl hp hI).mono ?_
 rintro e w1 ⟨z, rfl, hz, hb⟩
 refine ⟨z, rfl, hz.trans ⟨?_, ?_⟩, hb⟩
 ·rintro ⟨b, h1, h2, h3, h4⟩
  exact ⟨F + b, by omega, by omega, h2, h3, h4⟩
 ·rintro ⟨r, h1, h2, h3, h4, h5⟩
  obtain ⟨b, rfl⟩ : ∃ b, r = F + b := ⟨r - F, by omega⟩
  exact ⟨b, by omega, h3, h4, h5⟩
set_option maxHeartbeats 8000000 in
set_option maxRecDepth 100000 in
theorem set_any {P : Nat → Prop} (f : FuI) (fa fb fd fe : Value) (w : World) (h : Hid (FuV P w f fa fb fd fe)) (hq : Hid (FuQ f)) (hcap : Hid (∀ A n cap, fb = .slice A n cap → n ≤ cap ∧ cap ≤ maxLen)) (hcl : Hid ((f.code.length + 1) * 1024 ≤ 140737488355328)) (hrn : Hid (RwN f.rows)) (hrl : Hid (f.rows.length * 8 ≤ 140737488355328)) (hI : Hid (∀ x ∈ f.code, I64 (defI x) ∧ (∀ u ∈ usesI x, I64 u) ∧ x.args.length * 8 ≤ 140737488355328 ∧ (usesI x).length * 8 ≤ 140737488355328)) :
  Calls Try.prog 13 #[fuL fa fb f.ret fd fe] w fun e w' => SetOut f w e w' := by
 obtain ⟨FA, ac, hFA⟩ := h.out.a.shape
 subst hFA
 obtain ⟨FB, bc, hFB⟩ := h.out.b.shape
 subst hFB
 obtain ⟨D, dcap, hD⟩ := h.out.d.shape
 subst hD
 obtain ⟨E, ecap, hE⟩ := h.out.e.shape
 subst hE
 obtain ⟨n, hn⟩ : ∃ n, f.code.length = n := ⟨_, rfl⟩
 obtain ⟨R, hR⟩ : ∃ R, f.regs.length = R := ⟨_, rfl⟩
 have HN := lhid hn
 have HR := lhid hR
 have hf2 := h.out
 rw [hn, hR] at hf2 ⊢
 have HFU := lhid hf2
 clear hn hf2 h hR
 obtain ⟨c, hc⟩ : ∃ c, chkN f = c := ⟨_, rfl⟩
 have HC := lhid hc
 clear hc
 go_enter Try.func13, Try.ntmps13
 go_wp2_with fail
 generalize hW : World.alloc _ _ = w0
 obtain ⟨B0, hB0⟩ : ∃ B, B = w.heap.size := ⟨_, rfl⟩
 have hb0 : Below B0 w w0 := by rw [← hW, hB0]; exact (Below.refl _ _).alloc (Nat.le_refl _) _
 have hF0 : FBox w0 B0 (.slice FA R ac) (.slice FB f.params.length bc) f.ret (.slice D n dcap) (.slice E f.rows.length ecap) := by rw [← hW, hB0]; exact heap_alloc_new w _
 rw [← hB0]
 have HB0 := lhid hB0
 have HF0 := lhid hF0
 have HBw := lhid hb0
 have HU0 := lhid (HFU.out.below (by rw [← hB0]; exact hb0))
 obtain ⟨p0, p1, p2, p3, p4⟩ := hF0.cells
 clear hW hb0 hF0 hB0
 with_reducible refine (check_r f _ _ _ _ c w0 HU0 hq hcap HC).mono ?_
 rintro e w1 ⟨rfl, hb⟩
 have HF1 : Hid (FBox w1 B0 (.slice FA R ac) (.slice FB f.params.length bc) f.ret (.slice D n dcap) (.slice E f.rows.length ecap)) := lhid (heap_keep HF0.out hb)
 have HB1 : Hid (Below B0 w w1) := lhid (HBw.out.trans (hb.mono (by have := heap_lt HF0.out; omega)))
 have HU1 := lhid (HFU.out.below (by rw [← HB0.out]; exact HB1.out))
 clear hb HF0 HBw HU0 p0 p1 p2 p3 p4
 obtain ⟨p0, p1, p2, p3, p4⟩ := HF1.out.cells
 by_cases hc0 : c = 0
 ·have hcb : (c != 0) = false := by rw [hc0]; rfl
  have HC0 : Hid (chkN f = 0) := lhid (HC.out.trans hc0)
  clear hc0
  go_wp2_with fail
  with_reducible refine (webOf_n f n HN.out _ _ _ _ w1 HU1 (lhid (by have := hcl.out; omega))).mono ?_
  rintro e w2 ⟨gn, gs, rfl, hgn, hgs, hl, hs, hb⟩
  have HF2 : Hid (FBox w2 B0 (.slice FA R ac) (.slice FB f.params.length bc) f.ret (.slice D n dcap) (.slice E f.rows.length ecap)) := lhid (heap_keep HF1.out hb)
  have HB2 : Hid (Below B0 w w2) := lhid (HB1.out.trans (hb.mono (by have := heap_lt HF1.out; omega)))
  have HL := lhid (hl.base (Nat.zero_le _))
  have HS := lhid hs
  clear hb hgn hgs hl hs HF1 HB1 HU1 p0 p1 p2 p3 p4
  go_wp2_with fail
  generalize hW : World.alloc _ _ = w3
  obtain ⟨WB, hWB⟩ : ∃ WB, WB = w2.heap.size := ⟨_, rfl⟩
  have hb3 : Below w2.heap.size w2 w3 := by rw [← hW]; exact (Below.refl _ _).alloc (Nat.le_refl _) _
  have HW3 : Hid (WBox w3 WB (.slice FA R ac) (.slice FB f.params.length bc) f.ret (.slice D n dcap) (.slice E f.rows.length ecap) (.slice (some ⟨gn, 0, none⟩) n n) (.slice (some ⟨gs, 0, none⟩) n n)) := lhid (by rw [← hW, hWB]; exact heap_alloc_new w2 _)
  rw [← hWB]
  have HF3 : Hid (FBox w3 B0 (.slice FA R ac) (.slice FB f.params.length bc) f.ret (.slice D n dcap) (.slice E f.rows.length ecap)) := lhid (heap_keep HF2.out hb3)
  have HB3 : Hid (Below B0 w w3) := lhid (HB2.out.trans (hb3.mono (by have := heap_lt HF2.out; omega)))
  have HL3 := lhid (HL.out.below hb3)
  have HS3 := lhid (HS.out.of (hb3.block gs HS.out.lt))
  have HRL : Hid (R ≤ 20000) := lhid (by rw [← HR.out]; exact (chk_sizes HC0.out).1)
  have HP : Hid (∀ r ∈ f.params, I64 r) := lhid (fun r hr => by have := (chk_sizes HC0.out).2.2 r hr; have := (chk_sizes HC0.out).1; unfold I64; omega)
  clear hb3 hW hWB HF2 HB2 HL HS
  go_loopg [4] (R + 1) (fun g s wr => ∃ F : Nat, g = R + 1 - F ∧ s = .int .i64 F ∧ F ≤ R + 64 ∧ Hid (∀ r, r < F → r < R → ¬ RdUn f r) ∧ Hid (Below w3.heap.size w3 wr))
  case atStart => exact ⟨0, by omega, rfl, by omega, lhid (fun r hr => by omega), lhid (Below.refl _ _)⟩
  case round =>
   obtain ⟨F, rfl, rfl, hF, HNO, HBr⟩ := hrel
   have hB0s : B0 ≤ w3.heap.size := by have := heap_lt HF3.out; omega
   have hBq : Below B0 w wr := HB3.out.trans (HBr.out.mono hB0s)
   have hF4 : FBox wr B0 (.slice FA R ac) (.slice FB f.params.length bc) f.ret (.slice D n dcap) (.slice E f.rows.length ecap) := heap_keep HF3.out HBr.out
   obtain ⟨p0, p1, p2, p3, p4⟩ := hF4.cells
   have hW4 : WBox wr WB (.slice FA R ac) (.slice FB f.params.length bc) f.ret (.slice D n dcap) (.slice E f.rows.length ecap) (.slice (some ⟨gn, 0, none⟩) n n) (.slice (some ⟨gs, 0, none⟩) n n) := heap_keep HW3.out HBr.out
   obtain ⟨q0, q1, q2, q3, q4, q5, q6⟩ := hW4.cells
   have HBq := lhid hBq
   have HUr := lhid (HFU.out.below (by rw [← HB0.out]; exact hBq))
   clear hB0s hBq hF4 hW4
   have hrl2 := HRL.out
   have hwf : wrap64 ((F : Int) + 64) = ((F + 64 : Nat) : Int) := by rw [IntWalk.wrap64_in _ (by omega)]; omega
   by_cases hlt : F < R
   ·have k3 : (F : Int) < R := by omega
    go_wp2_with fail
    with_reducible refine (reads_n f n R HN.out HR.out _ _ _ _ gn gs F wr HUr hcl hrn hrl (lhid (HL3.out.below HBr.out)) (lhid (HS3.out.of (HBr.out.block gs HS3.out.lt))) (lhid hlt) (lhid (by omega)) HP hI).mono ?_
    rintro e w5 ⟨z, rfl, hz, hb⟩
    have HB5 := lhid (HBr.out.trans (hb.mono HBr.out.size))
    have HBq5 : Hid (Below B0 w w5) := lhid (HBq.out.trans (hb.mono (by have := HBq.out.size; have := HB0.out; omega)))
    have HZ := lhid hz
    clear hz hb p0 p1 p2 p3 p4 q0 q1 q2 q3 q4 q5 q6
    cases z with
    | true =>
     go_wp2_with fail
     go_ret
     refine ⟨false, rfl, ?_, by rw [← HB0.out]; exact HBq5.out⟩
     obtain ⟨r, h1, h2, h3, h4⟩ := HZ.out.1 (by trivial)
     refine ⟨fun h => (by cases h), fun h => absurd h4 (h.2 r (by rw [HR.out]; exact h3))⟩
    | false =>
     have HNO2 : Hid (∀ r, r < F + 64 → r < R → ¬ RdUn f r) := lhid (fun r h1 h2 h3 => by
      by_cases e : r < F
      ·exact HNO.out r e h2 h3
      ·exact absurd (HZ.out.2 ⟨r, by omega, h1, h2, h3⟩) (by simp))
     go_wp2_with fail
     go_roundg (R + 1 - (F + 64))
     case measure => omega
     case rel => exact ⟨F + 64, rfl, by first | rfl | rw [hwf], by omega, HNO2, HB5⟩
   ·have k3 : ¬ (F : Int) < R := by omega
    go_wp2_with fail
    go_ret
    exact ⟨true, rfl, ⟨fun _ => ⟨HC0.out, fun r hr => HNO.out r (by rw [HR.out] at hr; omega) (by rw [HR.out] at hr; exact hr)⟩, fun _ => rfl⟩, by rw [← HB0.out]; exact HBq.out⟩
 ·have hcb : (c != 0) = true := by simpa using hc0
  have HNS : Hid (¬ SetN f) := lhid (fun h => hc0 (HC.out.symm.trans h.1))
  clear hc0
  go_wp2_with fail
  go_ret
  exact ⟨false, rfl, ⟨fun h => (by cases h), fun h => absurd h HNS.out⟩, by rw [← HB0.out]; exact HB1.out⟩
end Go.Proofs.Ytbkeneadoccodaa
/- Fold: what it leaves is well formed, and sets what it reads. No walk in this text. -/
namespace Go.Proofs.Ytbkeneadoccodaa
open Go.RowKit Go
set_option linter.unusedVariables false
set_option linter.unusedSimpArgs false
def K32 (n : Int) : Prop := -2147483648 ≤ n ∧ n ≤ 2147483647
def KOk (rs : List Int) (K : KnF) : Prop := ∀ s n, K s = some n → I64 n ∧ ((kd rs s = 1 ∧ K32 n) ∨ kd rs s = 2)
theorem KOk.nil (rs : List Int) : KOk rs fun _ => none := fun s n h => by cases h
theorem k32_64 {n : Int} (h : K32 n) : I64 n := ⟨by have := h.1; omega, by have := h.2; omega⟩
theorem wr64_in (n : Int) : I64 (wrap64 n) := by have := Nm.wrap64_bd n; exact this
theorem wr32_in (n : Int) : K32 (wrap32 n) := Nm.wrap32_bd n
theorem two_32 {c a b : Int} (h : c = 148 ∨ c % 2 = 0) : K32 (Nm.two c a b) := by
 unfold Nm.two
 by_cases h1 : c = 148
 ·rw [if_pos h1]
  unfold Nm.cmp3 K32
  split
  ·omega
  ·split <;> omega
 ·rw [if_neg h1, if_pos (by omega)]
  exact Nm.opI_in _ _ _ (wr32_in a)
theorem two_64 {c a b : Int} (ha : I64 a) : I64 (Nm.two c a b) := by
 by_cases h : c = 148 ∨ c % 2 = 0
 ·exact k32_64 (two_32 h)
 ·unfold Nm.two
  rw [if_neg (by omega), if_neg (by omega)]
  exact Nm.opL_in _ _ _ ha
theorem one_32 {c a : Int} (h : c ≠ 117) : K32 (Nm.one c a) := by
 unfold Nm.one
 by_cases h1 : c = 116
 ·rw [if_pos h1]; exact wr32_in _
 rw [if_neg h1, if_neg h]
 by_cases h2 : c = 133 ∨ c = 136
 ·rw [if_pos h2]; exact wr32_in _
 rw [if_neg h2]
 unfold Nm.wrap8 Nm.wrap16 K32
 split
 ·omega
 ·split
  ·omega
  ·split <;> omega
theorem one_64 {c a : Int} : I64 (Nm.one c a) := by
 by_cases h : c = 117
 ·subst h
  exact wr64_in _
 ·exact k32_64 (one_32 h)
theorem knd_32 {c : Int} (h : (Nu.knd c).2.2 = 1) : c = 148 ∨ c % 2 = 0 ∨ (c ≠ 117 ∧ (Nu.knd c).2.1 = 0) := by
 revert h
 unfold Nu.knd
 split
 ·intro h; cases h
 split
 ·split
  ·intro _; exact .inr (.inl ‹_›)
  ·intro h; cases h
 split
 ·intro _; exact .inl ‹_›
 split
 ·intro _; refine .inr (.inr ⟨by omega, rfl⟩)
 split
 ·intro h; cases h
 split
 ·intro h; cases h
 split
 ·intro _; exact .inr (.inl (by omega))
 ·intro h; cases h
theorem chk_cd {f : FuI} (h : chkN f = 0) {i : Nat} {x : InI} (hx : f.code[i]? = some x) : oneB f i x = true := by
 have hc := (chk_parts h).1
 unfold codeB at hc
 simp only [Bool.and_eq_true, List.all_eq_true, List.mem_range] at hc
 have hi := (List.getElem?_eq_some_iff.1 hx).1
 have h1 := hc.2 i hi
 rw [hx] at h1
 exact h1
theorem chk_rg {f : FuI} (h : chkN f = 0) : regsB f = true := by
 unfold chkN checkB at h
 cases h1 : (regsB f && codeB f && rowsB f) with
 | false => rw [h1] at h; simp at h
 | true => simp only [Bool.and_eq_true] at h1; exact h1.1.1
structure OneP (f : FuI) (i : Nat) (x : InI) : Prop where
 op : 1 ≤ x.op ∧ x.op ≤ 33
 kinds : kindsB f.regs x = true
 rest : restB f.regs f.ret x = true
 leads : leadsB x.op = true → 0 ≤ x.too ∧ x.too < f.code.length ∧ opAt f.code x.too ≠ 32
 caught : x.op = 32 → i ≠ 0 ∧ endsB (opAt f.code ((i : Int) - 1)) = true
theorem oneB_iff {f : FuI} {i : Nat} {x : InI} : oneB f i x = true ↔ OneP f i x := by
 unfold oneB
 simp only [Bool.and_eq_true, Bool.or_eq_true, decide_eq_true_eq, Bool.not_eq_true', beq_eq_false_iff_ne, ne_eq]
 constructor
 ·rintro ⟨⟨⟨⟨⟨h1, h2⟩, h3⟩, h4⟩, h5⟩, h6⟩
  refine ⟨⟨h1, h2⟩, h3, h4, fun hl => ?_, fun hc => ?_⟩
  ·rcases h5 with h5 | h5
   ·rw [hl] at h5; cases h5
   ·exact ⟨h5.1.1, h5.1.2, h5.2⟩
  ·rcases h6 with h6 | h6
   ·exact absurd hc h6
   ·exact h6
 ·rintro ⟨h1, h3, h4, h5, h6⟩
  refine ⟨⟨⟨⟨h1, h3⟩, h4⟩, ?_⟩, ?_⟩
  ·cases hl : leadsB x.op with
   | false => exact .inl rfl
   | true => have := h5 hl; exact .inr ⟨⟨this.1, this.2.1⟩, this.2.2⟩
  ·by_cases hc : x.op = 32
   ·exact .inr (h6 hc)
   ·exact .inl hc
theorem foI_def (K : KnF) (x : InI) : defI (foI K x) = defI x := by
 rcases foI_ways K x with e | ⟨n, e, h⟩ | ⟨t, e, h⟩
 ·rw [e]
 ·rw [e]
  unfold defI
  rcases h with h | h | h <;> rw [h] <;> rfl
 ·rw [e]
  unfold defI
  rw [h]
  cases t <;> rfl
theorem foI_uses (K : KnF) (x : InI) {u : Int} (hu : u ∈ usesI (foI K x)) : u ∈ usesI x := by
 rcases foI_ways K x with e | ⟨n, e, h⟩ | ⟨t, e, h⟩
 ·rwa [e] at hu
 ·rw [e] at hu
  have : usesI (cstI x.dst n) = [] := rfl
  rw [this] at hu
  cases hu
 ·rw [e] at hu
  cases t
  ·have : usesI (wayI x.too false) = [] := rfl
   rw [this] at hu
   cases hu
  ·have : usesI (wayI x.too true) = [] := rfl
   rw [this] at hu
   cases hu
theorem foI_throws (K : KnF) (x : InI) (ht : throwsB (foI K x).op = true) : throwsB x.op = true := by
 rcases foI_ways K x with e | ⟨n, e, h⟩ | ⟨t, e, h⟩
 ·rwa [e] at ht
 ·rw [e] at ht
  have : throwsB (cstI x.dst n).op = false := rfl
  rw [this] at ht
  cases ht
 ·rw [e] at ht
  cases t
  ·have : throwsB (wayI x.too false).op = false := rfl
   rw [this] at ht
   cases ht
  ·have : throwsB (wayI x.too true).op = false := rfl
   rw [this] at ht
   cases ht
theorem foI_next (K : KnF) (x : InI) (i : Int) {j : Int} (hj : j ∈ nextX (foI K x) i) : j ∈ nextX x i := by
 rcases foI_ways K x with e | ⟨n, e, h⟩ | ⟨t, e, h⟩
 ·rwa [e] at hj
 ·rw [e] at hj
  have h1 : nextX (cstI x.dst n) i = [i + 1] := rfl
  have h2 : nextX x i = [i + 1] := by
   unfold nextX goOn
   rcases h with h | h | h <;> rw [h] <;> rfl
  rw [h1] at hj
  rw [h2]
  exact hj
 ·rw [e] at hj
  have hg : goOn x i = [i + 1] := by unfold goOn; rw [h]; rfl
  have hl : leadsB x.op = true := by rw [h]; rfl
  unfold nextX
  rw [hg, hl]
  cases t
  ·have h1 : nextX (wayI x.too false) i = [i + 1] := rfl
   rw [h1] at hj
   have hj := List.mem_singleton.1 hj
   subst hj
   split <;> simp
  ·have h1 : nextX (wayI x.too true) i = [x.too] := rfl
   rw [h1] at hj
   have hj := List.mem_singleton.1 hj
   subst hj
   by_cases hm : x.too ∈ [i + 1]
   ·simp [hm]
   ·simp [hm]
theorem foC_get' {f : FuI} {i : Nat} {y : InI} (h : (foC f)[i]? = some y) : ∃ x, f.code[i]? = some x ∧ y = foI (foH f i) x := by
 rw [foC, List.getElem?_mapIdx] at h
 cases hx : f.code[i]? with
 | none => rw [hx] at h; cases h
 | some x => rw [hx] at h; injection h with h; exact ⟨x, rfl, h.symm⟩
theorem atC_nat {c : List InI} (i : Nat) : atC c (i : Int) = c[i]? := by
 unfold atC
 rw [if_pos (by omega)]
 rfl
theorem foF_next {f : FuI} {i : Nat} {j : Int} (hj : j ∈ nextL (foF f) i) : j ∈ nextL f i := by
 unfold nextL at hj ⊢
 rw [atC_nat] at hj ⊢
 cases hy : (foF f).code[i]? with
 | none => rw [hy] at hj; cases hj
 | some y =>
  rw [hy] at hj
  obtain ⟨x, hx, rfl⟩ := foC_get' (show (foC f)[i]? = some y from hy)
  rw [hx]
  exact foI_next _ _ _ hj
theorem foF_unr {f : FuI} {r : Int} {i : Nat} (h : UnR (foF f) r i) : UnR f r i := by
 have hl : (foF f).code.length = f.code.length := foC_len f
 induction h with
 | first h => exact .first (by rw [← hl]; exact h)
 | next _ hx hj hlt hd ih =>
  obtain ⟨x, hx1, rfl⟩ := foC_get' hx
  rw [foI_def] at hd
  exact .next ih hx1 (foF_next hj) (by rw [← hl]; exact hlt) hd
 | caught _ hx ht hj hlt ih =>
  obtain ⟨x, hx1, rfl⟩ := foC_get' hx
  exact .caught ih hx1 (foI_throws _ _ ht) hj (by rw [← hl]; exact hlt)
theorem opAt_at {c : List InI} {i : Nat} {x : InI} (h : c[i]? = some x) : opAt c (i : Int) = x.op := by
 unfold opAt
 rw [if_pos (by omega)]
 show ((c[i]?).map (·.op)).getD 0 = _
 rw [h]
 rfl
theorem foF_op {f : FuI} (i : Int) : opAt (foF f).code i = opAt f.code i ∨ ((opAt (foF f).code i = 1 ∨ opAt (foF f).code i = 27 ∨ opAt (foF f).code i = 33) ∧ (opAt f.code i = 4 ∨ opAt f.code i = 5 ∨ opAt f.code i = 6 ∨ opAt f.code i = 28)) := by
 by_cases h0 : 0 ≤ i
 ·obtain ⟨k, rfl⟩ := Int.eq_ofNat_of_zero_le h0
  cases hx : f.code[k]? with
  | none =>
   have hy : (foF f).code[k]? = none := by
    rw [List.getElem?_eq_none_iff] at hx ⊢
    rw [show (foF f).code.length = f.code.length from foC_len f]
    exact hx
   refine .inl ?_
   unfold opAt
   rw [if_pos h0, if_pos h0]
   show ((_ : Option InI).map _).getD 0 = ((_ : Option InI).map _).getD 0
   rw [show ((k : Int)).toNat = k from rfl, hx, hy]
  | some x =>
   have hy : (foF f).code[k]? = some (foI (foH f k) x) := foC_get hx
   rw [opAt_at hx, opAt_at hy]
   rcases foI_ways (foH f k) x with e | ⟨n, e, h⟩ | ⟨t, e, h⟩
   ·rw [e]; exact .inl rfl
   ·rw [e]
    refine .inr ⟨.inl rfl, ?_⟩
    rcases h with h | h | h
    ·exact .inl h
    ·exact .inr (.inl h)
    ·exact .inr (.inr (.inl h))
   ·rw [e]
    refine .inr ⟨?_, .inr (.inr (.inr h))⟩
    cases t
    ·exact .inr (.inr rfl)
    ·exact .inr (.inl rfl)
 ·refine .inl ?_
  unfold opAt
  rw [if_neg h0, if_neg h0]
theorem foF_32 {f : FuI} (i : Int) : opAt (foF f).code i = 32 ↔ opAt f.code i = 32 := by
 rcases foF_op (f := f) i with e | ⟨h1, h2⟩
 ·rw [e]
 ·constructor <;> intro h <;> omega
theorem foF_ends {f : FuI} (i : Int) (h : endsB (opAt f.code i) = true) : endsB (opAt (foF f).code i) = true := by
 rcases foF_op (f := f) i with e | ⟨h1, h2⟩
 ·rw [e]; exact h
 ·rcases h2 with h2 | h2 | h2 | h2 <;> (rw [h2] at h; cases h)
theorem hs6 {k : Int} (h : hasB 6 k = true) : k = 1 ∨ k = 2 := by
 unfold hasB at h
 obtain ⟨m, hm⟩ : ∃ m, k.toNat = m := ⟨_, rfl⟩
 rw [hm] at h
 match m, hm, h with
 | 0, _, h => exact absurd h (by decide)
 | 1, hm, _ => left; omega
 | 2, hm, _ => right; omega
 | m + 3, _, h =>
  have h1 : (6 : Int).toNat / 2 ^ (m + 3) = 0 := by
   refine Nat.div_eq_of_lt ?_
   have := Nat.two_pow_pos m
   rw [Nat.pow_add]
   show 6 < 2 ^ m * 8
   omega
  rw [h1] at h
  exact absurd h (by decide)
theorem myy6 {rs : List Int} {r : Int} (h : mayB rs r 6 = true) : kd rs r = 1 ∨ kd rs r = 2 := by
 unfold mayB at h
 rw [show ((6 : Int) == 0) = false from rfl, Bool.false_or] at h
 by_cases e : r = -1
 ·rw [if_pos e] at h; cases h
 ·rw [if_neg e] at h
  simp only [Bool.and_eq_true, decide_eq_true_eq] at h
  exact hs6 h.2
theorem may6_of {rs : List Int} {r : Int} {F : Int} (h : mayB rs r F = true) (hF : (F == 0) = false) (h0 : hasB F 0 = false) (hk : kd rs r = 1 ∨ kd rs r = 2) : mayB rs r 6 = true := by
 unfold mayB at h ⊢
 rw [hF, Bool.false_or] at h
 rw [show ((6 : Int) == 0) = false from rfl, Bool.false_or]
 by_cases e : r = -1
 ·rw [if_pos e, h0] at h; cases h
 ·rw [if_neg e] at h ⊢
  simp only [Bool.and_eq_true, decide_eq_true_eq] at h ⊢
  refine ⟨h.1, ?_⟩
  rcases hk with hk | hk <;> rw [hk] <;> rfl
theorem one_cst {f : FuI} {i : Nat} {r n : Int} (hm : mayB f.regs r 6 = true) (hk : kd f.regs r = 2 ∨ K32 n) : OneP (foF f) i (cstI r n) := by
 refine ⟨⟨show (1 : Int) ≤ 1 by decide, show (1 : Int) ≤ 33 by decide⟩, ?_, ?_, fun h => (by cases h), fun h => absurd h (show ¬ (1 : Int) = 32 by decide)⟩
 ·show (mayB f.regs r 6 && mayB f.regs 0 0 && mayB f.regs 0 0 && mayB f.regs 0 0) = true
  rw [hm]
  rfl
 ·show (kd f.regs r == 2 || decide (-2147483648 ≤ n) && decide (n < 2147483648)) = true
  rcases hk with h | h
  ·rw [h]; rfl
  ·have h1 : decide (-2147483648 ≤ n) = true := decide_eq_true h.1
   have h2 : decide (n < 2147483648) = true := decide_eq_true (by have := h.2; omega)
   rw [h1, h2]
   simp
theorem one_way {f : FuI} {i : Nat} {td : Int} {t : Bool} (h : 0 ≤ td ∧ td < f.code.length ∧ opAt f.code td ≠ 32) : OneP (foF f) i (wayI td t) := by
 cases t
 ·exact ⟨⟨show (1 : Int) ≤ 33 by decide, show (33 : Int) ≤ 33 by decide⟩, rfl, rfl, fun h => (by cases h), fun h => absurd h (show ¬ (33 : Int) = 32 by decide)⟩
 ·refine ⟨⟨show (1 : Int) ≤ 27 by decide, show (27 : Int) ≤ 33 by decide⟩, rfl, rfl, fun _ => ?_, fun h => absurd h (show ¬ (27 : Int) = 32 by decide)⟩
  refine ⟨h.1, ?_, fun h2 => h.2.2 (foF_32 _ |>.1 h2)⟩
  rw [show (foF f).code.length = f.code.length from foC_len f]
  exact h.2.1
theorem kinds_4 {rs : List Int} {x : InI} {a b c d : Int} (hf : fdT x.op = (a, b, c, d)) (h : kindsB rs x = true) : mayB rs x.dst a = true ∧ mayB rs x.a b = true ∧ mayB rs x.b c = true ∧ mayB rs x.c d = true := by
 unfold kindsB at h
 rw [hf] at h
 simp only [Bool.and_eq_true] at h
 exact ⟨h.1.1.1, h.1.1.2, h.1.2, h.2⟩
theorem one_fold {f : FuI} {i : Nat} {x : InI} {K : KnF} (h : OneP f i x) (hK : KOk f.regs K) : OneP (foF f) i (foI K x) := by
 have stay : foI K x = x → OneP (foF f) i (foI K x) := fun e => by
  rw [e]
  refine ⟨h.op, h.kinds, h.rest, fun hl => ?_, fun hc => ⟨(h.caught hc).1, foF_ends _ (h.caught hc).2⟩⟩
  have := h.leads hl
  exact ⟨this.1, by rw [show (foF f).code.length = f.code.length from foC_len f]; exact this.2.1, fun h2 => this.2.2 (foF_32 _ |>.1 h2)⟩
 by_cases h4 : x.op = 4
 ·cases ha : K x.a with
  | none => exact stay (by unfold foI; rw [if_pos h4, ha])
  | some a =>
   have e : foI K x = cstI x.dst a := by unfold foI; rw [if_pos h4, ha]
   rw [e]
   have hr := h.rest
   unfold restB at hr
   rw [if_neg (by omega), if_pos h4] at hr
   have hr : kd f.regs x.dst = kd f.regs x.a := by simpa using hr
   have hk := (hK _ _ ha).2
   rw [← hr] at hk
   exact one_cst (may6_of (kinds_4 (by rw [h4]) h.kinds).1 rfl rfl (by rcases hk with h | h; exact .inl h.1; exact .inr h)) (by rcases hk with h | h; exact .inr h.2; exact .inl h)
 by_cases h6 : x.op = 6
 ·cases ha : K x.a with
  | none => exact stay (by unfold foI; rw [if_neg h4, if_pos h6, ha])
  | some a =>
   have e : foI K x = cstI x.dst (Nm.one x.num a) := by unfold foI; rw [if_neg h4, if_pos h6, ha]
   rw [e]
   have hr := h.rest
   unfold restB at hr
   rw [if_neg (by omega), if_neg h4, if_neg (by omega), if_pos h6] at hr
   have hr := of_decide_eq_true hr
   have hm := (kinds_4 (by rw [h6]) h.kinds).1
   refine one_cst hm ?_
   rcases myy6 hm with h1 | h1
   ·refine .inr (one_32 fun h7 => ?_)
    rw [h7, h1] at hr
    have := congrArg (fun p => p.2.2) hr
    exact absurd (show (2 : Int) = 1 from this) (by decide)
   ·exact .inl h1
 by_cases h5 : x.op = 5
 ·cases ha : K x.a with
  | none => exact stay (by unfold foI; rw [if_neg h4, if_neg h6, if_pos h5, ha])
  | some a =>
   cases hb : K x.b with
   | none => exact stay (by unfold foI; rw [if_neg h4, if_neg h6, if_pos h5, ha, hb])
   | some b =>
    have e : foI K x = cstI x.dst (Nm.two x.num a b) := by unfold foI; rw [if_neg h4, if_neg h6, if_pos h5, ha, hb]
    rw [e]
    have hr := h.rest
    unfold restB at hr
    rw [if_neg (by omega), if_neg h4, if_pos h5] at hr
    have hr := of_decide_eq_true hr
    have hm := (kinds_4 (by rw [h5]) h.kinds).1
    refine one_cst hm ?_
    rcases myy6 hm with h1 | h1
    ·rcases knd_32 (c := x.num) (by rw [hr]; exact h1) with h7 | h7 | ⟨_, h7⟩
     ·exact .inr (two_32 (.inl h7))
     ·exact .inr (two_32 (.inr h7))
     ·rw [hr] at h7
      have h7 : kd f.regs x.b = 0 := h7
      rcases (hK _ _ hb).2 with h8 | h8 <;> omega
    ·exact .inl h1
 by_cases h28 : x.op = 28
 ·cases ha : K x.a with
  | none => exact stay (by unfold foI; rw [if_neg h4, if_neg h6, if_neg h5, if_pos h28, ha])
  | some a =>
   cases hb : K x.b with
   | none => exact stay (by unfold foI; rw [if_neg h4, if_neg h6, if_neg h5, if_pos h28, ha, hb])
   | some b =>
    have e : foI K x = wayI x.too (Nm.cnd x.num a b) := by unfold foI; rw [if_neg h4, if_neg h6, if_neg h5, if_pos h28, ha, hb]
    rw [e]
    exact one_way (h.leads (by rw [h28]; rfl))
 exact stay (by unfold foI; rw [if_neg h4, if_neg h6, if_neg h5, if_neg h28])
theorem foI_num {rs : List Int} {K : KnF} {x : InI} (hK : KOk rs K) (h : I64 x.num) : I64 (foI K x).num := by
 have z64 : ∀ t, I64 (wayI x.too t).num := fun t => by cases t <;> exact (⟨by decide, by decide⟩ : I64 0)
 unfold foI
 split
 ·cases ha : K x.a with
  | none => exact h
  | some a => exact (hK _ _ ha).1
 split
 ·cases ha : K x.a with
  | none => exact h
  | some a => exact one_64
 split
 ·cases ha : K x.a with
  | none => exact h
  | some a =>
   cases hb : K x.b with
   | none => exact h
   | some b => exact two_64 (hK _ _ ha).1
 split
 ·cases ha : K x.a with
  | none => exact h
  | some a =>
   cases hb : K x.b with
   | none => exact h
   | some b => exact z64 _
 exact h
theorem KOk.step {f : FuI} {i : Nat} {x : InI} {K : KnF} (h : OneP f i x) (hK : KOk f.regs K) (hn : I64 x.num) : KOk f.regs (noK K (foI K x)) := by
 have h1 := one_fold h hK
 intro s n hs
 unfold noK at hs
 split at hs
 ·rename_i ho
  dsimp only at hs
  split at hs
  ·rename_i e
   injection hs with hs
   subst e hs
   refine ⟨foI_num hK hn, ?_⟩
   have hm := (kinds_4 (by rw [ho]) h1.kinds).1
   have hr := h1.rest
   unfold restB at hr
   rw [if_pos ho] at hr
   simp only [Bool.or_eq_true, Bool.and_eq_true, decide_eq_true_eq, beq_iff_eq] at hr
   rcases myy6 (rs := f.regs) hm with h2 | h2
   ·rcases hr with hr | hr
    ·have hr : kd f.regs (foI K x).dst = 2 := hr
     omega
    ·exact .inl ⟨h2, hr.1, by omega⟩
   ·exact .inr h2
  ·exact hK _ _ hs
 ·dsimp only at hs
  split at hs
  ·cases hs
  ·exact hK _ _ hs
theorem kok_at {f : FuI} (h : chkN f = 0) (hq : FuQ f) : ∀ k, KOk f.regs (foS f k)
 | 0 => KOk.nil _
 | k + 1 => by
  have ih := kok_at h hq k
  cases hx : f.code[k]? with
  | none =>
   have : foS f (k + 1) = foS f k := by
    show (match f.code[k]? with | some x => _ | none => _) = _
    rw [hx]
   rw [this]
   exact ih
  | some x =>
   rw [foS_succ hx]
   refine KOk.step (oneB_iff.1 (chk_cd h hx)) ?_ (hq.num x (List.mem_of_getElem? hx))
   unfold foH
   split
   ·exact KOk.nil _
   ·exact ih
theorem kok_H {f : FuI} (h : chkN f = 0) (hq : FuQ f) (k : Nat) : KOk f.regs (foH f k) := by
 unfold foH
 split
 ·exact KOk.nil _
 ·exact kok_at h hq k
theorem chk_foF {f : FuI} (h : chkN f = 0) (hq : FuQ f) : chkN (foF f) = 0 := by
 have hl : (foF f).code.length = f.code.length := foC_len f
 have h1 := chk_rg h
 obtain ⟨h2, h3⟩ := chk_parts h
 have g2 : codeB (foF f) = true := by
  unfold codeB at h2 ⊢
  rw [hl]
  simp only [Bool.and_eq_true, List.all_eq_true, List.mem_range] at h2 ⊢
  refine ⟨⟨h2.1.1, foF_ends _ h2.1.2⟩, fun i hi => ?_⟩
  obtain ⟨x, hx⟩ : ∃ x, f.code[i]? = some x := ⟨_, List.getElem?_eq_getElem hi⟩
  rw [show (foF f).code[i]? = some (foI (foH f i) x) from foC_get hx]
  exact oneB_iff.2 (one_fold (oneB_iff.1 (chk_cd h hx)) (kok_H h hq i))
 have g3 : rowsB (foF f) = true := by
  unfold rowsB at h3 ⊢
  rw [List.all_eq_true] at h3 ⊢
  intro r hr
  have := h3 r hr
  unfold rowB at this ⊢
  rw [hl]
  simp only [Bool.and_eq_true, decide_eq_true_eq, beq_iff_eq] at this ⊢
  exact ⟨this.1, (foF_32 _).2 this.2⟩
 unfold chkN checkB
 rw [show regsB (foF f) = true from h1, g2, g3]
 rfl
theorem set_foF {f : FuI} (h : SetN f) (hq : FuQ f) : SetN (foF f) := by
 refine ⟨chk_foF h.1 hq, fun r hr hu => ?_⟩
 obtain ⟨hp, i, y, hy, hu, hn⟩ := hu
 obtain ⟨x, hx, rfl⟩ := foC_get' hy
 exact h.2 r hr ⟨hp, i, x, hx, foI_uses _ _ hu, foF_unr hn⟩
theorem fq_foF {f : FuI} (h : chkN f = 0) (hq : FuQ f) : FuQ (foF f) := by
 refine ⟨fun y hy => ?_, fun y hy => ?_⟩
 ·obtain ⟨i, hi⟩ := List.getElem?_of_mem hy
  obtain ⟨x, hx, rfl⟩ := foC_get' hi
  exact foI_num (kok_H h hq i) (hq.num x (List.mem_of_getElem? hx))
 ·obtain ⟨i, hi⟩ := List.getElem?_of_mem hy
  obtain ⟨x, hx, rfl⟩ := foC_get' hi
  rcases foI_ways (foH f i) x with e | ⟨n, e, _⟩ | ⟨t, e, _⟩
  ·rw [e]; exact hq.ref x (List.mem_of_getElem? hx)
  ·rw [e]; exact Nat.zero_le _
  ·rw [e]; cases t <;> exact Nat.zero_le _
theorem args_foF {f : FuI} {N : Nat} (h : ∀ x ∈ f.code, x.args.length ≤ N) : ∀ y ∈ (foF f).code, y.args.length ≤ N := by
 intro y hy
 obtain ⟨i, hi⟩ := List.getElem?_of_mem hy
 obtain ⟨x, hx, rfl⟩ := foC_get' hi
 rcases foI_args (foH f i) x with e | e
 ·rw [e]; exact h x (List.mem_of_getElem? hx)
 ·rw [e]; exact Nat.zero_le _
theorem iq_foF {f : FuI} (h : ∀ x ∈ f.code, I64 (defI x) ∧ (∀ u ∈ usesI x, I64 u) ∧ x.args.length * 8 ≤ 140737488355328 ∧ (usesI x).length * 8 ≤ 140737488355328) : ∀ x ∈ (foF f).code, I64 (defI x) ∧ (∀ u ∈ usesI x, I64 u) ∧ x.args.length * 8 ≤ 140737488355328 ∧ (usesI x).length * 8 ≤ 140737488355328 := by
 intro y hy
 obtain ⟨i, hi⟩ := List.getElem?_of_mem hy
 obtain ⟨x, hx, rfl⟩ := foC_get' hi
 obtain ⟨h1, h2, h3, h4⟩ := h x (List.mem_of_getElem? hx)
 refine ⟨by rw [foI_def]; exact h1, fun u hu => h2 u (foI_uses _ _ hu), ?_, ?_⟩
 ·rcases foI_args (foH f i) x with e | e
  ·rw [e]; exact h3
  ·rw [e]; exact Nat.zero_le _
 ·rcases foI_ways (foH f i) x with e | ⟨n, e, _⟩ | ⟨t, e, _⟩
  ·rw [e]; exact h4
  ·rw [e]; exact Nat.zero_le _
  ·rw [e]; cases t <;> exact Nat.zero_le _
end Go.Proofs.Ytbkeneadoccodaa
/- FoldForms: the law walked. -/
namespace Go.Proofs.Ytbkeneadoccodaa
open Go.RowKit Go
set_option linter.unusedVariables false
set_option linter.unusedSimpArgs false
theorem foldF_set {f : FuI} (h : SetN f) (hq : FuQ f) : SetN (foldF f) := by
 rw [foldF_yes h.1]
 exact set_foF h hq
theorem foldF_fq {f : FuI} (hq : FuQ f) : FuQ (foldF f) := by
 by_cases h : chkN f = 0
 ·rw [foldF_yes h]; exact fq_foF h hq
 ·rw [foldF_no h]; exact hq
theorem foldF_len (f : FuI) : (foldF f).code.length = f.code.length ∧ (foldF f).regs = f.regs ∧ (foldF f).params = f.params ∧ (foldF f).rows = f.rows ∧ (foldF f).ret = f.ret := by
 by_cases h : chkN f = 0
 ·rw [foldF_yes h]; exact ⟨foC_len f, rfl, rfl, rfl, rfl⟩
 ·rw [foldF_no h]; exact ⟨rfl, rfl, rfl, rfl, rfl⟩
theorem foldF_args {f : FuI} {N : Nat} (h : ∀ x ∈ f.code, x.args.length ≤ N) : ∀ y ∈ (foldF f).code, y.args.length ≤ N := by
 by_cases h0 : chkN f = 0
 ·rw [foldF_yes h0]; exact args_foF h
 ·rw [foldF_no h0]; exact h
theorem foldF_iq {f : FuI} (h : ∀ x ∈ f.code, I64 (defI x) ∧ (∀ u ∈ usesI x, I64 u) ∧ x.args.length * 8 ≤ 140737488355328 ∧ (usesI x).length * 8 ≤ 140737488355328) : ∀ x ∈ (foldF f).code, I64 (defI x) ∧ (∀ u ∈ usesI x, I64 u) ∧ x.args.length * 8 ≤ 140737488355328 ∧ (usesI x).length * 8 ≤ 140737488355328 := by
 by_cases h0 : chkN f = 0
 ·rw [foldF_yes h0]; exact iq_foF h
 ·rw [foldF_no h0]; exact h
theorem own_cap7 {w : World} {B : Nat} {v : Value} {l : List Int} (h : OwN w B v l) : ∀ A n cap, v = .slice A n cap → n ≤ cap ∧ cap ≤ maxLen := by
 rintro A n cap rfl
 rcases h.2 with ⟨h1, _⟩ | ⟨g, c, cur, h1, _, _, h4, h5, _⟩
 ·injection h1 with _ e1 e2
  subst e1 e2
  exact ⟨Nat.le_refl _, by unfold maxLen; omega⟩
 ·injection h1 with _ e1 e2
  subst e1 e2
  exact ⟨h4, h5⟩
theorem set_true {P : Nat → Prop} (f : FuI) (fa fb fd fe : Value) (w : World) (hs : Hid (SetN f)) (h : Hid (FuV P w f fa fb fd fe)) (hq : Hid (FuQ f)) (hcap : Hid (∀ A n cap, fb = .slice A n cap → n ≤ cap ∧ cap ≤ maxLen)) (hcl : Hid ((f.code.length + 1) * 1024 ≤ 140737488355328)) (hrn : Hid (RwN f.rows)) (hrl : Hid (f.rows.length * 8 ≤ 140737488355328)) (hI : Hid (∀ x ∈ f.code, I64 (defI x) ∧ (∀ u ∈ usesI x, I64 u) ∧ x.args.length * 8 ≤ 140737488355328 ∧ (usesI x).length * 8 ≤ 140737488355328)) :
  Calls Try.prog 13 #[fuL fa fb f.ret fd fe] w fun e w' => e = .returned (.bool true) ∧ Below w.heap.size w w' := by
 refine (set_any f fa fb fd fe w h hq hcap hcl hrn hrl hI).mono ?_
 rintro e w' ⟨z, rfl, hz, hb⟩
 rw [hz.2 hs.out]
 exact ⟨rfl, hb⟩
set_option maxHeartbeats 32000000 in
set_option maxRecDepth 100000 in
theorem FoldForms_walk {P : Nat → Prop} (f : FuI) (fa fb fd fe : Value) (w : World) (h : Hid (FuV P w f fa fb fd fe)) (hq : Hid (FuQ f)) (hcap : Hid (∀ A n cap, fb = .slice A n cap → n ≤ cap ∧ cap ≤ maxLen)) (hcp : Hid (CpQ f)) (hrn : Hid (RwN f.rows)) (hI : Hid (∀ x ∈ f.code, I64 (defI x) ∧ (∀ u ∈ usesI x, I64 u) ∧ x.args.length * 8 ≤ 140737488355328 ∧ (usesI x).length * 8 ≤ 140737488355328)) (h6 : Hid (∀ x ∈ f.code, I6 x.a ∧ I6 x.b ∧ I6 x.dst)) :
  Calls Try.prog 4 #[fuL fa fb f.ret fd fe] w fun e w' => e = .returned (.bool true) ∧ Below w.heap.size w w' := by
 obtain ⟨FA, ac, hFA⟩ := h.out.a.shape
 subst hFA
 obtain ⟨FB, bc, hFB⟩ := h.out.b.shape
 subst hFB
 obtain ⟨D, dcap, hD⟩ := h.out.d.shape
 subst hD
 obtain ⟨E, ecap, hE⟩ := h.out.e.shape
 subst hE
 obtain ⟨n, hn⟩ : ∃ n, f.code.length = n := ⟨_, rfl⟩
 obtain ⟨r, hr⟩ : ∃ r, f.regs.length = r := ⟨_, rfl⟩
 obtain ⟨q, hqq⟩ : ∃ q, f.rows.length = q := ⟨_, rfl⟩
 have HN := lhid hn
 have HR := lhid hr
 have HQQ := lhid hqq
 have hf2 := h.out
 rw [hn, hr, hqq] at hf2 ⊢
 have HFU := lhid hf2
 clear hn hr hqq hf2 h
 go_enter Try.func4, Try.ntmps4
 go_wp2_with fail
 generalize hW : World.alloc _ _ = w0
 obtain ⟨B0, hB0⟩ : ∃ B0, B0 = w.heap.size := ⟨_, rfl⟩
 try rw [← hB0]
 have hb0 : Below B0 w w0 := by rw [← hW, hB0]; exact (Below.refl _ _).alloc (Nat.le_refl _) _
 have hF0 : FBox w0 B0 (.slice FA r ac) (.slice FB f.params.length bc) f.ret (.slice D n dcap) (.slice E q ecap) := by rw [← hW, hB0]; exact heap_alloc_new w _
 have HF0 := lhid hF0
 have HB0 := lhid hb0
 have HE0 := lhid hB0
 have HL0 : Hid (B0 < w0.heap.size) := lhid (heap_lt hF0)
 clear hW hb0 hF0 hB0
 with_reducible refine (holds15_any w0).mono ?_
 rintro e w1 ⟨rfl, hb⟩
 have HF1 : Hid (FBox w1 B0 (.slice FA r ac) (.slice FB f.params.length bc) f.ret (.slice D n dcap) (.slice E q ecap)) := lhid (heap_keep HF0.out hb)
 have HB1 : Hid (Below B0 w w1) := lhid (HB0.out.trans (hb.mono (by have := HL0.out; omega)))
 have HU1 := lhid (HFU.out.below (by rw [← HE0.out]; exact HB1.out))
 clear hb HF0 HB0 HL0
 obtain ⟨p0, p1, p2, p3, p4⟩ := HF1.out.cells
 by_cases hn4 : n ≤ 400
 rotate_left
 ·have k1 : (400 : Int) < n := by omega
  go_wp2_with fail
  go_ret
  exact ⟨rfl, by rw [← HE0.out]; exact HB1.out⟩
 by_cases hr1 : r ≤ 100
 rotate_left
 ·have k1 : ¬ (400 : Int) < n := by omega
  have k2 : (100 : Int) < r := by omega
  go_wp2_with fail
  go_ret
  exact ⟨rfl, by rw [← HE0.out]; exact HB1.out⟩
 by_cases hq5 : q ≤ 50
 rotate_left
 ·have k1 : ¬ (400 : Int) < n := by omega
  have k2 : ¬ (100 : Int) < r := by omega
  have k3 : (50 : Int) < q := by omega
  go_wp2_with fail
  go_ret
  exact ⟨rfl, by rw [← HE0.out]; exact HB1.out⟩
 have k1 : ¬ (400 : Int) < n := by omega
 have k2 : ¬ (100 : Int) < r := by omega
 have k3 : ¬ (50 : Int) < q := by omega
 have HNN : Hid (n ≤ 400 ∧ q ≤ 50) := lhid ⟨hn4, hq5⟩
 clear hn4 hr1 hq5
 have HU1' : Hid (FuV P w1 f (.slice FA f.regs.length ac) (.slice FB f.params.length bc) (.slice D f.code.length dcap) (.slice E f.rows.length ecap)) := lhid (by rw [HN.out, HR.out, HQQ.out]; exact HU1.out)
 go_upto_region 5 with fail
 clear k1 k2 k3
 go_wp2_with fail
 with_reducible refine (pass_any f _ _ _ _ w1 HU1 hq hcap hcp h6).mono ?_
 rintro e w2 ⟨a, b, d, c, rfl, hcv, hb2⟩
 obtain ⟨F, hF⟩ : ∃ F, foldF f = F := ⟨_, rfl⟩
 obtain ⟨l1, l2, l3, l4, l5⟩ := foldF_len f
 rw [hF] at hcv l1 l2 l3 l4 l5 ⊢
 obtain ⟨CA, ca, ha⟩ := own_shape hcv.a
 obtain ⟨CB, cb, hb⟩ := own_shape hcv.b
 obtain ⟨CD, cd, hd⟩ := hcv.d.shape
 obtain ⟨CE, ce, he⟩ : ∃ A cc, c = .slice A F.rows.length cc := by obtain ⟨xs, h5, _⟩ := hcv.e; exact own_shape h5
 subst ha hb hd he
 have HFF := lhid hF
 have hfu := hcv.fu (by rw [l2]; have := hcp.out.regs; omega) (by rw [l3]; have := hcp.out.params; omega) (by rw [l1]; have := hcp.out.code; omega) (by rw [l4]; have := hcp.out.rows; omega) (by rw [← hF]; exact foldF_args fun x hx => by have := hcp.out.args x hx; omega)
 have HCAP := lhid (own_cap7 hcv.b)
 rw [l1, HN.out] at hfu ⊢
 have HGU := lhid hfu
 have HLL : Hid (F.code.length = f.code.length ∧ F.rows = f.rows) := lhid ⟨l1, l4⟩
 clear hF l1 l2 l3 l4 l5 hfu hcv
 have HF2 : Hid (FBox w2 B0 (.slice FA r ac) (.slice FB f.params.length bc) f.ret (.slice D n dcap) (.slice E q ecap)) := lhid (heap_keep HF1.out hb2)
 have HB2 : Hid (Below B0 w w2) := lhid (HB1.out.trans (hb2.mono (by have := heap_lt HF1.out; omega)))
 have HU2 := lhid (HU1.out.below hb2)
 clear hb2 p0 p1 p2 p3 p4 HF1 HB1 HU1 HU1'
 go_upto_region 6 with fail
 generalize hW : World.alloc _ _ = w3
 obtain ⟨G, hG⟩ : ∃ G, G = w2.heap.size := ⟨_, rfl⟩
 try rw [← hG]
 have hb3 : Below w2.heap.size w2 w3 := by rw [← hW]; exact (Below.refl _ _).alloc (Nat.le_refl _) _
 have HG3 : Hid (FBox w3 G (.slice CA F.regs.length ca) (.slice CB F.params.length cb) F.ret (.slice CD n cd) (.slice CE F.rows.length ce)) := lhid (by rw [← hW, hG]; exact heap_alloc_new w2 _)
 have HF3 : Hid (FBox w3 B0 (.slice FA r ac) (.slice FB f.params.length bc) f.ret (.slice D n dcap) (.slice E q ecap)) := lhid (heap_keep HF2.out hb3)
 have HB3 : Hid (Below B0 w w3) := lhid (HB2.out.trans (hb3.mono (by have := heap_lt HF2.out; omega)))
 have HU3 := lhid (HU2.out.below hb3)
 have HGU3 := lhid (HGU.out.below hb3)
 clear hb3 hW hG HF2 HB2 HU2 HGU
 obtain ⟨p0, p1, p2, p3, p4⟩ := HF3.out.cells
 obtain ⟨z, hz⟩ : ∃ z, chkN f = z := ⟨_, rfl⟩
 have HZC := lhid hz
 clear hz
 go_wp2_with fail
 with_reducible refine (rcheck_r f _ _ _ _ z w3 HU3 hq hcap HZC).mono ?_
 rintro e w4 ⟨rfl, hb4⟩
 have HG4 : Hid (FBox w4 G (.slice CA F.regs.length ca) (.slice CB F.params.length cb) F.ret (.slice CD n cd) (.slice CE F.rows.length ce)) := lhid (heap_keep HG3.out hb4)
 have HF4 : Hid (FBox w4 B0 (.slice FA r ac) (.slice FB f.params.length bc) f.ret (.slice D n dcap) (.slice E q ecap)) := lhid (heap_keep HF3.out hb4)
 have HB4 : Hid (Below B0 w w4) := lhid (HB3.out.trans (hb4.mono (by have := heap_lt HF3.out; omega)))
 have HU4 := lhid (HU3.out.below hb4)
 have HGU4 := lhid (HGU3.out.below hb4)
 clear hb4 p0 p1 p2 p3 p4 HG3 HF3 HB3 HU3 HGU3
 obtain ⟨p0, p1, p2, p3, p4⟩ := HF4.out.cells
 obtain ⟨q0, q1, q2, q3, q4⟩ := HG4.out.cells
 by_cases hz : z = 0
 ·have hzb : (z != 0) = false := by rw [hz]; rfl
  have HC0 := lhid (show chkN f = 0 from HZC.out.trans hz)
  have HCF : Hid (chkN F = 0) := lhid (by rw [← HFF.out, foldF_yes HC0.out]; exact chk_foF HC0.out hq.out)
  have HQF : Hid (FuQ F) := lhid (by rw [← HFF.out]; exact foldF_fq hq.out)
  have HIF : Hid (∀ x ∈ F.code, I64 (defI x) ∧ (∀ u ∈ usesI x, I64 u) ∧ x.args.length * 8 ≤ 140737488355328 ∧ (usesI x).length * 8 ≤ 140737488355328) := lhid (by rw [← HFF.out]; exact foldF_iq hI.out)
  clear hz
  go_wp2_with fail
  with_reducible refine (rcheck_r F _ _ _ _ 0 w4 HGU4 HQF HCAP HCF).mono ?_
  rintro e w5 ⟨rfl, hb5⟩
  have HG5 : Hid (FBox w5 G (.slice CA F.regs.length ca) (.slice CB F.params.length cb) F.ret (.slice CD n cd) (.slice CE F.rows.length ce)) := lhid (heap_keep HG4.out hb5)
  have HF5 : Hid (FBox w5 B0 (.slice FA r ac) (.slice FB f.params.length bc) f.ret (.slice D n dcap) (.slice E q ecap)) := lhid (heap_keep HF4.out hb5)
  have HB5 : Hid (Below B0 w w5) := lhid (HB4.out.trans (hb5.mono (by have := heap_lt HF4.out; omega)))
  have HU5 := lhid (HU4.out.below hb5)
  have HGU5 := lhid (HGU4.out.below hb5)
  clear hb5 p0 p1 p2 p3 p4 q0 q1 q2 q3 q4 HG4 HF4 HB4 HU4 HGU4
  obtain ⟨p0, p1, p2, p3, p4⟩ := HF5.out.cells
  obtain ⟨q0, q1, q2, q3, q4⟩ := HG5.out.cells
  go_wp2_with fail
  with_reducible refine (set_any f _ _ _ _ w5 HU5 hq hcap (lhid (by have := HNN.out; rw [HN.out]; omega)) hrn (lhid (by have := hcp.out.rows; omega)) hI).mono ?_
  rintro e w6 ⟨s, rfl, hs, hb6⟩
  have HG6 : Hid (FBox w6 G (.slice CA F.regs.length ca) (.slice CB F.params.length cb) F.ret (.slice CD n cd) (.slice CE F.rows.length ce)) := lhid (heap_keep HG5.out hb6)
  have HB6 : Hid (Below B0 w w6) := lhid (HB5.out.trans (hb6.mono (by have := heap_lt HF5.out; omega)))
  have HL6 : Hid (B0 ≤ w6.heap.size) := lhid (by have := heap_lt HF5.out; have := hb6.size; omega)
  have HGU6 := lhid (HGU5.out.below hb6)
  have HS := lhid hs
  clear hb6 hs p0 p1 p2 p3 p4 q0 q1 q2 q3 q4 HG5 HF5 HB5 HU5 HGU5
  obtain ⟨q0, q1, q2, q3, q4⟩ := HG6.out.cells
  cases s with
  | false =>
   go_wp2_with fail
   go_ret
   exact ⟨rfl, by rw [← HE0.out]; exact HB6.out⟩
  | true =>
   have HSF : Hid (SetN F) := lhid (by rw [← HFF.out]; exact foldF_set (HS.out.1 rfl) hq.out)
   clear HS
   go_wp2_with fail
   with_reducible refine (set_true F _ _ _ _ w6 HSF HGU6 HQF HCAP (lhid (by have := HNN.out; rw [HLL.out.1, HN.out]; omega)) (lhid (by rw [HLL.out.2]; exact hrn.out)) (lhid (by rw [HLL.out.2]; have := hcp.out.rows; omega)) HIF).mono ?_
   rintro e w7 ⟨rfl, hb7⟩
   have HB7 : Hid (Below B0 w w7) := lhid (HB6.out.trans (hb7.mono HL6.out))
   clear hb7
   go_wp2_with fail
   go_ret
   exact ⟨rfl, by rw [← HE0.out]; exact HB7.out⟩
 ·have hzb : (z != 0) = true := by rw [bne_iff_ne]; exact hz
  have hff : F = f := by rw [← HFF.out]; exact foldF_no (by rw [HZC.out]; exact hz)
  subst hff
  clear hz
  go_wp2_with fail
  with_reducible refine (rsame_t F _ _ _ _ _ _ _ _ w4 HU4 HGU4).mono ?_
  rintro e w5 ⟨rfl, hb5⟩
  have HB5 : Hid (Below B0 w w5) := lhid (HB4.out.trans (hb5.mono (by have := heap_lt HF4.out; omega)))
  clear hb5
  go_wp2_with fail
  go_ret
  exact ⟨rfl, by rw [← HE0.out]; exact HB5.out⟩
end Go.Proofs.Ytbkeneadoccodaa
/- FoldWays: the function that the law makes, in plain words. No walk in this text. -/
namespace Go.Proofs.Ytbkeneadoccodaa
open Go.RowKit Go
set_option linter.unusedVariables false
set_option linter.unusedSimpArgs false
abbrev wI (op a b num td : Int) : InI := ⟨op, 0, a, b, 0, num, td, [], []⟩
abbrev wC (r n : Int) : InI := ⟨1, r, 0, 0, 0, n, 0, [], []⟩
abbrev wayL (a b : Int) (x : InI) : List InI := [wC 0 a, wC 1 b, wI 7 0 0 0 0, wI 10 1 0 0 0, x, wI 30 0 0 0 0, wI 30 1 0 0 0]
abbrev FW (c a b : Int) : FuI := ⟨[1, 1], [], 1, wayL a b (wI 28 0 1 c 6), []⟩
abbrev GT (a b : Int) : FuI := ⟨[1, 1], [], 1, wayL a b (wI 27 0 0 0 6), []⟩
abbrev GF (a b : Int) : FuI := ⟨[1, 1], [], 1, wayL a b (wI 33 0 0 0 0), []⟩
theorem one_c {f : FuI} {i : Nat} {r n : Int} (hr : f.regs = [1, 1]) (h : r = 0 ∨ r = 1) (hk : K32 n) : OneP f i (wC r n) := by
 refine ⟨⟨show (1 : Int) ≤ 1 by decide, show (1 : Int) ≤ 33 by decide⟩, ?_, ?_, fun h => (by cases h), fun h => absurd h (show ¬ (1 : Int) = 32 by decide)⟩
 ·rw [hr]
  rcases h with rfl | rfl <;> kernel_rfl
 ·show (kd f.regs r == 2 || decide (-2147483648 ≤ n) && decide (n < 2147483648)) = true
  rw [decide_eq_true hk.1, decide_eq_true (show n < 2147483648 by have := hk.2; omega)]
  simp
theorem chk_FW {c a b : Int} (hc : 0 ≤ c ∧ c ≤ 5) (ha : K32 a) (hb : K32 b) : chkN (FW c a b) = 0 := by
 have h2 : codeB (FW c a b) = true := by
  unfold codeB
  simp only [Bool.and_eq_true, List.all_eq_true, List.mem_range]
  refine ⟨⟨⟨rfl, rfl⟩, rfl⟩, fun i hi => ?_⟩
  have hi : i < 7 := hi
  have h7 : i = 0 ∨ i = 1 ∨ i = 2 ∨ i = 3 ∨ i = 4 ∨ i = 5 ∨ i = 6 := by omega
  rcases h7 with rfl | rfl | rfl | rfl | rfl | rfl | rfl
  ·exact oneB_iff.2 (one_c rfl (.inl rfl) ha)
  ·exact oneB_iff.2 (one_c rfl (.inr rfl) hb)
  ·show oneB (FW c a b) 2 (wI 7 0 0 0 0) = true; kernel_rfl
  ·show oneB (FW c a b) 3 (wI 10 1 0 0 0) = true; kernel_rfl
  ·refine oneB_iff.2 ⟨⟨show (1 : Int) ≤ 28 by decide, show (28 : Int) ≤ 33 by decide⟩, by kernel_rfl, ?_, fun _ => ⟨show (0 : Int) ≤ 6 by decide, show (6 : Int) < 7 by decide, show ¬ (30 : Int) = 32 by decide⟩, fun h => absurd h (show ¬ (28 : Int) = 32 by decide)⟩
   show (decide (0 ≤ c) && decide (c ≤ 5)) = true
   rw [decide_eq_true hc.1, decide_eq_true hc.2]
   rfl
  ·show oneB (FW c a b) 5 (wI 30 0 0 0 0) = true; kernel_rfl
  ·show oneB (FW c a b) 6 (wI 30 1 0 0 0) = true; kernel_rfl
 unfold chkN checkB
 rw [h2]
 rfl
theorem fold_FW {c a b : Int} (hc : 0 ≤ c ∧ c ≤ 5) (ha : K32 a) (hb : K32 b) {t : Bool} (ht : Nm.cnd c a b = t) : foldF (FW c a b) = if t then GT a b else GF a b := by
 rw [show foldF (FW c a b) = foF (FW c a b) from if_pos (chk_FW hc ha hb)]
 have h : foF (FW c a b) = ⟨[1, 1], [], 1, wayL a b (wayI 6 (Nm.cnd c a b)), []⟩ := by kernel_rfl
 rw [h, ht]
 cases t <;> rfl
theorem fq_FW {c a b : Int} (hc : 0 ≤ c ∧ c ≤ 5) (ha : K32 a) (hb : K32 b) : FuQ (FW c a b) := by
 refine ⟨fun x hx => ?_, fun x hx => ?_⟩
 ·simp at hx
  have z : I64 0 := ⟨by decide, by decide⟩
  rcases hx with rfl | rfl | rfl | rfl | rfl | rfl | rfl
  ·exact k32_64 ha
  ·exact k32_64 hb
  ·exact z
  ·exact z
  ·exact k32_64 (n := c) ⟨by have := hc.1; omega, by have := hc.2; omega⟩
  ·exact z
  ·exact z
 ·simp at hx
  rcases hx with rfl | rfl | rfl | rfl | rfl | rfl | rfl <;> simp
theorem cp_FW {c a b : Int} : CpQ (FW c a b) := ⟨by simp, by simp, by simp, by simp, fun x hx => by
  simp at hx
  rcases hx with rfl | rfl | rfl | rfl | rfl | rfl | rfl <;> simp⟩
theorem i6_FW {c a b : Int} : ∀ x ∈ (FW c a b).code, I6 x.a ∧ I6 x.b ∧ I6 x.dst := fun x hx => by
  have z : I6 0 := ⟨by decide, by decide⟩
  have o : I6 1 := ⟨by decide, by decide⟩
  simp at hx
  rcases hx with rfl | rfl | rfl | rfl | rfl | rfl | rfl
  ·exact ⟨z, z, z⟩
  ·exact ⟨z, z, o⟩
  ·exact ⟨z, z, z⟩
  ·exact ⟨o, z, z⟩
  ·exact ⟨z, o, z⟩
  ·exact ⟨z, z, z⟩
  ·exact ⟨o, z, z⟩
theorem cp_GT {a b : Int} : CpQ (GT a b) := ⟨by simp, by simp, by simp, by simp, fun x hx => by
  simp at hx
  rcases hx with rfl | rfl | rfl | rfl | rfl | rfl | rfl <;> simp⟩
theorem cp_GF {a b : Int} : CpQ (GF a b) := ⟨by simp, by simp, by simp, by simp, fun x hx => by
  simp at hx
  rcases hx with rfl | rfl | rfl | rfl | rfl | rfl | rfl <;> simp⟩
theorem reach_GT {a b : Int} {R : List Bool} (h : IsReach (GT a b) R) : R = [true, true, true, true, true, false, true] := by
 have st : ∀ i j : Nat, reachP (GT a b) i → i < 7 → (j : Int) ∈ nextL (GT a b) (i : Int) → j < 7 → reachP (GT a b) j := fun i j hr hi hn hj => .next hr hi hn hj (by decide)
 have r0 : reachP (GT a b) 0 := .first (show 0 < 7 by decide) (by decide)
 have r1 := st 0 1 r0 (by decide) (by rw [show nextL (GT a b) ((0 : Nat) : Int) = [1] by kernel_rfl]; decide) (by decide)
 have r2 := st 1 2 r1 (by decide) (by rw [show nextL (GT a b) ((1 : Nat) : Int) = [2] by kernel_rfl]; decide) (by decide)
 have r3 := st 2 3 r2 (by decide) (by rw [show nextL (GT a b) ((2 : Nat) : Int) = [3] by kernel_rfl]; decide) (by decide)
 have r4 := st 3 4 r3 (by decide) (by rw [show nextL (GT a b) ((3 : Nat) : Int) = [4] by kernel_rfl]; decide) (by decide)
 have r6 := st 4 6 r4 (by decide) (by rw [show nextL (GT a b) ((4 : Nat) : Int) = [6] by kernel_rfl]; decide) (by decide)
 have n5 : ¬ reachP (GT a b) 5 := by
  have key : ∀ i, reachP (GT a b) i → i ≠ 5 := by
   intro i hi
   induction hi with
   | first _ _ => decide
   | @next i j _ hi hj _ _ ih =>
    have hi : i < 7 := hi
    have hj : (j : Int) ∈ nextL (GT a b) (i : Int) := hj
    intro e
    subst e
    have h7 : i = 0 ∨ i = 1 ∨ i = 2 ∨ i = 3 ∨ i = 4 ∨ i = 6 := by omega
    rcases h7 with rfl | rfl | rfl | rfl | rfl | rfl
    ·rw [show nextL (GT a b) ((0 : Nat) : Int) = [1] by kernel_rfl] at hj; exact absurd hj (by decide)
    ·rw [show nextL (GT a b) ((1 : Nat) : Int) = [2] by kernel_rfl] at hj; exact absurd hj (by decide)
    ·rw [show nextL (GT a b) ((2 : Nat) : Int) = [3] by kernel_rfl] at hj; exact absurd hj (by decide)
    ·rw [show nextL (GT a b) ((3 : Nat) : Int) = [4] by kernel_rfl] at hj; exact absurd hj (by decide)
    ·rw [show nextL (GT a b) ((4 : Nat) : Int) = [6] by kernel_rfl] at hj; exact absurd hj (by decide)
    ·rw [show nextL (GT a b) ((6 : Nat) : Int) = [] by kernel_rfl] at hj; exact absurd hj (by decide)
   | @caught i j _ _ _ hj _ _ =>
    have hj : (j : Int) ∈ catL [] (i : Int) := hj
    exact absurd hj (by simp [catL])
  exact fun h => key 5 h rfl
 have hl : R.length = 7 := h.1
 match R, hl with
 | [b0, b1, b2, b3, b4, b5, b6], _ =>
  have e5 : b5 = false := by cases b5 with | false => rfl | true => exact absurd ((h.2 5 true rfl).1 rfl) n5
  rw [(h.2 0 b0 rfl).2 r0, (h.2 1 b1 rfl).2 r1, (h.2 2 b2 rfl).2 r2, (h.2 3 b3 rfl).2 r3, (h.2 4 b4 rfl).2 r4, e5, (h.2 6 b6 rfl).2 r6]
theorem reach_GF {a b : Int} {R : List Bool} (h : IsReach (GF a b) R) : R = [true, true, true, true, true, true, false] := by
 have st : ∀ i j : Nat, reachP (GF a b) i → i < 7 → (j : Int) ∈ nextL (GF a b) (i : Int) → j < 7 → reachP (GF a b) j := fun i j hr hi hn hj => .next hr hi hn hj (by decide)
 have r0 : reachP (GF a b) 0 := .first (show 0 < 7 by decide) (by decide)
 have r1 := st 0 1 r0 (by decide) (by rw [show nextL (GF a b) ((0 : Nat) : Int) = [1] by kernel_rfl]; decide) (by decide)
 have r2 := st 1 2 r1 (by decide) (by rw [show nextL (GF a b) ((1 : Nat) : Int) = [2] by kernel_rfl]; decide) (by decide)
 have r3 := st 2 3 r2 (by decide) (by rw [show nextL (GF a b) ((2 : Nat) : Int) = [3] by kernel_rfl]; decide) (by decide)
 have r4 := st 3 4 r3 (by decide) (by rw [show nextL (GF a b) ((3 : Nat) : Int) = [4] by kernel_rfl]; decide) (by decide)
 have r5 := st 4 5 r4 (by decide) (by rw [show nextL (GF a b) ((4 : Nat) : Int) = [5] by kernel_rfl]; decide) (by decide)
 have n6 : ¬ reachP (GF a b) 6 := by
  have key : ∀ i, reachP (GF a b) i → i ≠ 6 := by
   intro i hi
   induction hi with
   | first _ _ => decide
   | @next i j _ hi hj _ _ ih =>
    have hi : i < 7 := hi
    have hj : (j : Int) ∈ nextL (GF a b) (i : Int) := hj
    intro e
    subst e
    have h7 : i = 0 ∨ i = 1 ∨ i = 2 ∨ i = 3 ∨ i = 4 ∨ i = 5 := by omega
    rcases h7 with rfl | rfl | rfl | rfl | rfl | rfl
    ·rw [show nextL (GF a b) ((0 : Nat) : Int) = [1] by kernel_rfl] at hj; exact absurd hj (by decide)
    ·rw [show nextL (GF a b) ((1 : Nat) : Int) = [2] by kernel_rfl] at hj; exact absurd hj (by decide)
    ·rw [show nextL (GF a b) ((2 : Nat) : Int) = [3] by kernel_rfl] at hj; exact absurd hj (by decide)
    ·rw [show nextL (GF a b) ((3 : Nat) : Int) = [4] by kernel_rfl] at hj; exact absurd hj (by decide)
    ·rw [show nextL (GF a b) ((4 : Nat) : Int) = [5] by kernel_rfl] at hj; exact absurd hj (by decide)
    ·rw [show nextL (GF a b) ((5 : Nat) : Int) = [] by kernel_rfl] at hj; exact absurd hj (by decide)
   | @caught i j _ _ _ hj _ _ =>
    have hj : (j : Int) ∈ catL [] (i : Int) := hj
    exact absurd hj (by simp [catL])
  exact fun h => key 6 h rfl
 have hl : R.length = 7 := h.1
 match R, hl with
 | [b0, b1, b2, b3, b4, b5, b6], _ =>
  have e6 : b6 = false := by cases b6 with | false => rfl | true => exact absurd ((h.2 6 true rfl).1 rfl) n6
  rw [(h.2 0 b0 rfl).2 r0, (h.2 1 b1 rfl).2 r1, (h.2 2 b2 rfl).2 r2, (h.2 3 b3 rfl).2 r3, (h.2 4 b4 rfl).2 r4, (h.2 5 b5 rfl).2 r5, e6]
theorem trim_GT {a b : Int} {F : FuI} (hc : chkN (GT a b) = 0) (h : IsTrim (GT a b) F) : F.code.length = 6 := by
 obtain ⟨R, h1, rfl⟩ := h.2 hc
 rw [reach_GT h1]
 kernel_rfl
theorem trim_GF {a b : Int} {F : FuI} (hc : chkN (GF a b) = 0) (h : IsTrim (GF a b) F) : F.code.length = 5 := by
 obtain ⟨R, h1, rfl⟩ := h.2 hc
 rw [reach_GF h1]
 kernel_rfl
end Go.Proofs.Ytbkeneadoccodaa
/- FoldWays: the law walked. -/
namespace Go.Proofs.Ytbkeneadoccodaa
open Go.RowKit Go
set_option linter.unusedVariables false
set_option linter.unusedSimpArgs false
theorem six_at (n : Int) : ∃ c : Int, (n.tmod 6 + 6).tmod 6 = c ∧ 0 ≤ c ∧ c ≤ 5 ∧ -6 < n.tmod 6 ∧ n.tmod 6 < 6 := by
 have h1 := Int.tmod_lt_of_pos n (show (0 : Int) < 6 by decide)
 have h2 : -6 < n.tmod 6 := by
  by_cases hn : 0 ≤ n
  ·have := Int.tmod_nonneg 6 hn
   omega
  ·have h4 := Int.tmod_lt_of_pos (-n) (show (0 : Int) < 6 by decide)
   rw [Int.neg_tmod] at h4
   omega
 have h3 : 0 ≤ n.tmod 6 + 6 := by omega
 have h5 := Int.tmod_lt_of_pos (n.tmod 6 + 6) (show (0 : Int) < 6 by decide)
 have h6 := Int.tmod_nonneg 6 h3
 exact ⟨_, rfl, h6, by omega, h2, h1⟩
theorem idx6_0 : ∀ (x0 x1 x2 x3 x4 x5 : Bool) (w' : World), (Instr.index 40 (.agg #[.bool x0, .bool x1, .bool x2, .bool x3, .bool x4, .bool x5]) (.int .i64 0)).run Try.prog w' = .ok (.bool x0) w' := fun _ _ _ _ _ _ _ => by kernel_rfl
theorem idx6_1 : ∀ (x0 x1 x2 x3 x4 x5 : Bool) (w' : World), (Instr.index 40 (.agg #[.bool x0, .bool x1, .bool x2, .bool x3, .bool x4, .bool x5]) (.int .i64 1)).run Try.prog w' = .ok (.bool x1) w' := fun _ _ _ _ _ _ _ => by kernel_rfl
theorem idx6_2 : ∀ (x0 x1 x2 x3 x4 x5 : Bool) (w' : World), (Instr.index 40 (.agg #[.bool x0, .bool x1, .bool x2, .bool x3, .bool x4, .bool x5]) (.int .i64 2)).run Try.prog w' = .ok (.bool x2) w' := fun _ _ _ _ _ _ _ => by kernel_rfl
theorem idx6_3 : ∀ (x0 x1 x2 x3 x4 x5 : Bool) (w' : World), (Instr.index 40 (.agg #[.bool x0, .bool x1, .bool x2, .bool x3, .bool x4, .bool x5]) (.int .i64 3)).run Try.prog w' = .ok (.bool x3) w' := fun _ _ _ _ _ _ _ => by kernel_rfl
theorem idx6_4 : ∀ (x0 x1 x2 x3 x4 x5 : Bool) (w' : World), (Instr.index 40 (.agg #[.bool x0, .bool x1, .bool x2, .bool x3, .bool x4, .bool x5]) (.int .i64 4)).run Try.prog w' = .ok (.bool x4) w' := fun _ _ _ _ _ _ _ => by kernel_rfl
theorem idx6_5 : ∀ (x0 x1 x2 x3 x4 x5 : Bool) (w' : World), (Instr.index 40 (.agg #[.bool x0, .bool x1, .bool x2, .bool x3, .bool x4, .bool x5]) (.int .i64 5)).run Try.prog w' = .ok (.bool x5) w' := fun _ _ _ _ _ _ _ => by kernel_rfl
theorem field_code : ∀ (a b r d e : Value) (w' : World), (Instr.field 27 (.agg #[a, b, r, d, e]) 3).run Try.prog w' = .ok d w' := fun _ _ _ _ _ _ => by kernel_rfl
theorem own_cap9 {w : World} {B : Nat} {v : Value} {l : List Int} (h : OwN w B v l) : ∀ A n cap, v = .slice A n cap → n ≤ cap ∧ cap ≤ maxLen := by
 rintro A n cap rfl
 rcases h.2 with ⟨h1, _⟩ | ⟨g, c, cur, h1, _, _, h4, h5, _⟩
 ·injection h1 with _ e1 e2
  subst e1 e2
  exact ⟨Nat.le_refl _, by unfold maxLen; omega⟩
 ·injection h1 with _ e1 e2
  subst e1 e2
  exact ⟨h4, h5⟩
set_option maxHeartbeats 32000000 in
set_option maxRecDepth 100000 in
theorem FoldWays_walk (n a b : Int) (wn : I64 n) (wa : K32 a) (wb : K32 b) (w : World) :
    Calls Try.prog 6 #[.int .i64 n, .int .i32 a, .int .i32 b] w fun e w' => e = .returned (.bool true) ∧ Below w.heap.size w w' := by
  obtain ⟨c, hc, hc0, hc5, hm1, hm2⟩ := six_at n
  have HC : Hid (0 ≤ c ∧ c ≤ 5) := lhid ⟨hc0, hc5⟩
  have HA := lhid wa
  have HB := lhid wb
  have e1 : wrap64 (n.tmod 6) = n.tmod 6 := IntWalk.wrap64_in _ (by omega)
  have e2 : wrap64 (n.tmod 6 + 6) = n.tmod 6 + 6 := IntWalk.wrap64_in _ (by omega)
  have e3 : wrap64 c = c := IntWalk.wrap64_in _ (by omega)
  have e4 : wrap64 a = a := IntWalk.wrap64_in _ (by have := wa.1; have := wa.2; omega)
  have e5 : wrap64 b = b := IntWalk.wrap64_in _ (by have := wb.1; have := wb.2; omega)
  clear hc0 hc5 hm1 hm2
  go_enter Try.func6, Try.ntmps6
  go_wp2_with fail
  with_reducible refine (holds15_any w).mono ?_
  rintro e w1 ⟨rfl, hb1⟩
  have HB1 := lhid hb1
  clear hb1
  go_upto_region 5 with fail
  generalize hW : World.alloc _ _ = w2
  obtain ⟨B0, hB0⟩ : ∃ B0, B0 = w1.heap.size := ⟨_, rfl⟩
  rw [← hB0]
  have hb2 : Below B0 w1 w2 := by rw [← hW, hB0]; exact (((Below.refl w1.heap.size w1).alloc (Nat.le_refl _) _).alloc (by simp) _).alloc (by simp; omega) _
  have hg2 : w2.heap[B0 + 1]? = some (.cells ((wayL a b (wI 28 0 1 c 6)).flatMap bareC).toArray 29 (0, 0)) := by
    rw [← hW, hB0]
    exact (Below.heap_alloc _ _ _ (by simp)).trans (heap_new2 w1 _ _)
  have hr2 : w2.heap[B0]? = some (.cells #[.int .i64 1, .int .i64 1] 3 (0, 0)) := by
    rw [← hW, hB0]
    exact (Below.heap_alloc _ _ _ (by simp; omega)).trans ((Below.heap_alloc _ _ _ (by simp)).trans (heap_alloc_new w1 _))
  have hF2 : FBox w2 (B0 + 1 + 1) (.slice (some ⟨B0, 0, none⟩) 2 2) (.slice none 0 0) 1 (.slice (some ⟨B0 + 1, 0, none⟩) 7 7) (.slice none 0 0) := by
    rw [← hW, hB0]
    exact heap_alloc_new' _ _ _ (by simp)
  have HU2 : Hid (FuV Tru w2 (FW c a b) (.slice (some ⟨B0, 0, none⟩) 2 2) (.slice none 0 0) (.slice (some ⟨B0 + 1, 0, none⟩) 7 7) (.slice none 0 0)) := lhid ⟨lit_nu (l := [1, 1]) hr2 rfl (by simp), rdX_nil _ _ _ _ _ _ (fun _ => rfl), bare_rd (l := wayL a b (wI 28 0 1 c 6)) (by simp) hg2 (by simp), rdX_nil _ _ _ _ _ _ (fun _ => rfl)⟩
  have HB2 : Hid (Below w.heap.size w w2) := lhid (HB1.out.trans (hb2.mono (by rw [hB0]; exact HB1.out.size)))
  have HL2 : Hid (w.heap.size ≤ w2.heap.size) := lhid HB2.out.size
  have HF2 := lhid hF2
  obtain ⟨p0, p1, p2, p3, p4⟩ := hF2.cells
  clear hW hb2 hg2 hr2 hF2 HB1 hB0 e1 e2 e3 e4 e5 hc
  go_wp2_with fail
  with_reducible refine (pass_any (FW c a b) _ _ _ _ w2 HU2 (lhid (fq_FW HC.out HA.out HB.out)) nil_cap (lhid cp_FW) (lhid i6_FW)).mono ?_
  rintro e w3 ⟨va, vb, vd, ve, rfl, hcv, hb3⟩
  obtain ⟨t, ht⟩ : ∃ t, Nm.cnd c a b = t := ⟨_, rfl⟩
  obtain ⟨F, hF⟩ : ∃ F, foldF (FW c a b) = F := ⟨_, rfl⟩
  have hFt : F = if t then GT a b else GF a b := by rw [← hF]; exact fold_FW HC.out HA.out HB.out ht
  have hl : F.code.length = 7 := by rw [hFt]; cases t <;> rfl
  have hFF : F = foF (FW c a b) := by rw [← hF]; exact foldF_yes (chk_FW HC.out HA.out HB.out)
  have HCF : Hid (chkN F = 0) := lhid (by rw [hFF]; exact chk_foF (chk_FW HC.out HA.out HB.out) (fq_FW HC.out HA.out HB.out))
  have HQF : Hid (FuQ F) := lhid (by rw [hFF]; exact fq_foF (chk_FW HC.out HA.out HB.out) (fq_FW HC.out HA.out HB.out))
  have HPF : Hid (CpQ F) := lhid (by rw [hFt]; cases t; exact cp_GF; exact cp_GT)
  have HRN : Hid (RwN F.rows) := lhid (by rw [hFt]; cases t <;> exact rwn_nil)
  have HTT := lhid ht
  have HFL := lhid hl
  have HFT := lhid hFt
  rw [hF] at hcv ⊢
  obtain ⟨CA, ca, ha⟩ := own_shape hcv.a
  obtain ⟨CB, cb, hb⟩ := own_shape hcv.b
  obtain ⟨CE, ce, he⟩ : ∃ A cc, ve = .slice A F.rows.length cc := by obtain ⟨xs, h5, _⟩ := hcv.e; exact own_shape h5
  subst ha hb he
  obtain ⟨g, cd, hd, hco⟩ : ∃ g cd, vd = .slice (some ⟨g, 0, none⟩) 7 cd ∧ CoO w2.heap.size w3 g cd F.code := by
    rcases hcv.d with ⟨_, h7⟩ | ⟨g, cap, h7, _, _, _, h8⟩
    · rw [h7] at hl; cases hl
    · exact ⟨g, cap, by rw [h7, hl], h8⟩
  subst hd
  have hfu := (hcv.fu (by rw [hFF]; simp [foF]) (by rw [hFF]; simp [foF]) (by rw [hl]; decide) (by rw [hFF]; simp [foF]) (fun x hx => by have := HPF.out.args x hx; omega)).tru
  have HFU3 := lhid hfu
  have HCO3 := lhid hco
  have HCAP := lhid (own_cap9 hcv.b)
  have HB3 : Hid (Below w.heap.size w w3) := lhid (HB2.out.trans (hb3.mono HL2.out))
  clear hcv hb3 ht hF hFt hl hFF hfu hco HU2 HB2 HL2 HF2 p0 p1 p2 p3 p4
  go_upto_region 6 with fail
  generalize hW : World.alloc _ _ = w4
  obtain ⟨G, hG⟩ : ∃ G, G = w3.heap.size := ⟨_, rfl⟩
  try rw [← hG]
  have hb4 : Below w3.heap.size w3 w4 := by rw [← hW]; exact (Below.refl _ _).alloc (Nat.le_refl _) _
  have HG4 : Hid (FBox w4 G (.slice CA F.regs.length ca) (.slice CB F.params.length cb) F.ret (.slice (some ⟨g, 0, none⟩) 7 cd) (.slice CE F.rows.length ce)) := lhid (by rw [← hW, hG]; exact heap_alloc_new w3 _)
  have HFU4 := lhid (HFU3.out.below hb4)
  have HCO4 : Hid (CoO w2.heap.size w4 g cd F.code) := lhid (HCO3.out.below hb4)
  have HB4 : Hid (Below w.heap.size w w4) := lhid (HB3.out.trans (hb4.mono HB3.out.size))
  have HL4 : Hid (w.heap.size ≤ w4.heap.size) := lhid HB4.out.size
  clear hW hG hb4 HFU3 HCO3 HB3
  go_cut [9] from 33 to 53 (fun v wx => v = .bool t ∧ w4 = wx)
  case first =>
    have h6 : c = 0 ∨ c = 1 ∨ c = 2 ∨ c = 3 ∨ c = 4 ∨ c = 5 := by have := HC.out; omega
    have i0 := idx6_0
    have i1 := idx6_1
    have i2 := idx6_2
    have i3 := idx6_3
    have i4 := idx6_4
    have i5 := idx6_5
    rcases h6 with rfl | rfl | rfl | rfl | rfl | rfl
    all_goals
      (go_wp2_with fail
       go_meet
       case rel => exact ⟨by rw [← HTT.out]; rfl, rfl⟩)
  case rest =>
    obtain ⟨rfl, hww⟩ := hcut
    subst hww
    have h2 : F.code[2]? = some (wI 7 0 0 0 0) := by rw [HFT.out]; cases t <;> rfl
    have h3 : F.code[3]? = some (wI 10 1 0 0 0) := by rw [HFT.out]; cases t <;> rfl
    obtain ⟨v2, _, c2, _⟩ := HCO4.out.at_ h2
    obtain ⟨v3, _, c3, _⟩ := HCO4.out.at_ h3
    have d2 : w4.cell? ⟨g, 18, none⟩ = some (.int .i64 7) := c2
    have d3 : w4.cell? ⟨g, 27, none⟩ = some (.int .i64 10) := c3
    obtain ⟨q0, q1, q2, q3, q4⟩ := HG4.out.cells
    clear h2 h3 c2 c3
    cases t with
    | true =>
      have h4 : F.code[4]? = some (wI 27 0 0 0 6) := by rw [HFT.out]; rfl
      obtain ⟨v4, _, c0, c1, c2, c3, c4, c5, c6, _⟩ := HCO4.out.at_ h4
      have d4 : w4.cell? ⟨g, 36, none⟩ = some (.int .i64 27) := c0
      have d5 : w4.cell? ⟨g, 42, none⟩ = some (.int .i64 6) := c6
      clear h4 c0 c1 c2 c3 c4 c5 c6
      go_wp2_with fail
      with_reducible refine (trim_any F _ _ _ _ w4 HFU4 HQF HCAP HPF (lhid (by rw [HFL.out]; decide)) HRN).mono ?_
      rintro e w5 ⟨F2, ta, tb, td, te, rfl, hf, htr, hb5⟩
      have hl6 : F2.code.length = 6 := by
        have e := HFT.out
        have hc := HCF.out
        rw [e] at htr hc
        exact trim_GT hc htr
      obtain ⟨A1, a1, e1⟩ := hf.a.shape
      obtain ⟨A2, a2, e2⟩ := hf.b.shape
      obtain ⟨A3, a3, e3⟩ := hf.d.shape
      obtain ⟨A4, a4, e4⟩ := hf.e.shape
      rw [hl6] at e3
      subst e1 e2 e3 e4
      have HB5 : Hid (Below w.heap.size w w5) := lhid (HB4.out.trans (hb5.mono HL4.out))
      have hfc := field_code
      clear hf htr hb5 hl6 d2 d3 d4 d5 q0 q1 q2 q3 q4
      go_wp2_with fail
      go_ret
      exact ⟨rfl, HB5.out⟩
    | false =>
      have h4 : F.code[4]? = some (wI 33 0 0 0 0) := by rw [HFT.out]; rfl
      obtain ⟨v4, _, c0, _⟩ := HCO4.out.at_ h4
      have d4 : w4.cell? ⟨g, 36, none⟩ = some (.int .i64 33) := c0
      clear h4 c0
      go_wp2_with fail
      with_reducible refine (trim_any F _ _ _ _ w4 HFU4 HQF HCAP HPF (lhid (by rw [HFL.out]; decide)) HRN).mono ?_
      rintro e w5 ⟨F2, ta, tb, td, te, rfl, hf, htr, hb5⟩
      have hl6 : F2.code.length = 5 := by
        have e := HFT.out
        have hc := HCF.out
        rw [e] at htr hc
        exact trim_GF hc htr
      obtain ⟨A1, a1, e1⟩ := hf.a.shape
      obtain ⟨A2, a2, e2⟩ := hf.b.shape
      obtain ⟨A3, a3, e3⟩ := hf.d.shape
      obtain ⟨A4, a4, e4⟩ := hf.e.shape
      rw [hl6] at e3
      subst e1 e2 e3 e4
      have HB5 : Hid (Below w.heap.size w w5) := lhid (HB4.out.trans (hb5.mono HL4.out))
      have hfc := field_code
      clear hf htr hb5 hl6 d2 d3 d4 q0 q1 q2 q3 q4
      go_wp2_with fail
      go_ret
      exact ⟨rfl, HB5.out⟩
end Go.Proofs.Ytbkeneadoccodaa
/- FoldChains: the chain in plain words. No walk in this text. -/
namespace Go.Proofs.Ytbkeneadoccodaa
open Go.RowKit Go
set_option linter.unusedVariables false
set_option linter.unusedSimpArgs false
abbrev kC (r n : Int) : InI := ⟨1, r, 0, 0, 0, n, 0, [], []⟩
abbrev kB (c : Int) : InI := ⟨5, 0, 0, 1, 0, c, 0, [], []⟩
abbrev kR : InI := ⟨30, 0, 0, 0, 0, 0, 0, [], []⟩
def bodC (ps : List (Int × Int)) : List InI := ps.flatMap fun p => [kC 1 p.2, kB p.1]
def chL (n0 : Int) (ps : List (Int × Int)) : List InI := kC 0 n0 :: bodC ps
def FC (n0 : Int) (ps : List (Int × Int)) : FuI := ⟨[2, 2], [], 2, chL n0 ps ++ [kR], []⟩
def wnC (w : Int) (ps : List (Int × Int)) : Int := ps.foldl (fun w p => Nm.two p.1 w p.2) w
theorem chL_snoc (n0 : Int) (ps : List (Int × Int)) (p : Int × Int) : chL n0 (ps ++ [p]) = chL n0 ps ++ [kC 1 p.2, kB p.1] := by simp [chL, bodC]
theorem wnC_snoc (w : Int) (ps : List (Int × Int)) (p : Int × Int) : wnC w (ps ++ [p]) = Nm.two p.1 (wnC w ps) p.2 := by simp [wnC]
theorem bod_len (ps : List (Int × Int)) : (bodC ps).length = 2 * ps.length := by
 induction ps with
 | nil => rfl
 | cons p ps ih => show (kC 1 p.2 :: kB p.1 :: bodC ps).length = _; simp [ih]; omega
theorem chL_len (n0 : Int) (ps : List (Int × Int)) : (chL n0 ps).length = 2 * ps.length + 1 := by simp [chL, bod_len]
def endI (r : Int × Int) (x : InI) : Int × Int :=
 if x.op = 1 then (if x.dst % 2 = 0 then (x.num, r.2) else (r.1, x.num))
 else if x.op = 5 then (if x.dst % 2 = 0 then (Nm.two x.num (if x.a % 2 = 0 then r.1 else r.2) (if x.b % 2 = 0 then r.1 else r.2), r.2) else (r.1, Nm.two x.num (if x.a % 2 = 0 then r.1 else r.2) (if x.b % 2 = 0 then r.1 else r.2)))
 else r
def endS (l : List InI) : Int × Int := l.foldl endI (0, 0)
theorem endS_snoc {l : List InI} {k : Nat} {x : InI} (h : l[k]? = some x) : endS (l.take (k + 1)) = endI (endS (l.take k)) x := by
 rw [List.take_add_one, h]
 simp [endS]
theorem end_bod (ps : List (Int × Int)) : ∀ (w u : Int), (((bodC ps).foldl endI (w, u))).1 = wnC w ps := by
 induction ps with
 | nil => intro w u; rfl
 | cons p ps ih => intro w u; exact ih (Nm.two p.1 w p.2) p.2
theorem end_FC (n0 : Int) (ps : List (Int × Int)) : (endS (FC n0 ps).code).1 = wnC n0 ps := by
 show (((kC 0 n0 :: bodC ps) ++ [kR]).foldl endI (0, 0)).1 = _
 rw [List.foldl_append]
 exact end_bod ps n0 0
def foRun : KnF → List InI → List InI
 | _, [] => []
 | K, x :: l => foI K x :: foRun (noK K (foI K x)) l
def stK : KnF → List InI → Nat → KnF
 | K, _, 0 => K
 | K, [], _ + 1 => K
 | K, x :: l, i + 1 => stK (noK K (foI K x)) l i
theorem stK_zero (K : KnF) (l : List InI) : stK K l 0 = K := by cases l <;> rfl
theorem foRun_get : ∀ (l : List InI) (K : KnF) (i : Nat) (x : InI), l[i]? = some x → (foRun K l)[i]? = some (foI (stK K l i) x)
 | [], _, _, _, h => by simp at h
 | y :: l, K, 0, x, h => by
  simp at h
  subst h
  rfl
 | y :: l, K, i + 1, x, h => foRun_get l _ i x (by simpa using h)
theorem foRun_len : ∀ (l : List InI) (K : KnF), (foRun K l).length = l.length
 | [], _ => rfl
 | y :: l, K => by show (foRun _ l).length + 1 = _; rw [foRun_len l]; rfl
theorem stK_succ : ∀ (l : List InI) (K : KnF) (i : Nat) (x : InI), l[i]? = some x → stK K l (i + 1) = noK (stK K l i) (foI (stK K l i) x)
 | [], _, _, _, h => by simp at h
 | y :: l, K, 0, x, h => by
  simp at h
  subst h
  cases l <;> rfl
 | y :: l, K, i + 1, x, h => stK_succ l _ i x (by simpa using h)
theorem one_block {f : FuI} (hr : f.rows = []) (h : ∀ (i : Nat) x, f.code[i]? = some x → leadsB x.op = false ∧ (endsB x.op = true → i + 1 = f.code.length)) {k : Nat} (h0 : 0 < k) (hk : k < f.code.length) : hmB f k = false := by
 unfold hmB
 rw [decide_eq_false_iff_not]
 intro hm
 unfold hmL hmT hmR at hm
 rw [hr] at hm
 simp only [List.append_assoc, List.mem_append, List.mem_flatMap, List.mem_range, List.take_nil, List.flatMap_nil, List.not_mem_nil, or_false, List.mem_singleton] at hm
 rcases hm with hm | ⟨i, hi, hm⟩
 ·omega
 ·cases hx : f.code[i]? with
  | none => rw [hx] at hm; cases hm
  | some x =>
   rw [hx] at hm
   obtain ⟨h1, h2⟩ := h i x hx
   have hm : (k : Int) ∈ hmX x i := hm
   unfold hmX at hm
   rw [h1] at hm
   cases he : endsB x.op with
   | false => rw [he] at hm; simp at hm
   | true =>
    rw [he] at hm
    have := h2 he
    simp at hm
    omega
theorem foC_run {f : FuI} (hr : f.rows = []) (h : ∀ (i : Nat) x, f.code[i]? = some x → leadsB x.op = false ∧ (endsB x.op = true → i + 1 = f.code.length)) : foC f = foRun (fun _ => none) f.code := by
 have hS : ∀ k, k < f.code.length → foH f k = stK (fun _ => none) f.code k := by
  intro k
  induction k with
  | zero =>
   intro _
   rw [stK_zero]
   unfold foH
   split <;> rfl
  | succ k ih =>
   intro hk
   obtain ⟨x, hx⟩ : ∃ x, f.code[k]? = some x := ⟨_, List.getElem?_eq_getElem (by omega)⟩
   have ih := ih (by omega)
   have e : foH f (k + 1) = foS f (k + 1) := by
    unfold foH
    rw [one_block hr h (Nat.succ_pos k) hk]
    rfl
   rw [e, foS_succ hx, ih, stK_succ _ _ _ _ hx]
 refine List.ext_getElem? fun i => ?_
 cases hx : f.code[i]? with
 | none =>
  have hl : f.code.length ≤ i := List.getElem?_eq_none_iff.1 hx
  rw [List.getElem?_eq_none (by rw [foC_len]; exact hl), List.getElem?_eq_none (by rw [foRun_len]; exact hl)]
 | some x => rw [foC_get hx, foRun_get _ _ _ _ hx, hS i (List.getElem?_eq_some_iff.1 hx).1]
def outB : Int → List (Int × Int) → List InI
 | _, [] => []
 | w, p :: ps => kC 1 p.2 :: kC 0 (Nm.two p.1 w p.2) :: outB (Nm.two p.1 w p.2) ps
theorem run_bod : ∀ (ps : List (Int × Int)) (K : KnF) (w : Int), K 0 = some w → foRun K (bodC ps ++ [kR]) = outB w ps ++ [kR]
 | [], K, w, h => rfl
 | p :: ps, K, w, h => by
  show foI K (kC 1 p.2) :: foI (noK K (foI K (kC 1 p.2))) (kB p.1) :: foRun (noK (noK K (foI K (kC 1 p.2))) (foI (noK K (foI K (kC 1 p.2))) (kB p.1))) (bodC ps ++ [kR]) = _
  have e1 : foI K (kC 1 p.2) = kC 1 p.2 := rfl
  rw [e1]
  have h0 : noK K (kC 1 p.2) 0 = some w := h
  have h1 : noK K (kC 1 p.2) 1 = some p.2 := rfl
  have e2 : foI (noK K (kC 1 p.2)) (kB p.1) = kC 0 (Nm.two p.1 w p.2) := by
   unfold foI
   rw [if_neg (show ¬ (5 : Int) = 4 by decide), if_neg (show ¬ (5 : Int) = 6 by decide), if_pos rfl]
   show (match noK K (kC 1 p.2) 0, noK K (kC 1 p.2) 1 with | some a, some b => _ | _, _ => _) = _
   rw [h0, h1]
   rfl
  rw [e2]
  rw [run_bod ps _ (Nm.two p.1 w p.2) rfl]
  rfl
theorem leads_FC (n0 : Int) (ps : List (Int × Int)) : ∀ (i : Nat) x, (FC n0 ps).code[i]? = some x → leadsB x.op = false ∧ (endsB x.op = true → i + 1 = (FC n0 ps).code.length) := by
 intro i x hx
 have hx : (chL n0 ps ++ [kR])[i]? = some x := hx
 rcases Nat.lt_or_ge i (chL n0 ps).length with hlt | hge
 ·rw [List.getElem?_append_left hlt] at hx
  have hm := List.mem_of_getElem? hx
  have ho : x.op = 1 ∨ x.op = 5 := by
   unfold chL bodC at hm
   rcases List.mem_cons.1 hm with rfl | hm
   ·exact .inl rfl
   ·obtain ⟨p, _, hm⟩ := List.mem_flatMap.1 hm
    rcases List.mem_cons.1 hm with rfl | hm
    ·exact .inl rfl
    ·rw [List.mem_singleton.1 hm]; exact .inr rfl
  rcases ho with ho | ho <;> rw [ho] <;> exact ⟨rfl, fun h => (by cases h)⟩
 ·rw [List.getElem?_append_right hge] at hx
  have h0 : i - (chL n0 ps).length = 0 := by
   have := (List.getElem?_eq_some_iff.1 hx).1
   simp at this
   omega
  rw [h0] at hx
  have : x = kR := by simpa using hx.symm
  subst this
  refine ⟨rfl, fun _ => ?_⟩
  show i + 1 = (chL n0 ps ++ [kR]).length
  rw [List.length_append]
  simp
  omega
theorem foC_FC (n0 : Int) (ps : List (Int × Int)) : foC (FC n0 ps) = (kC 0 n0 :: outB n0 ps) ++ [kR] := by
 rw [foC_run rfl (leads_FC n0 ps)]
 show foI _ (kC 0 n0) :: foRun (noK _ (foI _ (kC 0 n0))) (bodC ps ++ [kR]) = _
 have e1 : foI (fun _ => none) (kC 0 n0) = kC 0 n0 := rfl
 rw [e1, run_bod ps _ n0 rfl]
 rfl
theorem end_out (ps : List (Int × Int)) : ∀ (w u : Int), (((outB w ps).foldl endI (w, u))).1 = wnC w ps := by
 induction ps with
 | nil => intro w u; rfl
 | cons p ps ih => intro w u; exact ih (Nm.two p.1 w p.2) p.2
theorem end_fold (n0 : Int) (ps : List (Int × Int)) : (endS (foldF (FC n0 ps)).code).1 = wnC n0 ps := by
 unfold foldF
 split
 ·show (endS (foC (FC n0 ps))).1 = _
  rw [foC_FC]
  show (((kC 0 n0 :: outB n0 ps) ++ [kR]).foldl endI (0, 0)).1 = _
  rw [List.foldl_append]
  exact end_out ps n0 0
 ·exact end_FC n0 ps
theorem out_last : ∀ (ps : List (Int × Int)) (w : Int), (kC 0 w :: outB w ps)[2 * ps.length]? = some (kC 0 (wnC w ps))
 | [], w => rfl
 | p :: ps, w => by
  have := out_last ps (Nm.two p.1 w p.2)
  rw [show 2 * (p :: ps).length = 2 * ps.length + 2 by simp; omega]
  exact this
theorem out_len : ∀ (ps : List (Int × Int)) (w : Int), (outB w ps).length = 2 * ps.length
 | [], w => rfl
 | p :: ps, w => by
  show (outB _ ps).length + 1 + 1 = _
  rw [out_len ps]
  simp
  omega
theorem ch_last : ∀ (ps : List (Int × Int)) (w : Int), ∃ L, (chL w ps)[2 * ps.length]? = some L ∧ (L.op = 5 ∨ L.op = 1 ∧ L.num = wnC w ps ∧ L.dst = 0)
 | [], w => ⟨kC 0 w, rfl, .inr ⟨rfl, rfl, rfl⟩⟩
 | p :: ps, w => by
  have key : ∀ (qs : List (Int × Int)) (x : InI) (c : Int), ∃ L, (x :: kB c :: bodC qs)[2 * qs.length + 1]? = some L ∧ L.op = 5 := by
   intro qs
   induction qs with
   | nil => intro x c; exact ⟨kB c, rfl, rfl⟩
   | cons q qs ih =>
    intro x c
    obtain ⟨L, h1, h2⟩ := ih (kC 1 q.2) q.1
    refine ⟨L, ?_, h2⟩
    rw [show 2 * (q :: qs).length + 1 = (2 * qs.length + 1) + 2 by simp; omega]
    exact h1
  obtain ⟨L, h1, h2⟩ := key ps (kC 1 p.2) p.1
  refine ⟨L, ?_, .inl h2⟩
  rw [show 2 * (p :: ps).length = (2 * ps.length + 1) + 1 by simp; omega]
  exact h1
theorem fold_last (n0 : Int) (ps : List (Int × Int)) : ∃ L, (foldF (FC n0 ps)).code[2 * ps.length]? = some L ∧ (L.op = 5 ∨ L.op = 1 ∧ L.num = wnC n0 ps ∧ L.dst = 0) := by
 unfold foldF
 split
 ·refine ⟨kC 0 (wnC n0 ps), ?_, .inr ⟨rfl, rfl, rfl⟩⟩
  show (foC (FC n0 ps))[2 * ps.length]? = _
  rw [foC_FC, List.getElem?_append_left (by simp [out_len])]
  exact out_last ps n0
 ·obtain ⟨L, h1, h2⟩ := ch_last ps n0
  refine ⟨L, ?_, h2⟩
  show (chL n0 ps ++ [kR])[2 * ps.length]? = _
  rw [List.getElem?_append_left (by rw [chL_len]; omega)]
  exact h1
theorem wnC_64 : ∀ (ps : List (Int × Int)) (w : Int), I64 w → I64 (wnC w ps)
 | [], w, h => h
 | p :: ps, w, h => wnC_64 ps _ (two_64 h)
end Go.Proofs.Ytbkeneadoccodaa
