/- Texts of this claim, joined: CLivRegs, CLivHold, CLivTells. -/
import Derived.Test.YtoommeiiadobfaaM20
import Derived.Test.YtoommeiiadobfaaJCLivRef
import Derived.Test.YtoommeiiadobfaaM16
import Derived.Test.YtoommeiiadobfaaM5
/- What is read and written by a well formed function are its registers; what the table tells is what the document asks: no program in this text. -/
namespace Go.Proofs.Ytoommeiiadobfaa
open Go
set_option linter.unusedVariables false
theorem chk_one {f : FuI} (h : chkN f = 0) {i : Nat} {x : InI} (hx : f.code[i]? = some x) : oneB f i x = true := by
 have hc := (chk_parts h).1
 unfold codeB at hc
 simp only [Bool.and_eq_true, decide_eq_true_eq] at hc
 have h1 := List.all_eq_true.1 hc.2 i (List.mem_range.2 (List.getElem?_eq_some_iff.1 hx).1)
 rw [hx] at h1
 exact h1
theorem us1_in {f : FuI} {s r u : Int} (h : mayB f.regs r s = true) (hu : u ∈ us1 s r) : 0 ≤ u ∧ u < f.regs.length := by
 unfold us1 at hu
 split at hu
 ·rename_i ht
  have e := List.mem_singleton.1 hu
  subst e
  unfold tkB at ht
  unfold mayB at h
  simp only [Bool.and_eq_true, Bool.not_eq_true', Bool.and_eq_false_iff, decide_eq_false_iff_not] at ht
  rw [ht.1, Bool.false_or] at h
  split at h
  ·rename_i e
   rcases ht.2 with h1 | h1
   ·omega
   ·rw [h] at h1; cases h1
  ·simp only [Bool.and_eq_true, decide_eq_true_eq] at h
   exact h.1
 ·cases hu
theorem args_in {rs : List Int} {l : List Int} (h : argsB rs l = true) : ∀ u ∈ l, 0 ≤ u ∧ u < rs.length := by
 intro u hu
 unfold argsB at h
 simp only [Bool.and_eq_true] at h
 have h1 := List.all_eq_true.1 h.2 u hu
 unfold inB at h1
 simpa using h1
theorem chk_uses {f : FuI} (h : chkN f = 0) {i : Nat} {x : InI} (hx : f.code[i]? = some x) : ∀ u ∈ usesI x, 0 ≤ u ∧ u < f.regs.length := by
 intro u hu
 have h1 := chk_one h hx
 unfold oneB at h1
 simp only [Bool.and_eq_true] at h1
 obtain ⟨⟨⟨⟨_, hk⟩, hr⟩, _⟩, _⟩ := h1
 cases hc : callsB x.op with
 | true =>
  unfold callsB at hc
  simp only [decide_eq_true_eq, List.mem_cons, List.not_mem_nil, or_false] at hc
  have hx6 : usesI x = x.args := by
   rcases hc with e | e | e | e <;> simp [usesI, rk, cA, cAB, e]
  rw [hx6] at hu
  unfold restB at hr
  rcases hc with e | e | e | e
  ·simp [e] at hr; exact args_in hr.2 u hu
  ·simp [e] at hr; exact args_in hr.1.2 u hu
  ·simp [e] at hr; exact args_in hr.1 u hu
  ·simp [e] at hr; exact args_in hr.2 u hu
 | false =>
  rw [uses_us x hc] at hu
  unfold kindsB at hk
  simp only [Bool.and_eq_true] at hk
  rcases List.mem_append.1 hu with hu | hu
  ·rcases List.mem_append.1 hu with hu | hu
   ·exact us1_in hk.1.1.2 hu
   ·exact us1_in hk.1.2 hu
  ·exact us1_in hk.2 hu
theorem rd_reg {f : FuI} (h : chkN f = 0) {r : Int} {a : Nat} (hr : Rd f r a) : 0 ≤ r ∧ r < f.regs.length := by
 obtain ⟨j, x, _, hx, hu⟩ := hr
 exact chk_uses h hx r hu
theorem pr_one {f : FuI} {r : Int} {st : List Int} {j : Nat} : PR f r st j ↔ ∃ a : Nat, (a : Int) ∈ st ∧ a < f.code.length ∧ PR f r [(a : Int)] j := by
 constructor
 ·intro h
  induction h with
  | @first j hm hl => exact ⟨j, hm, hl, .first (List.mem_singleton.2 rfl) hl⟩
  | step _ hx hm hl ih =>
   obtain ⟨a, h1, h2, h3⟩ := ih
   exact ⟨a, h1, h2, .step h3 hx hm hl⟩
 ·rintro ⟨a, h1, h2, h3⟩
  induction h3 with
  | @first j hm hl =>
   have e := List.mem_singleton.1 hm
   rw [← e] at h1
   exact .first h1 hl
  | step _ hx hm hl ih => exact .step ih hx hm hl
theorem rds_one {f : FuI} {r : Int} {st : List Int} : RdS f r st ↔ ∃ a : Nat, (a : Int) ∈ st ∧ a < f.code.length ∧ Rd f r a := by
 constructor
 ·rintro ⟨j, x, hx, hu, hp⟩
  obtain ⟨a, h1, h2, h3⟩ := pr_one.1 hp
  exact ⟨a, h1, h2, j, x, h3, hx, hu⟩
 ·rintro ⟨a, h1, h2, j, x, h3, hx, hu⟩
  exact ⟨j, x, hx, hu, pr_one.2 ⟨a, h1, h2, h3⟩⟩
theorem bef_iff {f : FuI} {n R : Nat} (h : chkN f = 0) (hn : f.code.length = n) (hR : f.regs.length = R) (i r : Int) : BefP f n R i r ↔ InR n R i r ∧ RdS f r [i] := by
 rw [rds_one]
 constructor
 ·rintro ⟨a, b, ha, hb, han, _, hr⟩
  have h1 := rd_reg h hr
  exact ⟨⟨⟨by omega, by omega⟩, ⟨by omega, by omega⟩⟩, a, by rw [ha]; exact List.mem_singleton.2 rfl, by omega, hr⟩
 ·rintro ⟨⟨⟨h1, h2⟩, h3, h4⟩, a, hm, hl, hr⟩
  have e := List.mem_singleton.1 hm
  exact ⟨a, r.toNat, e.symm, by omega, by omega, by omega, hr⟩
theorem some_iff {f : FuI} {n R : Nat} (h : chkN f = 0) (hn : f.code.length = n) (hR : f.regs.length = R) (l : List Int) (r : Int) : (∃ z ∈ l, BefP f n R z r) ↔ (0 ≤ r ∧ r < R) ∧ RdS f r l := by
 rw [rds_one]
 constructor
 ·rintro ⟨z, hz, a, b, ha, hb, han, _, hr⟩
  have h1 := rd_reg h hr
  exact ⟨⟨by omega, by omega⟩, a, by rw [← ha]; exact hz, by omega, hr⟩
 ·rintro ⟨⟨h3, h4⟩, a, hm, hl, hr⟩
  exact ⟨a, hm, a, r.toNat, rfl, by omega, by omega, by omega, hr⟩
theorem aft_iff {f : FuI} {n R : Nat} (h : chkN f = 0) (hn : f.code.length = n) (hR : f.regs.length = R) (i r : Int) : AftP f n R i r ↔ InR n R i r ∧ RdS f r (nextL f i) := by
 constructor
 ·rintro ⟨a, rfl, han, hz⟩
  have h1 := (some_iff h hn hR _ r).1 hz
  exact ⟨⟨⟨by omega, by omega⟩, h1.1⟩, h1.2⟩
 ·rintro ⟨⟨⟨h1, h2⟩, h3⟩, h4⟩
  have e : i = (i.toNat : Int) := by omega
  rw [e] at h4
  exact ⟨i.toNat, e, by omega, (some_iff h hn hR _ r).2 ⟨h3, h4⟩⟩
theorem acr_iff {f : FuI} {n R : Nat} (h : chkN f = 0) (hn : f.code.length = n) (hR : f.regs.length = R) (i r : Int) : AcrP f f n n R i r ↔ InR n R i r ∧ (RdS f r (caughtL f i) ∨ (defAt f i.toNat ≠ r ∧ InR n R i r ∧ RdS f r (nextL f i))) := by
 constructor
 ·rintro ⟨a, rfl, han, ⟨hd, hz⟩ | hz⟩
  ·have h1 := (aft_iff h hn hR _ r).1 hz
   exact ⟨h1.1, .inr ⟨by simpa using hd, h1⟩⟩
  ·have h1 := (some_iff h hn hR _ r).1 hz
   exact ⟨⟨⟨by omega, by omega⟩, h1.1⟩, .inl h1.2⟩
 ·rintro ⟨⟨⟨h1, h2⟩, h3⟩, h4⟩
  have e : i = (i.toNat : Int) := by omega
  refine ⟨i.toNat, e, by omega, ?_⟩
  rcases h4 with h4 | ⟨h5, h4⟩
  ·rw [e] at h4
   exact .inr ((some_iff h hn hR _ r).2 ⟨h3, h4⟩)
  ·exact .inl ⟨h5, (aft_iff h hn hR _ r).2 h4⟩
end Go.Proofs.Ytoommeiiadobfaa
/- Law 13's own example: one register is read, one isn't yet. -/
namespace Go.Proofs.Ytoommeiiadobfaa
open Go.RowKit Go
set_option linter.unusedVariables false
set_option linter.unusedSimpArgs false
abbrev k0 : InI := ⟨1, 0, 0, 0, 0, 0, 0, [], []⟩
abbrev k1 : InI := ⟨1, 1, 0, 0, 0, 0, 0, [], []⟩
abbrev k2 : InI := ⟨28, 0, 0, 1, 0, 0, 0, [], []⟩
abbrev k3 : InI := ⟨30, 0, -1, 0, 0, 0, 0, [], []⟩
abbrev F4 : FuI := ⟨[1, 1], [], 0, [k0, k1, k2, k3], []⟩
abbrev F0 : FuI := ⟨[], [], 0, [], []⟩
theorem chk_F4 : chkN F4 = 0 := by decide +kernel
theorem chk_F0 : chkN F0 ≠ 0 := by decide +kernel
theorem fq_F4 : FuQ F4 := ⟨fun x hx => by
  simp at hx
  rcases hx with rfl | rfl | rfl | rfl <;> (unfold I64; decide), fun x hx => by
  simp at hx
  rcases hx with rfl | rfl | rfl | rfl <;> simp⟩
theorem fq_F0 : FuQ F0 := ⟨fun x hx => (by cases hx), fun x hx => (by cases hx)⟩
theorem pr_stay {f : FuI} {r : Int} {a j : Nat} (h : PR f r [(a : Int)] j) (hs : ∀ y, f.code[a]? = some y → sucL f r a y = []) : j = a := by
 induction h with
 | first hm hl => exact Int.ofNat.inj (List.mem_singleton.1 hm)
 | step _ hx hm hl ih =>
  subst ih
  rw [hs _ hx] at hm
  cases hm
theorem aft00 : AftP F4 4 2 0 0 := ⟨0, rfl, by decide, 1, by decide +kernel, 1, 0, rfl, rfl, by decide, by decide, 2, k2, .step (i := 1) (x := k1) (.first (by decide) (by decide)) rfl (by decide +kernel) (by decide), rfl, by decide⟩
theorem nrd11 : ¬ Rd F4 1 1 := by
 rintro ⟨j, x, hp, hx, hu⟩
 have e := pr_stay hp (fun y hy => by
  have e : y = k1 := by injection hy with hy; exact hy.symm
  subst e
  decide +kernel)
 subst e
 have e : x = k1 := by injection hx with hx; exact hx.symm
 subst e
 exact absurd hu (by decide)
theorem nrd00 : ¬ Rd F4 0 0 := by
 rintro ⟨j, x, hp, hx, hu⟩
 have e := pr_stay hp (fun y hy => by
  have e : y = k0 := by injection hy with hy; exact hy.symm
  subst e
  decide +kernel)
 subst e
 have e : x = k0 := by injection hx with hx; exact hx.symm
 subst e
 exact absurd hu (by decide)
theorem naft01 : ¬ AftP F4 4 2 0 1 := by
 rintro ⟨a, ha, _, z, hz, b, c, hb, hc, _, _, hr⟩
 have e : a = 0 := by omega
 subst e
 have e2 : nextL F4 ((0 : Nat) : Int) = [1] := by decide +kernel
 rw [e2] at hz
 have e3 := List.mem_singleton.1 hz
 have e4 : b = 1 := by omega
 subst e4
 exact nrd11 hr
theorem bef21 : BefP F4 4 2 2 1 := ⟨2, 1, rfl, rfl, by decide, by decide, 2, k2, .first (by decide) (by decide), rfl, by decide⟩
theorem nbef00 : ¬ BefP F4 4 2 0 0 := by
 rintro ⟨b, c, hb, hc, _, _, hr⟩
 have e4 : b = 0 := by omega
 subst e4
 exact nrd00 hr
theorem acr10 : AcrP F4 F4 4 4 2 1 0 := ⟨1, rfl, by decide, .inl ⟨by decide, 1, rfl, by decide, 2, by decide +kernel, 2, 0, rfl, rfl, by decide, by decide, 2, k2, .first (by decide) (by decide), rfl, by decide⟩⟩
theorem nacr11 : ¬ AcrP F4 F4 4 4 2 1 1 := by
 rintro ⟨a, ha, _, ⟨hd, _⟩ | ⟨z, hz, _⟩⟩
 ·have e : a = 1 := by omega
  subst e
  exact hd (by decide)
 ·have e : a = 1 := by omega
  subst e
  have e2 : caughtL F4 ((1 : Nat) : Int) = [] := by decide +kernel
  rw [e2] at hz
  cases hz
theorem inq_F4 : ∀ x ∈ F4.code, I64 (defI x) ∧ (∀ u ∈ usesI x, I64 u) ∧ x.args.length * 8 ≤ 140737488355328 ∧ (usesI x).length * 8 ≤ 140737488355328 := by
 intro x hx
 simp at hx
 rcases hx with rfl | rfl | rfl | rfl <;> (unfold I64; decide +kernel)
theorem OfOut.tab {f : FuI} {n R : Nat} {w : World} {e : Ending} {w' : World} (h : OfOut f n R w e w') (hc : chkN f = 0) : Below w.heap.size w w' ∧ ∃ TB : Nat, e = .returned (.pointer (some ⟨TB, 0, none⟩)) ∧ TabM f n R w' TB := by
 refine ⟨h.1, ?_⟩
 rcases h.2 with ⟨h1, _⟩ | ⟨_, TB, NA, nc, u, L, h2, h3, h4, h5, h6, h7⟩
 ·exact absurd hc h1
 ·exact ⟨TB, h2, NA, nc, u, L, h3, h4, h5, h6, h7⟩
theorem OfOut.nil {f : FuI} {n R : Nat} {w : World} {e : Ending} {w' : World} (h : OfOut f n R w e w') (hc : chkN f ≠ 0) : Below w.heap.size w w' ∧ e = .returned (.pointer none) := by
 refine ⟨h.1, ?_⟩
 rcases h.2 with ⟨_, h1⟩ | ⟨h1, _⟩
 ·exact h1
 ·exact absurd h1 hc
set_option maxHeartbeats 16000000 in
set_option maxRecDepth 100000 in
theorem holds13_any (w : World) : Calls Try.prog 7 #[] w fun e w' => e = .returned (.bool true) ∧ Below w.heap.size w w' := by
 go_enter Try.func7, Try.ntmps7
 go_upto_region 2 with fail
 generalize hW : World.alloc _ _ = w1
 obtain ⟨B0, hB0⟩ : ∃ B0, B0 = w.heap.size := ⟨_, rfl⟩
 try rw [← hB0]
 try rw [hB0] at hW
 have hb1 : Below w.heap.size w w1 := by rw [← hW]; exact (((Below.refl _ _).alloc (Nat.le_refl _) _).alloc (by simp) _).alloc (by simp; omega) _
 have hr1 : RdX Tru 1 NuE w1 (.slice (some ⟨B0, 0, none⟩) 2 2) [1, 1] := by
  rw [← hW, hB0]
  have h0 := (OwN.rd (l := [1, 1]) (World.ownsRow_lit (e := 3) (size := 1) (base := w.heap.size) w #[Value.int .i64 1, Value.int .i64 1] 2 (Nat.le_refl _) (by decide) rfl) (by simp)).any (Q := Tru) (fun _ _ => trivial)
  exact (h0.below (keptX_nu _) ((Below.refl _ _).alloc (Nat.le_refl _) _)).below (keptX_nu _) ((Below.refl _ _).alloc (Nat.le_refl _) _)
 have hg1 : w1.heap[B0 + 1]? = some (.cells ([k0, k1, k2, k3].flatMap bareC).toArray 35 (0, 0)) := by
  rw [← hW, hB0]
  exact (Below.heap_alloc _ _ _ (by simp)).trans (heap_new2 w _ _)
 have hF1 : FBox w1 (B0 + 1 + 1) (.slice (some ⟨B0, 0, none⟩) 2 2) (.slice none 0 0) 0 (.slice (some ⟨B0 + 1, 0, none⟩) 4 4) (.slice none 0 0) := by
  rw [← hW, hB0]
  exact heap_alloc_new' _ _ _ (by simp)
 have HU1 : Hid (FuV Tru w1 F4 (.slice (some ⟨B0, 0, none⟩) 2 2) (.slice none 0 0) (.slice (some ⟨B0 + 1, 0, none⟩) 4 4) (.slice none 0 0)) := lhid ⟨hr1, rdX_nil _ _ _ _ _ _ (fun _ => rfl), bare_rd (l := [k0, k1, k2, k3]) (by simp) hg1 (by simp), rdX_nil _ _ _ _ _ _ (fun _ => rfl)⟩
 have HB1 := lhid hb1
 have HF1 := lhid hF1
 obtain ⟨p0, p1, p2, p3, p4⟩ := hF1.cells
 clear hW hb1 hr1 hg1 hF1 hB0
 go_wp2_with fail
 with_reducible refine (of_any F4 4 2 rfl rfl _ _ _ _ w1 HU1 (lhid fq_F4) nil_cap (lhid (by decide)) (lhid rwn_nil) (lhid (by decide)) (lhid inq_F4)).mono ?_
 rintro e w2 hof
 obtain ⟨hb2, TB, rfl, ht⟩ := hof.tab chk_F4
 have HT2 := lhid ht
 have HB2 := lhid hb2
 have HZS : Hid (2 ≤ 20000 ∧ 4 ≤ 20000) := lhid (by decide)
 clear hof ht hb2 p0 p1 p2 p3 p4
 go_wp2_with fail
 with_reducible refine (after_c F4 4 2 TB 0 0 w2 HT2 HZS).mono ?_
 rintro e w3 ⟨b, rfl, hbb, hb3⟩
 have hbt : b = true := hbb.2 aft00
 subst hbt
 have HT3 := lhid (HT2.out.below hb3)
 have HB3 : Hid (Below w1.heap.size w1 w3) := lhid (HB2.out.trans (hb3.mono HB2.out.size))
 clear hbb hb3
 go_wp2_with fail
 with_reducible refine (after_c F4 4 2 TB 0 1 w3 HT3 HZS).mono ?_
 rintro e w4 ⟨b, rfl, hbb, hb3⟩
 have hbt : b = false := Bool.eq_false_iff.2 (fun h => naft01 (hbb.1 h))
 subst hbt
 have HT4 := lhid (HT3.out.below hb3)
 have HB4 : Hid (Below w1.heap.size w1 w4) := lhid (HB3.out.trans (hb3.mono HB3.out.size))
 clear hbb hb3
 go_wp2_with fail
 with_reducible refine (before_c F4 4 2 TB 2 1 w4 HT4 HZS).mono ?_
 rintro e w5 ⟨b, rfl, hbb, hww⟩
 subst hww
 have hbt : b = true := hbb.2 bef21
 subst hbt
 clear hbb
 go_wp2_with fail
 with_reducible refine (before_c F4 4 2 TB 0 0 w5 HT4 HZS).mono ?_
 rintro e w6 ⟨b, rfl, hbb, hww⟩
 subst hww
 have hbt : b = false := Bool.eq_false_iff.2 (fun h => nbef00 (hbb.1 h))
 subst hbt
 have hF6 : FBox w6 (B0 + 1 + 1) (.slice (some ⟨B0, 0, none⟩) 2 2) (.slice none 0 0) 0 (.slice (some ⟨B0 + 1, 0, none⟩) 4 4) (.slice none 0 0) := heap_keep HF1.out HB4.out
 obtain ⟨p0, p1, p2, p3, p4⟩ := hF6.cells
 have HU6 := lhid (HU1.out.below HB4.out)
 clear hbb hF6
 go_wp2_with fail
 with_reducible refine (across_c F4 F4 4 4 2 TB rfl _ _ _ _ 1 0 w6 HT4 HZS HU6 (lhid rwn_nil) (lhid (by decide))).mono ?_
 rintro e w7 ⟨b, rfl, hbb, hb3⟩
 have hbt : b = true := hbb.2 acr10
 subst hbt
 have HT7 := lhid (HT4.out.below hb3)
 have HB7 : Hid (Below w1.heap.size w1 w7) := lhid (HB4.out.trans (hb3.mono HB4.out.size))
 have hF7 : FBox w7 (B0 + 1 + 1) (.slice (some ⟨B0, 0, none⟩) 2 2) (.slice none 0 0) 0 (.slice (some ⟨B0 + 1, 0, none⟩) 4 4) (.slice none 0 0) := heap_keep HF1.out HB7.out
 clear p0 p1 p2 p3 p4
 obtain ⟨p0, p1, p2, p3, p4⟩ := hF7.cells
 have HU7 := lhid (HU1.out.below HB7.out)
 clear hbb hF7 hb3
 go_wp2_with fail
 with_reducible refine (across_c F4 F4 4 4 2 TB rfl _ _ _ _ 1 1 w7 HT7 HZS HU7 (lhid rwn_nil) (lhid (by decide))).mono ?_
 rintro e w8 ⟨b, rfl, hbb, hb3⟩
 have hbt : b = false := Bool.eq_false_iff.2 (fun h => nacr11 (hbb.1 h))
 subst hbt
 have HB8 : Hid (Below w1.heap.size w1 w8) := lhid (HB7.out.trans (hb3.mono HB7.out.size))
 clear hbb hb3 p0 p1 p2 p3 p4
 have HU8 : Hid (FuV Tru w8 F0 (.slice none 0 0) (.slice none 0 0) (.slice none 0 0) (.slice none 0 0)) := lhid ⟨rdX_nil _ _ _ _ _ _ (fun _ => rfl), rdX_nil _ _ _ _ _ _ (fun _ => rfl), rdX_nil _ _ _ _ _ _ (fun _ => rfl), rdX_nil _ _ _ _ _ _ (fun _ => rfl)⟩
 go_wp2_with fail
 with_reducible refine (of_any F0 0 0 rfl rfl _ _ _ _ w8 HU8 (lhid fq_F0) nil_cap (lhid (by decide)) (lhid rwn_nil) (lhid (by decide)) (lhid (fun x hx => absurd hx (by simp)))).mono ?_
 rintro e w9 hof
 obtain ⟨hb9, rfl⟩ := hof.nil chk_F0
 have HB9 : Hid (Below w.heap.size w w9) := lhid (HB1.out.trans ((HB8.out.trans (hb9.mono HB8.out.size)).mono HB1.out.size))
 clear hof hb9
 go_wp2_with fail
 go_ret
 exact ⟨rfl, HB9.out⟩
end Go.Proofs.Ytoommeiiadobfaa
/- LiveTells: the law walked. -/
namespace Go.Proofs.Ytoommeiiadobfaa
open Go.RowKit Go
set_option linter.unusedVariables false
set_option linter.unusedSimpArgs false
theorem says (P : Prop) : ∃ b : Bool, b = true ↔ P := by
 haveI := Classical.propDecidable P
 exact ⟨decide P, decide_eq_true_iff⟩
theorem bool_of {b c : Bool} {P : Prop} (h : b = true ↔ P) (k : c = true ↔ P) : c = b := by rw [Bool.eq_iff_iff]; exact k.trans h.symm
theorem across_n (f g : FuI) (n m R TB : Nat) (hn : f.code.length = n) (hR : f.regs.length = R) (hm : g.code.length = m) (fa fb fd fe : Value) (i r : Int) (w : World) (h : Hid (TabM f n R w TB)) (hz : Hid (R ≤ 20000 ∧ n ≤ 20000)) (hg : Hid (FuV Tru w g fa fb fd fe)) (hrn : Hid (RwN g.rows)) (hrl : Hid (g.rows.length * 8 ≤ 140737488355328)) : Calls Try.prog 14 #[.pointer (some ⟨TB, 0, none⟩), fuL fa fb g.ret fd fe, .int .i64 i, .int .i64 r] w fun e w' => AcrOut f g n m R i r w e w' := across_c f g n m R TB hm fa fb fd fe i r w h hz hg hrn hrl
theorem rbefore_n (f : FuI) (n R : Nat) (hn : f.code.length = n) (hR : f.regs.length = R) (fa fb fd fe : Value) (i r : Int) (w : World) (h : Hid (FuV Tru w f fa fb fd fe)) (hrl : Hid (f.rows.length ≤ 1048576)) (hnr : Hid (f.code.length * (f.rows.length + 3) ≤ 1048576)) (ha : Hid (∀ x ∈ f.code, x.args.length * 8 ≤ 140737488355328 ∧ (usesI x).length * 8 ≤ 140737488355328)) :
  Calls Try.prog 11 #[fuL fa fb f.ret fd fe, .int .i64 i, .int .i64 r] w fun e w' => RBOut (InR n R i r ∧ RdS f r [i]) w e w' := rbefore_any f n R hn hR fa fb fd fe i r w h hrl hnr ha
theorem rafter_n (f : FuI) (n R : Nat) (hn : f.code.length = n) (hR : f.regs.length = R) (fa fb fd fe : Value) (i r : Int) (w : World) (h : Hid (FuV Tru w f fa fb fd fe)) (hrl : Hid (f.rows.length ≤ 1048576)) (hnr : Hid (f.code.length * (f.rows.length + 3) ≤ 1048576)) (ha : Hid (∀ x ∈ f.code, x.args.length * 8 ≤ 140737488355328 ∧ (usesI x).length * 8 ≤ 140737488355328)) :
  Calls Try.prog 13 #[fuL fa fb f.ret fd fe, .int .i64 i, .int .i64 r] w fun e w' => RBOut (InR n R i r ∧ RdS f r (nextL f i)) w e w' := rafter_any f n R hn hR fa fb fd fe i r w h hrl hnr ha
theorem racross_n (f : FuI) (n R : Nat) (hn : f.code.length = n) (hR : f.regs.length = R) (fa fb fd fe : Value) (i r : Int) (w : World) (h : Hid (FuV Tru w f fa fb fd fe)) (hrl : Hid (f.rows.length ≤ 1048576)) (hnr : Hid (f.code.length * (f.rows.length + 3) ≤ 1048576)) (ha : Hid (∀ x ∈ f.code, x.args.length * 8 ≤ 140737488355328 ∧ (usesI x).length * 8 ≤ 140737488355328)) :
  Calls Try.prog 15 #[fuL fa fb f.ret fd fe, .int .i64 i, .int .i64 r] w fun e w' => RBOut (InR n R i r ∧ (RdS f r (caughtL f i) ∨ (defAt f i.toNat ≠ r ∧ InR n R i r ∧ RdS f r (nextL f i)))) w e w' := racross_any f n R hn hR fa fb fd fe i r w h hrl hnr ha
set_option maxHeartbeats 32000000 in
set_option maxRecDepth 100000 in
theorem LiveTells_walk (f : FuI) (fa fb fd fe : Value) (w : World) (h : Hid (FuV Tru w f fa fb fd fe)) (hq : Hid (FuQ f)) (hcap : Hid (∀ A n cap, fb = .slice A n cap → n ≤ cap ∧ cap ≤ maxLen)) (hrn : Hid (RwN f.rows)) (hI : Hid (∀ x ∈ f.code, I64 (defI x) ∧ (∀ u ∈ usesI x, I64 u) ∧ x.args.length * 8 ≤ 140737488355328 ∧ (usesI x).length * 8 ≤ 140737488355328)) :
    Calls Try.prog 3 #[fuL fa fb f.ret fd fe] w fun e w' => e = .returned (.bool true) ∧ Below w.heap.size w w' := by
  obtain ⟨FA, ac, hFA⟩ := h.out.a.shape
  subst hFA
  obtain ⟨FB, bc, hFB⟩ := h.out.b.shape
  subst hFB
  obtain ⟨D, dcap, hD⟩ := h.out.d.shape
  subst hD
  obtain ⟨E, ecap, hE⟩ := h.out.e.shape
  subst hE
  obtain ⟨n, hn⟩ : ∃ n, f.code.length = n := ⟨_, rfl⟩
  obtain ⟨R, hR⟩ : ∃ R, f.regs.length = R := ⟨_, rfl⟩
  have HN := lhid hn
  have HR := lhid hR
  have hf2 := h.out
  rw [hn, hR] at hf2 ⊢
  have HFU := lhid hf2
  clear hn hR hf2 h
  go_enter Try.func3, Try.ntmps3
  go_wp2_with fail
  generalize hW : World.alloc _ _ = w0
  obtain ⟨B0, hB0⟩ : ∃ B0, B0 = w.heap.size := ⟨_, rfl⟩
  rw [← hB0]
  have hb0 : Below w.heap.size w w0 := by rw [← hW]; exact (Below.refl _ _).alloc (Nat.le_refl _) _
  have hF0 : FBox w0 B0 (.slice FA R ac) (.slice FB f.params.length bc) f.ret (.slice D n dcap) (.slice E f.rows.length ecap) := by rw [← hW, hB0]; exact heap_alloc_new w _
  have HF0 := lhid hF0
  have HB0 := lhid hb0
  clear hW hb0 hF0 hB0
  with_reducible refine (holds13_any w0).mono ?_
  rintro e w1 ⟨rfl, hb⟩
  have hF1 : FBox w1 B0 (.slice FA R ac) (.slice FB f.params.length bc) f.ret (.slice D n dcap) (.slice E f.rows.length ecap) := heap_keep HF0.out hb
  have HB1 : Hid (Below w.heap.size w w1) := lhid (HB0.out.trans (hb.mono HB0.out.size))
  have HU1 := lhid (HFU.out.below HB1.out)
  have HG : Hid (∀ w' : World, Below w1.heap.size w1 w' → w'.cell? ⟨B0, 0, none⟩ = some (.slice FA R ac) ∧ w'.cell? ⟨B0, 1, none⟩ = some (.slice FB f.params.length bc) ∧ w'.cell? ⟨B0, 2, none⟩ = some (.int .i64 f.ret) ∧ w'.cell? ⟨B0, 3, none⟩ = some (.slice D n dcap) ∧ w'.cell? ⟨B0, 4, none⟩ = some (.slice E f.rows.length ecap)) := lhid (fun w' hw' => by
    have k1 : FBox w' B0 (.slice FA R ac) (.slice FB f.params.length bc) f.ret (.slice D n dcap) (.slice E f.rows.length ecap) := heap_keep hF1 hw'
    exact k1.cells)
  obtain ⟨p0, p1, p2, p3, p4⟩ := hF1.cells
  clear hb hF1 HF0 HB0
  by_cases h80 : (80 : Int) < n
  · go_wp2_with fail
    go_ret
    exact ⟨rfl, HB1.out⟩
  · by_cases h16 : (16 : Int) < R
    · go_wp2_with fail
      go_ret
      exact ⟨rfl, HB1.out⟩
    · by_cases h10 : (10 : Int) < f.rows.length
      · go_wp2_with fail
        go_ret
        exact ⟨rfl, HB1.out⟩
      · go_wp2_with fail
        have HCL : Hid ((f.code.length + 1) * 1024 ≤ 140737488355328) := lhid (by have := HN.out; omega)
        have HRL : Hid (f.rows.length * 8 ≤ 140737488355328) := lhid (by omega)
        have HRL2 : Hid (f.rows.length ≤ 1048576) := lhid (by omega)
        have HNR : Hid (f.code.length * (f.rows.length + 3) ≤ 1048576) := lhid (by have h1 := HN.out; have h2 := Nat.mul_le_mul (show f.code.length ≤ 80 by omega) (show f.rows.length + 3 ≤ 13 by omega); omega)
        have HZS : Hid (R ≤ 20000 ∧ n ≤ 20000) := lhid (by omega)
        have HSM : Hid (n ≤ 80 ∧ R ≤ 16) := lhid (by omega)
        have ha : Hid (∀ x ∈ f.code, x.args.length * 8 ≤ 140737488355328 ∧ (usesI x).length * 8 ≤ 140737488355328) := lhid (fun x hx => (hI.out x hx).2.2)
        clear p0 p1 p2 p3 p4 h80 h16 h10
        with_reducible refine (of_any f n R HN.out HR.out _ _ _ _ w1 HU1 hq hcap HCL hrn HRL hI).mono ?_
        rintro e w2 hof
        by_cases hck : chkN f = 0
        · obtain ⟨hb2, TB, rfl, ht⟩ := hof.tab hck
          have HCK := lhid hck
          have HT2 := lhid ht
          have HB2 := lhid hb2
          obtain ⟨p0, p1, p2, p3, p4⟩ := HG.out w2 hb2
          clear hof hck ht hb2
          go_wp2_with fail
          with_reducible refine (rcheck_r f _ _ _ _ 0 w2 (lhid (HU1.out.below HB2.out)) hq hcap HCK).mono ?_
          rintro e w3 ⟨rfl, hb3⟩
          have HB3 : Hid (Below w1.heap.size w1 w3) := lhid (HB2.out.trans (hb3.mono HB2.out.size))
          have HT3 := lhid (HT2.out.below hb3)
          clear hb3 p0 p1 p2 p3 p4 HT2 HB2
          go_wp2_with fail
          go_loopg [4] (n + 2) (fun g s wr => ∃ (k : Nat) (i : Int), g = n + 2 - k ∧ s = .int .i64 i ∧ Hid (i = (k : Int) - 1 ∧ k ≤ n + 2) ∧ Hid (Below w3.heap.size w3 wr))
          case atStart => exact ⟨0, -1, rfl, rfl, lhid ⟨by omega, by omega⟩, lhid (Below.refl _ _)⟩
          case round =>
            obtain ⟨k, i, rfl, rfl, HK, HBW⟩ := hrel
            have HW1 : Hid (Below w1.heap.size w1 wr) := lhid (HB3.out.trans (HBW.out.mono HB3.out.size))
            obtain ⟨p0, p1, p2, p3, p4⟩ := HG.out _ HW1.out
            by_cases hle : i ≤ n
            · have hwi : wrap64 (i + 1) = i + 1 := IntWalk.wrap64_in _ (by have h1 := HK.out; have h2 := HSM.out; omega)
              have HKM : Hid (n + 2 - (k + 1) < n + 2 - k ∧ k + 1 ≤ n + 2 ∧ i + 1 = ((k + 1 : Nat) : Int) - 1) := lhid (by have := HK.out; omega)
              obtain ⟨wo, hwo⟩ : ∃ x, x = wr := ⟨_, rfl⟩
              subst hwo
              go_wp2_with fail
              clear p0 p1 p2 p3 p4
              go_loopg [5] (R + 2) (fun g s wr => ∃ (q : Nat) (r : Int), g = R + 2 - q ∧ s = .int .i64 r ∧ Hid (r = (q : Int) - 1 ∧ q ≤ R + 2) ∧ Hid (Below w3.heap.size w3 wr))
              case atStart => exact ⟨0, -1, rfl, rfl, lhid ⟨by omega, by omega⟩, HBW⟩
              case round =>
                clear HW1 HBW
                obtain ⟨q, r, rfl, rfl, HQ, HBV⟩ := hrel
                have HW1 : Hid (Below w1.heap.size w1 wr) := lhid (HB3.out.trans (HBV.out.mono HB3.out.size))
                obtain ⟨p0, p1, p2, p3, p4⟩ := HG.out _ HW1.out
                by_cases hlr : r ≤ R
                · as_aux_lemma =>
                    have hwr : wrap64 (r + 1) = r + 1 := IntWalk.wrap64_in _ (by have h1 := HQ.out; have h2 := HSM.out; omega)
                    have HQM : Hid (R + 2 - (q + 1) < R + 2 - q ∧ q + 1 ≤ R + 2 ∧ r + 1 = ((q + 1 : Nat) : Int) - 1) := lhid (by have := HQ.out; omega)
                    have HT4 := lhid (HT3.out.below HBV.out)
                    have HU4 := lhid (HU1.out.below HW1.out)
                    have HGW : Hid (∀ w' : World, Below wr.heap.size wr w' → w'.cell? ⟨B0, 0, none⟩ = some (.slice FA R ac) ∧ w'.cell? ⟨B0, 1, none⟩ = some (.slice FB f.params.length bc) ∧ w'.cell? ⟨B0, 2, none⟩ = some (.int .i64 f.ret) ∧ w'.cell? ⟨B0, 3, none⟩ = some (.slice D n dcap) ∧ w'.cell? ⟨B0, 4, none⟩ = some (.slice E f.rows.length ecap)) := lhid (fun w' hw' => HG.out w' (HW1.out.trans (hw'.mono HW1.out.size)))
                    obtain ⟨b1, hb1⟩ := says (BefP f n R i r)
                    obtain ⟨b2, hb2⟩ := says (AftP f n R i r)
                    obtain ⟨b3, hb3⟩ := says (AcrP f f n n R i r)
                    have HB1V := lhid hb1
                    have HB2V := lhid hb2
                    have HB3V := lhid hb3
                    have HB1D := lhid (hb1.trans (bef_iff HCK.out HN.out HR.out i r))
                    have HB2D := lhid (hb2.trans (aft_iff HCK.out HN.out HR.out i r))
                    have HB3D := lhid (hb3.trans (acr_iff HCK.out HN.out HR.out i r))
                    have e1 : (b1 != b1) = false := by simp
                    have e2 : (b2 != b2) = false := by simp
                    have e3 : (b3 != b3) = false := by simp
                    clear hb1 hb2 hb3
                    go_upto_region 14 with fail
                    clear p0 p1 p2 p3 p4
                    refine wp_region_quiet_c (C := fun w' => Below wr.heap.size wr w') (by kernel_rfl) (by kernel_rfl) (Below.drew' (Below.refl _ _)) ?_
                    repeat (first
                      | go_big_quiet_skip
                      | (go_big_quiet_want
                         first
                           | (refine quiet_of_run (v := ?_) (fun w' hw' => ?_) ?_
                              rotate_left
                              · (obtain ⟨p0, p1, p2, p3, p4⟩ := HGW.out w' hw'; go_simp; try with_reducible rfl)
                              go_big_quiet_on
                              try simp only [Act.put, List.setIfInBounds_toArray, List.set_cons_zero, List.set_cons_succ])
                           | (refine quiet_of_call (v := .bool b1) (f := 10) (args := #[.pointer (some ⟨TB, 0, none⟩), .int .i64 i, .int .i64 r]) (fun w' hw' => ?_) (fun w' hw' => ?_) ?_
                              · (obtain ⟨p0, p1, p2, p3, p4⟩ := HGW.out w' hw'; go_simp; try with_reducible rfl)
                              · (refine (before_c f n R TB i r w' (lhid (HT4.out.below hw')) HZS).mono ?_
                                 rintro e w9 hx
                                 obtain ⟨b, rfl, hbb, hb9⟩ := hx
                                 exact ⟨by rw [bool_of HB1V.out hbb], by rw [hb9]; exact hw'⟩)
                              go_big_quiet_on
                              try simp only [Act.put, List.setIfInBounds_toArray, List.set_cons_zero, List.set_cons_succ])
                           | (refine quiet_of_call (v := .bool b1) (f := 11) (args := #[fuL (.slice FA R ac) (.slice FB f.params.length bc) f.ret (.slice D n dcap) (.slice E f.rows.length ecap), .int .i64 i, .int .i64 r]) (fun w' hw' => ?_) (fun w' hw' => ?_) ?_
                              · (obtain ⟨p0, p1, p2, p3, p4⟩ := HGW.out w' hw'; go_simp; try with_reducible rfl)
                              · (refine (rbefore_n f n R HN.out HR.out _ _ _ _ i r w' (lhid (HU4.out.below hw')) HRL2 HNR ha).mono ?_
                                 rintro e w9 hx
                                 obtain ⟨b, rfl, hbb, hb9⟩ := hx
                                 exact ⟨by rw [bool_of HB1D.out hbb], hw'.trans (hb9.mono hw'.size)⟩)
                              go_big_quiet_on
                              try simp only [Act.put, List.setIfInBounds_toArray, List.set_cons_zero, List.set_cons_succ])
                           | (refine quiet_of_call (v := .bool b2) (f := 12) (args := #[.pointer (some ⟨TB, 0, none⟩), .int .i64 i, .int .i64 r]) (fun w' hw' => ?_) (fun w' hw' => ?_) ?_
                              · (obtain ⟨p0, p1, p2, p3, p4⟩ := HGW.out w' hw'; go_simp; try with_reducible rfl)
                              · (refine (after_c f n R TB i r w' (lhid (HT4.out.below hw')) HZS).mono ?_
                                 rintro e w9 hx
                                 obtain ⟨b, rfl, hbb, hb9⟩ := hx
                                 exact ⟨by rw [bool_of HB2V.out hbb], hw'.trans (hb9.mono hw'.size)⟩)
                              go_big_quiet_on
                              try simp only [Act.put, List.setIfInBounds_toArray, List.set_cons_zero, List.set_cons_succ])
                           | (refine quiet_of_call (v := .bool b2) (f := 13) (args := #[fuL (.slice FA R ac) (.slice FB f.params.length bc) f.ret (.slice D n dcap) (.slice E f.rows.length ecap), .int .i64 i, .int .i64 r]) (fun w' hw' => ?_) (fun w' hw' => ?_) ?_
                              · (obtain ⟨p0, p1, p2, p3, p4⟩ := HGW.out w' hw'; go_simp; try with_reducible rfl)
                              · (refine (rafter_n f n R HN.out HR.out _ _ _ _ i r w' (lhid (HU4.out.below hw')) HRL2 HNR ha).mono ?_
                                 rintro e w9 hx
                                 obtain ⟨b, rfl, hbb, hb9⟩ := hx
                                 exact ⟨by rw [bool_of HB2D.out hbb], hw'.trans (hb9.mono hw'.size)⟩)
                              go_big_quiet_on
                              try simp only [Act.put, List.setIfInBounds_toArray, List.set_cons_zero, List.set_cons_succ])
                           | (refine quiet_of_call (v := .bool b3) (f := 14) (args := #[.pointer (some ⟨TB, 0, none⟩), fuL (.slice FA R ac) (.slice FB f.params.length bc) f.ret (.slice D n dcap) (.slice E f.rows.length ecap), .int .i64 i, .int .i64 r]) (fun w' hw' => ?_) (fun w' hw' => ?_) ?_
                              · (obtain ⟨p0, p1, p2, p3, p4⟩ := HGW.out w' hw'; go_simp; try with_reducible rfl)
                              · (refine (across_n f f n n R TB HN.out HR.out HN.out _ _ _ _ i r w' (lhid (HT4.out.below hw')) HZS (lhid (HU4.out.below hw')) hrn HRL).mono ?_
                                 rintro e w9 hx
                                 obtain ⟨b, rfl, hbb, hb9⟩ := hx
                                 exact ⟨by rw [bool_of HB3V.out hbb], hw'.trans (hb9.mono hw'.size)⟩)
                              go_big_quiet_on
                              try simp only [Act.put, List.setIfInBounds_toArray, List.set_cons_zero, List.set_cons_succ])
                           | (refine quiet_of_call (v := .bool b3) (f := 15) (args := #[fuL (.slice FA R ac) (.slice FB f.params.length bc) f.ret (.slice D n dcap) (.slice E f.rows.length ecap), .int .i64 i, .int .i64 r]) (fun w' hw' => ?_) (fun w' hw' => ?_) ?_
                              · (obtain ⟨p0, p1, p2, p3, p4⟩ := HGW.out w' hw'; go_simp; try with_reducible rfl)
                              · (refine (racross_n f n R HN.out HR.out _ _ _ _ i r w' (lhid (HU4.out.below hw')) HRL2 HNR ha).mono ?_
                                 rintro e w9 hx
                                 obtain ⟨b, rfl, hbb, hb9⟩ := hx
                                 exact ⟨by rw [bool_of HB3D.out hbb], hw'.trans (hb9.mono hw'.size)⟩)
                              go_big_quiet_on
                              try simp only [Act.put, List.setIfInBounds_toArray, List.set_cons_zero, List.set_cons_succ])))
                    refine wpQuiet_nil ?_
                    intro wx hwx
                    have HWX : Hid (Below w3.heap.size w3 wx) := lhid (HBV.out.trans (hwx.mono HBV.out.size))
                    clear hwx
                    go_wp2_with fail
                    go_roundg (R + 2 - (q + 1))
                    case measure => exact HQM.out.1
                    case rel => exact ⟨q + 1, r + 1, rfl, by first | rfl | rw [hwr], lhid ⟨HQM.out.2.2, HQM.out.2.1⟩, HWX⟩
                · go_wp2_with fail
                  go_roundg (n + 2 - (k + 1))
                  case measure => exact HKM.out.1
                  case rel => exact ⟨k + 1, i + 1, rfl, by first | rfl | rw [hwi], lhid ⟨HKM.out.2.2, HKM.out.2.1⟩, HBV⟩
            · go_wp2_with fail
              go_ret
              exact ⟨rfl, HB1.out.trans (HW1.out.mono HB1.out.size)⟩
        · obtain ⟨hb2, rfl⟩ := hof.nil hck
          have HB2 := lhid hb2
          obtain ⟨p0, p1, p2, p3, p4⟩ := HG.out w2 hb2
          obtain ⟨c, hc⟩ : ∃ c, chkN f = c := ⟨_, rfl⟩
          have hc0 : (c != 0) = true := by rw [← hc]; simpa using hck
          have HC := lhid hc
          clear hof hck hb2 hc
          go_wp2_with fail
          with_reducible refine (rcheck_r f _ _ _ _ c w2 (lhid (HU1.out.below HB2.out)) hq hcap HC).mono ?_
          rintro e w3 ⟨rfl, hb3⟩
          have HB3 : Hid (Below w1.heap.size w1 w3) := lhid (HB2.out.trans (hb3.mono HB2.out.size))
          clear p0 p1 p2 p3 p4
          have hng : (-1 : Int) ≤ n := by omega
          go_wp2_with fail
          go_loopg [4] 0 (fun g s wr => g = 0 ∧ s = .int .i64 (-1) ∧ wr = w3)
          case atStart => exact ⟨rfl, rfl, rfl⟩
          case round =>
            obtain ⟨rfl, rfl, rfl⟩ := hrel
            obtain ⟨p0, p1, p2, p3, p4⟩ := HG.out _ HB3.out
            go_wp2_with fail
            go_ret
            exact ⟨rfl, HB1.out.trans (HB3.out.mono HB1.out.size)⟩
end Go.Proofs.Ytoommeiiadobfaa
