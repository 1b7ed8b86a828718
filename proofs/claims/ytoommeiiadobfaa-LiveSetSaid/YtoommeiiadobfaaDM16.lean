/- Texts of this claim, joined: DLivRd, DLivPre, DLivRef. -/
import Derived.Test.YtoommeiiadobfaaJDLivSpread
import Derived.Test.YtoommeiiadobfaaJDLivWeb
import Derived.Test.YtoommeiiadobfaaDM14
import Derived.Test.YtoommeiiadobfaaJDLivWebM
import Derived.Test.YtoommeiiadobfaaDM5
import Derived.Deep.RegionHeld3
/- What comes to a place in live's web is what is read on some way from it: no program in this text. -/
namespace Go.Proofs.Ytoommeiiadobfaa
open Go
set_option linter.unusedVariables false
def Rd (f : FuI) (r : Int) (i : Nat) : Prop := ∃ j x, PR f r [(i : Int)] j ∧ f.code[j]? = some x ∧ r ∈ usesI x
theorem PR.trans {f : FuI} {r : Int} {i j k : Nat} (h : PR f r [(i : Int)] j) (h2 : PR f r [(j : Int)] k) : PR f r [(i : Int)] k := by
 induction h2 with
 | first hm hl =>
  rw [List.mem_singleton] at hm
  have e : _ = j := Int.ofNat.inj hm
  subst e
  exact h
 | step _ hx hm hl ih => exact .step ih hx hm hl
theorem Rd.back {f : FuI} {r : Int} {i j : Nat} {x : InI} (h : Rd f r j) (hx : f.code[i]? = some x) (hm : (j : Int) ∈ sucL f r i x) (hl : j < f.code.length) : Rd f r i := by
 obtain ⟨k, y, h1, h2, h3⟩ := h
 have hi := (List.getElem?_eq_some_iff.1 hx).1
 exact ⟨k, y, PR.trans (.step (.first (List.mem_singleton.2 rfl) hi) hx hm hl) h1, h2, h3⟩
theorem getD_map {α : Type} {n i : Nat} {g : Nat → α} {d : α} (hi : i < n) : ((List.range n).map g).getD i d = g i := by simp [List.getD, hi]
theorem thC_mem {f : FuI} {n : Nat} {bg : Bool} {TH : List (List Int)} {tl : List Int} {i : Nat} (h : ThI f n bg TH) (ht : tl ∈ TH) (hi : (i : Int) ∈ tl) : thC f tl = caughtL f (i : Int) := by
 cases tl with
 | nil => cases hi
 | cons p ps =>
  obtain ⟨_, h1⟩ := h.some' _ ht
  obtain ⟨q, hq, hqn, x, hx, hxt⟩ := h1 p (by simp)
  obtain ⟨q2, hq2, _, y, hy, hyt⟩ := h1 (i : Int) hi
  have e : q2 = i := by omega
  subst e
  subst hq
  have hs := h.one _ ht q q2 (by simp) hi
  have e1 : caughtL f (q : Int) = uniqL (catL f.rows q) := by unfold caughtL; rw [atC_some hx]; simp [hxt]
  have e2 : caughtL f (q2 : Int) = uniqL (catL f.rows q2) := by unfold caughtL; rw [atC_some hy]; simp [hyt]
  show caughtL f (q : Int) = _
  rw [e1, e2, stretch_same hs]
theorem wr_get {f : FuI} {n F b i : Nat} {Us Ps Th Cs : List (List Int)} {x : InI} (hn : f.code.length = n) (hx : f.code[i]? = some x) (hb : b < 64) : ((lwN n F Us ((List.range n).map (defAt f)) Ps Th Cs).wr i).getLsbD b = false ↔ defI x ≠ ((F + b : Nat) : Int) := by
 have hi : i < n := by have := (List.getElem?_eq_some_iff.1 hx).1; omega
 show (regM F [((List.range n).map (defAt f)).getD i 0]).getLsbD b = false ↔ _
 rw [getD_map hi]
 have e : defAt f i = defI x := by unfold defAt; rw [hx]
 rw [e, ← Bool.not_eq_true, regM_get, List.mem_singleton]
 constructor
 ·intro h h2; exact h ⟨hb, h2.symm⟩
 ·intro h h2; exact h h2.2.symm
theorem cb_rd {f : FuI} {n F b : Nat} {bg : Bool} {Ps Th Cs : List (List Int)} (hn : f.code.length = n) (hb : b < 64) (hP : PrS f n n [] Ps) (hT : ThI f n bg Th) (hC : CsS f n Th Th.length [] Cs) (i : Nat) : Cb (lwN n F ((List.range n).map (usesAt f)) ((List.range n).map (defAt f)) Ps Th Cs) b i ↔ i < n ∧ Rd f ((F + b : Nat) : Int) i := by
 have hcode : ∀ i, i < n → ∃ x, f.code[i]? = some x := fun i hi => ⟨_, List.getElem?_eq_getElem (by omega)⟩
 have hpr : ∀ i j : Nat, j < n → ((i : Int) ∈ Ps.getD j [] ↔ i < n ∧ (j : Int) ∈ nextL f i) := fun i j hj => by
  have hl : j < Ps.length := by rw [hP.len]; exact hj
  have e := List.getElem?_eq_getElem hl
  rw [getD_of e, hP.mem j _ e]
  constructor
  ·rintro ⟨k, h1, ⟨h2, h3⟩ | ⟨_, h3⟩⟩
   ·have e2 : i = k := by omega
    subst e2
    exact ⟨h2, h3⟩
   ·cases h3
  ·rintro ⟨h1, h2⟩
   exact ⟨i, rfl, .inl ⟨h1, h2⟩⟩
 have hca : ∀ s j : Nat, j < n → ((s : Int) ∈ Cs.getD j [] ↔ ∃ tl, Th[s]? = some tl ∧ (j : Int) ∈ thC f tl) := fun s j hj => by
  have hl : j < Cs.length := by rw [hC.len]; exact hj
  have e := List.getElem?_eq_getElem hl
  rw [getD_of e, hC.mem j _ e]
  constructor
  ·rintro ⟨k, h1, ⟨h2, tl, h3, h4⟩ | ⟨_, h3⟩⟩
   ·have e2 : s = k := by omega
    subst e2
    exact ⟨tl, h3, h4⟩
   ·cases h3
  ·rintro ⟨tl, h1, h2⟩
   exact ⟨s, rfl, .inl ⟨(List.getElem?_eq_some_iff.1 h1).1, tl, h1, h2⟩⟩
 constructor
 ·intro h
  induction h with
  | @use i hi hu =>
   obtain ⟨x, hx⟩ := hcode i hi
   have h1 : (regM F (((List.range n).map (usesAt f)).getD i [])).getLsbD b = true := hu
   have hi2 : i < n := hi
   rw [getD_map hi2, regM_get] at h1
   have e : usesAt f i = usesI x := by unfold usesAt; rw [hx]
   rw [e] at h1
   exact ⟨hi, i, x, .first (List.mem_singleton.2 rfl) (by have : i < n := hi; omega), hx, h1.2⟩
  | @next i j _ hj hm hi hw ih =>
   have hj2 : j < n := hj
   have hi2 : i < n := hi
   obtain ⟨x, hx⟩ := hcode i hi2
   have h1 := ((hpr i j hj2).1 hm).2
   have h2 := (wr_get hn hx hb).1 hw
   exact ⟨hi, ih.2.back hx (by unfold sucL; rw [if_neg h2]; exact List.mem_append_right _ h1) (by omega)⟩
  | @caught i j s _ hj hm hth hi ih =>
   have hj2 : j < n := hj
   have hi2 : i < n := hi
   obtain ⟨x, hx⟩ := hcode i hi2
   obtain ⟨tl, h1, h2⟩ := (hca s j hj2).1 hm
   have h3 : (i : Int) ∈ Th.getD s [] := hth
   rw [getD_of h1] at h3
   rw [thC_mem hT (List.mem_of_getElem? h1) h3] at h2
   exact ⟨hi, ih.2.back hx (by unfold sucL; exact List.mem_append_left _ h2) (by omega)⟩
 ·rintro ⟨hi, j, x, hp, hx, hu⟩
  have hjn : j < n := by have := (List.getElem?_eq_some_iff.1 hx).1; omega
  have hcj : Cb (lwN n F ((List.range n).map (usesAt f)) ((List.range n).map (defAt f)) Ps Th Cs) b j := .use hjn (by
   show (regM F (((List.range n).map (usesAt f)).getD j [])).getLsbD b = true
   rw [getD_map hjn, regM_get]
   exact ⟨hb, by unfold usesAt; rw [hx]; exact hu⟩)
  clear hx hu hjn
  induction hp with
  | first hm hl =>
   rw [List.mem_singleton] at hm
   have e : _ = i := Int.ofNat.inj hm
   subst e
   exact hcj
  | @step k j y hk hy hm hl ih =>
   have hkn : k < n := by have := (List.getElem?_eq_some_iff.1 hy).1; omega
   have hjn : j < n := by omega
   refine ih ?_
   unfold sucL at hm
   rcases List.mem_append.1 hm with h1 | h1
   ·obtain ⟨h2, _⟩ := (caught_iff hy _).1 h1
    obtain ⟨tl, h3, h4⟩ := hT.all k y hkn hy h2
    obtain ⟨s, h5⟩ := List.getElem?_of_mem h3
    refine .caught (s := s) hcj hjn ((hca s j hjn).2 ⟨tl, h5, ?_⟩) ?_ hkn
    ·rw [thC_mem hT h3 h4]; exact h1
    ·show (k : Int) ∈ Th.getD s []
     rw [getD_of h5]; exact h4
   ·by_cases e : defI y = ((F + b : Nat) : Int)
    ·rw [if_pos e] at h1; cases h1
    ·rw [if_neg e] at h1
     exact .next hcj hjn ((hpr k j hjn).2 ⟨hkn, h1⟩) hkn ((wr_get hn hy hb).2 e)
end Go.Proofs.Ytoommeiiadobfaa
/- What webOf and spread ask of a well formed function: no program in this text. -/
namespace Go.Proofs.Ytoommeiiadobfaa
open Go
set_option linter.unusedVariables false
theorem next_place {f : FuI} (h : chkN f = 0) (k : Nat) : ∀ z ∈ nextL f k, ∃ j : Nat, z = j ∧ j < f.code.length := by
 intro z hz
 have h0 := nextL_pos h k z hz
 refine ⟨z.toNat, by omega, ?_⟩
 have hc := (chk_parts h).1
 unfold codeB at hc
 simp only [Bool.and_eq_true, decide_eq_true_eq] at hc
 obtain ⟨⟨⟨h1, _⟩, h3⟩, _⟩ := hc
 by_cases hk : k < f.code.length
 ·obtain ⟨x, hx⟩ : ∃ x, f.code[k]? = some x := ⟨_, List.getElem?_eq_getElem hk⟩
  unfold nextL at hz
  rw [atC_some hx] at hz
  have hg : z ∈ goOn x k → z.toNat < f.code.length := by
   unfold goOn
   split
   ·intro h; cases h
   ·rename_i he
    intro h
    have h4 := List.mem_singleton.1 h
    by_cases e : k + 1 < f.code.length
    ·omega
    ·exfalso
     apply he
     have e2 : ((f.code.length : Int) - 1).toNat = k := by omega
     unfold opAt at h3
     rw [if_pos (by omega), e2, hx] at h3
     exact h3
  simp only [nextX] at hz
  split at hz
  ·rename_i hl
   simp only [Bool.and_eq_true] at hl
   rcases List.mem_append.1 hz with h5 | h5
   ·exact hg h5
   ·have h6 := chk_leads h x (List.mem_of_getElem? hx) hl.1
    have h7 := List.mem_singleton.1 h5
    omega
  ·exact hg hz
 ·unfold nextL at hz
  rw [atC_none (by omega)] at hz
  cases hz
theorem caught_place {f : FuI} (h : chkN f = 0) (i : Int) : ∀ z ∈ caughtL f i, ∃ j : Nat, z = j ∧ j < f.code.length := by
 intro t ht
 unfold caughtL at ht
 split at ht
 ·cases ht
 ·split at ht
  ·obtain ⟨r, hr, e⟩ := catL_mem (uniq_mem ht)
   have := (chk_rows9 h r hr).2.2
   exact ⟨t.toNat, by omega, by omega⟩
  ·cases ht
theorem web_hel {f : FuI} {n : Nat} {bg : Bool} {Ps Th Cs : List (List Int)} (hn : f.code.length = n) (hP : PrS f n n [] Ps) (hT : ThI f n bg Th) (hC : CsS f n Th Th.length [] Cs) (hI : ∀ x ∈ f.code, I64 (defI x) ∧ (∀ u ∈ usesI x, I64 u)) :
  (∀ l ∈ Ps, ∀ z ∈ l, ∃ j : Nat, z = j ∧ j < n) ∧ (∀ l ∈ Th, ∀ z ∈ l, ∃ j : Nat, z = j ∧ j < n) ∧ (∀ l ∈ Cs, ∀ z ∈ l, ∃ s : Nat, z = s ∧ s < Th.length) ∧ (∀ l ∈ (List.range n).map (usesAt f), ∀ z ∈ l, I64 z) ∧ (∀ z ∈ (List.range n).map (defAt f), I64 z) := by
 refine ⟨fun l hl z hz => ?_, fun l hl z hz => ?_, fun l hl z hz => ?_, fun l hl z hz => ?_, fun z hz => ?_⟩
 ·obtain ⟨i, hi⟩ := List.getElem?_of_mem hl
  obtain ⟨j, h1, ⟨h2, _⟩ | ⟨_, h2⟩⟩ := (hP.mem i l hi z).1 hz
  ·exact ⟨j, h1, h2⟩
  ·cases h2
 ·obtain ⟨i, h1, h2, _⟩ := (hT.some' l hl).2 z hz
  exact ⟨i, h1, h2⟩
 ·obtain ⟨i, hi⟩ := List.getElem?_of_mem hl
  obtain ⟨j, h1, ⟨h2, _⟩ | ⟨_, h2⟩⟩ := (hC.mem i l hi z).1 hz
  ·exact ⟨j, h1, h2⟩
  ·cases h2
 ·obtain ⟨i, hi, rfl⟩ := List.mem_map.1 hl
  rw [List.mem_range] at hi
  obtain ⟨x, hx⟩ : ∃ x, f.code[i]? = some x := ⟨_, List.getElem?_eq_getElem (by omega)⟩
  have e : usesAt f i = usesI x := by unfold usesAt; rw [hx]
  rw [e] at hz
  exact (hI x (List.mem_of_getElem? hx)).2 z hz
 ·obtain ⟨i, hi, rfl⟩ := List.mem_map.1 hz
  rw [List.mem_range] at hi
  obtain ⟨x, hx⟩ : ∃ x, f.code[i]? = some x := ⟨_, List.getElem?_eq_getElem (by omega)⟩
  have e : defAt f i = defI x := by unfold defAt; rw [hx]
  rw [e]
  exact (hI x (List.mem_of_getElem? hx)).1
end Go.Proofs.Ytoommeiiadobfaa
/- The document's Before, After and Across. -/
namespace Go.Proofs.Ytoommeiiadobfaa
open Go.RowKit Go
set_option linter.unusedVariables false
set_option linter.unusedSimpArgs false
def InR (n R : Nat) (i r : Int) : Prop := (0 ≤ i ∧ i < n) ∧ (0 ≤ r ∧ r < R)
def RdS (f : FuI) (r : Int) (st : List Int) : Prop := ∃ j x, f.code[j]? = some x ∧ r ∈ usesI x ∧ PR f r st j
end Go.Proofs.Ytoommeiiadobfaa
