/- Known: is it a type whose class is there? Fits as a law meets it. -/
import Derived.Test.YtkphpihggbbpkaaDoorKinFits0
import Derived.Test.YtkphpihggbbpkaaDoorDescTypeK
import Derived.Test.YtkphpihggbbpkaaDoorShelf3
namespace Go.Proofs.YtkphpihggbbpkaaDoor
open Go.RowKit Go Go.Maps
set_option linter.unusedVariables false

theorem trim_tx (x : Bs) (w : World) : Calls Tryd.prog 22 #[.string (tx x), .string ⟨#[91]⟩] w fun e w' => e = .returned (.string (tx (Lib.trimLeftB x 91))) ∧ w' = w := by
  have := Tryd.strings_TrimLeft_one (tx x) 91 (by decide) w
  rw [tx_list] at this
  exact this
theorem trim_76 {x : Bs} (h : x.head? = some 76) : Lib.trimLeftB x 91 = x := by
  cases x with
  | nil => cases h
  | cons c r =>
    simp at h
    subst h
    rfl
theorem trim_len (x : Bs) : (Lib.trimLeftB x 91).length ≤ x.length := by
  unfold Lib.trimLeftB
  exact (List.dropWhile_sublist _).length_le
theorem type_facts {x : Bs} (h : typeB x = true) : x ≠ [] ∧ x ≠ [78] ∧ (x.head? = some 76 → classL x ≠ []) := by
  obtain ⟨k, hk, p, hp, rfl⟩ := (type_iff x).1 h
  cases k with
  | succ k => 
    rw [List.replicate_succ, List.cons_append]
    exact ⟨fun e => (by cases e), fun e => (by injection e with e _; exact absurd e (by decide)), fun e => (by injection e with e; exact absurd e (by decide))⟩
  | zero =>
    rw [List.replicate_zero, List.nil_append]
    rcases hp with rfl | rfl | ⟨nm, hn, rfl⟩
    · exact ⟨by decide, by decide, fun e => absurd e (by decide)⟩
    · exact ⟨by decide, by decide, fun e => absurd e (by decide)⟩
    · have := (name_len nm false hn).1
      refine ⟨fun e => (by cases e), fun e => (by injection e with e _; exact absurd e (by decide)), fun _ e => ?_⟩
      unfold classL at e
      rw [if_pos (by simp)] at e
      simp at e
      rw [e] at this
      simp at this
theorem type_tx (x : Bs) (r : Bool) (w : World) (hr : Hid (typeB x = r)) (hs : x.length ≤ maxLen) : Calls Tryd.prog 20 #[.string (tx x)] w fun e w' => e = .returned (.bool r) ∧ Below w.heap.size w w' := by
  refine (type_any (tx x) w (by rw [tx_size]; exact hs)).mono fun e w' h => ?_
  obtain ⟨h1, n, rfl⟩ := h
  rw [tx_list, hr.out] at h1
  exact ⟨h1, Below.drewN' (Below.refl _ _) n⟩
set_option maxHeartbeats 8000000 in
set_option maxRecDepth 100000 in
theorem known_any (B tb : Nat) (L : List ClI) (x : Bs) (w : World) (hT : Hid (TreeOK B w tb L)) (hx : x.length ≤ maxLen) :
    Calls Tryd.prog 8 #[.pointer (some ⟨tb, 0, none⟩), .string (tx x)] w fun e w' => ∃ r : Bool, e = .returned (.bool r) ∧ (r = true → KnownF L x) ∧ Below w.heap.size w w' := by
  obtain ⟨r, hr⟩ : ∃ r, typeB x = r := ⟨_, rfl⟩
  have HR := lhid hr
  clear hr
  go_enter Tryd.func8, Tryd.ntmps8
  go_wp2_with fail
  with_reducible refine (type_tx x r w HR hx).mono ?_
  rintro e w1 ⟨rfl, hb1⟩
  have HB1 := lhid hb1
  have HT1 := lhid (hT.out.below hb1)
  clear hb1
  cases r with
  | false =>
    go_wp2_with fail
    go_ret
    exact ⟨false, by rfl, fun e => (by cases e), HB1.out⟩
  | true =>
    go_wp2_with fail
    with_reducible refine (trim_tx x w1).mono ?_
    rintro e w2 ⟨rfl, rfl⟩
    go_wp2_with fail
    have htl := trim_len x
    with_reducible refine (class_tx (Lib.trimLeftB x 91) w2 (by omega)).mono ?_
    rintro e w3 ⟨rfl, rfl⟩
    obtain ⟨s, hs⟩ : ∃ s, classL (Lib.trimLeftB x 91) = s := ⟨_, rfl⟩
    have hsl : s.length ≤ maxLen := by rw [← hs]; have := classL_len (Lib.trimLeftB x 91); omega
    have HS := lhid hs
    rw [hs]
    clear hs
    go_wp2_with fail
    with_reducible refine (find_any B tb L s w2 HT1 hsl).mono ?_
    rintro e w4 ⟨v, ok, rfl, hv, hb4⟩
    obtain ⟨xc, ca, cp, cb, cd, rfl, ⟨r1, r2, r3, r4⟩, hcase⟩ := findV_cls hv
    obtain ⟨xa, da, rfl⟩ := r1.shape
    obtain ⟨xp, dp, rfl⟩ := r2.shape
    obtain ⟨xb, db, rfl⟩ := r3.shape
    obtain ⟨xd, dd, rfl⟩ := r4.shape
    clear r1 r2 r3 r4
    have HV := lhid hcase
    have HB4 := lhid (HB1.out.trans (Below.less hb4 HB1.out.size))
    obtain ⟨q, hq⟩ : ∃ q, decide (s = []) = q := ⟨_, rfl⟩
    have e1 : ((tx s).toList == []) = q := by rw [tx_toL, ← hq, Bool.eq_iff_iff]; simp
    have e2 : (tx s).toList.isEmpty = q := by rw [tx_toL, ← hq, Bool.eq_iff_iff]; simp
    have hfin : (ok || q) = true → KnownF L x := by
      intro h
      obtain ⟨f1, f2, f3⟩ := type_facts HR.out
      refine ⟨f1, f2, fun hh => ?_⟩
      have hne := f3 hh
      have hsx := HS.out
      rw [trim_76 hh] at hsx
      have hq0 : q = false := by rw [← hq, decide_eq_false]; rw [← hsx]; exact hne
      rw [hq0, Bool.or_false] at h
      rcases HV.out with ⟨_, h2, _⟩ | ⟨h2, _⟩
      · rw [h2] at h; cases h
      · rw [hsx]; exact find_names h2
    have HF := lhid hfin
    clear hv hcase hb4 hq hfin
    cases ok <;> cases q
    all_goals go_wp2_with fail
    all_goals go_ret
    · exact ⟨false, by rfl, HF.out, HB4.out.alloc HB4.out.size _⟩
    all_goals exact ⟨true, by rfl, HF.out, HB4.out.alloc HB4.out.size _⟩
end Go.Proofs.YtkphpihggbbpkaaDoor
