/- Contracts of restFits at any instruction, and of registersFit. -/
import Derived.Test.YtbkeneadoccodaaJCInsChk4
namespace Go.Proofs.Ytbkeneadoccodaa
open Go.RowKit Go
set_option linter.unusedVariables false
set_option linter.unusedSimpArgs false
theorem all_of {α : Type} {p : α → Bool} {l : List α} (h : ∀ (i : Nat) x, i < l.length → l[i]? = some x → p x = true) : l.all p = true := by
 rw [List.all_eq_true]
 intro x hx
 obtain ⟨i, hi, rfl⟩ := List.getElem_of_mem hx
 exact h i _ hi (List.getElem?_eq_getElem hi)
set_option maxHeartbeats 4000000 in
set_option maxRecDepth 100000 in
theorem restFits_any {P Q : Nat → Prop} (rs : List Int) (fa fb : Value) (ret : Int) (fd fe : Value) (x : InI) (v : Value) (w : World) (h : Hid (RdX P 1 NuE w fa rs)) (hv : Hid (RdX Q 1 NuE w v x.args)) (hn : Hid (I64 x.num)) (hr : Hid (x.ref.length ≤ maxLen)) (hk : Hid (kindsB rs x = true)) (h1 : 1 ≤ x.op) (h33 : x.op ≤ 33) :
  Calls Try.prog 82 #[fuL fa fb ret fd fe, inA x v] w fun e w' => e = .returned (.bool (restB rs ret x)) ∧ Below w.heap.size w w' := by
 obtain ⟨c, d, a, b, k, n, t, r, l⟩ := x
 have hk' := hk.out
 unfold kindsB at hk'
 simp only [Bool.and_eq_true] at hk'
 obtain ⟨⟨⟨k1, k2⟩, k3⟩, k4⟩ := hk'
 dsimp only at k1 k2 k3 k4 h1 h33
 rcases op_ways c with rfl | rfl | rfl | rfl | rfl | rfl | rfl | rfl | rfl | rfl | rfl | rfl | rfl | rfl | rfl | rfl | rfl | rfl | rfl | rfl | rfl | rfl | rfl | rfl | rfl | rfl | rfl | rfl | rfl | rfl | rfl | rfl | rfl | hh | hh
 ·exact restFits_1 rs fa fb ret fd fe d a b k n t r v l w h hv hn hr (lhid (mayB_ok k1 (by decide)))
 ·exact restFits_o rs fa fb ret fd fe d a b k n t r v l w h hv hn hr 2 (by decide)
 ·exact restFits_o rs fa fb ret fd fe d a b k n t r v l w h hv hn hr 3 (by decide)
 ·exact restFits_4 rs fa fb ret fd fe d a b k n t r v l w h hv hn hr (lhid (mayB_ok k1 (by decide))) (lhid (mayB_ok k2 (by decide)))
 ·exact restFits_5 rs fa fb ret fd fe d a b k n t r v l w h hv hn hr (lhid (mayB_ok k1 (by decide))) (lhid (mayB_ok k2 (by decide))) (lhid (mayB_ok k3 (by decide)))
 ·exact restFits_6 rs fa fb ret fd fe d a b k n t r v l w h hv hn hr (lhid (mayB_ok k1 (by decide))) (lhid (mayB_ok k2 (by decide)))
 ·exact restFits_o rs fa fb ret fd fe d a b k n t r v l w h hv hn hr 7 (by decide)
 ·exact restFits_o rs fa fb ret fd fe d a b k n t r v l w h hv hn hr 8 (by decide)
 ·exact restFits_o rs fa fb ret fd fe d a b k n t r v l w h hv hn hr 9 (by decide)
 ·exact restFits_o rs fa fb ret fd fe d a b k n t r v l w h hv hn hr 10 (by decide)
 ·exact restFits_o rs fa fb ret fd fe d a b k n t r v l w h hv hn hr 11 (by decide)
 ·exact restFits_12 rs fa fb ret fd fe d a b k n t r v l w h hv hn hr
 ·exact restFits_o rs fa fb ret fd fe d a b k n t r v l w h hv hn hr 13 (by decide)
 ·exact restFits_o rs fa fb ret fd fe d a b k n t r v l w h hv hn hr 14 (by decide)
 ·exact restFits_o rs fa fb ret fd fe d a b k n t r v l w h hv hn hr 15 (by decide)
 ·exact restFits_16 rs fa fb ret fd fe d a b k n t r v l w h hv hn hr
 ·exact restFits_17 rs fa fb ret fd fe d a b k n t r v l w h hv hn hr
 ·exact restFits_o rs fa fb ret fd fe d a b k n t r v l w h hv hn hr 18 (by decide)
 ·exact restFits_o rs fa fb ret fd fe d a b k n t r v l w h hv hn hr 19 (by decide)
 ·exact restFits_o rs fa fb ret fd fe d a b k n t r v l w h hv hn hr 20 (by decide)
 ·exact restFits_21 rs fa fb ret fd fe d a b k n t r v l w h hv hn hr
 ·exact restFits_22 rs fa fb ret fd fe d a b k n t r v l w h hv hn hr
 ·exact restFits_23 rs fa fb ret fd fe d a b k n t r v l w h hv hn hr
 ·exact restFits_24 rs fa fb ret fd fe d a b k n t r v l w h hv hn hr
 ·exact restFits_25 rs fa fb ret fd fe d a b k n t r v l w h hv hn hr
 ·exact restFits_26 rs fa fb ret fd fe d a b k n t r v l w h hv hn hr
 ·exact restFits_o rs fa fb ret fd fe d a b k n t r v l w h hv hn hr 27 (by decide)
 ·exact restFits_28 rs fa fb ret fd fe d a b k n t r v l w h hv hn hr
 ·exact restFits_29 rs fa fb ret fd fe d a b k n t r v l w h hv hn hr
 ·exact restFits_30 rs fa fb ret fd fe d a b k n t r v l w h hv hn hr (lhid (mayB_ok k2 (by decide)))
 ·exact restFits_o rs fa fb ret fd fe d a b k n t r v l w h hv hn hr 31 (by decide)
 ·exact restFits_o rs fa fb ret fd fe d a b k n t r v l w h hv hn hr 32 (by decide)
 ·exact restFits_o rs fa fb ret fd fe d a b k n t r v l w h hv hn hr 33 (by decide)
 ·exfalso; omega
 ·exfalso; omega
theorem restFits_r {P Q : Nat → Prop} (rs : List Int) (fa fb : Value) (ret : Int) (fd fe : Value) (x : InI) (v : Value) (z : Bool) (w : World) (h : Hid (RdX P 1 NuE w fa rs)) (hv : Hid (RdX Q 1 NuE w v x.args)) (hn : Hid (I64 x.num)) (hr : Hid (x.ref.length ≤ maxLen)) (hk : Hid (kindsB rs x = true)) (h1 : Hid (1 ≤ x.op ∧ x.op ≤ 33)) (hz : Hid (restB rs ret x = z)) :
  Calls Try.prog 82 #[fuL fa fb ret fd fe, inA x v] w fun e w' => e = .returned (.bool z) ∧ Below w.heap.size w w' := by
 have := restFits_any rs fa fb ret fd fe x v w h hv hn hr hk h1.out.1 h1.out.2
 rwa [hz.out] at this
structure FuV (P : Nat → Prop) (w : World) (f : FuI) (fa fb fd fe : Value) : Prop where
 a : RdX P 1 NuE w fa f.regs
 b : RdX P 1 NuE w fb f.params
 d : RdX P 9 (InE P) w fd f.code
 e : RdX P 4 RwE w fe f.rows
theorem FuV.below {P : Nat → Prop} {w w' : World} {f : FuI} {fa fb fd fe : Value} (h : FuV P w f fa fb fd fe) (hb : Below w.heap.size w w') : FuV P w' f fa fb fd fe :=
 ⟨h.a.below (keptX_nu _) hb, h.b.below (keptX_nu _) hb, h.d.below (keptX_in _) hb, h.e.below (keptX_rw _) hb⟩
structure FuQ (f : FuI) : Prop where
 num : ∀ x ∈ f.code, I64 x.num
 ref : ∀ x ∈ f.code, x.ref.length ≤ maxLen
theorem kr_of {rs : List Int} (h : ∀ (i : Nat) z, i < rs.length → rs[i]? = some z → isKindB z = true) : KR rs := by
 intro k hk
 obtain ⟨i, hi, rfl⟩ := List.getElem_of_mem hk
 have := h i _ hi (List.getElem?_eq_getElem hi)
 unfold isKindB at this
 simp at this
 omega
theorem regsB_kr {f : FuI} (h : regsB f = true) : KR f.regs := by
 unfold regsB at h
 simp only [Bool.and_eq_true] at h
 exact kr_of fun i z hi hz => List.all_eq_true.1 h.1.2 z (List.mem_of_getElem? hz)
theorem take_rd {P : Nat → Prop} {w : World} {A : Option Addr} {cap : Nat} {l : List Int} {k : Nat} (h : RdX P 1 NuE w (.slice A l.length cap) l) (hk : k ≤ l.length) : RdX P 1 NuE w (.slice A k cap) (l.take k) := by
 obtain ⟨A', cap', h1, h0, h2, h3⟩ := h
 injection h1 with e1 e2 e3
 subst e1 e3
 refine ⟨A, cap, by rw [List.length_take, Nat.min_eq_left hk], h0, by rw [List.length_take]; omega, fun i a hi => ?_⟩
 rw [List.getElem?_take] at hi
 split at hi
 ·exact h3 i a hi
 ·cases hi
set_option maxHeartbeats 2000000 in
set_option maxRecDepth 100000 in
theorem registersFit_any {P : Nat → Prop} (f : FuI) (fa fb fd fe : Value) (w : World) (h : Hid (FuV P w f fa fb fd fe)) (hcap : Hid (∀ A n cap, fb = .slice A n cap → n ≤ cap ∧ cap ≤ maxLen)) :
  Calls Try.prog 40 #[fuL fa fb f.ret fd fe] w fun e w' => e = .returned (.bool (regsB f)) ∧ Below w.heap.size w w' := by
 obtain ⟨rs, ps, ret, code, rows⟩ := f
 have ha := h.out.a
 have hb := h.out.b
 dsimp only at ha hb
 obtain ⟨R, rcap, rfl⟩ := ha.shape
 obtain ⟨S, scap, rfl⟩ := hb.shape
 have hrl := ha.len
 have hsl := hb.len
 have hc := hcap.out _ _ _ rfl
 have hc1 := hc.1
 have hc2 := hc.2
 unfold maxLen at hc2
 have HA := lhid ha
 have HS := lhid hb
 have HRB : Hid (regsB ⟨rs, ps, ret, code, rows⟩ = (decide (rs.length ≤ 20000) && decide (ps.length ≤ 21) && (isKindB ret || ret == 0) && rs.all isKindB && (List.range ps.length).all (parB rs ps))) := lhid rfl
 clear ha hb h hc hcap
 show Calls Try.prog 40 #[fuL (.slice R rs.length rcap) (.slice S ps.length scap) ret fd fe] w fun e w' => e = .returned (.bool (regsB ⟨rs, ps, ret, code, rows⟩)) ∧ Below w.heap.size w w'
 rw [HRB.out]
 by_cases h1 : 20000 < rs.length
 ·have q1 : (20000 : Int) < rs.length := by omega
  rw [decide_eq_false (show ¬ rs.length ≤ 20000 by omega)]
  clear h1
  go_enter Try.func40, Try.ntmps40
  go_wp2_with fail
  go_ret
  exact ⟨rfl, (Below.refl w.heap.size w).alloc (Nat.le_refl _) _⟩
 have q1 : ¬ (20000 : Int) < rs.length := by omega
 rw [decide_eq_true (show rs.length ≤ 20000 by omega)]
 by_cases h2 : 21 < ps.length
 ·have q2 : (21 : Int) < ps.length := by omega
  rw [decide_eq_false (show ¬ ps.length ≤ 21 by omega)]
  clear h1 h2
  go_enter Try.func40, Try.ntmps40
  go_wp2_with fail
  go_ret
  exact ⟨rfl, (Below.refl w.heap.size w).alloc (Nat.le_refl _) _⟩
 have q2 : ¬ (21 : Int) < ps.length := by omega
 rw [decide_eq_true (show ps.length ≤ 21 by omega)]
 clear h1 h2
 obtain ⟨zk, hzk⟩ : ∃ z, isKindB ret = z := ⟨_, rfl⟩
 have HZK := lhid hzk
 by_cases h3 : zk = false ∧ ¬ ret = 0
 ·obtain ⟨rfl, h4⟩ := h3
  have q3 : (ret == 0) = false := by rw [beq_eq_false_iff_ne]; exact h4
  rw [hzk, q3]
  clear hzk
  go_enter Try.func40, Try.ntmps40
  go_wp2_with fail
  with_reducible refine (isKind_r _ _ _ HZK).mono ?_
  rintro e w1 ⟨rfl, rfl⟩
  go_wp2_with fail
  go_ret
  exact ⟨rfl, (Below.refl w.heap.size w).alloc (Nat.le_refl _) _⟩
 have HZ : Hid ((isKindB ret || ret == 0) = true) := lhid (by
  cases zk
  ·have : ret = 0 := by
    rcases Classical.em (ret = 0) with e | e
    ·exact e
    ·exact absurd ⟨rfl, e⟩ h3
   rw [this]; simp
  ·rw [hzk]; rfl)
 rw [HZ.out]
 have hz2 : (zk = true) ∨ (zk = false ∧ ret = 0) := by
  cases zk
  ·right
   refine ⟨rfl, ?_⟩
   rcases Classical.em (ret = 0) with e | e
   ·exact e
   ·exact absurd ⟨rfl, e⟩ h3
  ·exact .inl rfl
 clear h3 hzk
 have HGO : ∀ zz : Bool, zz = zz := fun _ => rfl
 rcases hz2 with rfl | ⟨rfl, rfl⟩
 all_goals
  go_enter Try.func40, Try.ntmps40
  go_wp2_with fail
  with_reducible refine (isKind_r _ _ _ HZK).mono ?_
  rintro e w1 ⟨rfl, rfl⟩
  go_wp2_with fail
  go_loopw [31] (fun i wr => ∃ k : Nat, i = .int .i64 k ∧ k ≤ rs.length ∧ Hid (∀ (i : Nat) z, i < k → rs[i]? = some z → isKindB z = true) ∧ wr = w.alloc (.cells #[.slice R rs.length rcap, .slice S ps.length scap, .int .i64 _, fd, fe] 27)) (fun i _ => rs.length - (intOf i).toNat)
  case atStart => exact ⟨0, rfl, Nat.zero_le _, lhid (fun i z hi => absurd hi (by omega)), rfl⟩
  case round =>
   obtain ⟨k, rfl, hk, HN, rfl⟩ := hrel
   by_cases hlt : k < rs.length
   ·obtain ⟨x, hx⟩ : ∃ x, rs[k]? = some x := ⟨_, List.getElem?_eq_getElem hlt⟩
    obtain ⟨g, o, rfl, _, c0⟩ := rd_cell HA.out hx
    have hg : g < w.heap.size := cell_lt c0
    have hg2 : ¬ g = w.heap.size := by omega
    have k3 : (k : Int) < rs.length := by omega
    have HX := lhid hx
    cases hb : isKindB x with
    | true =>
     have HI := lhid hb
     have HM2 : Hid (∀ (i : Nat) z, i < k + 1 → rs[i]? = some z → isKindB z = true) := lhid (fun i z hi hz => by
      rcases Nat.lt_or_ge i k with h | h
      ·exact HN.out i z h hz
      ·have e : i = k := by omega
       subst e
       rw [HX.out] at hz
       rw [← Option.some.inj hz]
       exact HI.out)
     clear hx hb
     go_wp2_with fail
     with_reducible refine (isKind_r _ true _ HI).mono ?_
     rintro e w1 ⟨rfl, rfl⟩
     go_wp2_with fail
     go_roundw
     case rel => exact ⟨k + 1, by go_num, by omega, HM2, trivial⟩
     case measure => simp [intOf]; omega
    | false =>
     have HI := lhid hb
     have HM2 := lhid (all_bad HX.out hb)
     clear hx hb
     go_wp2_with fail
     with_reducible refine (isKind_r _ false _ HI).mono ?_
     rintro e w1 ⟨rfl, rfl⟩
     go_wp2_with fail
     go_ret
     exact ⟨by rw [HM2.out]; rfl, (Below.refl w.heap.size w).alloc (Nat.le_refl _) _⟩
   ·have k3 : ¬ (k : Int) < rs.length := by omega
    have HAL := lhid (all_of (p := isKindB) (l := rs) (fun i z hi hz => HN.out i z (by omega) hz))
    go_wp2_with fail
    go_loopw [42] (fun i wr => ∃ k : Nat, i = .int .i64 k ∧ k ≤ ps.length ∧ Hid (∀ (i : Nat), i < k → parB rs ps i = true) ∧ wr = w.alloc (.cells #[.slice R rs.length rcap, .slice S ps.length scap, .int .i64 _, fd, fe] 27)) (fun i _ => ps.length - (intOf i).toNat)
    case atStart => exact ⟨0, rfl, Nat.zero_le _, lhid (fun i hi => absurd hi (by omega)), rfl⟩
    case round =>
     obtain ⟨k, rfl, hk, HN, rfl⟩ := hrel
     by_cases hlt : k < ps.length
     ·obtain ⟨x, hx⟩ : ∃ x, ps[k]? = some x := ⟨_, List.getElem?_eq_getElem hlt⟩
      have HTK : ∀ w' : World, Below w.heap.size w w' → Hid (RdX P 1 NuE w' (.slice S k scap) (ps.take k)) := fun w' hw' => lhid (take_rd (HS.out.below (keptX_nu _) hw') hk)
      obtain ⟨g, o, rfl, _, c0⟩ := rd_cell HS.out hx
      have hg : g < w.heap.size := cell_lt c0
      have hg2 : ¬ g = w.heap.size := by omega
      have k3 : (k : Int) < ps.length := by omega
      have k4 : (0 : Int) ≤ k := by omega
      have k5 : (k : Int) ≤ scap := by omega
      have k6 : k ≤ scap := by omega
      have HX := lhid hx
      obtain ⟨y, hy⟩ : ∃ y, inB rs x = y := ⟨_, rfl⟩
      obtain ⟨u, hu⟩ : ∃ u, decide (x ∈ ps.take k) = u := ⟨_, rfl⟩
      have HP := lhid (show parB rs ps k = (y && !u) by unfold parB; rw [hx, ← hy, ← hu])
      have HY := lhid hy
      unfold inB at HY
      have HU := lhid hu
      have HBAD : parB rs ps k = false → Hid ((List.range ps.length).all (parB rs ps) = false) := fun e => lhid (all_bad (range_get hlt) e)
      clear hx hy hu
      cases y with
      | false =>
       have HB := HBAD (by rw [HP.out]; rfl)
       clear HBAD
       go_wp2_with fail
       with_reducible refine (isAt_r _ _ false _ HY).mono ?_
       rintro e w1 ⟨rfl, rfl⟩
       go_wp2_with fail
       go_ret
       exact ⟨by rw [HAL.out, HB.out]; rfl, (Below.refl w.heap.size w).alloc (Nat.le_refl _) _⟩
      | true =>
       cases u with
       | true =>
        have HB := HBAD (by rw [HP.out]; rfl)
        clear HBAD
        go_wp2_with fail
        with_reducible refine (isAt_r _ _ true _ HY).mono ?_
        rintro e w1 ⟨rfl, rfl⟩
        go_wp2_with fail
        with_reducible refine (contains_r _ _ _ true _ (HTK _ ((Below.refl _ _).alloc (Nat.le_refl _) _)) HU).mono ?_
        rintro e w1 ⟨rfl, rfl⟩
        go_wp2_with fail
        go_ret
        exact ⟨by rw [HAL.out, HB.out]; rfl, (Below.refl w.heap.size w).alloc (Nat.le_refl _) _⟩
       | false =>
        clear HBAD
        have HM2 : Hid (∀ (i : Nat), i < k + 1 → parB rs ps i = true) := lhid (fun i hi => by
         rcases Nat.lt_or_ge i k with h | h
         ·exact HN.out i h
         ·have e : i = k := by omega
          subst e
          rw [HP.out]
          rfl)
        go_wp2_with fail
        with_reducible refine (isAt_r _ _ true _ HY).mono ?_
        rintro e w1 ⟨rfl, rfl⟩
        go_wp2_with fail
        with_reducible refine (contains_r _ _ _ false _ (HTK _ ((Below.refl _ _).alloc (Nat.le_refl _) _)) HU).mono ?_
        rintro e w1 ⟨rfl, rfl⟩
        go_wp2_with fail
        go_roundw
        case rel => exact ⟨k + 1, by go_num, by omega, HM2, trivial⟩
        case measure => simp [intOf]; omega
     ·have k3' : ¬ (k : Int) < ps.length := by omega
      have HAP := lhid (all_of (p := parB rs ps) (l := List.range ps.length) (fun i z hi hz => by
       rw [List.length_range] at hi
       rw [range_get hi] at hz
       rw [← Option.some.inj hz]
       exact HN.out i (by omega)))
      go_wp2_with fail
      go_ret
      exact ⟨by rw [HAL.out, HAP.out]; rfl, (Below.refl w.heap.size w).alloc (Nat.le_refl _) _⟩
end Go.Proofs.Ytbkeneadoccodaa
