/- Is each register written ahead of all that reads it: the document's Set. -/
import Derived.Test.YtifgkpfieapdjaaM11
namespace Go.Proofs.Ytifgkpfieapdjaa
open Go.RowKit Go
set_option linter.unusedVariables false
set_option linter.unusedSimpArgs false

theorem ruses_w {P : Nat → Prop} (x : InI) (v : Value) (l : List Int) (w : World) (h : Hid (RdX P 1 NuE w v x.args)) (hby : Hid (x.args.length * 8 ≤ 140737488355328)) (hl : Hid (usesI x = l)) :
    Calls Try.prog 24 #[inA x v] w fun e w' => ∃ v', e = .returned v' ∧ OwN w' w.heap.size v' l ∧ Below w.heap.size w w' := by
  have := ruses_any x v w h hby
  rwa [hl.out] at this
theorem rdef_w (x : InI) (v : Value) (w : World) (d : Int) (hd : Hid (defI x = d)) : Calls Try.prog 25 #[inA x v] w fun e w' => e = .returned (.int .i64 d) ∧ Below w.heap.size w w' := by
  have := rdef_any x v w
  rwa [hd.out] at this
theorem rcaught_w {P : Nat → Prop} (f : FuI) (n : Nat) (hn : f.code.length = n) (l : List Int) (fa fb fd fe : Value) (i : Int) (w : World) (h : Hid (FuV P w f fa fb fd fe)) (hrl : Hid (f.rows.length * 8 ≤ 140737488355328)) (hl : Hid (caughtL f i = l)) :
    Calls Try.prog 32 #[fuL fa fb f.ret fd fe, .int .i64 i] w fun e w' => ∃ v, e = .returned v ∧ OwN w' w.heap.size v l ∧ Below w.heap.size w w' := by
  have := rcaught_any f fa fb fd fe i w h hrl
  rwa [hl.out] at this
theorem rnext_w {P : Nat → Prop} (f : FuI) (n : Nat) (hn : f.code.length = n) (l : List Int) (fa fb fd fe : Value) (i : Int) (w : World) (h : Hid (FuV P w f fa fb fd fe)) (hl : Hid (nextL f i = l)) :
    Calls Try.prog 33 #[fuL fa fb f.ret fd fe, .int .i64 i] w fun e w' => ∃ v, e = .returned v ∧ OwN w' w.heap.size v l ∧ Below w.heap.size w w' := by
  have := rnext_any f fa fb fd fe i w h
  rwa [hl.out] at this
theorem nextL_pos {f : FuI} (h : chkN f = 0) (i : Nat) : ∀ t ∈ nextL f i, 0 ≤ t := by
  intro t ht
  by_cases hi : i < f.code.length
  · obtain ⟨x, hx⟩ : ∃ x, f.code[i]? = some x := ⟨_, List.getElem?_eq_getElem hi⟩
    unfold nextL at ht
    rw [atC_some hx] at ht
    have hg : t ∈ goOn x i → 0 ≤ t := by
      unfold goOn
      split
      · intro h; cases h
      · intro h; have := List.mem_singleton.1 h; omega
    simp only [nextX] at ht
    split at ht
    · rename_i hl
      simp only [Bool.and_eq_true] at hl
      rcases List.mem_append.1 ht with h1 | h1
      · exact hg h1
      · have := chk_leads h x (List.mem_of_getElem? hx) hl.1
        have := List.mem_singleton.1 h1
        omega
    · exact hg ht
  · unfold nextL at ht
    rw [atC_none (by omega)] at ht
    cases ht
theorem caughtL_pos {f : FuI} (h : chkN f = 0) (i : Int) : ∀ t ∈ caughtL f i, 0 ≤ t := by
  intro t ht
  unfold caughtL at ht
  split at ht
  · cases ht
  · split at ht
    · obtain ⟨r, hr, e⟩ := catL_mem (uniq_mem ht)
      have := (chk_rows9 h r hr).2.2.1
      omega
    · cases ht
set_option maxHeartbeats 16000000 in
set_option maxRecDepth 100000 in
theorem rset_any {P : Nat → Prop} (f : FuI) (fa fb fd fe : Value) (w : World) (h : Hid (FuV P w f fa fb fd fe)) (hq : Hid (FuQ f)) (hcap : Hid (∀ A n cap, fb = .slice A n cap → n ≤ cap ∧ cap ≤ maxLen)) (hrl : Hid (f.rows.length ≤ 1048576)) (hnr : Hid (f.code.length * (f.rows.length + 3) ≤ 1048576)) (ha : Hid (∀ x ∈ f.code, x.args.length * 8 ≤ 140737488355328 ∧ (usesI x).length * 8 ≤ 140737488355328)) :
    Calls Try.prog 11 #[fuL fa fb f.ret fd fe] w fun e w' => SetOut f w e w' := by
  obtain ⟨FA, ac, hFA⟩ := h.out.a.shape
  subst hFA
  obtain ⟨FB, bc, hFB⟩ := h.out.b.shape
  subst hFB
  obtain ⟨D, dcap, hD⟩ := h.out.d.shape
  subst hD
  obtain ⟨E, ecap, hE⟩ := h.out.e.shape
  subst hE
  obtain ⟨n, hn⟩ : ∃ n, f.code.length = n := ⟨_, rfl⟩
  obtain ⟨R, hR⟩ : ∃ R, f.regs.length = R := ⟨_, rfl⟩
  have HN := lhid hn
  have HR := lhid hR
  have hf2 := h.out
  have hnr2 := hnr.out
  have hdl := h.out.d.len
  rw [hn] at hnr2 hdl
  rw [hn, hR] at hf2 ⊢
  have HFU := lhid hf2
  clear hn hf2 h hR hnr
  obtain ⟨c, hc⟩ : ∃ c, chkN f = c := ⟨_, rfl⟩
  have HC := lhid hc
  clear hc
  go_enter Try.func11, Try.ntmps11
  go_wp2_with fail
  generalize hW : World.alloc _ _ = w0
  obtain ⟨B0, hB0⟩ : ∃ B, B = w.heap.size := ⟨_, rfl⟩
  have hb0 : Below B0 w w0 := by rw [← hW, hB0]; exact (Below.refl _ _).alloc (Nat.le_refl _) _
  have hF0 : FBox w0 B0 (.slice FA R ac) (.slice FB f.params.length bc) f.ret (.slice D n dcap) (.slice E f.rows.length ecap) := by rw [← hW, hB0]; exact heap_alloc_new w _
  rw [← hB0]
  have HB0 := lhid hB0
  have HF0 := lhid hF0
  have HBw := lhid hb0
  have HU0 := lhid (HFU.out.below (by rw [← hB0]; exact hb0))
  obtain ⟨p0, p1, p2, p3, p4⟩ := hF0.cells
  clear hW hb0 hF0 hB0
  with_reducible refine (rcheck_r f _ _ _ _ c w0 HU0 hq hcap HC).mono ?_
  rintro e w1 ⟨rfl, hb⟩
  have HF1 : Hid (FBox w1 B0 (.slice FA R ac) (.slice FB f.params.length bc) f.ret (.slice D n dcap) (.slice E f.rows.length ecap)) := lhid (heap_keep HF0.out hb)
  have HB1 : Hid (Below B0 w w1) := lhid (HBw.out.trans (hb.mono (by have := heap_lt HF0.out; omega)))
  have HB0s : Hid (B0 < w1.heap.size) := lhid (heap_lt HF1.out)
  clear hb HF0 HBw HU0 p0 p1 p2 p3 p4
  by_cases hc0 : c = 0
  · have hcb : (c != 0) = false := by rw [hc0]; rfl
    have HC0 : Hid (chkN f = 0) := lhid (HC.out.trans hc0)
    have HRL : Hid (R ≤ 20000) := lhid (by rw [← HR.out]; exact (chk_sizes HC0.out).1)
    clear hc0
    go_wp2_with fail
    go_loopg [3] R (fun g s wr => ∃ rr : Nat, g = R - rr ∧ s = .int .i64 rr ∧ rr ≤ R ∧ Hid (∀ r, r < rr → ¬ RdUn f r) ∧ Hid (Below w1.heap.size w1 wr))
    case atStart => exact ⟨0, by omega, rfl, by omega, lhid (fun r hr => by omega), lhid (Below.refl _ _)⟩
    case round =>
      obtain ⟨rr, rfl, rfl, hrr, HNO, HBr⟩ := hrel
      have HBq : Hid (Below B0 w wr) := lhid (HB1.out.trans (HBr.out.mono (by have := HB0s.out; omega)))
      have HFr : Hid (FBox wr B0 (.slice FA R ac) (.slice FB f.params.length bc) f.ret (.slice D n dcap) (.slice E f.rows.length ecap)) := lhid (heap_keep HF1.out HBr.out)
      obtain ⟨p0, p1, p2, p3, p4⟩ := HFr.out.cells
      have HUr := lhid (HFU.out.below (by rw [← HB0.out]; exact HBq.out))
      have hrl2 := HRL.out
      have hwr : wrap64 ((rr : Int) + 1) = ((rr + 1 : Nat) : Int) := by rw [IntWalk.wrap64_in _ (by omega)]; omega
      by_cases hlt : rr < R
      · have k3 : (rr : Int) < R := by omega
        by_cases hin : (rr : Int) ∈ f.params
        · have HNO2 : Hid (∀ r, r < rr + 1 → ¬ RdUn f r) := lhid (fun r h1 h2 => by
            by_cases e : r = rr
            · subst e; exact h2.1 hin
            · exact HNO.out r (by omega) h2)
          have HIN : Hid (decide ((rr : Int) ∈ f.params) = true) := lhid (by simpa using hin)
          clear hin
          go_wp2_with fail
          with_reducible refine (fin_r rr _ f.params true wr (lhid HUr.out.b) HIN).mono ?_
          rintro e _ ⟨rfl, rfl⟩
          go_wp2_with fail
          go_roundg (R - (rr + 1))
          case measure => omega
          case rel => exact ⟨rr + 1, rfl, by first | rfl | rw [hwr], by omega, HNO2, HBr⟩
        · have HIN : Hid (decide ((rr : Int) ∈ f.params) = false) := lhid (by simpa using hin)
          have HNI := lhid hin
          have hmk := make_bools n hdl
          clear hin
          go_wp2_with fail
          with_reducible refine (fin_r rr _ f.params false wr (lhid HUr.out.b) HIN).mono ?_
          rintro e _ ⟨rfl, rfl⟩
          go_wp2_with fail
          obtain ⟨w4, hw4⟩ : ∃ x, x = wr := ⟨_, rfl⟩
          subst hw4
          generalize hW : World.alloc _ _ = w6
          obtain ⟨G, hG⟩ : ∃ G, G = w4.heap.size := ⟨_, rfl⟩
          have hs5 : (w4.alloc (.cells (madeCells #[.bool false] n) 4)).heap.size = G + 1 := by rw [hG]; simp
          obtain ⟨w5, hw5⟩ : ∃ w5, w5 = w4.alloc (.cells (madeCells #[.bool false] n) 4) := ⟨_, rfl⟩
          have hb5 : Below w4.heap.size w4 w5 := by rw [hw5]; exact (Below.refl _ _).alloc (Nat.le_refl _) _
          rw [← hw5] at hW hs5
          have hS5 : BooB w5 G n (fun _ => false) n := by
            have h9 := BooB.made w4 n (fun _ => false)
            rw [← hw5, ← hG] at h9
            obtain ⟨cc, h1, h2, h3⟩ := h9
            refine ⟨cc, h1, h2, fun j hj => ⟨false, ?_, fun _ => rfl⟩⟩
            have h4 := heap_alloc_new w4 (.cells (madeCells #[.bool false] n) 4)
            rw [← hw5, ← hG, h1] at h4
            injection h4 with h4
            injection h4 with h4
            rw [h4]
            exact made_at0 _ _ _ _ hj (by rw [show j % (#[Value.bool false] : Array Value).size = 0 from Nat.mod_one j]; rfl)
          have hb6 : Below w5.heap.size w5 w6 := by rw [← hW]; exact (Below.refl _ _).alloc (Nat.le_refl _) _
          have HO6 : Hid (OwN w6 (G + 1) (.slice (some ⟨G + 1, 0, none⟩) 1 1) [0]) := lhid (by
            have h1 := heap_alloc_new w5 (.cells #[.int .i64 0] 3)
            rw [hW, hs5] at h1
            exact ⟨rfl, .inr ⟨G + 1, 1, _, rfl, Nat.le_refl _, h1, Nat.le_refl _, by decide, rfl, rfl⟩⟩)
          rw [← hG]
          have HS6 := lhid (hS5.of (hb6.block G hS5.lt))
          have HC6 : Hid (Ch (fun b => b = G) w5 w6) := lhid (Ch.of hb6)
          have HNUM : Hid (w5.heap.size = G + 1 ∧ B0 < G ∧ w1.heap.size ≤ G) := lhid ⟨hs5, by have := HB0s.out; have := HBr.out.size; omega, by have := HBr.out.size; omega⟩
          have HB5 : Hid (Below B0 w w5) := lhid (HBq.out.trans (hb5.mono (by have := HNUM.out; omega)))
          have HBr5 : Hid (Below w1.heap.size w1 w5) := lhid (HBr.out.trans (hb5.mono (by have := HNUM.out; omega)))
          have HF5 : Hid (FBox w5 B0 (.slice FA R ac) (.slice FB f.params.length bc) f.ret (.slice D n dcap) (.slice E f.rows.length ecap)) := lhid (heap_keep HFr.out hb5)
          have HD6 := lhid (Dfs.begin f rr [0])
          obtain ⟨K, hK⟩ : ∃ K, f.rows.length + 3 = K := ⟨_, rfl⟩
          have HK := lhid hK
          have hM : cntF n (fun _ => false) * K + 1 ≤ 1048577 := by
            have h1 := Nat.mul_le_mul_right K (cntF_le n (fun _ => false))
            rw [hK] at hnr2
            omega
          have HM := lhid hM
          clear hs5 hb5 hS5 hb6 hW hG hw5 hmk HBq HFr HUr p0 p1 p2 p3 p4 hM hK hnr2 hdl
          go_loopg [5] (cntF n (fun _ => false) * K + 1) (fun g v wq => ∃ (S : Nat → Bool) (T : List Int) (A : Option Addr) (q : Nat), g = cntF n S * K + T.length ∧ v = .slice A T.length q ∧ Hid (cntF n S * K + T.length ≤ 1048577) ∧ Hid (OwN wq (G + 1) (.slice A T.length q) T) ∧ Hid (BooB wq G n S n) ∧ Hid (Dfs f rr [0] S T) ∧ Hid (∀ t ∈ T, 0 ≤ t) ∧ Hid (Ch (fun b => b = G) w5 wq))
          case atStart => exact ⟨fun _ => false, [0], some ⟨G + 1, 0, none⟩, 1, rfl, rfl, HM, HO6, HS6, HD6, lhid (fun t ht => by have := List.mem_singleton.1 ht; omega), HC6⟩
          case round =>
            clear HO6 HS6 HD6 HC6 HM
            obtain ⟨S, T, A, q, rfl, rfl, HM, HO, HS, HD, HPOS, HCH⟩ := hrel
            have hbB : Below B0 w5 wr := HCH.out.to (by have := HNUM.out; omega) (fun b hb => by have := HNUM.out; omega)
            have HBq : Hid (Below B0 w wr) := lhid (HB5.out.trans hbB)
            have HB1q : Hid (Below w1.heap.size w1 wr) := lhid (HBr5.out.trans (HCH.out.to (by have := HNUM.out; omega) (fun b hb => by have := HNUM.out; omega)))
            have HFq : Hid (FBox wr B0 (.slice FA R ac) (.slice FB f.params.length bc) f.ret (.slice D n dcap) (.slice E f.rows.length ecap)) := lhid (HCH.out.keep HF5.out (by have := HNUM.out; omega))
            clear hbB
            rcases List.eq_nil_or_concat T with rfl | ⟨T', t, hTc⟩
            · have HNO2 : Hid (∀ r, r < rr + 1 → ¬ RdUn f r) := lhid (fun r h1 h2 => by
                by_cases e : r = rr
                · subst e
                  obtain ⟨_, i, x, hx, hr, hu⟩ := h2
                  exact HD.out.done i x hx hr ((unr_pr i).1 hu)
                · exact HNO.out r (by omega) h2)
              go_wp2_with fail
              go_roundg (R - (rr + 1))
              case measure => omega
              case rel => exact ⟨rr + 1, rfl, by first | rfl | rw [hwr], by omega, HNO2, HB1q⟩
            · rw [List.concat_eq_append] at hTc
              subst hTc
              have ho := HO.out
              obtain ⟨g, cap, hvg, hgB, hgw⟩ := own_last ho
              have hA : A = some ⟨g, 0, none⟩ ∧ cap = q := by injection hvg with e1 e2 e3; exact ⟨e1, e3.symm⟩
              obtain ⟨rfl, rfl⟩ := hA
              have hln : (T' ++ [t]).length = T'.length + 1 := by simp
              rw [hln] at ho
              obtain ⟨ho3, c3, hcap⟩ := own_init ho
              obtain ⟨N, hN⟩ : ∃ N, T'.length = N := ⟨_, rfl⟩
              obtain ⟨M, hMe⟩ : ∃ M, N + 1 = M := ⟨_, rfl⟩
              rw [hln, hN, hMe]
              rw [hN] at ho3 c3 hcap
              have HO3 := lhid ho3
              have hNM : N ≤ 1048577 := by have := HM.out; rw [hln, hN] at this; omega
              have HNM : Hid (T'.length = N ∧ N + 1 = M) := lhid ⟨hN, hMe⟩
              have hw1' : wrap64 ((M : Int) - 1) = (N : Int) := by rw [IntWalk.wrap64_in _ (by omega)]; omega
              have k0 : (0 : Int) < M := by omega
              have k1 : (N : Int) < M := by omega
              have k2 : (N : Int) ≤ cap := by omega
              have k3' : ¬ cap = 0 := by omega
              have ht0 := HPOS.out t (by simp)
              obtain ⟨i, hi⟩ : ∃ i : Nat, t = i := ⟨t.toNat, by omega⟩
              subst hi
              obtain ⟨p0, p1, p2, p3, p4⟩ := HFq.out.cells
              obtain ⟨q, hqc⟩ : ∃ q, q = cap := ⟨_, rfl⟩
              subst hqc
              clear ho hvg hln hN hMe ho3 hcap ht0 hgB hgw HO
              by_cases hin : i < n
              · have k5 : (i : Int) < n := by omega
                have k6 : ¬ (n : Int) ≤ i := by omega
                have c4 := HS.out.at' hin hin
                obtain ⟨x, hx⟩ : ∃ x, f.code[i]? = some x := ⟨_, List.getElem?_eq_getElem (by have := HN.out; omega)⟩
                cases hsi : S i with
                | true =>
                  rw [hsi] at c4
                  have HSK : Hid (∀ j : Nat, (i : Int) = j → j < f.code.length → S j = true) := lhid (fun j e _ => by rw [show j = i by omega]; exact hsi)
                  clear hsi
                  go_wp2_with fail
                  go_roundg (cntF n S * K + T'.length)
                  case measure => simp
                  case rel => exact ⟨S, T', some ⟨g, 0, none⟩, q, rfl, by rw [HNM.out.1], lhid (by have := HM.out; simp at this; omega), lhid (by rw [HNM.out.1]; exact HO3.out), HS, lhid (HD.out.skip HSK.out), lhid (fun t ht => HPOS.out t (List.mem_append_left _ ht)), HCH⟩

                | false =>
                  rw [hsi] at c4
                  have HX := lhid hx
                  have HSI := lhid hsi
                  have ks := HS.out.fz i
                  have kl := HS.out.lt
                  go_upto_region 14 with fail
                  generalize hW : World.setCell _ _ _ = w7
                  have HS7 : Hid (BooB w7 G n (updB S i) n) := lhid (by rw [← hW]; exact HS.out.upd)
                  have HC7 : Hid (Ch (fun b => b = G) w5 w7) := lhid (by rw [← hW]; exact Ch.set (X := fun b => b = G) (p := ⟨G, i, none⟩) HCH.out (fun _ => rfl) _)
                  have HO7 : Hid (OwN w7 (G + 1) (.slice (some ⟨g, 0, none⟩) N q) T') := lhid (by rw [← hW]; exact own_of HO3.out fun b hb => Below.heap_setCell _ _ _ _ (by have := own_lt HO3.out b hb; show b ≠ G; omega))
                  clear hW c3 c4 ks kl p0 p1 p2 p3 p4 hw1' k0 k1 k2 k3' k5 k6 hx hsi
                  have hbB7 : Below B0 w5 w7 := HC7.out.to (by have := HNUM.out; omega) (fun b hb => by have := HNUM.out; omega)
                  have HBq7 : Hid (Below B0 w w7) := lhid (HB5.out.trans hbB7)
                  have HF7 := lhid (HC7.out.keep HF5.out (by have := HNUM.out; omega))
                  have HU7 := lhid (HFU.out.below (by rw [← HB0.out]; exact HBq7.out))
                  have HB17 : Hid (Below w1.heap.size w1 w7) := lhid (HBr5.out.trans (HC7.out.to (by have := HNUM.out; omega) (fun b hb => by have := HNUM.out; omega)))
                  clear hbB7
                  obtain ⟨p0, p1, p2, p3, p4⟩ := FBox.cells HF7.out
                  obtain ⟨gc, o, v, hD, _, hva, c0, c1, c2, c3, c4, c5, c6, c7, c8⟩ := in_cells HFU.out.d HX.out
                  subst hD
                  obtain ⟨VA, vc, hv0⟩ := hva.shape
                  subst hv0
                  have kc : ∀ {p : Addr} {u : Value}, w.cell? p = some u → w7.cell? p = some u := fun {p u} hq => (HBq7.out.cell (p := p) (by have := cell_lt hq; have := HB0.out; omega)).trans hq
                  replace c0 := kc c0
                  replace c1 := kc c1
                  replace c2 := kc c2
                  replace c3 := kc c3
                  replace c4 := kc c4
                  replace c5 := kc c5
                  replace c6 := kc c6
                  replace c7 := kc c7
                  replace c8 := kc c8
                  have HVA7 := lhid (hva.below (keptX_nu _) (by rw [← HB0.out]; exact HBq7.out))
                  have HVA := lhid hva
                  have hargs := ha.out x (List.mem_of_getElem? HX.out)
                  have HAR := lhid hargs
                  have hii : (i : Int) < n := by omega
                  obtain ⟨us, hus⟩ : ∃ us, usesI x = us := ⟨_, rfl⟩
                  have HUS := lhid hus
                  clear hva kc hargs hus
                  go_wp2_with fail
                  with_reducible refine (ruses_w x (.slice VA x.args.length vc) us w7 HVA7 (lhid HAR.out.1) HUS).mono ?_
                  rintro e w8 ⟨vu, rfl, ho8, hb8⟩
                  have HUR : Hid (RdX Tru 1 NuE w8 vu us) := lhid ((OwN.rd ho8 (by have h1 := HAR.out.2; rw [HUS.out] at h1; omega)).any fun _ _ => trivial)
                  have HS8 := lhid (HS7.out.of (hb8.block G HS7.out.lt))
                  have HC8 := lhid (HC7.out.below hb8)
                  have HO8 := lhid (own_below HO7.out hb8)
                  have hbB8 : Below B0 w5 w8 := HC8.out.to (by have := HNUM.out; omega) (fun b hb => by have := HNUM.out; omega)
                  have HBq8 : Hid (Below B0 w w8) := lhid (HB5.out.trans hbB8)
                  have HF8 := lhid (HC8.out.keep HF5.out (by have := HNUM.out; omega))
                  have HU8 := lhid (HFU.out.below (by rw [← HB0.out]; exact HBq8.out))
                  have HB18 : Hid (Below w1.heap.size w1 w8) := lhid (HBr5.out.trans (HC8.out.to (by have := HNUM.out; omega) (fun b hb => by have := HNUM.out; omega)))
                  clear hbB8
                  clear ho8 hb8 p0 p1 p2 p3 p4 c0 c1 c2 c3 c4 c5 c6 c7 c8 HS7 HC7 HO7 HF7 HU7 HB17
                  obtain ⟨p0, p1, p2, p3, p4⟩ := FBox.cells HF8.out
                  by_cases hru : (rr : Int) ∈ us
                  · have HRU : Hid (decide ((rr : Int) ∈ us) = true) := lhid (by simpa using hru)
                    have HBAD : Hid (¬ SetN f) := lhid (fun hs => hs.2 rr (by rw [HR.out]; exact hlt) ⟨HNI.out, i, x, HX.out, by rw [HUS.out]; exact hru, (unr_pr i).2 (HD.out.opn i (by simp) i rfl (by have := HN.out; omega))⟩)
                    clear hru
                    go_wp2_with fail
                    with_reducible refine (fin_r rr vu us true w8 HUR HRU).mono ?_
                    rintro e _ ⟨rfl, rfl⟩
                    go_wp2_with fail
                    go_ret
                    exact ⟨false, rfl, ⟨fun h => (by cases h), fun h => absurd h HBAD.out⟩, by rw [← HB0.out]; exact HBq8.out⟩
                  · have HRU : Hid (decide ((rr : Int) ∈ us) = false) := lhid (by simpa using hru)
                    have HNR : Hid ((rr : Int) ∉ usesI x) := lhid (by rw [HUS.out]; exact hru)
                    obtain ⟨cl, hcl⟩ : ∃ cl, caughtL f i = cl := ⟨_, rfl⟩
                    have HCL := lhid hcl
                    have HCLn : Hid (cl.length ≤ f.rows.length) := lhid (by rw [← hcl]; exact caughtL_len f i)
                    clear hru hcl
                    go_wp2_with fail
                    with_reducible refine (fin_r rr vu us false w8 HUR HRU).mono ?_
                    rintro e _ ⟨rfl, rfl⟩
                    go_wp2_with fail
                    with_reducible refine (rcaught_w f n HN.out cl _ _ _ _ i w8 HU8 (lhid (by have := hrl.out; omega)) HCL).mono ?_
                    rintro e w9 ⟨vc9, rfl, hoc, hb9⟩
                    have HS9 := lhid (HS8.out.of (hb9.block G HS8.out.lt))
                    have HC9 := lhid (HC8.out.below hb9)
                    have HO9 := lhid (own_below HO8.out hb9)
                    have HOC : Hid (OwN w9 (G + 1) vc9 cl) := lhid (own_base hoc (by have := HC8.out.size; have := HNUM.out; omega))
                    clear hoc hb9 HS8 HC8 HO8 HF8 HU8 HB18 p0 p1 p2 p3 p4
                    go_wp2_with (at_builtin; refine wpList_append_two rfl (.tmp 61) (.tmp 64) rfl (G + 1) (.slice (some ⟨g, 0, none⟩) N q) vc9 T' cl rfl rfl HO9.out HOC.out ?a1 ?a2 ?_)
                    case a1 => have := HC9.out.size; have := HNUM.out; omega
                    case a2 => have h1 := HM.out; have h2 := HCLn.out; have h3 := hrl.out; simp at h1; omega
                    intro v' w10 ho10 hb10
                    have HS10 := lhid (HS9.out.of (hb10.block G (by omega)))
                    have HC10 : Hid (Ch (fun b => b = G) w5 w10) := lhid (HC9.out.belowB (by rw [HNUM.out.1]; exact hb10))
                    obtain ⟨A10, q10, rfl⟩ := own_shape ho10
                    have HO10 := lhid ho10
                    clear ho10 hb10 HS9 HC9 HO9 HOC
                    have hbB10 : Below B0 w5 w10 := HC10.out.to (by have := HNUM.out; omega) (fun b hb => by have := HNUM.out; omega)
                    have HBq10 : Hid (Below B0 w w10) := lhid (HB5.out.trans hbB10)
                    have HF10 := lhid (HC10.out.keep HF5.out (by have := HNUM.out; omega))
                    have HU10 := lhid (HFU.out.below (by rw [← HB0.out]; exact HBq10.out))
                    have HB110 : Hid (Below w1.heap.size w1 w10) := lhid (HBr5.out.trans (HC10.out.to (by have := HNUM.out; omega) (fun b hb => by have := HNUM.out; omega)))
                    clear hbB10
                    obtain ⟨p0, p1, p2, p3, p4⟩ := FBox.cells HF10.out
                    obtain ⟨gc2, o2, v2, hD2, _, hva2, c0, c1, c2, c3, c4, c5, c6, c7, c8⟩ := in_cells HFU.out.d HX.out
                    injection hD2 with hD2
                    injection hD2 with hD2 hD3
                    subst hD2 hD3
                    obtain ⟨VB, vd, hv2⟩ := hva2.shape
                    subst hv2
                    have kc : ∀ {p : Addr} {u : Value}, w.cell? p = some u → w10.cell? p = some u := fun {p u} hq => (HBq10.out.cell (p := p) (by have := cell_lt hq; have := HB0.out; omega)).trans hq
                    replace c0 := kc c0
                    replace c1 := kc c1
                    replace c2 := kc c2
                    replace c3 := kc c3
                    replace c4 := kc c4
                    replace c5 := kc c5
                    replace c6 := kc c6
                    replace c7 := kc c7
                    replace c8 := kc c8
                    obtain ⟨dx, hdx⟩ : ∃ dx, defI x = dx := ⟨_, rfl⟩
                    have HDX := lhid hdx
                    obtain ⟨C, hC⟩ : ∃ C, T' ++ cl = C := ⟨_, rfl⟩
                    have hCl : T'.length + cl.length = C.length := by rw [← hC]; simp
                    have hTCl : (T' ++ cl).length = C.length := by rw [hC]
                    rw [hTCl, hC] at HO10
                    rw [hTCl]
                    have HCC := lhid hC
                    clear kc hva2 hdx hTCl hC
                    go_wp2_with fail
                    with_reducible refine (rdef_w x (.slice VB x.args.length vd) w10 dx HDX).mono ?_
                    rintro e w11 ⟨rfl, hb11⟩
                    have HS11 := lhid (HS10.out.of (hb11.block G HS10.out.lt))
                    have HC11 := lhid (HC10.out.below hb11)
                    have HO11 := lhid (own_below HO10.out hb11)
                    clear hb11 HS10 HC10 HO10 HF10 HU10 HB110 p0 p1 p2 p3 p4 c0 c1 c2 c3 c4 c5 c6 c7 c8
                    have HLS : Hid (cntF n (updB S i) * K + (T' ++ sucL f rr i x).length + 1 ≤ cntF n S * K + (T' ++ [(i : Int)]).length) := lhid (by rw [← HK.out]; exact Dfs.less hin HSI.out)
                    by_cases hdr : dx = rr
                    · have hdb : (dx != (rr : Int)) = false := by rw [hdr]; simp
                      have HSUC : Hid (T' ++ sucL f rr i x = C) := lhid (by unfold sucL; rw [if_pos (HDX.out.trans hdr), List.append_nil, HCL.out, HCC.out])
                      have HDN := lhid (HD.out.visit HX.out HNR.out)
                      rw [HSUC.out] at HDN HLS
                      have HPN : Hid (∀ t ∈ C, 0 ≤ t) := lhid (fun t ht => by
                        rw [← HCC.out] at ht
                        rcases List.mem_append.1 ht with h1 | h1
                        · exact HPOS.out t (List.mem_append_left _ h1)
                        · rw [← HCL.out] at h1
                          exact caughtL_pos HC0.out _ t h1)
                      clear hdr
                      go_wp2_with fail
                      go_roundg (cntF n (updB S i) * K + C.length)
                      case measure => have := HLS.out; omega
                      case rel => exact ⟨updB S i, C, A10, q10, rfl, by first | rfl | rw [hCl], lhid (by have h1 := HLS.out; have h2 := HM.out; omega), HO11, HS11, HDN, HPN, HC11⟩
                    · have hdb : (dx != (rr : Int)) = true := by simpa using hdr
                      have hbB11 : Below B0 w5 w11 := HC11.out.to (by have := HNUM.out; omega) (fun b hb => by have := HNUM.out; omega)
                      have HBq11 : Hid (Below B0 w w11) := lhid (HB5.out.trans hbB11)
                      have HF11 := lhid (HC11.out.keep HF5.out (by have := HNUM.out; omega))
                      have HU11 := lhid (HFU.out.below (by rw [← HB0.out]; exact HBq11.out))
                      have HB111 : Hid (Below w1.heap.size w1 w11) := lhid (HBr5.out.trans (HC11.out.to (by have := HNUM.out; omega) (fun b hb => by have := HNUM.out; omega)))
                      clear hbB11
                      obtain ⟨p0, p1, p2, p3, p4⟩ := FBox.cells HF11.out
                      obtain ⟨nl, hnl⟩ : ∃ nl, nextL f i = nl := ⟨_, rfl⟩
                      have HNL := lhid hnl
                      have HSUC : Hid (T' ++ sucL f rr i x = C ++ nl) := lhid (by unfold sucL; rw [if_neg (fun e => hdr (HDX.out.symm.trans e)), HCL.out, hnl, ← HCC.out, List.append_assoc])
                      have HDN := lhid (HD.out.visit HX.out HNR.out)
                      rw [HSUC.out] at HDN HLS
                      have HPN : Hid (∀ t ∈ C ++ nl, 0 ≤ t) := lhid (fun t ht => by
                        rcases List.mem_append.1 ht with ht | ht
                        · rw [← HCC.out] at ht
                          rcases List.mem_append.1 ht with h1 | h1
                          · exact HPOS.out t (List.mem_append_left _ h1)
                          · rw [← HCL.out] at h1
                            exact caughtL_pos HC0.out _ t h1
                        · rw [← HNL.out] at ht
                          exact nextL_pos HC0.out _ t ht)
                      clear hdr hnl
                      go_wp2_with fail
                      with_reducible refine (rnext_w f n HN.out nl _ _ _ _ i w11 HU11 HNL).mono ?_
                      rintro e w12 ⟨vn, rfl, hon, hb12⟩
                      have HS12 := lhid (HS11.out.of (hb12.block G HS11.out.lt))
                      have HC12 := lhid (HC11.out.below hb12)
                      have HO12 := lhid (own_below HO11.out hb12)
                      have HON : Hid (OwN w12 (G + 1) vn nl) := lhid (own_base hon (by have := HC11.out.size; have := HNUM.out; omega))
                      clear hon hb12 HS11 HC11 HO11 HF11 HU11 HB111 p0 p1 p2 p3 p4
                      go_wp2_with (at_builtin; refine wpList_append_two rfl (.tmp 74) (.tmp 77) rfl (G + 1) (.slice A10 C.length q10) vn C nl rfl rfl HO12.out HON.out ?b1 ?b2 ?_)
                      case b1 => have := HC12.out.size; have := HNUM.out; omega
                      case b2 => have h1 := HM.out; have h2 := HLS.out; simp at h1 h2; omega
                      intro v' w13 ho13 hb13
                      have HS13 := lhid (HS12.out.of (hb13.block G (by omega)))
                      have HC13 : Hid (Ch (fun b => b = G) w5 w13) := lhid (HC12.out.belowB (by rw [HNUM.out.1]; exact hb13))
                      obtain ⟨A13, q13, rfl⟩ := own_shape ho13
                      have HO13 := lhid ho13
                      obtain ⟨C2, hC2⟩ : ∃ C2, C ++ nl = C2 := ⟨_, rfl⟩
                      have hCl2 : C.length + nl.length = C2.length := by rw [← hC2]; simp
                      have hTCl2 : (C ++ nl).length = C2.length := by rw [hC2]
                      rw [hTCl2, hC2] at HO13
                      rw [hTCl2]
                      rw [hC2] at HDN HPN HLS
                      clear ho13 hb13 HS12 HC12 HO12 HON hTCl2 hC2
                      go_wp2_with fail
                      go_roundg (cntF n (updB S i) * K + C2.length)
                      case measure => have := HLS.out; omega
                      case rel => exact ⟨updB S i, C2, A13, q13, rfl, by first | rfl | rw [hCl2], lhid (by have h1 := HLS.out; have h2 := HM.out; omega), HO13, HS13, HDN, HPN, HC13⟩

              · have k5 : ¬ (i : Int) < n := by omega
                have k6 : (n : Int) ≤ i := by omega
                have HSK : Hid (∀ j : Nat, (i : Int) = j → j < f.code.length → S j = true) := lhid (fun j e hj => by have := HN.out; omega)
                go_wp2_with fail
                go_roundg (cntF n S * K + T'.length)
                case measure => simp
                case rel => exact ⟨S, T', some ⟨g, 0, none⟩, q, rfl, by rw [HNM.out.1], lhid (by have := HM.out; simp at this; omega), lhid (by rw [HNM.out.1]; exact HO3.out), HS, lhid (HD.out.skip HSK.out), lhid (fun t ht => HPOS.out t (List.mem_append_left _ ht)), HCH⟩
      · have k3 : ¬ (rr : Int) < R := by omega
        go_wp2_with fail
        go_ret
        exact ⟨true, rfl, ⟨fun _ => ⟨HC0.out, fun r hr => HNO.out r (by rw [HR.out] at hr; omega)⟩, fun _ => rfl⟩, by rw [← HB0.out]; exact HBq.out⟩
  · have hcb : (c != 0) = true := by simpa using hc0
    have HNS : Hid (¬ SetN f) := lhid (fun h => hc0 (HC.out.symm.trans h.1))
    clear hc0
    go_wp2_with fail
    go_ret
    exact ⟨false, rfl, ⟨fun h => (by cases h), fun h => absurd h HNS.out⟩, by rw [← HB0.out]; exact HB1.out⟩
end Go.Proofs.Ytifgkpfieapdjaa
