/- Package check: begin. -/
import Derived.Test.YtpdnonlelocfbaaGreatDoorM2
import Derived.Test.YtpdnonlelocfbaaGreatDoorM6
import Derived.Test.YtpdnonlelocfbaaGreatDoorM10
import Derived.Test.YtpdnonlelocfbaaGreatDoorM18
import Derived.BigQuiet
import Derived.Deep.CutRange
import Derived.Deep.RegionLaw
namespace Go.Proofs.YtpdnonlelocfbaaGreatDoor
open Go.RowKit Go Go.Maps
set_option linter.unusedVariables false
/-- What begin leaves. -/
def BgOut (E : Chk) (c : Nat) (F : Fx) (L : Bs) (loc : List Bs) (w : World) (x : Int) (e : Ending) (w' : World) : Prop :=
  e = .returned (.int .i64 x) ∧ Ch (fun k => k = c) w w' ∧ (x = 0 → ∃ vo vl, w'.heap[c]? = some (.cells (ckA { F with ops := vo, gives := E.gives } vl (.slice none 0 0) true 0 (.slice none 0 0)) 107 (0, 0)) ∧
    RdX (fun k => vo.ownBlock = some k) 4 OpE w' vo ((Cd.decR L).2.map opxOf) ∧ (∀ k, vo.ownBlock = some k → w.heap.size ≤ k ∧ k < w'.heap.size ∧ vl.ownBlock ≠ some k) ∧ w'.ownsRow w.heap.size 9 1 vl loc.length (lnV loc))
section
variable {E : Chk} {wT : World} {c : Nat} {F : Fx} {w : World}
set_option maxHeartbeats 400000 in
theorem ownType_r (HE : Hid (Env E F.tb wT)) (hcn : F.cn.length ≤ ML) (c2 : w.cell? ⟨c, 2, none⟩ = some (.string (tx F.cn))) (hown : E.of F.cn = E.own) : Calls Tryz.prog 99 #[.pointer (some ⟨c, 0, none⟩)] w fun e w' => e = .returned (.string (tx E.own)) ∧ w = w' := by
  go_enter Tryz.func99, Tryz.ntmps99
  go_wp2_with fail
  with_reducible refine (HE.out.of F.cn w hcn).mono ?_
  rintro e w1 ⟨rfl, rfl⟩
  go_wp2_with fail
  go_ret
  exact ⟨rfl, rfl⟩
set_option maxHeartbeats 16000000 in
set_option maxRecDepth 100000 in
theorem begin_c (HE : Hid (Env E F.tb wT)) (HT : Hid (Below wT.heap.size wT w)) (HC : Hid (w.heap[c]? = some (.cells (ckA F (.slice none 0 0) (.slice none 0 0) false 0 (.slice none 0 0)) 107 (0, 0))))
    {L : Bs} (HL : Hid (Cd.Bts w F.mc L)) (hms : I6 F.ms) (hml : I6 F.ml) (hcn : F.cn.length ≤ ML) (hown : E.of F.cn = E.own) {de : Int} {dp : List Bs}
    (HD : Hid (∀ w', Calls Tryz.prog 95 #[.string (tx F.md)] w' fun e w'' => ∃ v, e = .returned (.tuple #[v, .string (tx E.gives), .int .i64 de]) ∧ w''.ownsRow w'.heap.size 9 1 v dp.length (lnV dp) ∧ Below w'.heap.size w' w'')) (hdl : dp.length ≤ 20) (hds : Hid (∀ t ∈ dp, t.length ≤ ML)) :
    Calls Tryz.prog 48 #[.pointer (some ⟨c, 0, none⟩)] w (BgOut E c F L (fill (firstLoc E (bStat F.mf) dp) F.ml.toNat) w (bgE E (Cd.decR L).1 F.ms F.ml (de, dp) (bStat F.mf))) := by
  obtain ⟨hr, A0, cap, hmc, hcap, hmax⟩ := HL.out
  have c13 : w.cell? ⟨c, 13, none⟩ = some (.slice A0 L.length cap) := by
    rw [← hmc]
    exact heap_cell HC.out rfl
  have HLs := HL
  rw [hmc] at HLs
  have HMS := lhid hms
  have HML := lhid hml
  have HOW := lhid hown
  have HCN := lhid hcn
  clear hr hmc hcap hmax hms hml hown hcn
  obtain ⟨x0, hx0⟩ : ∃ x, (Cd.decR L).1 = x := ⟨_, rfl⟩
  have HX0 := lhid hx0
  obtain ⟨st, hst⟩ : ∃ b, bStat F.mf = b := ⟨_, rfl⟩
  have HST := lhid hst
  rw [hx0, hst]
  obtain ⟨bg, hbg⟩ : ∃ b, bgE E x0 F.ms F.ml (de, dp) st = b := ⟨_, rfl⟩
  have HBG := lhid hbg
  rw [hbg]
  obtain ⟨loc, hloc⟩ : ∃ l, firstLoc E st dp = l := ⟨_, rfl⟩
  have HLOC := lhid hloc
  rw [hloc]
  have hll : loc.length ≤ 21 := by rw [← hloc]; unfold firstLoc; split <;> first | omega | (simp only [List.length_cons]; omega)
  obtain ⟨n, hn⟩ : ∃ n, F.ml.toNat = n := ⟨_, rfl⟩
  have HNN := lhid hn
  rw [hn]
  clear hx0 hst hbg hloc hn
  go_enter Tryz.func48, Tryz.ntmps48
  go_wp2_with fail
  with_reducible refine (Cd.decode_any L (.slice A0 L.length cap) w HLs).mono ?_
  rintro e w1 ⟨⟨vo, rfl, hro, hbo⟩, hb1⟩
  rw [HX0.out]
  obtain ⟨Av, cv, rfl⟩ := hro.shape
  obtain ⟨m, hm⟩ : ∃ m, (Cd.decR L).2.length = m := ⟨_, rfl⟩
  rw [hm] at hro hbo ⊢
  clear hm
  have HRO := lhid hro
  have HBO := lhid hbo
  have HB1 := lhid hb1
  have HC1 := lhid ((hb1.block _ (heap_lt HC.out)).trans HC.out)
  clear hro hbo hb1 c13
  by_cases h0 : x0 = 0
  · have d0 : (x0 != 0) = false := by rw [h0]; rfl
    have H0 := lhid h0
    obtain ⟨b1, hb1⟩ : ∃ b, decide (0 ≤ F.ms ∧ F.ms ≤ 20) = b := ⟨_, rfl⟩
    obtain ⟨b2, hb2⟩ : ∃ b, decide (0 ≤ F.ml ∧ F.ml ≤ 40) = b := ⟨_, rfl⟩
    have HB1b := lhid hb1
    have HB2b := lhid hb2
    have hx4 : ∀ w' : World, Below w1.heap.size w1 w' → w'.cell? ⟨c, 11, none⟩ = some (.int .i64 F.ms) ∧ w'.cell? ⟨c, 12, none⟩ = some (.int .i64 F.ml) := fun w' hb => by
      have h1 := (hb.block _ (heap_lt HC1.out)).trans HC1.out
      exact ⟨heap_cell h1 rfl, heap_cell h1 rfl⟩
    have HX4 := lhid hx4
    obtain ⟨c11, c12⟩ := hx4 w1 (Below.refl _ _)
    clear h0 hb1 hb2 hx4
    go_wp2_with fail
    with_reducible refine (within_b F.ms 20 b1 HB1b.out _).mono ?_
    rintro e w2 ⟨rfl, hb2⟩
    have HB2 := lhid (HB1.out.trans (Below.less hb2 HB1.out.size))
    have HB12 := lhid hb2
    obtain ⟨p11, p12⟩ := HX4.out w2 hb2
    clear hb2 c11 c12 p11
    cases b1 with
    | false =>
      have HR : Hid (bg = 1) := lhid (by
        rw [← HBG.out]; unfold bgE
        rw [if_neg (fun h => h H0.out), if_pos (fun h => of_decide_eq_false HB1b.out ⟨h.1, h.2.1⟩)])
      go_wp2_with fail
      go_ret
      rw [HR.out]
      exact ⟨rfl, Ch.of HB2.out, fun h => by cases h⟩
    | true =>
    go_wp2_with fail
    with_reducible refine (within_b F.ml 40 b2 HB2b.out _).mono ?_
    rintro e w3 ⟨rfl, hb3⟩
    have HB3 := lhid (HB2.out.trans (Below.less hb3 HB2.out.size))
    have HB13 := lhid (HB12.out.trans (Below.less hb3 HB12.out.size))
    clear hb3 p12
    cases b2 with
    | false =>
      have HR : Hid (bg = 1) := lhid (by
        rw [← HBG.out]; unfold bgE
        rw [if_neg (fun h => h H0.out), if_pos (fun h => of_decide_eq_false HB2b.out ⟨h.2.2.1, h.2.2.2⟩)])
      go_wp2_with fail
      go_ret
      rw [HR.out]
      exact ⟨rfl, Ch.of HB3.out, fun h => by cases h⟩
    | true =>
    have HC3 := lhid ((HB13.out.block _ (heap_lt HC1.out)).trans HC1.out)
    have c10 := heap_cell (i := 10) HC3.out rfl
    have HIN : Hid (0 ≤ F.ms ∧ F.ms ≤ 20 ∧ 0 ≤ F.ml ∧ F.ml ≤ 40) := lhid ⟨(of_decide_eq_true HB1b.out).1, (of_decide_eq_true HB1b.out).2, (of_decide_eq_true HB2b.out).1, (of_decide_eq_true HB2b.out).2⟩
    go_wp2_with fail
    with_reducible refine (HD.out w3).mono ?_
    rintro e w4 ⟨vp, rfl, hop, hb4⟩
    have HB4 := lhid (HB3.out.trans (Below.less hb4 HB3.out.size))
    have HB34 := lhid hb4
    have HC4 := lhid ((hb4.block _ (heap_lt HC3.out)).trans HC3.out)
    have HOP := lhid hop
    clear hb4 hop c10
    have HB14 := lhid (HB13.out.trans (Below.less HB34.out HB13.out.size))
    by_cases h1 : de = 0
    · have d1 : (de != 0) = false := by rw [h1]; rfl
      have H1 := lhid h1
      obtain ⟨any, hany⟩ : ∃ b, dp.any (fun t => !E.known t) = b := ⟨_, rfl⟩
      have HANY := lhid hany
      have HDP : Hid (RdX (fun k => k ≠ c) 1 StE w4 vp dp) := lhid (by
        have := (rdX_own (E := StE) (l := dp) HOP.out (by omega) (rows_tx w4 dp)).any (Q := fun k => k ≠ c) (fun g hg => by have h1 := heap_lt HC3.out; have h2 := hg.1; omega)
        exact this)
      obtain ⟨Ap, cp, rfl⟩ := own_shape HOP.out
      have HT4 := lhid (HT.out.trans (Below.less HB4.out HT.out.size))
      have c0 : w4.cell? ⟨c, 0, none⟩ = some (.pointer (some ⟨F.tb, 0, none⟩)) := heap_cell HC4.out rfl
      clear h1 hany
      go_upto_region 9 with fail
      obtain ⟨gv, hgv⟩ : ∃ b, (E.gives == [86]) = b := ⟨_, rfl⟩
      obtain ⟨kg, hkg⟩ : ∃ b, E.known E.gives = b := ⟨_, rfl⟩
      have HGV := lhid hgv
      have HKG := lhid hkg
      have dV : ((tx E.gives).toList == [86]) = gv := by rw [tx_toL]; exact hgv
      have hgl := HE.out.l_gives
      clear hgv hkg
      go_cut [61] from 49 to 61 (fun t61 wx => t61 = .bool (any || (!gv && !kg)) ∧ Hid (Below w4.heap.size w4 wx))
      case first =>
        go_wp2_with fail
        with_reducible refine (contains_b HE HT4 c0 (fun k => k ≠ c) _ dp HDP hds any HANY).mono ?_
        rintro e w5 ⟨rfl, hb5⟩
        have HB5 := lhid hb5
        have HT5 := lhid (HT4.out.trans (Below.less hb5 HT4.out.size))
        have c05 := (hb5.cell (cell_lt c0)).trans c0
        clear hb5
        cases any with
        | true =>
          go_wp2_with fail
          go_meet
          exact ⟨rfl, HB5⟩
        | false =>
          cases gv with
          | true =>
            go_wp2_with fail
            go_meet
            exact ⟨rfl, HB5⟩
          | false =>
            go_wp2_with fail
            with_reducible refine (unknown_b HE HT5.out c05 E.gives hgl).mono ?_
            rintro e w6 ⟨rfl, hb6⟩
            rw [HKG.out]
            have HB6 := lhid (HB5.out.trans (Below.less hb6 HB5.out.size))
            clear hb6
            go_wp2_with fail
            go_meet
            exact ⟨rfl, HB6⟩
      case rest =>
        obtain ⟨rfl, HBW⟩ := hcut
        obtain ⟨W5, hW5⟩ : ∃ x, wc = x := ⟨_, rfl⟩
        rw [hW5] at HBW ⊢
        clear hW5 wc
        obtain ⟨bad, hbad⟩ : ∃ b, (any || (!gv && !kg)) = b := ⟨_, rfl⟩
        have HBAD : Hid ((dp.any (fun t => !E.known t) = true ∨ (E.gives ≠ tVoid ∧ E.known E.gives = false)) ↔ bad = true) := lhid (by
          rw [HANY.out, HKG.out, ← hbad]
          have hv : (E.gives ≠ tVoid) ↔ gv = false := by
            rw [← HGV.out]
            show E.gives ≠ [86] ↔ _
            rw [beq_eq_false_iff_ne]
          rw [hv]
          cases any <;> cases gv <;> cases kg <;> simp)
        rw [hbad]
        have HB5 := lhid (HB4.out.trans (Below.less HBW.out HB4.out.size))
        have HC5 := lhid ((HBW.out.block _ (heap_lt HC4.out)).trans HC4.out)
        clear hbad dV c0 hgl
        cases bad with
        | true =>
          have HR : Hid (bg = 50) := lhid (by
            rw [← HBG.out]; unfold bgE
            rw [if_neg (fun h => h H0.out), if_neg (fun h => h HIN.out), if_neg (fun h => h H1.out), if_pos (HBAD.out.2 rfl)])
          go_wp2_with fail
          go_ret
          rw [HR.out]
          exact ⟨rfl, Ch.of HB5.out, fun h => by cases h⟩
        | false =>
          have c8 : W5.cell? ⟨c, 8, none⟩ = some (.int .i64 F.mf) := heap_cell HC5.out rfl
          have c2 : W5.cell? ⟨c, 2, none⟩ = some (.string (tx F.cn)) := heap_cell HC5.out rfl
          have HDP5 := lhid (HDP.out.below (keptX_st _) HBW.out)
          go_wp2_with fail
          with_reducible refine (isStatic_c F.mf _).mono ?_
          rintro e w6 ⟨rfl, rfl⟩
          rw [HST.out]
          go_upto_if 69 with fail
          go_cut [7] from 70 to 74 (fun v7 wx => ∃ (A : Option Addr) (cap : Nat), v7 = .slice A loc.length cap ∧ Hid (RdX (fun k => k ≠ c) 1 StE wx v7 loc) ∧ Hid (Below W5.heap.size W5 wx))
          case first =>
            cases st with
            | true =>
              have hl0 : loc = dp := HLOC.out.symm
              subst hl0
              go_wp2_with fail
              go_meet
              exact ⟨Ap, cp, rfl, HDP5, lhid (Below.refl _ _)⟩
            | false =>
              have HL2 : Hid ([E.own] ++ dp = loc) := lhid HLOC.out
              obtain ⟨i0, hi, hz0, hz1, hz2⟩ := info_parts info_st
              have HDA := lhid (HDP5.out.below (keptX_st _) ((Below.refl _ _).alloc (Nat.le_refl W5.heap.size) (.cells #[.string (tx E.own)] 9)))
              have HO1 := lhid (World.ownsRow_lit (base := W5.heap.size) (e := 9) (size := 1) W5 #[.string (tx E.own)] 1 (Nat.le_refl _) (by unfold maxLen; omega) rfl)
              have hcW : c < W5.heap.size := heap_lt HC5.out
              go_wp2_with fail
              with_reducible refine (ownType_r HE HCN.out c2 HOW.out).mono ?_
              rintro e w7 ⟨rfl, rfl⟩
              go_wp2_with (at_builtin; refine wpList_append_rd (P := fun k => k ≠ c) (E := StE) rfl _ _ 34 rfl W5.heap.size 9 i0 (.string ⟨#[]⟩) 1 16 Tryz.underlying34 hi hz0 hz1 hz2 rfl (by decide) (.slice (some ⟨W5.heap.size, 0, none⟩) 1 1) 1 [.string (tx E.own)] rfl HO1.out row_st (.slice Ap dp.length cp) dp rfl HDA.out (by omega) (by decide) (by simp) ?_)
              intro v8 w8 ys8 hown8 hrow8 hgrow8
              have hlen : 1 + dp.length = loc.length := by rw [← HL2.out]; simp; omega
              have hR : RdX (fun k => k ≠ c) 1 StE w8 v8 loc := by
                have hrr : RowsE 1 (StE w8) loc ([.string (tx E.own)] ++ ys8) := by
                  rw [← HL2.out]
                  exact RowsE.app (rowsE_one (show StE w8 E.own [.string (tx E.own)] from rfl) rfl) (hrow8.imp fun _ _ h => h)
                rw [hlen] at hown8
                exact (rdX_own (E := StE) (l := loc) hown8 (by omega) hrr).any (fun g hg => by have := hg.1; omega)
              have HR8 := lhid hR
              obtain ⟨A8, c8', rfl⟩ := own_shape hown8
              have HB8 : Hid (Below W5.heap.size W5 w8) := lhid (Below.grown ((Below.refl _ _).alloc (Nat.le_refl W5.heap.size) (.cells #[.string (tx E.own)] 9)) hgrow8 (by simp) (fun k hk => by have : W5.heap.size = k := (by simpa [Value.ownBlock] using hk); omega))
              have HLEN := lhid hlen
              clear hown8 hrow8 hgrow8 hR hlen
              go_wp2_with fail
              go_meet
              exact ⟨A8, c8', by rw [HLEN.out], HR8, HB8⟩
          case rest =>
            obtain ⟨A7, c7, rfl, HR7, HB7⟩ := hcut
            obtain ⟨W6, hW6⟩ : ∃ x, wc = x := ⟨_, rfl⟩
            rw [hW6] at HR7 HB7 ⊢
            clear hW6 wc c8 c2
            have HC6 := lhid ((HB7.out.block _ (heap_lt HC5.out)).trans HC5.out)
            have HB6 := lhid (HB5.out.trans (Below.less HB7.out HB5.out.size))
            have c12 : W6.cell? ⟨c, 12, none⟩ = some (.int .i64 F.ml) := heap_cell HC6.out rfl
            by_cases hlm : F.ml < loc.length
            · have hlm' : (loc.length : Int) > F.ml := hlm
              have HR : Hid (bg = 61) := lhid (by
                rw [← HBG.out]; unfold bgE
                rw [if_neg (fun h => h H0.out), if_neg (fun h => h HIN.out), if_neg (fun h => h H1.out), if_neg (fun h => by simpa using HBAD.out.1 h), if_pos (by show F.ml < ((firstLoc E st dp).length : Int); rw [HLOC.out]; exact hlm)])
              clear hlm
              go_wp2_with fail
              go_ret
              rw [HR.out]
              exact ⟨rfl, Ch.of HB6.out, fun h => by cases h⟩
            · have hlm' : ¬ (loc.length : Int) > F.ml := hlm
              have HR : Hid (bg = 0) := lhid (by
                rw [← HBG.out]; unfold bgE
                rw [if_neg (fun h => h H0.out), if_neg (fun h => h HIN.out), if_neg (fun h => h H1.out), if_neg (fun h => by simpa using HBAD.out.1 h), if_neg (by show ¬ F.ml < ((firstLoc E st dp).length : Int); rw [HLOC.out]; exact hlm)])
              have HDK := decOK (L := L) (HX0.out.trans H0.out)
              have hn : F.ml = n := by have := HIN.out; have := HNN.out; omega
              have hn40 : n ≤ 1000 := by have := HIN.out; omega
              have hln : loc.length ≤ n := by omega
              have HN := lhid hn
              have HLM := lhid hlm'
              rw [hn] at c12 hlm'
              have c16 := heap_cell (i := 16) HC6.out rfl
              have c17 := heap_cell (i := 17) HC6.out rfl
              have z6 := heap_thaw HC6.out
              have hc7 : ((W6.setCell ⟨c, 16, none⟩ (.slice Av m cv)).setCell ⟨c, 17, none⟩ (.string (tx E.gives))).heap[c]? = some (.cells (ckA { F with ops := .slice Av m cv, gives := E.gives } (.slice none 0 0) (.slice none 0 0) false 0 (.slice none 0 0)) 107 (0, 0)) := heap_set (heap_set HC6.out _) _
              have HC7 := lhid hc7
              have hr7 : RdX (fun k => k ≠ c) 1 StE ((W6.setCell ⟨c, 16, none⟩ (.slice Av m cv)).setCell ⟨c, 17, none⟩ (.string (tx E.gives))) (.slice A7 loc.length c7) loc := HR7.out.kept (keptX_st _) fun g hg _ => (Below.heap_setCell _ _ _ _ (by exact hg)).trans (Below.heap_setCell _ _ _ _ (by exact hg))
              have HR7' := lhid hr7
              clear hlm hn hc7 hr7
              go_wp2_with fail
              generalize hW7 : ((W6.setCell ⟨c, 16, none⟩ (.slice Av m cv)).setCell ⟨c, 17, none⟩ (.string (tx E.gives))) = W7 at *
              with_reducible refine (filled_c (fun k => k ≠ c) (.slice A7 loc.length c7) loc n W7 HR7' hln hn40).mono ?_
              rintro e w8 ⟨v8, rfl, hown8, hb8⟩
              obtain ⟨A8, c8, rfl⟩ := own_shape hown8
              have HC8 := lhid ((hb8.block _ (heap_lt HC7.out)).trans HC7.out)
              have c20 := heap_cell (i := 20) HC8.out rfl
              have c21 := heap_cell (i := 21) HC8.out rfl
              have c22 := heap_cell (i := 22) HC8.out rfl
              have z8 := heap_thaw HC8.out
              have hc9 : (((w8.setCell ⟨c, 20, none⟩ (.slice A8 n c8)).setCell ⟨c, 21, none⟩ (.slice none 0 0)).setCell ⟨c, 22, none⟩ (.bool true)).heap[c]? = some (.cells (ckA { F with ops := .slice Av m cv, gives := E.gives } (.slice A8 n c8) (.slice none 0 0) true 0 (.slice none 0 0)) 107 (0, 0)) := heap_set (heap_set (heap_set HC8.out _) _) _
              have hch7 : Ch (fun k => k = c) w W7 := by
                rw [← hW7]
                exact ((Ch.of (X := fun k => k = c) HB6.out).set (p := ⟨c, 16, none⟩) (fun _ => rfl) _).set (p := ⟨c, 17, none⟩) (fun _ => rfl) _
              have hch8 : Ch (fun k => k = c) w w8 := hch7.below hb8
              have hch9 : Ch (fun k => k = c) w (((w8.setCell ⟨c, 20, none⟩ (.slice A8 n c8)).setCell ⟨c, 21, none⟩ (.slice none 0 0)).setCell ⟨c, 22, none⟩ (.bool true)) := ((hch8.set (p := ⟨c, 20, none⟩) (fun _ => rfl) _).set (p := ⟨c, 21, none⟩) (fun _ => rfl) _).set (p := ⟨c, 22, none⟩) (fun _ => rfl) _
              have hne : ∀ g, g ≠ c → (((w8.setCell ⟨c, 20, none⟩ (.slice A8 n c8)).setCell ⟨c, 21, none⟩ (.slice none 0 0)).setCell ⟨c, 22, none⟩ (.bool true)).heap[g]? = w8.heap[g]? := fun g hg => ((Below.heap_setCell _ _ _ _ hg).trans (Below.heap_setCell _ _ _ _ hg)).trans (Below.heap_setCell _ _ _ _ hg)
              have hcw := heap_lt HC.out
              have h67 : W6.heap.size = W7.heap.size := by rw [← hW7]; simp [World.setCell]
              have hsz8 := hb8.size
              have hsz1 := HB1.out.size
              have hs16 : w1.heap.size ≤ W6.heap.size := Nat.le_trans HB14.out.size (Nat.le_trans HBW.out.size HB7.out.size)
              have hch1 : Ch (fun k => k = c) w1 w8 := by
                have : Ch (fun k => k = c) w1 W7 := by
                  rw [← hW7]
                  exact ((Ch.of (X := fun k => k = c) ((HB14.out.trans (Below.less HBW.out HB14.out.size)).trans (Below.less HB7.out (Nat.le_trans HB14.out.size HBW.out.size)))).set (p := ⟨c, 16, none⟩) (fun _ => rfl) _).set (p := ⟨c, 17, none⟩) (fun _ => rfl) _
                exact this.below hb8
              have hvo : ∀ k, (Value.slice Av m cv).ownBlock = some k → w.heap.size ≤ k ∧ k < w1.heap.size := fun k hk => ⟨HBO.out k hk, dec_lt HRO.out HDK.ne k hk⟩
              have hops := (dec_rd HRO.out HDK.ne HDK.len).kept (keptX_op _) (w' := ((w8.setCell ⟨c, 20, none⟩ (.slice A8 n c8)).setCell ⟨c, 21, none⟩ (.slice none 0 0)).setCell ⟨c, 22, none⟩ (.bool true)) fun g hg hs => (hne g (by have := (hvo g hg).1; omega)).trans (hch1.block g hs (by have := (hvo g hg).1; omega))
              have hlt8 : ∀ k, (Value.slice A8 n c8).ownBlock = some k → W7.heap.size ≤ k ∧ k < w8.heap.size := fun k hk => hown8.lt k hk
              have hsz9 : (((w8.setCell ⟨c, 20, none⟩ (.slice A8 n c8)).setCell ⟨c, 21, none⟩ (.slice none 0 0)).setCell ⟨c, 22, none⟩ (.bool true)).heap.size = w8.heap.size := by simp [World.setCell]
              have HFIN : Hid (BgOut E c F L (fill loc n) w 0 (.returned (.int .i64 0)) (((w8.setCell ⟨c, 20, none⟩ (.slice A8 n c8)).setCell ⟨c, 21, none⟩ (.slice none 0 0)).setCell ⟨c, 22, none⟩ (.bool true))) := lhid ⟨rfl, hch9, fun _ => ⟨.slice Av m cv, .slice A8 n c8, hc9, hops, fun k hk => ⟨(hvo k hk).1, by have := (hvo k hk).2; omega, fun e => by have h1 := (hlt8 k e).1; have h2 := (hvo k hk).2; omega⟩,
                by
                  rw [fill_len]
                  exact own_base (own_of hown8 fun g hg => hne g (by have := (hlt8 g hg).1; omega)) (by omega)⟩⟩
              clear hc9 hch7 hch8 hch9 hne hcw h67 hsz8 hsz1 hs16 hch1 hvo hops hlt8 hsz9 hown8 hb8 hW7
              go_wp2_with fail
              go_ret
              rw [HR.out]
              exact HFIN.out
    · have d1 : (de != 0) = true := by rw [bne_iff_ne]; exact h1
      have HR : Hid (bg = de) := lhid (by
        rw [← HBG.out]; unfold bgE
        rw [if_neg (fun h => h H0.out), if_neg (fun h => h HIN.out), if_pos h1])
      have HN := lhid h1
      clear h1
      go_wp2_with fail
      go_ret
      rw [HR.out]
      exact ⟨rfl, Ch.of HB4.out, fun h => absurd h HN.out⟩
  · have d0 : (x0 != 0) = true := by rw [bne_iff_ne]; exact h0
    have HR : Hid (bg = x0) := lhid (by rw [← HBG.out]; unfold bgE; rw [if_pos h0])
    have HN := lhid h0
    clear h0
    go_wp2_with fail
    go_ret
    rw [HR.out]
    exact ⟨rfl, Ch.of HB1.out, fun h => absurd h HN.out⟩
end
end Go.Proofs.YtpdnonlelocfbaaGreatDoor
