/- Texts of this claim, joined: ChkWkc, ChkDec. -/
import Derived.Test.YtpdnonlelocfbaaGreatDoorM6
import Derived.Test.YtpdnonlelocfbaaGreatDoorJChkDoI
import Derived.Deep.RegionLaw
import Derived.Test.YtpdnonlelocfbaaGreatDoorM9
/- Package check: walk, walked. -/
namespace Go.Proofs.YtpdnonlelocfbaaGreatDoor
open Go.RowKit Go Go.Maps
set_option linter.unusedVariables false
theorem step_want {P : Program} {ops : Array Oper} {o : Oper} {a : Act} {w : World} {K : Act → World → Prop} {Q : Exit → Act → World → Prop} {E : Prop} (hgd : o.guard = none) (h : Oper.wp P o a w K Q) :
    if Region.wanted o (yielded ops a.tmps) = true then Oper.wp P o a w K Q else E := by
  have hw : Region.wanted o (yielded ops a.tmps) = true := by simp [Region.wanted, hgd]
  rw [if_pos hw]
  exact h
/-- An instruction in memory is the instruction that is meant. -/
structure InsOK (x : Opx) (o : Ins) : Prop where
  pc : o.pc = x.pc
  code : o.code = x.code
  a : o.a = x.a
  word : CodeS x.code o.ends o.leads
  ip : I6 x.pc
  cr : 0 ≤ x.code ∧ x.code ≤ 255
  ia : I6 x.a ∧ x.a ≤ 4294967296 ∧ (0 ≤ x.a ∨ x.code = 16 ∨ x.code = 17)
section
variable {E : Chk} {Z : Nat → Prop} {wT : World} {c : Nat} {F : Fx} {N : Nat} {s : Cs} {kn : Bool} {st : Value} {w : World}
set_option maxHeartbeats 16000000 in
set_option maxRecDepth 100000 in
theorem walk_c (HE : Hid (Env E F.tb wT)) (HF : Hid (Fit E F wT)) (hG : E.Good) {n : Nat} (hn : n ≤ 1000) (HC : Hid (Ck E Z wT c F N s kn (.slice none 0 0) w)) (hOK : s.OK E n) (h0 : s.flt = 0)
    {P : Nat → Prop} {M : Nat} {fs : List Fm} (HFM : Hid (FM P w F.fb M fs)) (hfz : ¬ Z F.fb) (hPz : ∀ k, P k → ¬ Z k) {Pr : Nat → Prop} {rows : List RwI} (HR : Hid (RdX Pr 4 RwE w F.mr rows)) (hRz : ∀ k, Pr k → ¬ Z k)
    {Po : Nat → Prop} {l : List Opx} {ops : List Ins} (HO : Hid (RdX Po 4 OpE w F.ops l)) (hOz : ∀ k, Po k → ¬ Z k) (hlen : ops.length = l.length) (hins : ∀ (i : Nat) x o, l[i]? = some x → ops[i]? = some o → InsOK x o) (hll : l.length ≤ 65536) (hN : N ≤ 4294967296)
    (hFO : ∀ f ∈ fs, f.OK E n) (hsm : ∀ f ∈ fs, (∀ t ∈ f.loc, t.length ≤ ML) ∧ ∀ t ∈ f.stk, t.length ≤ ML) (hri : ∀ x ∈ rows, I6 x.at_) :
    Calls Tryz.prog 51 #[.pointer (some ⟨c, 0, none⟩)] w (WkOut E Z wT c F w (walkC E fs rows ops kn s [])) := by
  obtain ⟨Ao, co, hmo⟩ := HO.out.shape
  have ho5 := HO.out
  rw [hmo] at ho5
  have HO5 := lhid ho5
  have c16 : w.cell? ⟨c, 16, none⟩ = some (.slice Ao l.length co) := by
    obtain ⟨vl, vs, hc, _⟩ := HC.out.it
    rw [← hmo]
    exact heap_cell hc rfl
  have HRM := lhid HE.out.l_room
  have HI0 : Hid (Ck E (fun b => Z b ∧ ¬ (fun _ : Nat => False) b) wT c F (N + 0) s kn (.slice none 0 0) w) := lhid (HC.out.past (X := fun _ => False) (Q := fun _ => False) (Ch.refl _ _) (fun _ h => h.elim) (fun _ h => h.elim))
  have HOK0 := lhid (And.intro hOK h0)
  have HLEN := lhid hlen
  have HINS := lhid hins
  have HFO := lhid hFO
  have HSM := lhid hsm
  have HRI := lhid hri
  have HG := lhid hG
  clear ho5 hmo hlen hins hFO hsm hri hOK h0 hG
  go_enter Tryz.func51, Tryz.ntmps51
  go_wp2_with fail
  go_loopw [12] (fun i wr => ∃ (k : Nat) (kn' : Bool) (s' : Cs) (st' : Value) (D : Nat → Prop) (L' : List Sta), i = .int .i64 k ∧ k ≤ l.length ∧ Hid (Ck E (fun b => Z b ∧ ¬ D b) wT c F (N + k) s' kn' st' wr) ∧ Hid (Ch Z w wr) ∧ Hid (Sts D wT.heap.size wr st' L') ∧ Hid (walkC E fs rows ops kn s [] = walkC E fs rows (ops.drop k) kn' s' L' ∧ L'.length = k) ∧ Hid (∀ b, D b → Z b ∧ b < wr.heap.size ∧ wT.heap.size ≤ b) ∧ Hid (s'.OK E n ∧ s'.flt = 0)) (fun i _ => l.length - (intOf i).toNat)
  case atStart => exact ⟨0, kn, s, _, fun _ => False, [], rfl, Nat.zero_le _, HI0, lhid (Ch.refl _ _), lhid (sts_nil _ _ _), lhid ⟨by simp, rfl⟩, lhid (fun _ h => h.elim), HOK0⟩
  case round =>
    obtain ⟨k, kn', s', st', D, L', rfl, hk, HK, HCH, HST, HWK, HD, HOK⟩ := hrel
    by_cases hlt : k < l.length
    · obtain ⟨x, hx⟩ : ∃ x, l[k]? = some x := ⟨_, List.getElem?_eq_getElem hlt⟩
      obtain ⟨o, ho⟩ : ∃ o, ops[k]? = some o := ⟨_, List.getElem?_eq_getElem (by rw [HLEN.out]; exact hlt)⟩
      have HIN := lhid (HINS.out k x o hx ho)
      obtain ⟨na, hna⟩ : ∃ n, x.a.toNat = n := ⟨_, rfl⟩
      have HNA := lhid hna
      clear hna
      have HWD : Hid (walkC E fs rows ops kn s [] = walkC E fs rows (o :: ops.drop (k + 1)) kn' s' L') := lhid (by
        rw [HWK.out.1]
        obtain ⟨h1, rfl⟩ := List.getElem?_eq_some_iff.1 ho
        rw [List.drop_eq_getElem_cons h1])
      obtain ⟨ga, oa, cc, hAo, _, hE, hc⟩ := (HO5.out.kept (keptX_op Po) (w' := wr) fun g hg hs => HCH.out.block g hs (hOz g hg)).at' hx
      subst hAo
      obtain rfl := hE
      have c0 : wr.cell? ⟨ga, oa + k * 4, none⟩ = some (.int .i64 x.pc) := hc 0 _ rfl
      have c1 : wr.cell? ⟨ga, oa + k * 4 + 1, none⟩ = some (.int .i64 x.code) := hc 1 _ rfl
      have c2 : wr.cell? ⟨ga, oa + k * 4 + 2, none⟩ = some (.int .i64 x.a) := hc 2 _ rfl
      have c3 : wr.cell? ⟨ga, oa + k * 4 + 3, none⟩ = some (.int .i64 x.b) := hc 3 _ rfl
      have k3 : (k : Int) < l.length := by omega
      have hb0 : Below wr.heap.size wr (wr.alloc (.cells #[.int .i64 x.pc, .int .i64 x.code, .int .i64 x.a, .int .i64 x.b] 187)) := (Below.refl _ _).alloc (Nat.le_refl _) _
      have hz0 := heap_alloc_new wr (.cells #[.int .i64 x.pc, .int .i64 x.code, .int .i64 x.a, .int .i64 x.b] 187)
      have hsz0 : (wr.alloc (.cells #[.int .i64 x.pc, .int .i64 x.code, .int .i64 x.a, .int .i64 x.b] 187)).heap.size = wr.heap.size + 1 := by simp
      obtain ⟨V, hV⟩ : ∃ y, wr.alloc (.cells #[.int .i64 x.pc, .int .i64 x.code, .int .i64 x.a, .int .i64 x.b] 187) = y := ⟨_, rfl⟩
      rw [hV] at hb0 hz0 hsz0
      have HKV := lhid (HK.out.box hb0 (Nat.le_refl _) (by rw [hsz0]; omega))
      have HCV := lhid (HCH.out.below hb0)
      have HSV := lhid (HST.out.kept (w' := V) fun g _ hs => hb0.block g hs)
      have HFV := lhid (HFM.out.ch HCV.out hfz hPz)
      have HRV : Hid (RdX Pr 4 RwE V F.mr rows) := lhid (HR.out.kept (fun _ _ _ _ _ h => h) fun g hg hs => HCV.out.block g hs (hRz g hg))
      have HV := lhid hV
      have HZ0 := lhid hz0
      have HB0 := lhid hb0
      have HSZ := lhid hsz0
      have hn1 : s'.loc.length = n := HOK.out.1.len
      have hn2 : s'.stk.length ≤ 1000 := by have := HOK.out.1.room; have := HRM.out; omega
      have HN1 := lhid hn1
      have HN2 := lhid hn2
      have o0 := heap_cell (i := 0) HZ0.out rfl
      clear hc hx ho hb0 hz0 hV hsz0 hn1 hn2
      go_upto_region 4 with fail
      rw [HV.out]
      have hq1 : ∀ b, P b → ¬ ((Z b ∧ ¬ D b) ∧ b ≠ wr.heap.size) := fun b hb h => hPz b hb h.1.1
      have hq2 : ∀ b, Pr b → ¬ ((Z b ∧ ¬ D b) ∧ b ≠ wr.heap.size) := fun b hb h => hRz b hb h.1.1
      have hq3 : ¬ ((Z F.fb ∧ ¬ D F.fb) ∧ F.fb ≠ wr.heap.size) := fun h => hfz h.1.1
      have HQ1 := lhid hq1
      have HQ2 := lhid hq2
      have HQ3 := lhid hq3
      clear hq1 hq2 hq3
      go_wp2_with fail
      with_reducible refine (arrive_c HE HKV HFV HQ3.out HQ1.out HRV HQ2.out x.pc HIN.out.ip (by rw [HN1.out]; exact hn) HN2.out (fun f hf => ⟨(HFO.out f hf).len.trans HN1.out.symm, by have := (HFO.out f hf).room; have := HRM.out; omega⟩) HSM.out HRI.out).mono ?_
      rintro e W1 ⟨rfl, hk1, hc1⟩
      have hpc := HIN.out.pc
      obtain ⟨av, hav⟩ : ∃ y, (arrive E fs rows x.pc kn' s').1 = y := ⟨_, rfl⟩
      obtain ⟨s1, hs1⟩ : ∃ y, (arrive E fs rows x.pc kn' s').2 = y := ⟨_, rfl⟩
      rw [hav] at hk1 ⊢
      rw [hs1] at hk1
      have HK1p := lhid hk1
      have HC1 : Hid (Ch Z V W1) := lhid (hc1.mono fun _ _ h => h.1.1)
      have HC1' := lhid hc1
      by_cases hv0 : av = 0
      · subst hv0
        have HS1 : Hid (s1.OK E n ∧ s1.flt = 0) := lhid (by
          have := arrive_ok HFO.out HOK.out.1 hav
          rw [hs1] at this
          exact ⟨this.1, this.2.trans HOK.out.2⟩)
        have HWM : Hid (walkC E fs rows ops kn s [] = (let y := s1.doOp E x.code na
            if y.flt ≠ 0 then .er y.flt else if leave E fs o y ≠ 0 then .er (leave E fs o y) else walkC E fs rows (ops.drop (k + 1)) (!o.ends) y (L' ++ [(s1.loc, s1.stk)]))) := lhid (by
          rw [HWD.out, walk_more (by rw [hpc]; exact hav), hpc, hs1, HIN.out.code, HIN.out.a, HNA.out])
        have HK1 := lhid (HK1p.out rfl)
        clear HK1p hk1 hc1 hpc hav hs1 o0
        obtain ⟨vl, vw, hcW, hlW, hsW, hdW⟩ := HK1.out.it
        have hn1 : s1.loc.length ≤ 1000 := by rw [HS1.out.1.len]; exact hn
        have hn2 : s1.stk.length ≤ 1000 := by have := HS1.out.1.room; have := HRM.out; omega
        have hls1 := ow_ls hlW hn1
        have hls2 := ow_ls hsW hn2
        have hsm1 := hlW.small
        have hsm2 := hsW.small
        obtain ⟨B1, e1, rfl⟩ := own_shape hlW.row
        obtain ⟨B2, e2, rfl⟩ := own_shape hsW.row
        have hst1 : Sts D wT.heap.size W1 st' L' := HSV.out.kept fun g hg hs => HC1'.out.block g hs (fun h => h.1.2 hg)
        obtain ⟨vs, hvs, hrow, hvl⟩ := hst1.it
        obtain ⟨B7, e7, rfl⟩ := own_shape hrow
        have c20 := heap_cell (i := 20) hcW rfl
        have c21 := heap_cell (i := 21) hcW rfl
        have c24 := heap_cell (i := 24) hcW rfl
        have hz1 : W1.heap[wr.heap.size]? = some (.cells #[.int .i64 x.pc, .int .i64 x.code, .int .i64 x.a, .int .i64 x.b] 187 (0, 0)) := HC1'.out.keep HZ0.out (fun h => h.2 rfl)
        have HZ1 := lhid hz1
        have HST1 := lhid hst1
        have HVS := lhid hvs
        have HROW := lhid hrow
        have HVL := lhid hvl
        have HLS1 := lhid (ls_below' hls1 (Below.drew' (Below.refl _ _)))
        have HLS2 := lhid (ls_below' hls2 (Below.drew' (Below.refl _ _)))
        have HSM1 := lhid hsm1
        have HSM2 := lhid hsm2
        have HM1 := lhid hn1
        have HM2 := lhid hn2
        obtain ⟨i0, hi, hiz, his, hib⟩ := infoSta_parts
        have HI1 := lhid hi
        have HI2 := lhid hiz
        have HI3 := lhid his
        have HI4 := lhid hib
        clear hcW hlW hsW hdW hls1 hls2 hsm1 hsm2 hst1 hvs hrow hvl hz1 hn1 hn2 hi hiz his hib
        go_upto_region 7 with fail
        go_cut [] from 23 to 55 (fun wx => ∃ (D' : Nat → Prop) (st2 : Value), Hid (Ck E (fun b => Z b ∧ ¬ D' b) wT c F (N + k) s1 kn' st2 wx) ∧ Hid (Ch Z W1 wx) ∧ Hid (Sts D' wT.heap.size wx st2 (L' ++ [(s1.loc, s1.stk)])) ∧ Hid ((∀ b, D' b → Z b ∧ b < wx.heap.size ∧ wT.heap.size ≤ b) ∧ D' wr.heap.size) ∧ Hid (wx.heap[wr.heap.size]? = some (.cells #[.int .i64 x.pc, .int .i64 x.code, .int .i64 x.a, .int .i64 x.b] 187 (0, 0))))
        case first =>
          have hKd := HK1.out.drew
          have hDd : ∀ b, D b → ¬ ((Z b ∧ ¬ D b) ∧ b ≠ wr.heap.size) ∧ wT.heap.size ≤ b ∧ b < W1.drew.heap.size := fun b hb => ⟨fun h => h.1.2 hb, (HD.out b hb).2.2, by have h1 := (HD.out b hb).2.1; have h2 := HC1'.out.size; have h3 := HSZ.out; show b < W1.heap.size; omega⟩
          have hSd : Sts D wT.heap.size W1.drew (.slice B7 L'.length e7) L' := HST1.out.kept fun _ _ _ => rfl
          have hVd : ∀ (i : Nat) p x, vs[i]? = some p → L'[i]? = some x → Ls (fun k => D k ∧ (Value.slice B7 L'.length e7).ownBlock ≠ some k) W1.drew p.1 x.1 ∧ Ls (fun k => D k ∧ (Value.slice B7 L'.length e7).ownBlock ≠ some k) W1.drew p.2 x.2 := fun i p x hp hx => ⟨ls_below' (HVL.out i p x hp hx).1 (Below.drew' (Below.refl _ _)), ls_below' (HVL.out i p x hp hx).2 (Below.drew' (Below.refl _ _))⟩
          have HKD := lhid hKd
          have HDD := lhid hDd
          have HSD := lhid hSd
          have HVD := lhid hVd
          clear hKd hDd hSd hVd
          go_region_law (first
            | (refine step_append_lies _ rfl (.tmp 27) (.tmp 33) 40 rfl wT.heap.size 44 i0 _ 2 48 Tryz.underlying40 HI1.out HI2.out HI3.out HI4.out rfl (by decide) (.slice B7 L'.length e7) L'.length (flatV vs) rfl ((own_of HROW.out fun gg hgg => hb6.block gg (HROW.out.lt gg hgg).2).alloc _) ⟨w6.heap.size, 0, none⟩ 1 1 [.slice D1 s1.loc.length g1, .slice D2 s1.stk.length g2] rfl rfl (World.news_of_block (heap_alloc_new w6 (.cells #[.slice D1 s1.loc.length g1, .slice D2 s1.stk.length g2] 44))) (by intro u hu; simp at hu; rcases hu with rfl | rfl <;> rfl) (by decide) (by have := HWK.out.2; unfold maxLen; omega) (by have := HWK.out.2; omega) (by have h1 := HKD.out.std.size; have h2 := hb6.size; simp; omega) _ rfl ?_
               intro g cap w7 hown hgrow hat hlt7
               obtain ⟨⟨u24, c24c, z24⟩, hk9, hs9, hc9, hq9⟩ := told HKD.out HSD.out HDD.out hb6 HM1.out HM2.out HSM1.out HSM2.out ho1 ho2 HVS.out HVD.out hgrow hown hat hlt7)
            | (refine step_want rfl ?_
               go_simp
               with_reducible refine (copied_c (fun _ => True) _ _ s1.loc s1.stk _ HLS1 HLS2 HM1.out HM2.out).mono ?_
               rintro e w6 ⟨y1, y2, rfl, ho1, ho2, hd12, hb6⟩
               obtain ⟨D1, g1, rfl⟩ := own_shape ho1
               obtain ⟨D2, g2, rfl⟩ := own_shape ho2
               have c24b : w6.cell? ⟨c, 24, none⟩ = some (.slice B7 L'.length e7) := (hb6.cell (p := ⟨c, 24, none⟩) (cell_lt (w := W1.drew) c24)).trans c24
               have c24d : (w6.alloc (.cells #[.slice D1 s1.loc.length g1, .slice D2 s1.stk.length g2] 44)).cell? ⟨c, 24, none⟩ = some (.slice B7 L'.length e7) := (((Below.refl w6.heap.size w6).alloc (Nat.le_refl _) (.cells #[.slice D1 s1.loc.length g1, .slice D2 s1.stk.length g2] 44)).cell (p := ⟨c, 24, none⟩) (cell_lt c24b)).trans c24b
               dsimp only))
          all_goals
            have hB0Z : Z wr.heap.size ∧ wT.heap.size ≤ wr.heap.size := ⟨(HK.out.new wr.heap.size (Nat.le_refl _)).1, HK.out.std.size⟩
            have hsz1 := HC1'.out.size
            have hszV := HSZ.out
            have hsz9 := hc9.size
            have hd1 : W1.drew.heap.size = W1.heap.size := rfl
            have hsc : (w7.setCell ⟨c, 24, none⟩ (.slice (some ⟨g, 0, none⟩) (L'.length + 1) cap)).heap.size = w7.heap.size := by simp [World.setCell]
            have hC : Hid (Ch Z W1 (w7.setCell ⟨c, 24, none⟩ (.slice (some ⟨g, 0, none⟩) (L'.length + 1) cap))) := lhid ((Ch.drew (Ch.refl Z W1)).tr (hc9.mono fun k _ h => h.elim (fun h => h.1.1) (fun h => (HD.out k (HSD.out.row k h)).1)))
            have hK : Hid (Ck E (fun b => Z b ∧ ¬ ((D b ∨ b = wr.heap.size) ∨ ((Value.slice D1 s1.loc.length g1).ownBlock = some b ∨ (Value.slice D2 s1.stk.length g2).ownBlock = some b ∨ b = g))) wT c F (N + k) s1 kn' (.slice (some ⟨g, 0, none⟩) (L'.length + 1) cap) (w7.setCell ⟨c, 24, none⟩ (.slice (some ⟨g, 0, none⟩) (L'.length + 1) cap))) := lhid (hk9.zone fun b => ⟨fun h => ⟨h.1.1.1, fun h2 => h2.elim (fun h3 => h3.elim h.1.1.2 h.1.2) h.2⟩, fun h => ⟨⟨⟨h.1, fun h2 => h.2 (.inl (.inl h2))⟩, fun h2 => h.2 (.inl (.inr h2))⟩, fun h2 => h.2 (.inr h2)⟩⟩)
            have hS : Hid (Sts (fun b => (D b ∨ b = wr.heap.size) ∨ ((Value.slice D1 s1.loc.length g1).ownBlock = some b ∨ (Value.slice D2 s1.stk.length g2).ownBlock = some b ∨ b = g)) wT.heap.size (w7.setCell ⟨c, 24, none⟩ (.slice (some ⟨g, 0, none⟩) (L'.length + 1) cap)) (.slice (some ⟨g, 0, none⟩) (L'.length + 1) cap) (L' ++ [(s1.loc, s1.stk)])) := lhid (hs9.mono fun b h => h.elim (fun h => .inl (.inl h)) .inr)
            have hD : Hid (∀ b, ((D b ∨ b = wr.heap.size) ∨ ((Value.slice D1 s1.loc.length g1).ownBlock = some b ∨ (Value.slice D2 s1.stk.length g2).ownBlock = some b ∨ b = g)) → Z b ∧ b < (w7.setCell ⟨c, 24, none⟩ (.slice (some ⟨g, 0, none⟩) (L'.length + 1) cap)).heap.size ∧ wT.heap.size ≤ b) := lhid (fun b h => by
              rcases h with (h | h) | h
              · have h1 := HD.out b h
                exact ⟨h1.1, by omega, h1.2.2⟩
              · subst h
                exact ⟨hB0Z.1, by omega, hB0Z.2⟩
              · obtain ⟨h1, h2⟩ := hq9 b h
                rcases h2 with h2 | h2
                · have h3 := HK1.out.new b h2
                  exact ⟨h3.1.1, by omega, HK1.out.low b h3⟩
                · have h3 := HD.out b h2
                  exact ⟨h3.1, by omega, h3.2.2⟩)
            have hO : Hid ((w7.setCell ⟨c, 24, none⟩ (.slice (some ⟨g, 0, none⟩) (L'.length + 1) cap)).heap[wr.heap.size]? = some (.cells #[.int .i64 x.pc, .int .i64 x.code, .int .i64 x.a, .int .i64 x.b] 187 (0, 0))) := lhid (hc9.keep (a := W1.drew) HZ1.out fun h => h.elim (fun h => h.2 rfl) fun h => by have := (HD.out _ (HSD.out.row _ h)).2.1; omega)
            clear hB0Z hsz1 hszV hsz9 hd1 hsc hk9 hs9 hc9 hq9 hown hgrow hat hlt7 ho1 ho2 hd12 hb6 c24b c24d c24c z24 c20 c21 c24
            go_wp2_with fail
            go_meet
            exact ⟨_, _, hK, hC, hS, lhid ⟨hD.out, .inl (.inr rfl)⟩, hO⟩
        case rest =>
          obtain ⟨D', st2, HK2, HC2, HS2, HD2, HZ2⟩ := hcut
          obtain ⟨W2, hW2⟩ : ∃ y, wc = y := ⟨_, rfl⟩
          rw [hW2] at HK2 HC2 HS2 HD2 HZ2 ⊢
          clear hW2 wc c20 c21 c24
          have z0 := heap_cell (i := 0) HZ2.out rfl
          have z1 := heap_cell (i := 1) HZ2.out rfl
          have z2 := heap_cell (i := 2) HZ2.out rfl
          have z3 := heap_cell (i := 3) HZ2.out rfl
          go_wp2_with fail
          with_reducible refine (do_i HE HF HK2 x.pc x.code x.a x.b na HNA.out HIN.out.ia.2 (by omega) (lhid HIN.out.cr)).mono ?_
          rintro e W3 ⟨rfl, hk3, hc3⟩
          have hz3 := hc3.keep HZ2.out (fun h => h.2 HD2.out.2)
          have c23 := hk3.flt
          have HK3 := lhid hk3
          have HC3 := lhid hc3
          have HZ3 := lhid hz3
          obtain ⟨y, hy⟩ : ∃ y, s1.doOp E x.code na = y := ⟨_, rfl⟩
          rw [hy] at HK3 c23
          have HYK := lhid (k_doOp (n := n) HG.out x.code na (s := s1))
          rw [hy] at HWM HYK
          have HYO := lhid (HYK.out.ok HS1.out.1)
          have HC13 : Hid (Ch Z w W3) := lhid (((HCV.out.tr HC1.out).tr HC2.out).tr (HC3.out.mono fun _ _ h => h.1))
          have hoe : o = ⟨x.pc, x.code, x.a, o.leads, o.ends⟩ := by
            have h1 := HIN.out.pc
            have h2 := HIN.out.code
            have h3 := HIN.out.a
            cases o
            simp only at h1 h2 h3
            rw [h1, h2, h3]
          have HS3 := lhid ((HS2.out.kept fun g hg hs => HC3.out.block g hs (fun h => h.2 hg)))
          have HFM3 := lhid (HFM.out.ch HC13.out hfz hPz)
          have HOE := lhid hoe
          clear hk3 hc3 hz3 hy hoe z0 z1 z2 z3
          by_cases hf0 : y.flt = 0
          · obtain ⟨lv, hlv⟩ : ∃ v, leave E fs o y = v := ⟨_, rfl⟩
            have hwm := HWM.out
            rw [if_neg (fun h => h hf0), hlv] at hwm
            have HLV : Hid (leave E fs ⟨x.pc, x.code, x.a, o.leads, o.ends⟩ y = lv) := lhid (by rw [← HOE.out]; exact hlv)
            have HWM2 := lhid hwm
            have HY0 := lhid hf0
            rw [hf0] at c23
            have z0 := heap_cell (i := 0) HZ3.out rfl
            have z1 := heap_cell (i := 1) HZ3.out rfl
            have z2 := heap_cell (i := 2) HZ3.out rfl
            have z3 := heap_cell (i := 3) HZ3.out rfl
            have HQ1' : Hid (∀ b, P b → ¬ (Z b ∧ ¬ D' b)) := lhid (fun b hb h => hPz b hb h.1)
            have HQ3' : Hid (¬ (Z F.fb ∧ ¬ D' F.fb)) := lhid (fun h => hfz h.1)
            clear hlv hwm hf0
            go_wp2_with fail
            with_reducible refine (leave_c HE HK3 HFM3 HQ3'.out HQ1'.out x.pc x.code x.a x.b HIN.out.ia.1 o.ends o.leads (lhid HIN.out.word) (by rw [HYO.out.len]; exact hn) (by have := HYO.out.room; have := HRM.out; omega) (fun f hf => by rw [(HFO.out f hf).len, HYO.out.len]; exact Nat.le_refl _) HSM.out).mono ?_
            rintro e W4 ⟨rfl, hk4, hc4⟩
            rw [HLV.out]
            have HK4 := lhid hk4
            have HC14 : Hid (Ch Z w W4) := lhid (HC13.out.tr (hc4.mono fun _ _ h => h.1))
            have HS4 := lhid (HS3.out.kept fun g hg hs => hc4.block g hs (fun h => h.2 hg))
            have hz4 := hc4.size
            have HD4 : Hid (∀ b, D' b → Z b ∧ b < W4.heap.size ∧ wT.heap.size ≤ b) := lhid (fun b hb => by
              have h1 := HD2.out.1 b hb
              have h2 := HC3.out.size
              exact ⟨h1.1, by omega, h1.2.2⟩)
            clear hk4 hc4 hz4 z0 z1 z2 z3 c23
            by_cases hl0 : lv = 0
            · subst hl0
              have HWN : Hid (walkC E fs rows ops kn s [] = walkC E fs rows (ops.drop (k + 1)) (!o.ends) y (L' ++ [(s1.loc, s1.stk)]) ∧ (L' ++ [(s1.loc, s1.stk)]).length = k + 1) := lhid ⟨by rw [HWM2.out]; rfl, by simp; exact HWK.out.2⟩
              have HYY := lhid (And.intro HYO.out HY0.out)
              go_wp2_with fail
              go_roundw
              case rel => exact ⟨k + 1, !o.ends, y, st2, D', L' ++ [(s1.loc, s1.stk)], by go_num, by omega, HK4, HC14, HS4, HWN, HD4, HYY⟩
              case measure => simp [intOf]; omega
            · have hl1 : (lv == 0) = false := by rw [beq_eq_false_iff_ne]; exact hl0
              have HWR : Hid (walkC E fs rows ops kn s [] = .er lv) := lhid (by rw [HWM2.out, if_pos hl0])
              go_wp2_with fail
              go_ret
              rw [HWR.out]
              exact ⟨rfl, HC14.out⟩
          · have hf1 : (y.flt == 0) = false := by rw [beq_eq_false_iff_ne]; exact hf0
            have HWR : Hid (walkC E fs rows ops kn s [] = .er y.flt) := lhid (by rw [HWM.out, if_pos hf0])
            clear hf0
            go_wp2_with fail
            go_ret
            rw [HWR.out]
            exact ⟨rfl, HC13.out⟩
      · have hv1 : (av == 0) = false := by rw [beq_eq_false_iff_ne]; exact hv0
        have HWR : Hid (walkC E fs rows ops kn s [] = .er av) := lhid (by rw [HWD.out]; exact walk_stop (by rw [hpc]; exact hav) hv0)
        clear HK1p hk1 hc1 hpc hav hs1 o0
        go_wp2_with fail
        go_ret
        rw [HWR.out]
        exact ⟨rfl, HCV.out.tr HC1.out⟩
    · go_wp2_with fail
      go_ret
      have hkr : k = l.length := by omega
      subst hkr
      have hfin : walkC E fs rows ops kn s [] = .ok kn' L' := by rw [HWK.out.1, ← HLEN.out, List.drop_length]; rfl
      rw [hfin]
      exact ⟨rfl, HCH.out, _, s', st', D, HK.out, HST.out⟩
end
end Go.Proofs.YtpdnonlelocfbaaGreatDoor
/- Package check: what Decode gives, in the words of check. -/
namespace Go.Proofs.YtpdnonlelocfbaaGreatDoor
open Go.RowKit Go Go.Maps
set_option linter.unusedVariables false
def insOf (x : Cd.Cop) : Ins := ⟨x.pc, x.code, x.a, decide (Cd.rowN x.code = 6), decide (x.code ∈ Cd.ends)⟩
def opxOf (x : Cd.Cop) : Opx := ⟨x.pc, x.code, x.a, x.b⟩
/-- Code taken apart: what is wrong, the instructions. -/
def decI (L : Bs) : Int × List Ins := ((Cd.decR L).1, (Cd.decR L).2.map insOf)
theorem run_facts (L : Bs) : ∀ (f k : Nat) (D : List Cd.Cop), Cd.run L f k = some D → (∀ x ∈ D, ∃ p : Nat, x = Cd.opAt L p ∧ k ≤ p ∧ p < L.length) ∧ D.Pairwise (fun a b => a.pc < b.pc) ∧ D.length ≤ L.length - k ∧ (k < L.length → D ≠ [])
  | 0, k, D, h => by simp [Cd.run] at h
  | f + 1, k, D, h => by
    rw [Cd.run] at h
    split at h
    · rename_i hk
      injection h with h
      subst h
      exact ⟨by simp, List.Pairwise.nil, by simp, fun h2 => by omega⟩
    rename_i h1
    split at h
    · cases h
    rename_i h2
    cases hr : Cd.run L f (k + Cd.szN (Cd.bN L k)) with
    | none => rw [hr] at h; cases h
    | some D' =>
      rw [hr] at h
      simp only [Option.map_some, Option.some.injEq] at h
      subst h
      obtain ⟨q1, q2, q3, q4⟩ := run_facts L f _ _ hr
      refine ⟨fun x hx => ?_, List.Pairwise.cons (fun x hx => ?_) q2, ?_, fun _ => by simp⟩
      · rcases List.mem_cons.1 hx with rfl | hx
        · exact ⟨k, rfl, Nat.le_refl _, by omega⟩
        · obtain ⟨p, e, h5, h6⟩ := q1 x hx
          exact ⟨p, e, by omega, h6⟩
      · obtain ⟨p, rfl, h5, h6⟩ := q1 x hx
        show ((k : Nat) : Int) < (p : Int)
        omega
      · simp only [List.length_cons]
        omega
theorem decR_zero {L : Bs} (h : (Cd.decR L).1 = 0) : L.length ≠ 0 ∧ L.length ≤ 4000 ∧ Cd.run L (L.length + 1) 0 = some (Cd.decR L).2 ∧ Cd.Led (Cd.decR L).2 L.length := by
  unfold Cd.decR at h ⊢
  split at h
  · cases h
  rename_i h0
  split at h
  · cases h
  rename_i h4
  cases hr : Cd.run L (L.length + 1) 0 with
  | none => rw [hr] at h; cases h
  | some D =>
    rw [hr] at h
    dsimp only at h
    split at h
    · rename_i hl
      rw [if_neg h0, if_neg h4]
      dsimp only
      rw [if_pos hl]
      exact ⟨h0, by omega, rfl, hl⟩
    · cases h
theorem row_3 {c : Int} (h : Cd.rowN c = 3) : c = 16 := by
  unfold Cd.rowN at h
  repeat' split at h
  all_goals first | assumption | omega
theorem row_4 {c : Int} (h : Cd.rowN c = 4) : c = 17 := by
  unfold Cd.rowN at h
  repeat' split at h
  all_goals first | assumption | omega
theorem insOK_of {L : Bs} {D : List Cd.Cop} (hl : L.length ≤ 4000) (hL : Cd.Led D L.length) {p : Nat} (hp : p < L.length) (hm : Cd.opAt L p ∈ D) : InsOK (opxOf (Cd.opAt L p)) (insOf (Cd.opAt L p)) := by
  have hx : I6 (Cd.opAt L p).a ∧ (Cd.opAt L p).a ≤ 4294967296 ∧ (0 ≤ (Cd.opAt L p).a ∨ (Cd.opAt L p).code = 16 ∨ (Cd.opAt L p).code = 17) := by
    have hle := Cd.rowN_le (Cd.bN L p)
    have b1 := Cd.bN_lt L (p + 1)
    have b2 := Cd.two_lt L p
    have ha : (Cd.opAt L p).a = Cd.opA (Cd.rowN (Cd.bN L p)) (Cd.bN L (p + 1)) (Cd.two L p) p := rfl
    have hc : (Cd.opAt L p).code = (Cd.bN L p : Int) := rfl
    obtain ⟨r, hr⟩ : ∃ r, Cd.rowN (Cd.bN L p) = r := ⟨_, rfl⟩
    have h6 : r = 6 → 0 ≤ (Cd.opAt L p).a ∧ (Cd.opAt L p).a < L.length := fun e => by
      have := hL _ hm (show Cd.rowN (Cd.opAt L p).code = 6 by rw [hc, hr, e])
      exact ⟨this.1, this.2.1⟩
    rw [ha, hr] at h6 ⊢
    rw [hc]
    rw [hr] at hle
    rcases Cd.row_ways hle with rfl | rfl | rfl | rfl | rfl | rfl | rfl | rfl
    · show I6 0 ∧ (0 : Int) ≤ 4294967296 ∧ ((0 : Int) ≤ 0 ∨ _)
      exact ⟨⟨by decide, by decide⟩, by decide, .inl (by decide)⟩
    · show I6 0 ∧ (0 : Int) ≤ 4294967296 ∧ ((0 : Int) ≤ 0 ∨ _)
      exact ⟨⟨by decide, by decide⟩, by decide, .inl (by decide)⟩
    · show I6 (Cd.bN L (p + 1) : Int) ∧ (Cd.bN L (p + 1) : Int) ≤ 4294967296 ∧ (0 ≤ (Cd.bN L (p + 1) : Int) ∨ _)
      exact ⟨⟨by omega, by omega⟩, by omega, .inl (by omega)⟩
    · show I6 (Cd.sg8 (Cd.bN L (p + 1))) ∧ Cd.sg8 (Cd.bN L (p + 1)) ≤ 4294967296 ∧ _
      have := Cd.sg8_in b1
      exact ⟨⟨by omega, by omega⟩, by omega, .inr (.inl (row_3 hr))⟩
    · show I6 (Cd.sg16 (Cd.two L p)) ∧ Cd.sg16 (Cd.two L p) ≤ 4294967296 ∧ _
      have := Cd.sg16_in b2
      exact ⟨⟨by omega, by omega⟩, by omega, .inr (.inr (row_4 hr))⟩
    · show I6 (Cd.two L p : Int) ∧ (Cd.two L p : Int) ≤ 4294967296 ∧ (0 ≤ (Cd.two L p : Int) ∨ _)
      exact ⟨⟨by omega, by omega⟩, by omega, .inl (by omega)⟩
    · have := h6 rfl
      exact ⟨⟨by omega, by omega⟩, by omega, .inl this.1⟩
    · show I6 (Cd.bN L (p + 1) : Int) ∧ (Cd.bN L (p + 1) : Int) ≤ 4294967296 ∧ (0 ≤ (Cd.bN L (p + 1) : Int) ∨ _)
      exact ⟨⟨by omega, by omega⟩, by omega, .inl (by omega)⟩
  have hpc : (opxOf (Cd.opAt L p)).pc = (p : Int) := rfl
  exact ⟨rfl, rfl, rfl, ⟨fun w => Cd.ends_any _ w, fun w => Cd.leads_any _ w⟩, by rw [hpc]; exact ⟨by omega, by omega⟩, by have := Cd.bN_lt L p; have hc : (opxOf (Cd.opAt L p)).code = (Cd.bN L p : Int) := rfl; rw [hc]; omega, hx⟩
/-- All that check wants of instructions that were taken apart. -/
structure DecOK (L : Bs) (D : List Cd.Cop) : Prop where
  len : D.length ≤ 4000
  code : L.length ≤ 4000
  ne : D ≠ []
  sort : SortO (D.map opxOf)
  ins : ∀ (i : Nat) x o, (D.map opxOf)[i]? = some x → (D.map insOf)[i]? = some o → InsOK x o
  beg : ∀ pc, beginsO (D.map opxOf) pc = begins (D.map insOf) pc
  pcs : ∀ x ∈ D.map insOf, 0 ≤ x.pc ∧ x.pc < L.length
theorem decOK {L : Bs} (h : (Cd.decR L).1 = 0) : DecOK L (Cd.decR L).2 := by
  obtain ⟨h0, h4, hr, hL⟩ := decR_zero h
  generalize (Cd.decR L).2 = D at *
  obtain ⟨q1, q2, q3, q4⟩ := run_facts L _ _ _ hr
  refine ⟨by omega, h4, q4 (by omega), fun i j a b hij ha hb => ?_, fun i x o hx ho => ?_, fun pc => ?_, fun x hx => ?_⟩
  · rw [List.getElem?_map] at ha hb
    obtain ⟨y1, h1, rfl⟩ := Option.map_eq_some_iff.1 ha
    obtain ⟨y2, h2, rfl⟩ := Option.map_eq_some_iff.1 hb
    obtain ⟨l1, rfl⟩ := List.getElem?_eq_some_iff.1 h1
    obtain ⟨l2, rfl⟩ := List.getElem?_eq_some_iff.1 h2
    exact List.pairwise_iff_getElem.1 q2 i j l1 l2 hij
  · rw [List.getElem?_map] at hx ho
    obtain ⟨y, hy, rfl⟩ := Option.map_eq_some_iff.1 hx
    rw [hy] at ho
    injection ho with ho
    subst ho
    have hm := List.mem_of_getElem? hy
    obtain ⟨p, rfl, h5, h6⟩ := q1 y hm
    exact insOK_of h4 hL h6 hm
  · unfold beginsO begins
    rw [List.any_map, List.any_map]
    rfl
  · obtain ⟨y, hy, rfl⟩ := List.mem_map.1 hx
    obtain ⟨p, rfl, h5, h6⟩ := q1 y hy
    show (0 : Int) ≤ (p : Int) ∧ (p : Int) < L.length
    omega
/-- .. in memory. -/
theorem dec_rd {w : World} {v : Value} {D : List Cd.Cop} (h : Cd.RdO w v D) (hne : D ≠ []) (hl : D.length ≤ 4000) : RdX (fun k => v.ownBlock = some k) 4 OpE w v (D.map opxOf) := by
  obtain ⟨A, cap, rfl, _, h3⟩ := h
  refine ⟨A, cap, by simp, fun e => ?_, by simp; omega, fun i a hi => ?_⟩
  · subst e
    cases D with
    | nil => exact absurd rfl hne
    | cons x r =>
      obtain ⟨g, o, hA, _⟩ := h3 0 x rfl
      cases hA
  · rw [List.getElem?_map] at hi
    obtain ⟨y, hy, rfl⟩ := Option.map_eq_some_iff.1 hi
    obtain ⟨g, o, rfl, hc⟩ := h3 i y hy
    exact ⟨g, o, _, rfl, rfl, rfl, fun j u hj => hc j u hj⟩
theorem dec_lt {w : World} {v : Value} {D : List Cd.Cop} (h : Cd.RdO w v D) (hne : D ≠ []) : ∀ k, v.ownBlock = some k → k < w.heap.size := by
  obtain ⟨A, cap, rfl, _, h3⟩ := h
  cases D with
  | nil => exact absurd rfl hne
  | cons x r =>
    obtain ⟨g, o, rfl, hc⟩ := h3 0 x rfl
    intro k hk
    injection hk with hk
    subst hk
    exact cell_lt (hc 0 _ rfl)
end Go.Proofs.YtpdnonlelocfbaaGreatDoor
