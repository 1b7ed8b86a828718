/- Texts of this claim, joined: ChkArrive, ChkTypes, ChkCon, ChkBeg, ChkRow, ChkRows, ChkSts, ChkWk. -/
import Derived.Test.YtpdnonlelocfbaaGreatDoorM5
import Derived.BigQuiet
import Derived.Deep.CutRange
/- Package check: arrive. -/
namespace Go.Proofs.YtpdnonlelocfbaaGreatDoor
open Go.RowKit Go Go.Maps
set_option linter.unusedVariables false
theorem arrive_eq {E : Chk} {fs : List Fm} {rows : List RwI} {pc : Int} {kn : Bool} {s : Cs} :
    arrive E fs rows pc kn s = if (frm fs pc).isSome = false ∧ kn = false then (60, s) else
      if ((frm fs pc).isSome && kn && !((frm fs pc).elim true fun f => fitsF E s f)) = true then (62, s) else
      let s1 := (frm fs pc).elim s fun f => { s with loc := f.loc, stk := f.stk }
      if rowsFit E fs rows pc s1.loc then (0, s1) else (62, s) := by
  unfold arrive
  cases h : frm fs pc with
  | none => cases kn <;> simp <;> rfl
  | some f => cases kn <;> simp <;> rfl
theorem run_fieldSt (A B : Option Addr) (n m i j : Nat) (w : World) : (Instr.field 44 (.agg #[.slice A n i, .slice B m j]) 0).run Tryz.prog w = .ok (.slice A n i) w := by kernel_rfl
theorem rowsFit_step {E : Chk} {fs : List Fm} {l : List RwI} {pc : Int} {loc : List Bs} {k : Nat} {x : RwI} (h : l[k]? = some x) :
    rowsFit E fs (l.drop k) pc loc = ((!(decide (x.fr ≤ pc) && decide (pc < x.too)) || allFit E loc ((frm fs x.at_).elim [] fun f => f.loc)) && rowsFit E fs (l.drop (k + 1)) pc loc) := by
  obtain ⟨h1, rfl⟩ := List.getElem?_eq_some_iff.1 h
  rw [List.drop_eq_getElem_cons h1]
  rfl
section
variable {E : Chk} {Z : Nat → Prop} {wT : World} {c : Nat} {F : Fx} {N : Nat} {s : Cs} {kn : Bool} {st : Value} {w : World}
theorem Ck.setState (h : Ck E Z wT c F N s kn st w) {l1 l2 : List Bs} {y1 y2 : Value} (h1 : Ow Z wT.heap.size w y1 l1) (h2 : Ow Z wT.heap.size w y2 l2) (hd : ∀ k, y1.ownBlock = some k → y2.ownBlock ≠ some k) :
    Ck E Z wT c F N { s with loc := l1, stk := l2 } kn st ((w.setCell ⟨c, 20, none⟩ y1).setCell ⟨c, 21, none⟩ y2) ∧ Ch Z w ((w.setCell ⟨c, 20, none⟩ y1).setCell ⟨c, 21, none⟩ y2) := by
  obtain ⟨vl, vs, hc, hl, hs, _⟩ := h.it
  have hc1 := heap_set (i := 20) hc y1
  have hc2 := heap_set (i := 21) hc1 y2
  have hch : Ch Z w ((w.setCell ⟨c, 20, none⟩ y1).setCell ⟨c, 21, none⟩ y2) := ((Ch.refl Z w).set (p := ⟨c, 20, none⟩) (fun _ => h.cz) y1).set (p := ⟨c, 21, none⟩) (fun _ => h.cz) y2
  have hne := ask_ne h.ask hc
  exact ⟨⟨h.to hch, h.low, fun k hk => h.new k (Nat.le_trans hch.size hk), h.cz, h.bz, ⟨y1, y2, hc2, ow_far (ow_far h1 (ow_ne h1 hc) y1) (ow_ne h1 hc) y2, ow_far (ow_far h2 (ow_ne h2 hc) y1) (ow_ne h2 hc) y2, hd⟩, h.ask.of ((Below.heap_setCell _ _ _ _ hne).trans (Below.heap_setCell _ _ _ _ hne))⟩, hch⟩
set_option maxHeartbeats 4000000 in
set_option maxRecDepth 100000 in
theorem arrive_c (HE : Hid (Env E F.tb wT)) (HC : Hid (Ck E Z wT c F N s kn st w)) {P : Nat → Prop} {M : Nat} {fs : List Fm} (HFM : Hid (FM P w F.fb M fs)) (hfz : ¬ Z F.fb) (hPz : ∀ k, P k → ¬ Z k) {Pr : Nat → Prop} {rows : List RwI} (HR : Hid (RdX Pr 4 RwE w F.mr rows)) (hRz : ∀ k, Pr k → ¬ Z k)
    (pc : Int) (ha : I6 pc) (n1 : s.loc.length ≤ 1000) (n2 : s.stk.length ≤ 1000) (hn : ∀ f ∈ fs, f.loc.length = s.loc.length ∧ f.stk.length ≤ 1000) (hsm : ∀ f ∈ fs, (∀ t ∈ f.loc, t.length ≤ ML) ∧ ∀ t ∈ f.stk, t.length ≤ ML) (hri : ∀ x ∈ rows, I6 x.at_) :
    Calls Tryz.prog 104 #[.pointer (some ⟨c, 0, none⟩), .int .i64 pc] w fun e w' => e = .returned (.int .i64 (arrive E fs rows pc kn s).1) ∧ ((arrive E fs rows pc kn s).1 = 0 → Ck E Z wT c F N (arrive E fs rows pc kn s).2 kn st w') ∧ Ch Z w w' := by
  obtain ⟨v1, v2, hv1, hv2, hlk⟩ := HFM.out.look ha
  obtain ⟨b, hb⟩ : ∃ b, (frm fs pc).isSome = b := ⟨_, rfl⟩
  rw [hb] at hlk
  have HB := lhid hb
  have hfb : F.fb < w.heap.size := by obtain ⟨n, f, _, h2, _⟩ := HFM.out; exact h2.lt
  obtain ⟨A1, d1, rfl⟩ := hv1.shape
  obtain ⟨A2, d2, rfl⟩ := hv2.shape
  have hlk1 := (hlk w rfl).2
  obtain ⟨L1, hL1⟩ : ∃ x, ((frm fs pc).elim [] fun f => f.loc) = x := ⟨_, rfl⟩
  obtain ⟨L2, hL2⟩ : ∃ x, ((frm fs pc).elim [] fun f => f.stk) = x := ⟨_, rfl⟩
  rw [hL1] at hv1 hlk1
  rw [hL2] at hv2 hlk1
  have hb1 : Below w.heap.size w (w.alloc (.cells #[.slice A1 L1.length d1, .slice A2 L2.length d2] 44)) := (Below.refl _ _).alloc (Nat.le_refl _) _
  have hz1 := heap_alloc_new w (.cells #[.slice A1 L1.length d1, .slice A2 L2.length d2] 44)
  obtain ⟨W1, hW1⟩ : ∃ x, w.alloc (.cells #[.slice A1 L1.length d1, .slice A2 L2.length d2] 44) = x := ⟨_, rfl⟩
  rw [hW1] at hb1 hz1
  have HL1 := lhid hL1
  have HL2 := lhid hL2
  have HW1 := lhid hW1
  have HB1 := lhid hb1
  have HZ1 := lhid hz1
  have HV1 := lhid (ls_below' hv1 hb1)
  have HV2 := lhid (ls_below' hv2 hb1)
  have HK1 := lhid (HC.out.below hb1)
  have HCF1 : Hid (Ch Z w W1) := lhid (Ch.of hb1)
  have c18 : w.cell? ⟨c, 18, none⟩ = some (.map (some F.fb)) := by
    obtain ⟨vl, vs, hc, _⟩ := HC.out.it
    exact heap_cell hc rfl
  have c22 : W1.cell? ⟨c, 22, none⟩ = some (.bool kn) := by
    obtain ⟨vl, vs, hc, _⟩ := HK1.out.it
    exact heap_cell hc rfl
  clear hv1 hv2 hlk hb hL1 hL2 hb1 hz1 hW1 hfb
  go_enter Tryz.func104, Tryz.ntmps104
  go_upto_region 2 with fail
  rw [HW1.out]
  by_cases h60 : b = false ∧ kn = false
  · obtain ⟨rfl, rfl⟩ := h60
    have HAE : Hid (arrive E fs rows pc false s = (60, s)) := lhid (by rw [arrive_eq, if_pos ⟨HB.out, rfl⟩])
    go_wp2_with fail
    go_ret
    rw [HAE.out]
    exact ⟨rfl, fun h => (by cases h), HCF1.out⟩
  obtain ⟨r, hr⟩ : ∃ r, ((frm fs pc).elim true fun f => fitsF E s f) = r := ⟨_, rfl⟩
  obtain ⟨s1, hs1⟩ : ∃ s1, ((frm fs pc).elim s fun f => { s with loc := f.loc, stk := f.stk }) = s1 := ⟨_, rfl⟩
  have HAE : Hid (arrive E fs rows pc kn s = if (b && kn && !r) = true then (62, s) else if rowsFit E fs rows pc s1.loc then (0, s1) else (62, s)) := lhid (by rw [arrive_eq, HB.out, if_neg h60, hr, hs1])
  have HR1 := lhid hr
  have HS1 := lhid hs1
  have hbk : (!b && !kn) = false := by cases b <;> cases kn <;> simp at h60 ⊢
  have HBK := lhid hbk
  clear hr hs1 h60 hbk
  go_cut [26] from 18 (fun t26 wx => t26 = .bool false ∧ wx = W1)
  case first =>
    cases b with
    | true =>
      go_wp2_with fail
      go_meet
      exact ⟨rfl, rfl⟩
    | false =>
      cases kn with
      | true =>
        go_wp2_with fail
        go_meet
        exact ⟨rfl, rfl⟩
      | false => exact absurd HBK.out (by decide)
  case rest =>
    obtain ⟨rfl, hwc⟩ := hcut
    rw [hwc]
    clear hwc wc
    go_upto_region 4 with fail
    go_cut [43] from 27 (fun t43 wx => t43 = .bool (b && kn && !r) ∧ Hid (Below W1.heap.size W1 wx))
    case first =>
      cases b with
      | false =>
        go_quiet (fail)
        go_wp2_with fail
        go_meet
        exact ⟨rfl, lhid ⟨rfl, rfl, rfl, Nat.le_refl _, fun _ _ => rfl⟩⟩
      | true =>
        cases kn with
        | false =>
          go_quiet (fail)
          go_wp2_with fail
          go_meet
          exact ⟨rfl, lhid ⟨rfl, rfl, rfl, Nat.le_refl _, fun _ _ => rfl⟩⟩
        | true =>
          obtain ⟨f, hf⟩ : ∃ f, frm fs pc = some f := by
            have := HB.out
            cases h : frm fs pc with
            | none => rw [h] at this; cases this
            | some f => exact ⟨f, rfl⟩
          obtain rfl : f.loc = L1 := by rw [← HL1.out, hf]; rfl
          obtain rfl : f.stk = L2 := by rw [← HL2.out, hf]; rfl
          have HMF := lhid (List.mem_of_find?_eq_some hf)
          have HR2 : Hid (fitsF E s f = r) := lhid (by rw [← HR1.out, hf]; rfl)
          clear hf
          obtain ⟨vl, vs, hc9, hl9, hs9, hd9⟩ := HK1.out.it
          have hq1 := ow_ls hl9 n1
          have hq2 := ow_ls hs9 n2
          have hm1 := hl9.small
          have hm2 := hs9.small
          obtain ⟨B1, e1, rfl⟩ := hq1.shape
          obtain ⟨B2, e2, rfl⟩ := hq2.shape
          have hSS : ∀ w' : World, Below W1.heap.size W1 w' → (w'.cell? ⟨c, 20, none⟩ = some (.slice B1 s.loc.length e1) ∧ w'.cell? ⟨c, 21, none⟩ = some (.slice B2 s.stk.length e2) ∧ w'.cell? ⟨c, 22, none⟩ = some (.bool true) ∧ w'.cell? ⟨w.heap.size, 0, none⟩ = some (.slice A1 f.loc.length d1) ∧ w'.cell? ⟨w.heap.size, 1, none⟩ = some (.slice A2 f.stk.length d2)) := fun w' hb => by
            have h1 := (hb.block _ (heap_lt hc9)).trans hc9
            have h2 := (hb.block _ (heap_lt HZ1.out)).trans HZ1.out
            exact ⟨heap_cell h1 rfl, heap_cell h1 rfl, heap_cell h1 rfl, heap_cell h2 rfl, heap_cell h2 rfl⟩
          have HSS2 := lhid hSS
          have HQ1 := lhid hq1
          have HQ2 := lhid hq2
          have HM1 := lhid hm1
          have HM2 := lhid hm2
          clear hSS hc9 hl9 hs9 hd9 hq1 hq2 hm1 hm2
          go_region_held3 (fun w' => w'.cell? ⟨c, 20, none⟩ = some (.slice B1 s.loc.length e1) ∧ w'.cell? ⟨c, 21, none⟩ = some (.slice B2 s.stk.length e2) ∧ w'.cell? ⟨c, 22, none⟩ = some (.bool true) ∧ w'.cell? ⟨w.heap.size, 0, none⟩ = some (.slice A1 f.loc.length d1) ∧ w'.cell? ⟨w.heap.size, 1, none⟩ = some (.slice A2 f.stk.length d2)) (first | with_reducible exact HSS2.out _ (Below.drew' (Below.refl _ _)) | with_reducible exact HSS2.out _ hb5) (first
            | ((with_reducible refine (fits_b HE (HK1.out.below (Below.drew' (Below.refl _ _))).std (HK1.out.below (Below.drew' (Below.refl _ _))).cell (fun _ => True) P _ _ _ _ s f (ls_below' HQ1.out (Below.drew' (Below.refl _ _))) (ls_below' HQ2.out (Below.drew' (Below.refl _ _))) (ls_below' HV1.out (Below.drew' (Below.refl _ _))) (ls_below' HV2.out (Below.drew' (Below.refl _ _))) (Nat.le_of_eq (hn f HMF.out).1) HM1.out HM2.out (hsm f HMF.out).1 (hsm f HMF.out).2).mono ?_); rintro e w5 ⟨rfl, hb5'⟩; rw [HR2.out]; have hb5 : Below W1.heap.size W1 w5 := ⟨hb5'.os, hb5'.tape, hb5'.output, hb5'.size, hb5'.block⟩))
          go_wp2_with fail
          go_meet
          exact ⟨by simp, lhid hb5⟩
    case rest =>
      obtain ⟨rfl, HBW⟩ := hcut
      obtain ⟨W2, hW2⟩ : ∃ x, wc = x := ⟨_, rfl⟩
      rw [hW2] at HBW ⊢
      clear hW2 wc
      have HK2 := lhid (HK1.out.below HBW.out)
      have HCF2 : Hid (Ch Z w W2) := lhid (HCF1.out.below HBW.out)
      have HZ2 := lhid ((HBW.out.block _ (heap_lt HZ1.out)).trans HZ1.out)
      have HV1' := lhid (ls_below' HV1.out HBW.out)
      have HV2' := lhid (ls_below' HV2.out HBW.out)
      clear c18 c22 hlk1
      by_cases h62 : (b && kn && !r) = true
      · rw [h62]
        rw [if_pos h62] at HAE
        clear h62
        go_wp2_with fail
        go_ret
        rw [HAE.out]
        exact ⟨rfl, fun h => (by cases h), HCF2.out⟩
      rw [if_neg h62] at HAE
      rw [show (b && kn && !r) = false from by simpa using h62]
      clear h62
      go_upto_if 44 with fail
      go_cut [] from 44 (fun wx => Hid (Ck E Z wT c F N s1 kn st wx) ∧ Hid (Ch Z w wx))
      case first =>
        cases b with
        | false =>
          obtain rfl : s = s1 := by
            have := HB.out
            cases h : frm fs pc with
            | none => rw [← HS1.out, h]; rfl
            | some f => rw [h] at this; cases this
          go_wp2_with fail
          go_meet
          exact ⟨HK2, HCF2⟩
        | true =>
          obtain ⟨f, hf⟩ : ∃ f, frm fs pc = some f := by
            have := HB.out
            cases h : frm fs pc with
            | none => rw [h] at this; cases this
            | some f => exact ⟨f, rfl⟩
          obtain rfl : f.loc = L1 := by rw [← HL1.out, hf]; rfl
          obtain rfl : f.stk = L2 := by rw [← HL2.out, hf]; rfl
          obtain rfl : { s with loc := f.loc, stk := f.stk } = s1 := by rw [← HS1.out, hf]; rfl
          have HMF := lhid (List.mem_of_find?_eq_some hf)
          clear hf
          have z0 := heap_cell (i := 0) HZ2.out rfl
          have z1 := heap_cell (i := 1) HZ2.out rfl
          go_wp2_with fail
          with_reducible refine (copied_c P _ _ f.loc f.stk W2 HV1' HV2' (by rw [(hn f HMF.out).1]; exact n1) (hn f HMF.out).2).mono ?_
          rintro e w6 ⟨y1, y2, rfl, ho1, ho2, hd12, hb6⟩
          clear z0 z1
          have hk6 := HK2.out.below hb6
          have how1 : Ow Z wT.heap.size w6 y1 f.loc := ⟨own_less ho1 HK2.out.std.size, fun k hk => HK2.out.new k (ho1.lt k hk).1, (hsm f HMF.out).1⟩
          have how2 : Ow Z wT.heap.size w6 y2 f.stk := ⟨own_less ho2 HK2.out.std.size, fun k hk => HK2.out.new k (ho2.lt k hk).1, (hsm f HMF.out).2⟩
          have hset := hk6.setState how1 how2 hd12
          have HST := lhid hset
          have HCF6 : Hid (Ch Z w w6) := lhid (HCF2.out.below hb6)
          obtain ⟨D1, g1, rfl⟩ := own_shape ho1
          obtain ⟨D2, g2, rfl⟩ := own_shape ho2
          obtain ⟨vl, vs, hc6, _⟩ := hk6.it
          have x0 := heap_cell (i := 20) hc6 rfl
          have x1 := heap_cell (i := 21) hc6 rfl
          have y0 := heap_thaw hc6 20
          have y1 := heap_thaw hc6 21
          clear hk6 how1 how2 hset ho1 ho2 hd12 hb6 hc6
          go_wp2_with fail
          go_meet
          exact ⟨lhid HST.out.1, lhid (HCF6.out.tr HST.out.2)⟩
      case rest =>
        obtain ⟨HK5, HCF5⟩ := hcut
        obtain ⟨W5, hW5⟩ : ∃ x, wc = x := ⟨_, rfl⟩
        rw [hW5] at HK5 HCF5 ⊢
        clear hW5 wc
        have hl1 : s1.loc.length = s.loc.length := by
          rw [← HS1.out]
          cases h : frm fs pc with
          | none => rfl
          | some f => exact (hn f (List.mem_of_find?_eq_some h)).1
        have hel : ∀ a, ((frm fs a).elim [] fun f => f.loc).length ≤ s1.loc.length ∧ ∀ t ∈ ((frm fs a).elim [] fun f => f.loc), t.length ≤ ML := fun a => by
          cases h : frm fs a with
          | none => exact ⟨Nat.zero_le _, fun t ht => by cases ht⟩
          | some f => exact ⟨by rw [hl1]; exact Nat.le_of_eq (hn f (List.mem_of_find?_eq_some h)).1, (hsm f (List.mem_of_find?_eq_some h)).1⟩
        have HEL := lhid hel
        have HL9 := lhid (show s1.loc.length ≤ 1000 by omega)
        have HFM5 := lhid (HFM.out.ch HCF5.out hfz hPz)
        have hr5 : RdX Pr 4 RwE W5 F.mr rows := HR.out.kept (fun _ _ _ _ _ h => h) fun g hg hs => HCF5.out.block g hs (hRz g hg)
        obtain ⟨Ar, cr, hmr⟩ := hr5.shape
        have hrl : rows.length ≤ 4294967296 := by obtain ⟨_, _, _, _, h, _⟩ := hr5; exact h
        rw [hmr] at hr5
        have HR5 := lhid hr5
        have c14 : W5.cell? ⟨c, 14, none⟩ = some (.slice Ar rows.length cr) := by
          obtain ⟨vl, vs, hc, _⟩ := HK5.out.it
          rw [← hmr]
          exact heap_cell hc rfl
        have HB5 : Hid (Below W5.heap.size W5 W5) := lhid (Below.refl _ _)
        clear hl1 hel hr5 hmr
        go_wp2_with fail
        go_loopw [56] (fun i wr => ∃ k : Nat, i = .int .i64 k ∧ k ≤ rows.length ∧ Hid (Below W5.heap.size W5 wr) ∧ Hid (rowsFit E fs rows pc s1.loc = rowsFit E fs (rows.drop k) pc s1.loc)) (fun i _ => rows.length - (intOf i).toNat)
        case atStart => exact ⟨0, rfl, Nat.zero_le _, HB5, lhid (by simp)⟩
        case round =>
          obtain ⟨k, rfl, hk, HBR, HA⟩ := hrel
          by_cases hlt : k < rows.length
          · obtain ⟨x, hx⟩ : ∃ x, rows[k]? = some x := ⟨_, List.getElem?_eq_getElem hlt⟩
            have k3 : (k : Int) < rows.length := by omega
            have hst := rowsFit_step (E := E) (fs := fs) (pc := pc) (loc := s1.loc) hx
            obtain ⟨ga, oa, cc, hAr, _, hE, hc⟩ := HR5.out.at' hx
            subst hAr
            obtain rfl := hE
            have c0 : wr.cell? ⟨ga, oa + k * 4, none⟩ = some (.int .i64 x.fr) := (HBR.out.cell (cell_lt (hc 0 _ rfl))).trans (hc 0 _ rfl)
            have c1 : wr.cell? ⟨ga, oa + k * 4 + 1, none⟩ = some (.int .i64 x.too) := (HBR.out.cell (cell_lt (hc 1 _ rfl))).trans (hc 1 _ rfl)
            have c2 : wr.cell? ⟨ga, oa + k * 4 + 2, none⟩ = some (.int .i64 x.at_) := (HBR.out.cell (cell_lt (hc 2 _ rfl))).trans (hc 2 _ rfl)
            have c3 : wr.cell? ⟨ga, oa + k * 4 + 3, none⟩ = some (.string (tx x.cls)) := (HBR.out.cell (cell_lt (hc 3 _ rfl))).trans (hc 3 _ rfl)
            have HX := lhid (hri x (List.mem_of_getElem? hx))
            have HST := lhid hst
            clear hst hc hx
            go_upto_region 11 with fail
            have hbq : Below W5.heap.size W5 (wr.alloc (.cells #[.int .i64 x.fr, .int .i64 x.too, .int .i64 x.at_, .string (tx x.cls)] 184)) := HBR.out.alloc HBR.out.size _
            have hzq := heap_alloc_new wr (.cells #[.int .i64 x.fr, .int .i64 x.too, .int .i64 x.at_, .string (tx x.cls)] 184)
            obtain ⟨V, hV⟩ : ∃ y, wr.alloc (.cells #[.int .i64 x.fr, .int .i64 x.too, .int .i64 x.at_, .string (tx x.cls)] 184) = y := ⟨_, rfl⟩
            rw [hV] at hbq hzq ⊢
            have HBQ := lhid hbq
            have HZQ := lhid hzq
            have HKV := lhid (HK5.out.below hbq)
            have HFV := lhid (HFM5.out.ch (Z := Z) (Ch.of hbq) hfz hPz)
            obtain ⟨fit, hfit⟩ : ∃ b, allFit E s1.loc ((frm fs x.at_).elim [] fun f => f.loc) = b := ⟨_, rfl⟩
            obtain ⟨b1, hb1⟩ : ∃ b, decide (x.fr ≤ pc) = b := ⟨_, rfl⟩
            obtain ⟨b2, hb2⟩ : ∃ b, decide (pc < x.too) = b := ⟨_, rfl⟩
            rw [hfit, hb1, hb2] at HST
            have HFT := lhid hfit
            have x0 := heap_cell (i := 0) HZQ.out rfl
            have x1 := heap_cell (i := 1) HZQ.out rfl
            clear hV hbq hzq hfit c0 c1 c2 c3
            go_cut [87] from 57 to 88 (fun t87 wx => t87 = .bool (b1 && b2 && !fit) ∧ Hid (Below V.heap.size V wx))
            case first =>
              cases b1 with
              | false =>
                go_quiet (fail)
                go_wp2_with fail
                go_meet
                exact ⟨rfl, lhid ⟨rfl, rfl, rfl, Nat.le_refl _, fun _ _ => rfl⟩⟩
              | true =>
                cases b2 with
                | false =>
                  go_quiet (fail)
                  go_wp2_with fail
                  go_meet
                  exact ⟨rfl, lhid ⟨rfl, rfl, rfl, Nat.le_refl _, fun _ _ => rfl⟩⟩
                | true =>
                  obtain ⟨u1, u2, hu1, hu2, hlkv⟩ := HFV.out.look HX.out
                  obtain ⟨G1, h1, rfl⟩ := hu1.shape
                  obtain ⟨G2, h2, rfl⟩ := hu2.shape
                  have hfv : F.fb < V.heap.size := by obtain ⟨n, f, _, h2, _⟩ := HFV.out; exact h2.lt
                  obtain ⟨vl, vs, hc9, hl9, hs9, hd9⟩ := HKV.out.it
                  have hq1 := ow_ls hl9 HL9.out
                  have hm1 := hl9.small
                  obtain ⟨B1, e1, rfl⟩ := hq1.shape
                  have hSS : ∀ w' : World, Below V.heap.size V w' → (w'.cell? ⟨c, 20, none⟩ = some (.slice B1 s1.loc.length e1) ∧ w'.cell? ⟨c, 18, none⟩ = some (.map (some F.fb)) ∧ w'.cell? ⟨wr.heap.size, 0, none⟩ = some (.int .i64 x.fr) ∧ w'.cell? ⟨wr.heap.size, 1, none⟩ = some (.int .i64 x.too) ∧ w'.cell? ⟨wr.heap.size, 2, none⟩ = some (.int .i64 x.at_) ∧ (Instr.lookup 103 (.map (some F.fb)) (.int .i64 x.at_) false).run Tryz.prog w' = .ok (.agg #[.slice G1 ((frm fs x.at_).elim [] fun f => f.loc).length h1, .slice G2 ((frm fs x.at_).elim [] fun f => f.stk).length h2]) w' ∧ (Instr.field 44 (.agg #[.slice G1 ((frm fs x.at_).elim [] fun f => f.loc).length h1, .slice G2 ((frm fs x.at_).elim [] fun f => f.stk).length h2]) 0).run Tryz.prog w' = .ok (.slice G1 ((frm fs x.at_).elim [] fun f => f.loc).length h1) w') := fun w' hb => by
                    have h1 := (hb.block _ (heap_lt hc9)).trans hc9
                    have h2 := (hb.block _ (heap_lt HZQ.out)).trans HZQ.out
                    exact ⟨heap_cell h1 rfl, heap_cell h1 rfl, heap_cell h2 rfl, heap_cell h2 rfl, heap_cell h2 rfl, (hlkv w' (hb.block _ hfv)).1, run_fieldSt _ _ _ _ _ _ _⟩
                  have hne := HEL.out x.at_
                  have HU1 := lhid hu1
                  have HSS2 := lhid hSS
                  obtain ⟨Lx, hLx⟩ : ∃ y, ((frm fs x.at_).elim [] fun f => f.loc) = y := ⟨_, rfl⟩
                  obtain ⟨Ly, hLy⟩ : ∃ y, ((frm fs x.at_).elim [] fun f => f.stk) = y := ⟨_, rfl⟩
                  rw [hLx] at hne HU1 HFT HSS2
                  rw [hLy] at HSS2
                  have HNE := lhid hne
                  have HQ1 := lhid hq1
                  have HM1 := lhid hm1
                  clear hSS hc9 hl9 hs9 hd9 hq1 hm1 hu1 hu2 hlkv hne hLx hLy
                  go_region_held3 (fun w' => w'.cell? ⟨c, 20, none⟩ = some (.slice B1 s1.loc.length e1) ∧ w'.cell? ⟨c, 18, none⟩ = some (.map (some F.fb)) ∧ w'.cell? ⟨wr.heap.size, 0, none⟩ = some (.int .i64 x.fr) ∧ w'.cell? ⟨wr.heap.size, 1, none⟩ = some (.int .i64 x.too) ∧ w'.cell? ⟨wr.heap.size, 2, none⟩ = some (.int .i64 x.at_) ∧ (Instr.lookup 103 (.map (some F.fb)) (.int .i64 x.at_) false).run Tryz.prog w' = .ok (.agg #[.slice G1 Lx.length h1, .slice G2 Ly.length h2]) w' ∧ (Instr.field 44 (.agg #[.slice G1 Lx.length h1, .slice G2 Ly.length h2]) 0).run Tryz.prog w' = .ok (.slice G1 Lx.length h1) w') (first | with_reducible exact HSS2.out _ (Below.drew' (Below.refl _ _)) | with_reducible exact HSS2.out _ hb5) (first
                    | ((with_reducible refine (allFit_b HE (HKV.out.below (Below.drew' (Below.refl _ _))).std (HKV.out.below (Below.drew' (Below.refl _ _))).cell (fun _ => True) P _ _ s1.loc Lx (ls_below' HQ1.out (Below.drew' (Below.refl _ _))) (ls_below' HU1.out (Below.drew' (Below.refl _ _))) HNE.out.1 HM1.out HNE.out.2).mono ?_); rintro e w5 ⟨rfl, hb5'⟩; rw [HFT.out]; have hb5 : Below V.heap.size V w5 := ⟨hb5'.os, hb5'.tape, hb5'.output, hb5'.size, hb5'.block⟩))
                  go_wp2_with fail
                  go_meet
                  exact ⟨by simp, lhid hb5⟩
            case rest =>
              obtain ⟨rfl, HBV⟩ := hcut
              have HBW9 : Hid (Below W5.heap.size W5 wc) := lhid (HBQ.out.trans (Below.less HBV.out HBQ.out.size))
              clear hb1 hb2 x0 x1
              by_cases hbad : (b1 && b2 && !fit) = true
              · have HRF : Hid (rowsFit E fs rows pc s1.loc = false) := lhid (by
                  rw [HA.out, HST.out]
                  revert hbad
                  cases b1 <;> cases b2 <;> cases fit <;> simp)
                rw [hbad]
                clear hbad
                go_wp2_with fail
                go_ret
                rw [HAE.out, HRF.out]
                exact ⟨rfl, fun h => (by cases h), HCF5.out.below HBW9.out⟩
              · have HRF : Hid (rowsFit E fs rows pc s1.loc = rowsFit E fs (rows.drop (k + 1)) pc s1.loc) := lhid (by
                  rw [HA.out, HST.out]
                  revert hbad
                  cases b1 <;> cases b2 <;> cases fit <;> simp)
                rw [show (b1 && b2 && !fit) = false from by simpa using hbad]
                clear hbad
                go_wp2_with fail
                go_roundw
                case rel => exact ⟨k + 1, by go_num, by omega, HBW9, HRF⟩
                case measure => simp [intOf]; omega
          · go_wp2_with fail
            go_ret
            have hkr : k = rows.length := by omega
            subst hkr
            have HRF : rowsFit E fs rows pc s1.loc = true := by rw [HA.out, List.drop_length]; rfl
            rw [HAE.out, if_pos HRF]
            exact ⟨rfl, fun _ => HK5.out.below HBR.out, HCF5.out.below HBR.out⟩
end
end Go.Proofs.YtpdnonlelocfbaaGreatDoor
/- Package check: checkEnd, checkTypes. -/
namespace Go.Proofs.YtpdnonlelocfbaaGreatDoor
open Go.RowKit Go Go.Maps
set_option linter.unusedVariables false
section
variable {E : Chk} {Z : Nat → Prop} {wT : World} {c : Nat} {F : Fx} {N : Nat} {s : Cs} {kn : Bool} {st : Value} {w : World}
theorem checkEnd_c (HC : Hid (Ck E Z wT c F N s kn st w)) :
    Calls Tryz.prog 52 #[.pointer (some ⟨c, 0, none⟩)] w (CkOut E Z wT c F N s kn st w (.returned (.int .i64 (if kn then 60 else 0)))) := by
  obtain ⟨vl, vs, hc, _⟩ := HC.out.it
  have c22 := heap_cell (i := 22) hc rfl
  clear hc
  cases kn with
  | true =>
    go_enter Tryz.func52, Tryz.ntmps52
    go_wp2_with fail
    go_ret
    exact ⟨rfl, HC.out, Ch.refl _ _⟩
  | false =>
    go_enter Tryz.func52, Tryz.ntmps52
    go_wp2_with fail
    go_ret
    exact ⟨rfl, HC.out, Ch.refl _ _⟩
theorem unknown_b (HE : Hid (Env E F.tb wT)) (hT : Below wT.heap.size wT w) (hc : w.cell? ⟨c, 0, none⟩ = some (.pointer (some ⟨F.tb, 0, none⟩))) (x : Bs) (hx : x.length ≤ ML) :
    Calls Tryz.prog 97 #[.pointer (some ⟨c, 0, none⟩), .string (tx x)] w fun e w' => e = .returned (.bool (!E.known x)) ∧ Below w.heap.size w w' := by
  have HT := lhid hT
  clear hT
  go_enter Tryz.func97, Tryz.ntmps97
  go_wp2_with fail
  with_reducible refine (HE.out.known x _ hx HT.out).mono ?_
  rintro e w1 ⟨rfl, hb⟩
  go_wp2_with fail
  go_ret
  exact ⟨rfl, hb⟩
theorem any_drop {α : Type} {f : α → Bool} {l : List α} {k : Nat} {t : α} (h : l[k]? = some t) : (l.drop k).any f = (f t || (l.drop (k + 1)).any f) := by
  obtain ⟨h1, rfl⟩ := List.getElem?_eq_some_iff.1 h
  rw [List.drop_eq_getElem_cons h1]
  rfl
theorem stk_drop {E : Chk} {l : List Bs} {k : Nat} {t : Bs} (h : l[k]? = some t) : stkTypes E (l.drop k) = if t = [] then 60 else if t ≠ tNull ∧ E.known t = false then 50 else stkTypes E (l.drop (k + 1)) := by
  obtain ⟨h1, rfl⟩ := List.getElem?_eq_some_iff.1 h
  rw [List.drop_eq_getElem_cons h1]
  rfl
set_option maxHeartbeats 4000000 in
set_option maxRecDepth 100000 in
theorem checkTypes_b (HE : Hid (Env E F.tb wT)) (hT : Below wT.heap.size wT w) (hc : w.cell? ⟨c, 0, none⟩ = some (.pointer (some ⟨F.tb, 0, none⟩))) (P : Nat → Prop) (v1 v2 : Value) (f : FrI) (h1 : Ls P w v1 f.locals) (h2 : Ls P w v2 f.stack) (s1 : ∀ t ∈ f.locals, t.length ≤ ML) (s2 : ∀ t ∈ f.stack, t.length ≤ ML) :
    Calls Tryz.prog 102 #[.pointer (some ⟨c, 0, none⟩), .agg #[.int .i64 f.pc, v1, v2]] w fun e w' => e = .returned (.int .i64 (frmTypes E f)) ∧ Below w.heap.size w w' := by
  obtain ⟨A1, c1, rfl⟩ := h1.shape
  obtain ⟨A2, c2, rfl⟩ := h2.shape
  have hm1 : f.locals.length ≤ 4294967296 := by obtain ⟨_, _, _, _, h, _⟩ := h1; exact h
  have hm2 : f.stack.length ≤ 4294967296 := by obtain ⟨_, _, _, _, h, _⟩ := h2; exact h
  have hb0 : Below w.heap.size w (w.alloc (.cells #[.int .i64 f.pc, .slice A1 f.locals.length c1, .slice A2 f.stack.length c2] 94)) := (Below.refl _ _).alloc (Nat.le_refl _) _
  have hz0 := heap_alloc_new w (.cells #[.int .i64 f.pc, .slice A1 f.locals.length c1, .slice A2 f.stack.length c2] 94)
  obtain ⟨W, hW⟩ : ∃ x, w.alloc (.cells #[.int .i64 f.pc, .slice A1 f.locals.length c1, .slice A2 f.stack.length c2] 94) = x := ⟨_, rfl⟩
  rw [hW] at hb0 hz0
  have HW := lhid hW
  have HB0 := lhid hb0
  have HZ0 := lhid hz0
  have H1 := lhid (ls_below' h1 hb0)
  have H2 := lhid (ls_below' h2 hb0)
  have HT := lhid (hT.trans (Below.less hb0 hT.size))
  have HC := lhid ((hb0.cell (cell_lt hc)).trans hc)
  have S1 := lhid s1
  have S2 := lhid s2
  have f1 := heap_cell (i := 1) HZ0.out rfl
  clear hW hb0 hz0 h1 h2 hT hc s1 s2
  obtain ⟨any, hany⟩ : ∃ b, f.locals.any (fun t => decide (t ≠ [] ∧ t ≠ tNull) && !E.known t) = b := ⟨_, rfl⟩
  have HANY := lhid hany
  have HFT : Hid (frmTypes E f = if any = true then 50 else stkTypes E f.stack) := lhid (by unfold frmTypes; rw [hany])
  clear hany
  go_enter Tryz.func102, Tryz.ntmps102
  go_upto_region 1 with fail
  rw [HW.out]
  go_wp2_with fail
  go_loopw [12] (fun i wr => ∃ k : Nat, i = .int .i64 k ∧ k ≤ f.locals.length ∧ Hid (Below W.heap.size W wr) ∧ Hid (any = (f.locals.drop k).any (fun t => decide (t ≠ [] ∧ t ≠ tNull) && !E.known t))) (fun i _ => f.locals.length - (intOf i).toNat)
  case atStart => exact ⟨0, rfl, Nat.zero_le _, lhid (Below.refl _ _), lhid (by rw [List.drop_zero, HANY.out])⟩
  case round =>
    obtain ⟨k, rfl, hk, HB, HA⟩ := hrel
    by_cases hlt : k < f.locals.length
    · obtain ⟨t, ht⟩ : ∃ t, f.locals[k]? = some t := ⟨_, List.getElem?_eq_getElem hlt⟩
      obtain ⟨g1, o1, hA1, _, x1⟩ := rdX_cell H1.out ht
      subst hA1
      have y1 := (HB.out.cell (cell_lt x1)).trans x1
      have y0 := (HB.out.cell (cell_lt HC.out)).trans HC.out
      have HTW := lhid (HT.out.trans (Below.less HB.out HT.out.size))
      have hst := any_drop (f := fun t => decide (t ≠ [] ∧ t ≠ tNull) && !E.known t) ht
      have HSM := lhid (S1.out t (List.mem_of_getElem? ht))
      have k3 : (k : Int) < f.locals.length := by omega
      by_cases he : t = []
      · have dE : ((tx t).toList == []) = true := by rw [tx_toL, he]; rfl
        have HN : Hid (any = (f.locals.drop (k + 1)).any (fun t => decide (t ≠ [] ∧ t ≠ tNull) && !E.known t)) := lhid (by rw [HA.out, hst]; simp [he])
        clear x1 ht hst he
        go_wp2_with fail
        go_roundw
        case rel => exact ⟨k + 1, by go_num, by omega, HB, HN⟩
        case measure => simp [intOf]; omega
      · have dE : ((tx t).toList == []) = false := by rw [tx_toL, beq_eq_false_iff_ne]; exact he
        by_cases hn : t = tNull
        · have dN : ((tx t).toList == [78]) = true := by rw [tx_toL, hn]; rfl
          have HN : Hid (any = (f.locals.drop (k + 1)).any (fun t => decide (t ≠ [] ∧ t ≠ tNull) && !E.known t)) := lhid (by rw [HA.out, hst]; simp [hn])
          clear x1 ht hst he hn
          go_wp2_with fail
          go_roundw
          case rel => exact ⟨k + 1, by go_num, by omega, HB, HN⟩
          case measure => simp [intOf]; omega
        · have dN : ((tx t).toList == [78]) = false := by rw [tx_toL, beq_eq_false_iff_ne]; exact hn
          obtain ⟨b, hb⟩ : ∃ b, E.known t = b := ⟨_, rfl⟩
          have HBB := lhid hb
          have HN : Hid (any = (!b || (f.locals.drop (k + 1)).any (fun t => decide (t ≠ [] ∧ t ≠ tNull) && !E.known t))) := lhid (by rw [HA.out, hst, hb]; simp [he, hn])
          clear x1 ht hst he hn hb
          go_wp2_with fail
          with_reducible refine (unknown_b HE HTW.out y0 t HSM.out).mono ?_
          rintro e w5 ⟨rfl, hb5⟩
          rw [HBB.out]
          have HB5 := lhid (HB.out.trans (Below.less hb5 HB.out.size))
          clear hb5
          cases b with
          | false =>
            go_wp2_with fail
            go_ret
            rw [HFT.out, if_pos (show any = true from HN.out)]
            exact ⟨rfl, HB0.out.trans (Below.less HB5.out HB0.out.size)⟩
          | true =>
            go_wp2_with fail
            go_roundw
            case rel => exact ⟨k + 1, by go_num, by omega, HB5, lhid HN.out⟩
            case measure => simp [intOf]; omega
    · have hkr : k = f.locals.length := by omega
      subst hkr
      have HFS : Hid (frmTypes E f = stkTypes E f.stack) := lhid (by rw [HFT.out, HA.out, List.drop_length]; rfl)
      have f2 := (HB.out.cell (cell_lt (heap_cell (i := 2) HZ0.out rfl))).trans (heap_cell (i := 2) HZ0.out rfl)
      clear f1
      go_wp2_with fail
      go_loopw [31] (fun i wq => ∃ k : Nat, i = .int .i64 k ∧ k ≤ f.stack.length ∧ Hid (Below W.heap.size W wq) ∧ Hid (stkTypes E f.stack = stkTypes E (f.stack.drop k))) (fun i _ => f.stack.length - (intOf i).toNat)
      case atStart => exact ⟨0, rfl, Nat.zero_le _, HB, lhid (by rw [List.drop_zero])⟩
      case round =>
        obtain ⟨k, rfl, hk, HQ, HD⟩ := hrel
        by_cases hlt : k < f.stack.length
        · obtain ⟨t, ht⟩ : ∃ t, f.stack[k]? = some t := ⟨_, List.getElem?_eq_getElem hlt⟩
          obtain ⟨g1, o1, hA1, _, x1⟩ := rdX_cell H2.out ht
          subst hA1
          have y1 := (HQ.out.cell (cell_lt x1)).trans x1
          have y0 := (HQ.out.cell (cell_lt HC.out)).trans HC.out
          have HTW := lhid (HT.out.trans (Below.less HQ.out HT.out.size))
          have hst := stk_drop (E := E) ht
          have HSM := lhid (S2.out t (List.mem_of_getElem? ht))
          have k3 : (k : Int) < f.stack.length := by omega
          by_cases he : t = []
          · have dE : ((tx t).toList == []) = true := by rw [tx_toL, he]; rfl
            have HN : Hid (frmTypes E f = 60) := lhid (by rw [HFS.out, HD.out, hst, if_pos he])
            clear x1 ht hst he
            go_wp2_with fail
            go_ret
            rw [HN.out]
            exact ⟨rfl, HB0.out.trans (Below.less HQ.out HB0.out.size)⟩
          · have dE : ((tx t).toList == []) = false := by rw [tx_toL, beq_eq_false_iff_ne]; exact he
            by_cases hn : t = tNull
            · have dN : ((tx t).toList == [78]) = true := by rw [tx_toL, hn]; rfl
              have HN : Hid (stkTypes E f.stack = stkTypes E (f.stack.drop (k + 1))) := lhid (by rw [HD.out, hst, if_neg he, if_neg (fun h => h.1 hn)])
              clear x1 ht hst he hn
              go_wp2_with fail
              go_roundw
              case rel => exact ⟨k + 1, by go_num, by omega, HQ, HN⟩
              case measure => simp [intOf]; omega
            · have dN : ((tx t).toList == [78]) = false := by rw [tx_toL, beq_eq_false_iff_ne]; exact hn
              obtain ⟨b, hb⟩ : ∃ b, E.known t = b := ⟨_, rfl⟩
              have HBB := lhid hb
              have HN : Hid (stkTypes E f.stack = if b = false then 50 else stkTypes E (f.stack.drop (k + 1))) := lhid (by rw [HD.out, hst, if_neg he, hb]; cases b <;> simp [hn])
              clear x1 ht hst he hn hb
              go_wp2_with fail
              with_reducible refine (unknown_b HE HTW.out y0 t HSM.out).mono ?_
              rintro e w5 ⟨rfl, hb5⟩
              rw [HBB.out]
              have HB5 := lhid (HQ.out.trans (Below.less hb5 HQ.out.size))
              clear hb5
              cases b with
              | false =>
                go_wp2_with fail
                go_ret
                rw [HFS.out, HN.out]
                exact ⟨rfl, HB0.out.trans (Below.less HB5.out HB0.out.size)⟩
              | true =>
                go_wp2_with fail
                go_roundw
                case rel => exact ⟨k + 1, by go_num, by omega, HB5, lhid HN.out⟩
                case measure => simp [intOf]; omega
        · go_wp2_with fail
          go_ret
          have hkr : k = f.stack.length := by omega
          subst hkr
          rw [HFS.out, HD.out, List.drop_length]
          exact ⟨rfl, HB0.out.trans (Below.less HQ.out HB0.out.size)⟩
end
end Go.Proofs.YtpdnonlelocfbaaGreatDoor
/- Package check: isWithin, slices.ContainsFunc with isUnknown. -/
namespace Go.Proofs.YtpdnonlelocfbaaGreatDoor
open Go.RowKit Go Go.Maps
set_option linter.unusedVariables false
set_option maxHeartbeats 2000000 in
theorem within_b (n l : Int) (b : Bool) (hb : decide (0 ≤ n ∧ n ≤ l) = b) (w : World) :
    Calls Tryz.prog 94 #[.int .i64 n, .int .i64 l] w fun e w' => e = .returned (.bool b) ∧ Below w.heap.size w w' := by
  subst hb
  by_cases h1 : 0 ≤ n
  · by_cases h2 : n ≤ l
    · have HD : Hid (decide (0 ≤ n ∧ n ≤ l) = true) := lhid (decide_eq_true ⟨h1, h2⟩)
      have h1' : n ≥ 0 := h1
      rw [HD.out]
      go_enter Tryz.func94, Tryz.ntmps94
      go_wp2_with fail
      go_ret
      exact ⟨rfl, Below.refl _ _⟩
    · have HD : Hid (decide (0 ≤ n ∧ n ≤ l) = false) := lhid (decide_eq_false fun h => h2 h.2)
      have h1' : n ≥ 0 := h1
      rw [HD.out]
      go_enter Tryz.func94, Tryz.ntmps94
      go_wp2_with fail
      go_ret
      exact ⟨rfl, Below.refl _ _⟩
  · have HD : Hid (decide (0 ≤ n ∧ n ≤ l) = false) := lhid (decide_eq_false fun h => h1 h.1)
    have h1' : ¬ n ≥ 0 := h1
    rw [HD.out]
    go_enter Tryz.func94, Tryz.ntmps94
    go_wp2_with fail
    go_ret
    exact ⟨rfl, Below.refl _ _⟩
section
variable {E : Chk} {wT : World} {c : Nat} {F : Fx} {w : World}
set_option maxHeartbeats 4000000 in
set_option maxRecDepth 100000 in
theorem index_b (HE : Hid (Env E F.tb wT)) (HT : Hid (Below wT.heap.size wT w)) (hc : w.cell? ⟨c, 0, none⟩ = some (.pointer (some ⟨F.tb, 0, none⟩))) (P : Nat → Prop) (v : Value) (l : List Bs) (hl : Hid (RdX P 1 StE w v l)) (hs : Hid (∀ t ∈ l, t.length ≤ ML)) (any : Bool) (HANY : Hid (l.any (fun t => !E.known t) = any)) :
    Calls Tryz.prog 153 #[v, .func (.func 97) #[.pointer (some ⟨c, 0, none⟩)] #[]] w fun e w' => (∃ i : Int, e = .returned (.int .i64 i) ∧ decide (i ≥ 0) = any) ∧ Below w.heap.size w w' := by
  obtain ⟨A1, c1, rfl⟩ := hl.out.shape
  have hm1 : l.length ≤ 4294967296 := by obtain ⟨_, _, _, _, h, _⟩ := hl.out; exact h
  have HC := lhid hc
  clear hc
  go_enter Tryz.func153, Tryz.ntmps153
  go_wp2_with fail
  go_loopw [8] (fun i wr => ∃ k : Nat, i = .int .i64 k ∧ k ≤ l.length ∧ Hid (Below w.heap.size w wr) ∧ Hid (any = (l.drop k).any (fun t => !E.known t))) (fun i _ => l.length - (intOf i).toNat)
  case atStart => exact ⟨0, rfl, Nat.zero_le _, lhid (Below.refl _ _), lhid (by rw [List.drop_zero, HANY.out])⟩
  case round =>
    obtain ⟨k, rfl, hk, HB, HA⟩ := hrel
    by_cases hlt : k < l.length
    · obtain ⟨t, ht⟩ : ∃ t, l[k]? = some t := ⟨_, List.getElem?_eq_getElem hlt⟩
      obtain ⟨g1, o1, hA1, _, x1⟩ := rdX_cell hl.out ht
      subst hA1
      have y1 := (HB.out.cell (cell_lt x1)).trans x1
      have y0 := (HB.out.cell (cell_lt HC.out)).trans HC.out
      have HTW := lhid (HT.out.trans (Below.less HB.out HT.out.size))
      have HSM := lhid (hs.out t (List.mem_of_getElem? ht))
      have hst := any_drop (f := fun t => !E.known t) ht
      have k3 : (k : Int) < l.length := by omega
      obtain ⟨b, hb⟩ : ∃ b, E.known t = b := ⟨_, rfl⟩
      have HBB := lhid hb
      have HN : Hid (any = (!b || (l.drop (k + 1)).any (fun t => !E.known t))) := lhid (by rw [HA.out, hst, hb])
      clear x1 ht hst hb
      go_wp2_with fail
      with_reducible refine (unknown_b HE HTW.out y0 t HSM.out).mono ?_
      rintro e w5 ⟨rfl, hb5⟩
      rw [HBB.out]
      have HB5 := lhid (HB.out.trans (Below.less hb5 HB.out.size))
      clear hb5
      cases b with
      | false =>
        go_wp2_with fail
        go_ret
        exact ⟨⟨k, rfl, by rw [show any = true from HN.out]; simp⟩, HB5.out⟩
      | true =>
        go_wp2_with fail
        go_roundw
        case rel => exact ⟨k + 1, by go_num, by omega, HB5, lhid HN.out⟩
        case measure => simp [intOf]; omega
    · have hkr : k = l.length := by omega
      subst hkr
      have HN : Hid (any = false) := lhid (by rw [HA.out, List.drop_length]; rfl)
      have k3 : ¬ (l.length : Int) < l.length := by omega
      go_wp2_with fail
      go_ret
      exact ⟨⟨-1, rfl, by rw [HN.out]; rfl⟩, HB.out⟩
theorem contains_b (HE : Hid (Env E F.tb wT)) (HT : Hid (Below wT.heap.size wT w)) (hc : w.cell? ⟨c, 0, none⟩ = some (.pointer (some ⟨F.tb, 0, none⟩))) (P : Nat → Prop) (v : Value) (l : List Bs) (hl : Hid (RdX P 1 StE w v l)) (hs : Hid (∀ t ∈ l, t.length ≤ ML)) (any : Bool) (HANY : Hid (l.any (fun t => !E.known t) = any)) :
    Calls Tryz.prog 96 #[v, .func (.func 97) #[.pointer (some ⟨c, 0, none⟩)] #[]] w fun e w' => e = .returned (.bool any) ∧ Below w.heap.size w w' := by
  have HC := lhid hc
  clear hc
  go_enter Tryz.func96, Tryz.ntmps96
  go_wp2_with fail
  with_reducible refine (index_b HE HT HC.out P v l hl hs any HANY).mono ?_
  rintro e w5 ⟨⟨i, rfl, hi⟩, hb5⟩
  have HB5 := lhid hb5
  clear hb5
  go_wp2_with fail
  go_ret
  exact ⟨by rw [← hi]; rfl, HB5.out⟩
end
end Go.Proofs.YtpdnonlelocfbaaGreatDoor
/- Package check: begins. -/
namespace Go.Proofs.YtpdnonlelocfbaaGreatDoor
open Go.RowKit Go Go.Maps
set_option linter.unusedVariables false
/-- An instruction as it lies in memory. -/
structure Opx where
  pc : Int
  code : Int
  a : Int
  b : Int
def OpE (_ : World) (x : Opx) (c : List Value) : Prop := c = [.int .i64 x.pc, .int .i64 x.code, .int .i64 x.a, .int .i64 x.b]
theorem keptX_op (P : Nat → Prop) : KeptX P OpE := keptX_pure _ _ fun _ _ => rfl
def cmpI (a b : Int) : Int := if a < b then -1 else if b < a then 1 else 0
set_option maxHeartbeats 2000000 in
set_option maxRecDepth 100000 in
theorem compare_i (a b : Int) (w : World) :
    Calls Tryz.prog 156 #[.int .i64 a, .int .i64 b] w fun e w' => e = .returned (.int .i64 (cmpI a b)) ∧ w = w' := by
  by_cases h1 : a < b
  · have HC : Hid (cmpI a b = -1) := lhid (if_pos h1)
    go_enter Tryz.func156, Tryz.ntmps156
    go_wp2_with (go_at_call 208; go_in)
    go_ret
    rw [HC.out]
    exact ⟨rfl, rfl⟩
  · by_cases h2 : b < a
    · have HC : Hid (cmpI a b = 1) := lhid (by unfold cmpI; rw [if_neg h1, if_pos h2])
      go_enter Tryz.func156, Tryz.ntmps156
      go_wp2_with (go_at_call 208; go_in)
      go_ret
      rw [HC.out]
      exact ⟨rfl, rfl⟩
    · have HC : Hid (cmpI a b = 0) := lhid (by unfold cmpI; rw [if_neg h1, if_neg h2])
      go_enter Tryz.func156, Tryz.ntmps156
      go_wp2_with (go_at_call 208; go_in)
      go_ret
      rw [HC.out]
      exact ⟨rfl, rfl⟩
set_option maxHeartbeats 2000000 in
set_option maxRecDepth 100000 in
theorem beginsF_b (x : Opx) (pc : Int) (w : World) :
    Calls Tryz.prog 155 #[.agg #[.int .i64 x.pc, .int .i64 x.code, .int .i64 x.a, .int .i64 x.b], .int .i64 pc] w fun e w' => e = .returned (.int .i64 (cmpI x.pc pc)) ∧ Below w.heap.size w w' := by
  go_enter Tryz.func155, Tryz.ntmps155
  go_wp2_with fail
  with_reducible refine (compare_i _ _ _).mono ?_
  rintro e w5 ⟨rfl, rfl⟩
  go_wp2_with fail
  go_ret
  exact ⟨rfl, (Below.refl _ _).alloc (Nat.le_refl _) _⟩
/-- The places are told in their order. -/
def SortO (l : List Opx) : Prop := ∀ (i j : Nat) a b, i < j → l[i]? = some a → l[j]? = some b → a.pc < b.pc
def beginsO (l : List Opx) (pc : Int) : Bool := l.any fun o => o.pc == pc
theorem begins_end {l : List Opx} (h : SortO l) {pc : Int} {i : Nat} (h1 : ∀ m a, m < i → l[m]? = some a → a.pc < pc) (h2 : ∀ m a, i ≤ m → l[m]? = some a → pc ≤ a.pc) : beginsO l pc = match l[i]? with | none => false | some a => a.pc == pc := by
  unfold beginsO
  cases hi : l[i]? with
  | none =>
    rw [List.any_eq_false]
    intro x hx
    obtain ⟨m, hm, rfl⟩ := List.getElem_of_mem hx
    have hlen := List.getElem?_eq_none_iff.1 hi
    have := h1 m _ (by omega) (List.getElem?_eq_getElem hm)
    simp; omega
  | some a =>
    by_cases e : a.pc = pc
    · rw [show (match some a with | none => false | some a => a.pc == pc) = true from by simp [e], List.any_eq_true]
      exact ⟨a, List.mem_of_getElem? hi, by simp [e]⟩
    · rw [show (match some a with | none => false | some a => a.pc == pc) = false from by simp [e], List.any_eq_false]
      intro x hx
      obtain ⟨m, hm, rfl⟩ := List.getElem_of_mem hx
      have h3 := List.getElem?_eq_getElem hm
      rcases Nat.lt_trichotomy m i with h4 | rfl | h4
      · have := h1 m _ h4 h3
        simp; omega
      · rw [h3] at hi
        injection hi with hi
        rw [hi]
        simpa using e
      · have h5 := h i m _ _ h4 hi h3
        have h6 := h2 i a (Nat.le_refl _) hi
        simp; omega
set_option maxHeartbeats 4000000 in
set_option maxRecDepth 100000 in
theorem search_b {P : Nat → Prop} {l : List Opx} {v : Value} (pc : Int) (w : World) (h : RdX P 4 OpE w v l) (hs : SortO l) :
    Calls Tryz.prog 154 #[v, .int .i64 pc, .func (.func 155) #[] #[]] w fun e w' => (∃ i : Nat, e = .returned (.tuple #[.int .i64 i, .bool (beginsO l pc)])) ∧ Below w.heap.size w w' := by
  obtain ⟨A, cap, rfl⟩ := h.shape
  have hm : l.length ≤ 4294967296 := by obtain ⟨_, _, _, _, h, _⟩ := h; exact h
  have H := lhid h
  have HS := lhid hs
  clear h hs
  go_enter Tryz.func154, Tryz.ntmps154
  go_wp2_with fail
  go_loopw [9, 10] (fun x y wr => ∃ i j : Nat, x = .int .i64 i ∧ y = .int .i64 j ∧ i ≤ j ∧ j ≤ l.length ∧ Hid (Below w.heap.size w wr) ∧ Hid ((∀ m a, m < i → l[m]? = some a → a.pc < pc) ∧ ∀ m a, j ≤ m → l[m]? = some a → pc ≤ a.pc)) (fun x y _ => (intOf y).toNat - (intOf x).toNat)
  case atStart => exact ⟨0, l.length, rfl, rfl, Nat.zero_le _, Nat.le_refl _, lhid (Below.refl _ _), lhid ⟨fun m a h => absurd h (Nat.not_lt_zero _), fun m a h hm => by have := (List.getElem?_eq_some_iff.1 hm).1; omega⟩⟩
  case round =>
    obtain ⟨i, j, rfl, rfl, hij, hj, HB, HI⟩ := hrel
    by_cases hlt : i < j
    · obtain ⟨q, hq⟩ : ∃ q, (i + j) / 2 = q := ⟨_, rfl⟩
      have hqi : i ≤ q := by omega
      have hqj : q < j := by omega
      have hql : q < l.length := by omega
      obtain ⟨x, hx⟩ : ∃ x, l[q]? = some x := ⟨_, List.getElem?_eq_getElem hql⟩
      obtain ⟨ga, oa, cc, hA, _, hE, hc⟩ := H.out.at' hx
      subst hA
      obtain rfl := hE
      have c0 : wr.cell? ⟨ga, oa + q * 4, none⟩ = some (.int .i64 x.pc) := (HB.out.cell (cell_lt (hc 0 _ rfl))).trans (hc 0 _ rfl)
      have c1 : wr.cell? ⟨ga, oa + q * 4 + 1, none⟩ = some (.int .i64 x.code) := (HB.out.cell (cell_lt (hc 1 _ rfl))).trans (hc 1 _ rfl)
      have c2 : wr.cell? ⟨ga, oa + q * 4 + 2, none⟩ = some (.int .i64 x.a) := (HB.out.cell (cell_lt (hc 2 _ rfl))).trans (hc 2 _ rfl)
      have c3 : wr.cell? ⟨ga, oa + q * 4 + 3, none⟩ = some (.int .i64 x.b) := (HB.out.cell (cell_lt (hc 3 _ rfl))).trans (hc 3 _ rfl)
      have k1 : (i : Int) < j := by omega
      have HX := lhid hx
      have HQ := lhid hq
      clear hc hx hq
      go_upto_region 5 with fail
      rw [show ((i : Int) + (j : Int)) / 2 = (q : Int) from by have := HQ.out; omega]
      have k2 : (q : Int) < l.length := by omega
      have k0 : (0 : Int) ≤ q := by omega
      go_wp2_with fail
      with_reducible refine (beginsF_b x pc _).mono ?_
      rintro e w5 ⟨rfl, hb5⟩
      have HB5 := lhid (HB.out.trans (Below.less hb5 HB.out.size))
      clear hb5 c0 c1 c2 c3
      by_cases hl0 : x.pc < pc
      · have HC : Hid (cmpI x.pc pc = -1) := lhid (if_pos hl0)
        have HI2 : Hid ((∀ m a, m < q + 1 → l[m]? = some a → a.pc < pc) ∧ ∀ m a, j ≤ m → l[m]? = some a → pc ≤ a.pc) := lhid ⟨fun m a hm hma => by
          rcases Nat.lt_or_ge m q with h | h
          · have := HS.out m q a x h hma HX.out
            omega
          · obtain rfl : m = q := by omega
            have h9 := HX.out
            rw [hma] at h9
            injection h9 with h9
            rw [h9]
            exact hl0, HI.out.2⟩
        rw [HC.out]
        clear hl0
        go_wp2_with fail
        go_roundw
        case rel => exact ⟨q + 1, j, by go_num, rfl, by omega, hj, HB5, HI2⟩
        case measure => simp [intOf]; omega
      · have hd : decide (cmpI x.pc pc < 0) = false := by
          unfold cmpI
          rw [if_neg hl0]
          split <;> rfl
        have HI2 : Hid ((∀ m a, m < i → l[m]? = some a → a.pc < pc) ∧ ∀ m a, q ≤ m → l[m]? = some a → pc ≤ a.pc) := lhid ⟨HI.out.1, fun m a hm hma => by
          rcases Nat.lt_or_ge q m with h | h
          · have := HS.out q m x a h HX.out hma
            omega
          · obtain rfl : m = q := by omega
            have h9 := HX.out
            rw [hma] at h9
            injection h9 with h9
            rw [h9]
            omega⟩
        obtain ⟨cv, hcv⟩ : ∃ y, cmpI x.pc pc = y := ⟨_, rfl⟩
        rw [hcv] at hd ⊢
        clear hl0 hcv
        go_wp2_with fail
        go_roundw
        case rel => exact ⟨i, q, rfl, rfl, hqi, by omega, HB5, HI2⟩
        case measure => simp [intOf]; omega
    · obtain rfl : i = j := by omega
      have HBE := lhid (begins_end HS.out HI.out.1 HI.out.2)
      by_cases hil : i < l.length
      · obtain ⟨x, hx⟩ : ∃ x, l[i]? = some x := ⟨_, List.getElem?_eq_getElem hil⟩
        have HBX : Hid (beginsO l pc = (x.pc == pc)) := lhid (by rw [HBE.out, hx])
        obtain ⟨ga, oa, cc, hA, _, hE, hc⟩ := H.out.at' hx
        subst hA
        obtain rfl := hE
        have c0 : wr.cell? ⟨ga, oa + i * 4, none⟩ = some (.int .i64 x.pc) := (HB.out.cell (cell_lt (hc 0 _ rfl))).trans (hc 0 _ rfl)
        have c1 : wr.cell? ⟨ga, oa + i * 4 + 1, none⟩ = some (.int .i64 x.code) := (HB.out.cell (cell_lt (hc 1 _ rfl))).trans (hc 1 _ rfl)
        have c2 : wr.cell? ⟨ga, oa + i * 4 + 2, none⟩ = some (.int .i64 x.a) := (HB.out.cell (cell_lt (hc 2 _ rfl))).trans (hc 2 _ rfl)
        have c3 : wr.cell? ⟨ga, oa + i * 4 + 3, none⟩ = some (.int .i64 x.b) := (HB.out.cell (cell_lt (hc 3 _ rfl))).trans (hc 3 _ rfl)
        have k2 : (i : Int) < l.length := by omega
        clear hc hx
        go_wp2_with fail
        with_reducible refine (beginsF_b x pc _).mono ?_
        rintro e w5 ⟨rfl, hb5⟩
        have HB5 := lhid (HB.out.trans (Below.less hb5 HB.out.size))
        have hq : (cmpI x.pc pc == 0) = beginsO l pc := by
          rw [HBX.out]
          unfold cmpI
          by_cases h1 : x.pc < pc
          · rw [if_pos h1]
            have : (x.pc == pc) = false := by rw [beq_eq_false_iff_ne]; omega
            rw [this]; rfl
          · rw [if_neg h1]
            by_cases h2 : pc < x.pc
            · rw [if_pos h2]
              have : (x.pc == pc) = false := by rw [beq_eq_false_iff_ne]; omega
              rw [this]; rfl
            · rw [if_neg h2]
              have : (x.pc == pc) = true := by rw [beq_iff_eq]; omega
              rw [this]; rfl
        obtain ⟨r, hr⟩ : ∃ r, beginsO l pc = r := ⟨_, rfl⟩
        rw [hr] at hq
        have HR := lhid hr
        obtain ⟨cv, hcv⟩ : ∃ y, cmpI x.pc pc = y := ⟨_, rfl⟩
        rw [hcv] at hq ⊢
        clear hcv hb5 c0 c1 c2 c3 hr
        go_wp2_with fail
        refine bodyPost_ret (v := .tuple #[.int .i64 i, .bool r]) (by simp [results, Tryz.results154, go_sem]) rfl ?_
        exact ⟨⟨i, by rw [HR.out]⟩, HB5.out⟩
      · have HBX : Hid (beginsO l pc = false) := lhid (by rw [HBE.out, List.getElem?_eq_none_iff.2 (by omega)])
        have k2 : decide ((i : Int) < l.length) = false := by simp; omega
        go_wp2_with fail
        refine bodyPost_ret (v := .tuple #[.int .i64 i, .bool false]) (by simp [results, Tryz.results154, go_sem]) rfl ?_
        exact ⟨⟨i, by rw [HBX.out]⟩, HB.out⟩
set_option maxHeartbeats 2000000 in
set_option maxRecDepth 100000 in
theorem begins_b {P : Nat → Prop} {l : List Opx} {v : Value} {c : Nat} {w : World} (pc : Int) (hc : w.cell? ⟨c, 16, none⟩ = some v) (h : RdX P 4 OpE w v l) (hs : SortO l) :
    Calls Tryz.prog 101 #[.pointer (some ⟨c, 0, none⟩), .int .i64 pc] w fun e w' => e = .returned (.bool (beginsO l pc)) ∧ Below w.heap.size w w' := by
  have H := lhid h
  have HS := lhid hs
  clear h hs
  go_enter Tryz.func101, Tryz.ntmps101
  go_wp2_with fail
  with_reducible refine (search_b pc _ H.out HS.out).mono ?_
  rintro e w5 ⟨⟨i, rfl⟩, hb5⟩
  go_wp2_with fail
  go_ret
  exact ⟨rfl, hb5⟩
end Go.Proofs.YtpdnonlelocfbaaGreatDoor
/- Package check: checkRow. -/
namespace Go.Proofs.YtpdnonlelocfbaaGreatDoor
open Go.RowKit Go Go.Maps
set_option linter.unusedVariables false
theorem tx_throw : (⟨#[76, 84, 104, 114, 111, 119, 97, 98, 108, 101, 59]⟩ : ByteArray) = tx tThrow := rfl
section
variable {E : Chk} {Z : Nat → Prop} {wT : World} {c : Nat} {F : Fx} {N : Nat} {s : Cs} {kn : Bool} {st : Value} {w : World}
set_option maxHeartbeats 8000000 in
set_option maxRecDepth 100000 in
theorem checkRow_c (HE : Hid (Env E F.tb wT)) (HC : Hid (Ck E Z wT c F N s kn st w)) {P : Nat → Prop} {M : Nat} {fs : List Fm} (HFM : Hid (FM P w F.fb M fs)) (hfz : ¬ Z F.fb) (hPz : ∀ k, P k → ¬ Z k)
    {Po : Nat → Prop} {l : List Opx} {ops : List Ins} (HO : Hid (RdX Po 4 OpE w F.ops l)) (hs : SortO l) (hbeg : ∀ pc, beginsO l pc = begins ops pc)
    {A5 : Option Addr} {len c5 : Nat} (hmc : F.mc = .slice A5 len c5) (r : RwI) (hr : I6 r.at_) (hcl : r.cls.length ≤ 4294967296) (hsm : ∀ f ∈ fs, f.stk.length ≤ 1000 ∧ ∀ t ∈ f.stk, t.length ≤ ML) :
    Calls Tryz.prog 103 #[.pointer (some ⟨c, 0, none⟩), .agg #[.int .i64 r.fr, .int .i64 r.too, .int .i64 r.at_, .string (tx r.cls)]] w fun e w' => e = .returned (.int .i64 (rowE E ops fs len r)) ∧ Below w.heap.size w w' := by
  have hb0 : Below w.heap.size w (w.alloc (.cells #[.int .i64 r.fr, .int .i64 r.too, .int .i64 r.at_, .string (tx r.cls)] 184)) := (Below.refl _ _).alloc (Nat.le_refl _) _
  have hz0 := heap_alloc_new w (.cells #[.int .i64 r.fr, .int .i64 r.too, .int .i64 r.at_, .string (tx r.cls)] 184)
  obtain ⟨W, hW⟩ : ∃ x, w.alloc (.cells #[.int .i64 r.fr, .int .i64 r.too, .int .i64 r.at_, .string (tx r.cls)] 184) = x := ⟨_, rfl⟩
  rw [hW] at hb0 hz0
  have HW := lhid hW
  have HB0 := lhid hb0
  have HZ0 := lhid hz0
  have HK := lhid (HC.out.below hb0)
  have HFM0 := lhid (HFM.out.ch (Z := Z) (Ch.of hb0) hfz hPz)
  have HO0 := lhid (HO.out.kept (keptX_op Po) fun g _ hl => hb0.block g hl)
  have hx0 : ∀ w' : World, Below W.heap.size W w' → w'.cell? ⟨c, 13, none⟩ = some (.slice A5 len c5) ∧ w'.cell? ⟨c, 16, none⟩ = some F.ops ∧ w'.cell? ⟨w.heap.size, 0, none⟩ = some (.int .i64 r.fr) ∧ w'.cell? ⟨w.heap.size, 1, none⟩ = some (.int .i64 r.too) ∧ w'.cell? ⟨w.heap.size, 2, none⟩ = some (.int .i64 r.at_) ∧ w'.cell? ⟨w.heap.size, 3, none⟩ = some (.string (tx r.cls)) ∧ w'.cell? ⟨c, 0, none⟩ = some (.pointer (some ⟨F.tb, 0, none⟩)) ∧ w'.cell? ⟨c, 18, none⟩ = some (.map (some F.fb)) := fun w' hb => by
    obtain ⟨vl, vs, hc, _⟩ := HK.out.it
    have h1 := (hb.block _ (heap_lt hc)).trans hc
    have h2 := (hb.block _ (heap_lt HZ0.out)).trans HZ0.out
    exact ⟨by rw [← hmc]; exact heap_cell h1 rfl, heap_cell h1 rfl, heap_cell h2 rfl, heap_cell h2 rfl, heap_cell h2 rfl, heap_cell h2 rfl, heap_cell h1 rfl, heap_cell h1 rfl⟩
  have HX := lhid hx0
  have HS := lhid hs
  have HBG := lhid hbeg
  clear hW hb0 hz0 hx0 hs hbeg hmc
  obtain ⟨x13, x16, x0, x1, x2, x3, xc, x18⟩ := HX.out W (Below.refl _ _)
  have HO1 : Hid (∀ w', Below W.heap.size W w' → RdX Po 4 OpE w' F.ops l) := lhid (fun w' hb => HO0.out.kept (keptX_op Po) fun g _ hl => hb.block g hl)
  obtain ⟨be, hbe⟩ : ∃ b, (r.too == (len : Int)) = b := ⟨_, rfl⟩
  obtain ⟨b0, hb0⟩ : ∃ b, decide (r.too ≤ r.fr) = b := ⟨_, rfl⟩
  obtain ⟨b1, hb1⟩ : ∃ b, begins ops r.fr = b := ⟨_, rfl⟩
  obtain ⟨b2, hb2⟩ : ∃ b, begins ops r.too = b := ⟨_, rfl⟩
  obtain ⟨b3, hb3⟩ : ∃ b, begins ops r.at_ = b := ⟨_, rfl⟩
  obtain ⟨bad, hbad⟩ : ∃ b, (b0 || !b1 || (!be && !b2) || !b3) = b := ⟨_, rfl⟩
  have HB1 := lhid hb1
  have HB2 := lhid hb2
  have HB3 := lhid hb3
  have HBAD := lhid hbad
  have HRE : Hid (rowE E ops fs len r = if bad = true then 41 else (let caught := if r.cls = [] then tThrow else E.of r.cls
      if E.fits caught tThrow = false then 50
      else match frm fs r.at_ with
        | none => 60
        | some f => if f.stk.length ≠ 1 then 60 else if E.fits caught (f.stk.headD []) = false then 62 else 0)) := lhid (by
    have hiff : (r.too ≤ r.fr ∨ begins ops r.fr = false ∨ (r.too ≠ len ∧ begins ops r.too = false) ∨ begins ops r.at_ = false) ↔ bad = true := by
      rw [← hbad, hb1, hb2, hb3, ← hb0, ← hbe]
      cases b1 <;> cases b2 <;> cases b3 <;> simp
    unfold rowE
    dsimp only
    by_cases hh : bad = true
    · rw [if_pos (hiff.2 hh), if_pos hh]
    · rw [if_neg (fun h => hh (hiff.1 h)), if_neg hh]
      rfl)
  clear hb1 hb2 hb3 hbad
  go_enter Tryz.func103, Tryz.ntmps103
  go_upto_region 1 with fail
  rw [HW.out]
  go_cut [5] from 9 (fun t5 wx => t5 = .bool be ∧ Hid (Below W.heap.size W wx))
  case first =>
    go_quiet (fail)
    go_wp2_with fail
    go_meet
    exact ⟨by rw [← hbe], lhid ⟨rfl, rfl, rfl, Nat.le_refl _, fun _ _ => rfl⟩⟩
  case rest =>
    obtain ⟨rfl, HBW⟩ := hcut
    obtain ⟨W1, hW1⟩ : ∃ x, wc = x := ⟨_, rfl⟩
    rw [hW1] at HBW ⊢
    clear hW1 wc hbe x13 x16 x0 x1 x2 x3 xc x18
    obtain ⟨x13, x16, x0, x1, x2, x3, xc, x18⟩ := HX.out W1 HBW.out
    go_upto_region 2 with fail
    go_cut [47] from 18 (fun t47 wx => t47 = .bool bad ∧ Hid (Below W.heap.size W wx))
    case first =>
      cases b0 with
      | true =>
        go_wp2_with fail
        go_meet
        exact ⟨congrArg Value.bool HBAD.out, HBW⟩
      | false =>
        have hb0' := hb0
        go_wp2_with fail
        refine (begins_b r.fr x16 (HO1.out _ HBW.out) HS.out).mono ?_
        rintro e W2 ⟨rfl, hb2⟩
        rw [HBG.out, HB1.out]
        have HBX := lhid (HBW.out.trans (Below.less hb2 HBW.out.size))
        clear hb2 x13 x16 x0 x1 x2 x3 xc x18
        obtain ⟨x13, x16, x0, x1, x2, x3, xc, x18⟩ := HX.out W2 HBX.out
        cases b1 with
        | false =>
          go_wp2_with fail
          go_meet
          exact ⟨congrArg Value.bool HBAD.out, HBX⟩
        | true =>
          cases be with
          | true =>
            go_wp2_with fail
            refine (begins_b r.at_ x16 (HO1.out _ HBX.out) HS.out).mono ?_
            rintro e W4 ⟨rfl, hb4⟩
            rw [HBG.out, HB3.out]
            have HBZ := lhid (HBX.out.trans (Below.less hb4 HBX.out.size))
            clear hb4 x13 x16 x0 x1 x2 x3 xc x18
            cases b3 with
            | false =>
              go_wp2_with fail
              go_meet
              exact ⟨congrArg Value.bool (HBAD.out), HBZ⟩
            | true =>
              go_wp2_with fail
              go_meet
              exact ⟨congrArg Value.bool (HBAD.out), HBZ⟩
          | false =>
            go_wp2_with fail
            refine (begins_b r.too x16 (HO1.out _ HBX.out) HS.out).mono ?_
            rintro e W3 ⟨rfl, hb3⟩
            rw [HBG.out, HB2.out]
            have HBY := lhid (HBX.out.trans (Below.less hb3 HBX.out.size))
            clear hb3 x13 x16 x0 x1 x2 x3 xc x18
            obtain ⟨x13, x16, x0, x1, x2, x3, xc, x18⟩ := HX.out W3 HBY.out
            cases b2 with
            | false =>
              go_wp2_with fail
              go_meet
              exact ⟨congrArg Value.bool (HBAD.out), HBY⟩
            | true =>
              go_wp2_with fail
              refine (begins_b r.at_ x16 (HO1.out _ HBY.out) HS.out).mono ?_
              rintro e W4 ⟨rfl, hb4⟩
              rw [HBG.out, HB3.out]
              have HBZ := lhid (HBY.out.trans (Below.less hb4 HBY.out.size))
              clear hb4 x13 x16 x0 x1 x2 x3 xc x18
              cases b3 with
              | false =>
                go_wp2_with fail
                go_meet
                exact ⟨congrArg Value.bool (HBAD.out), HBZ⟩
              | true =>
                go_wp2_with fail
                go_meet
                exact ⟨congrArg Value.bool (HBAD.out), HBZ⟩
    case rest =>
      obtain ⟨rfl, HBV⟩ := hcut
      obtain ⟨W5, hW5⟩ : ∃ x, wc = x := ⟨_, rfl⟩
      rw [hW5] at HBV ⊢
      clear hW5 wc hb0 x13 x16 x0 x1 x2 x3 xc x18
      obtain ⟨x13, x16, x0, x1, x2, x3, xc, x18⟩ := HX.out W5 HBV.out
      cases bad with
      | true =>
        go_wp2_with fail
        go_ret
        rw [HRE.out]
        exact ⟨rfl, HB0.out.trans (Below.less HBV.out HB0.out.size)⟩
      | false =>
        obtain ⟨caught, hca⟩ : ∃ x, (if r.cls = [] then tThrow else E.of r.cls) = x := ⟨_, rfl⟩
        rw [if_neg (by decide)] at HRE
        dsimp only at HRE
        rw [hca] at HRE
        have HCA := lhid hca
        clear hca
        obtain ⟨bE, dE⟩ : ∃ b, ((tx r.cls).toList == []) = b := ⟨_, rfl⟩
        go_upto_if 50 with fail
        go_cut [6] from 51 (fun t6 wx => t6 = .string (tx caught) ∧ wx = W5)
        case first =>
          cases bE with
          | true =>
            obtain rfl : tThrow = caught := by rw [← HCA.out, if_pos (by rw [tx_toL, beq_iff_eq] at dE; exact dE)]
            go_wp2_with fail
            go_meet
            exact ⟨rfl, rfl⟩
          | false =>
            obtain rfl : E.of r.cls = caught := by rw [← HCA.out, if_neg (by rw [tx_toL, beq_eq_false_iff_ne] at dE; exact dE)]
            go_wp2_with fail
            with_reducible refine (HE.out.of r.cls _ (Nat.le_trans hcl (by decide))).mono ?_
            rintro e W6 ⟨rfl, rfl⟩
            go_wp2_with fail
            go_meet
            exact ⟨rfl, rfl⟩
        case rest =>
          obtain ⟨rfl, hwc⟩ := hcut
          rw [hwc]
          clear hwc wc
          have hcal : caught.length ≤ ML := by
            rw [← HCA.out]
            split
            · decide
            · have h2 := HE.out.l_of r.cls
              have h3 : (4294967296 : Nat) + 2 ≤ ML := by decide
              omega
          have HTW := lhid (HK.out.std.trans (Below.less HBV.out HK.out.std.size))
          obtain ⟨f1, hf1⟩ : ∃ b, E.fits caught tThrow = b := ⟨_, rfl⟩
          rw [hf1] at HRE
          have HF1 := lhid hf1
          clear hf1
          go_wp2_with fail
          refine (HE.out.fits caught tThrow _ hcal (by decide) HTW.out).mono ?_
          rintro e W6 ⟨rfl, hb6⟩
          rw [HF1.out]
          have HB6 := lhid (HBV.out.trans (Below.less hb6 HBV.out.size))
          clear hb6 x13 x16 x0 x1 x2 x3 xc x18
          cases f1 with
          | false =>
            go_wp2_with fail
            go_ret
            rw [HRE.out]
            exact ⟨rfl, HB0.out.trans (Below.less HB6.out HB0.out.size)⟩
          | true =>
            rw [if_neg (by decide)] at HRE
            have HFM2 := lhid (HFM0.out.ch (Z := fun _ => False) ⟨HB6.out.os, HB6.out.tape, HB6.out.output, HB6.out.size, fun k hk _ => HB6.out.block k hk⟩ (fun h => h) (fun _ _ h => h))
            obtain ⟨v1, v2, hv1, hv2, hlk⟩ := HFM2.out.look hr
            obtain ⟨b, hb⟩ : ∃ b, (frm fs r.at_).isSome = b := ⟨_, rfl⟩
            rw [hb] at hlk
            have HB := lhid hb
            have hfb : F.fb < W6.heap.size := by obtain ⟨n, f, _, h2, _⟩ := HFM2.out; exact h2.lt
            obtain ⟨A1, d1, rfl⟩ := hv1.shape
            obtain ⟨A2, d2, rfl⟩ := hv2.shape
            have HV2 := lhid hv2
            have hSS : ∀ w' : World, Below W6.heap.size W6 w' → (w'.cell? ⟨c, 18, none⟩ = some (.map (some F.fb)) ∧ w'.cell? ⟨w.heap.size, 2, none⟩ = some (.int .i64 r.at_) ∧ (Instr.lookup 103 (.map (some F.fb)) (.int .i64 r.at_) true).run Tryz.prog w' = .ok (.tuple #[.agg #[.slice A1 ((frm fs r.at_).elim [] fun f => f.loc).length d1, .slice A2 ((frm fs r.at_).elim [] fun f => f.stk).length d2], .bool b]) w') := fun w' hb => by
              obtain ⟨_, _, _, _, y2, _, _, y18⟩ := HX.out w' (HB6.out.trans (Below.less hb HB6.out.size))
              exact ⟨y18, y2, (hlk w' (hb.block _ hfb)).2⟩
            have HSS := lhid hSS
            obtain ⟨L1, hL1⟩ : ∃ x, ((frm fs r.at_).elim [] fun f => f.loc) = x := ⟨_, rfl⟩
            obtain ⟨L2, hL2⟩ : ∃ x, ((frm fs r.at_).elim [] fun f => f.stk) = x := ⟨_, rfl⟩
            rw [hL1] at HSS
            rw [hL2] at HV2 HSS
            have HL2 := lhid hL2
            have hb9 : Below W6.heap.size W6 (W6.alloc (.cells #[.slice A1 L1.length d1, .slice A2 L2.length d2] 44)).drew := Below.drew' ((Below.refl _ _).alloc (Nat.le_refl _) _)
            have hz9 : (W6.alloc (.cells #[.slice A1 L1.length d1, .slice A2 L2.length d2] 44)).drew.heap[W6.heap.size]? = some (.cells #[.slice A1 L1.length d1, .slice A2 L2.length d2] 44 (0, 0)) := heap_alloc_new W6 (.cells #[.slice A1 L1.length d1, .slice A2 L2.length d2] 44)
            obtain ⟨W9, hW9⟩ : ∃ x, (W6.alloc (.cells #[.slice A1 L1.length d1, .slice A2 L2.length d2] 44)).drew = x := ⟨_, rfl⟩
            rw [hW9] at hb9 hz9
            have HW9 := lhid hW9
            have HB9 := lhid hb9
            have HZ9 := lhid hz9
            have HV2' := lhid (ls_below' HV2.out hb9)
            clear hSS hlk hv1 hv2 hb hL1 hL2 hW9 hb9 hz9 HV2
            go_upto_region 9 with fail
            go_region_held3 (fun w' => w'.cell? ⟨c, 18, none⟩ = some (.map (some F.fb)) ∧ w'.cell? ⟨w.heap.size, 2, none⟩ = some (.int .i64 r.at_) ∧ (Instr.lookup 103 (.map (some F.fb)) (.int .i64 r.at_) true).run Tryz.prog w' = .ok (.tuple #[.agg #[.slice A1 L1.length d1, .slice A2 L2.length d2], .bool b]) w') (first | with_reducible exact HSS.out _ (Below.drew' (Below.refl _ _)) | with_reducible exact HSS.out _ (Below.alloc (Below.drew' (Below.refl _ _)) (Nat.le_refl _) _) | with_reducible exact HSS.out _ (Below.drew' (Below.alloc (Below.refl _ _) (Nat.le_refl _) _))) (fail)
            all_goals
              rw [HW9.out]
              have HB69 := lhid (HB6.out.trans (Below.less HB9.out HB6.out.size))
              cases b with
              | false =>
                have hf : frm fs r.at_ = none := by
                  have := HB.out
                  cases h : frm fs r.at_ with
                  | none => rfl
                  | some f => rw [h] at this; cases this
                rw [hf] at HRE
                clear hf
                go_wp2_with fail
                go_ret
                rw [HRE.out]
                exact ⟨rfl, HB0.out.trans (Below.less HB69.out HB0.out.size)⟩
              | true =>
                obtain ⟨f, hf⟩ : ∃ f, frm fs r.at_ = some f := by
                  have := HB.out
                  cases h : frm fs r.at_ with
                  | none => rw [h] at this; cases this
                  | some f => exact ⟨f, rfl⟩
                obtain rfl : f.stk = L2 := by rw [← HL2.out, hf]; rfl
                have HMF := lhid (List.mem_of_find?_eq_some hf)
                rw [hf] at HRE
                dsimp only at HRE
                clear hf
                have z1 := heap_cell (i := 1) HZ9.out rfl
                obtain ⟨one, hone⟩ : ∃ b, ((f.stk.length : Int) == 1) = b := ⟨_, rfl⟩
                cases one with
                | false =>
                  have hl1 : f.stk.length ≠ 1 := fun h => by rw [h] at hone; cases hone
                  rw [if_pos hl1] at HRE
                  clear hl1
                  go_wp2_with fail
                  go_ret
                  rw [HRE.out]
                  exact ⟨rfl, HB0.out.trans (Below.less HB69.out HB0.out.size)⟩
                | true =>
                  have hl1 : f.stk.length = 1 := by rw [beq_iff_eq] at hone; omega
                  rw [if_neg (fun h => h hl1)] at HRE
                  obtain ⟨u, hu⟩ : ∃ u, f.stk[0]? = some u := ⟨_, List.getElem?_eq_getElem (by omega)⟩
                  have hhd : f.stk.headD [] = u := by
                    cases hfs : f.stk with
                    | nil => rw [hfs] at hu; cases hu
                    | cons a t => rw [hfs] at hu; injection hu
                  rw [hhd] at HRE
                  obtain ⟨ga, oa, hA2, _, y2⟩ := rdX_cell HV2'.out hu
                  subst hA2
                  have hus := (hsm f HMF.out).2 u (List.mem_of_getElem? hu)
                  have HTX := lhid (HK.out.std.trans (Below.less HB69.out HK.out.std.size))
                  obtain ⟨_, _, _, _, _, _, xc, _⟩ := HX.out W9 HB69.out
                  have hS2 : ∀ w' : World, Below W9.heap.size W9 w' → (w'.cell? ⟨c, 0, none⟩ = some (.pointer (some ⟨F.tb, 0, none⟩)) ∧ w'.cell? ⟨W6.heap.size, 1, none⟩ = some (.slice (some ⟨ga, oa, none⟩) f.stk.length d2) ∧ w'.cell? ⟨ga, oa, none⟩ = some (.string (tx u))) := fun w' hb => ⟨(hb.cell (cell_lt xc)).trans xc, heap_cell ((hb.block _ (heap_lt HZ9.out)).trans HZ9.out) rfl, (hb.cell (p := ⟨ga, oa, none⟩) (cell_lt y2)).trans y2⟩
                  have HS2 := lhid hS2
                  obtain ⟨f2, hf2⟩ : ∃ b, E.fits caught u = b := ⟨_, rfl⟩
                  rw [hf2] at HRE
                  have HF2 := lhid hf2
                  have k4 : (0 : Int) < f.stk.length := by omega
                  have k4n : 0 < f.stk.length := by omega
                  clear hS2 hf2 hu hhd xc y2 hl1
                  go_upto_region 12 with fail
                  go_region_held3 (fun w' => w'.cell? ⟨c, 0, none⟩ = some (.pointer (some ⟨F.tb, 0, none⟩)) ∧ w'.cell? ⟨W6.heap.size, 1, none⟩ = some (.slice (some ⟨ga, oa, none⟩) f.stk.length d2) ∧ w'.cell? ⟨ga, oa, none⟩ = some (.string (tx u))) (first | with_reducible exact HS2.out _ (Below.drew' (Below.refl _ _)) | with_reducible exact HS2.out _ hb5) (first
                    | ((with_reducible refine (HE.out.fits caught u _ hcal hus (HTX.out.trans (Below.less (Below.drew' (Below.refl _ _)) HTX.out.size))).mono ?_); rintro e w5 ⟨rfl, hb5'⟩; rw [HF2.out]; have hb5 : Below W9.heap.size W9 w5 := ⟨hb5'.os, hb5'.tape, hb5'.output, hb5'.size, hb5'.block⟩))
                  cases f2 with
                  | false =>
                    go_wp2_with fail
                    go_ret
                    rw [HRE.out]
                    exact ⟨rfl, HB0.out.trans (Below.less (HB69.out.trans (Below.less hb5 HB69.out.size)) HB0.out.size)⟩
                  | true =>
                    go_wp2_with fail
                    go_ret
                    rw [HRE.out]
                    exact ⟨rfl, HB0.out.trans (Below.less (HB69.out.trans (Below.less hb5 HB69.out.size)) HB0.out.size)⟩
end
end Go.Proofs.YtpdnonlelocfbaaGreatDoor
/- Package check: checkRows. -/
namespace Go.Proofs.YtpdnonlelocfbaaGreatDoor
open Go.RowKit Go Go.Maps
set_option linter.unusedVariables false
theorem rowsE_step {E : Chk} {ops : List Ins} {fs : List Fm} {len : Int} {l : List RwI} {k : Nat} {x : RwI} (h : l[k]? = some x) :
    rowsE E ops fs len (l.drop k) = if rowE E ops fs len x ≠ 0 then rowE E ops fs len x else rowsE E ops fs len (l.drop (k + 1)) := by
  obtain ⟨h1, rfl⟩ := List.getElem?_eq_some_iff.1 h
  rw [List.drop_eq_getElem_cons h1]
  rfl
section
variable {E : Chk} {Z : Nat → Prop} {wT : World} {c : Nat} {F : Fx} {N : Nat} {s : Cs} {kn : Bool} {st : Value} {w : World}
set_option maxHeartbeats 8000000 in
set_option maxRecDepth 100000 in
theorem checkRows_c (HE : Hid (Env E F.tb wT)) (HC : Hid (Ck E Z wT c F N s kn st w)) {P : Nat → Prop} {M : Nat} {fs : List Fm} (HFM : Hid (FM P w F.fb M fs)) (hfz : ¬ Z F.fb) (hPz : ∀ k, P k → ¬ Z k)
    {Po : Nat → Prop} {l : List Opx} {ops : List Ins} (HO : Hid (RdX Po 4 OpE w F.ops l)) (hs : SortO l) (hbeg : ∀ pc, beginsO l pc = begins ops pc)
    {A5 : Option Addr} {len c5 : Nat} (hmc : F.mc = .slice A5 len c5) {Pr : Nat → Prop} {rows : List RwI} (HR : Hid (RdX Pr 4 RwE w F.mr rows)) (hri : ∀ x ∈ rows, I6 x.at_ ∧ x.cls.length ≤ 4294967296) (hsm : ∀ f ∈ fs, f.stk.length ≤ 1000 ∧ ∀ t ∈ f.stk, t.length ≤ ML) :
    Calls Tryz.prog 50 #[.pointer (some ⟨c, 0, none⟩)] w fun e w' => e = .returned (.int .i64 (rowsE E ops fs len rows)) ∧ Below w.heap.size w w' := by
  have HMC := lhid hmc
  have HS := lhid hs
  have HBG := lhid hbeg
  have HRI := lhid hri
  have HSM := lhid hsm
  obtain ⟨Ar, cr, hmr⟩ := HR.out.shape
  have hrl : rows.length ≤ 4294967296 := by obtain ⟨_, _, _, _, h, _⟩ := HR.out; exact h
  have hr5 := HR.out
  rw [hmr] at hr5
  have HR5 := lhid hr5
  have c14 : w.cell? ⟨c, 14, none⟩ = some (.slice Ar rows.length cr) := by
    obtain ⟨vl, vs, hc, _⟩ := HC.out.it
    rw [← hmr]
    exact heap_cell hc rfl
  have HB5 : Hid (Below w.heap.size w w) := lhid (Below.refl _ _)
  clear hr5 hmr hmc hs hbeg hri hsm
  go_enter Tryz.func50, Tryz.ntmps50
  go_wp2_with fail
  go_loopw [12] (fun i wr => ∃ k : Nat, i = .int .i64 k ∧ k ≤ rows.length ∧ Hid (Below w.heap.size w wr) ∧ Hid (rowsE E ops fs len rows = rowsE E ops fs len (rows.drop k))) (fun i _ => rows.length - (intOf i).toNat)
  case atStart => exact ⟨0, rfl, Nat.zero_le _, HB5, lhid (by simp)⟩
  case round =>
    obtain ⟨k, rfl, hk, HBR, HA⟩ := hrel
    by_cases hlt : k < rows.length
    · obtain ⟨x, hx⟩ : ∃ x, rows[k]? = some x := ⟨_, List.getElem?_eq_getElem hlt⟩
      have k3 : (k : Int) < rows.length := by omega
      have hst := rowsE_step (E := E) (ops := ops) (fs := fs) (len := (len : Int)) hx
      obtain ⟨ga, oa, cc, hAr, _, hE, hc⟩ := HR5.out.at' hx
      subst hAr
      obtain rfl := hE
      have c0 : wr.cell? ⟨ga, oa + k * 4, none⟩ = some (.int .i64 x.fr) := (HBR.out.cell (cell_lt (hc 0 _ rfl))).trans (hc 0 _ rfl)
      have c1 : wr.cell? ⟨ga, oa + k * 4 + 1, none⟩ = some (.int .i64 x.too) := (HBR.out.cell (cell_lt (hc 1 _ rfl))).trans (hc 1 _ rfl)
      have c2 : wr.cell? ⟨ga, oa + k * 4 + 2, none⟩ = some (.int .i64 x.at_) := (HBR.out.cell (cell_lt (hc 2 _ rfl))).trans (hc 2 _ rfl)
      have c3 : wr.cell? ⟨ga, oa + k * 4 + 3, none⟩ = some (.string (tx x.cls)) := (HBR.out.cell (cell_lt (hc 3 _ rfl))).trans (hc 3 _ rfl)
      have HX := lhid (HRI.out x (List.mem_of_getElem? hx))
      have hbq : Below w.heap.size w (wr.alloc (.cells #[.int .i64 x.fr, .int .i64 x.too, .int .i64 x.at_, .string (tx x.cls)] 184)) := HBR.out.alloc HBR.out.size _
      have HBQ := lhid hbq
      have HKV := lhid (HC.out.below hbq)
      have HFV := lhid (HFM.out.ch (Z := Z) (Ch.of hbq) hfz hPz)
      have HOV := lhid (HO.out.kept (keptX_op Po) fun g _ hl => hbq.block g hl)
      obtain ⟨v, hv⟩ : ∃ v, rowE E ops fs len x = v := ⟨_, rfl⟩
      rw [hv] at hst
      have HST := lhid hst
      have HV := lhid hv
      clear hst hc hx hbq hv
      go_wp2_with fail
      with_reducible refine (checkRow_c HE HKV HFV hfz hPz HOV HS.out HBG.out HMC.out x HX.out.1 HX.out.2 HSM.out).mono ?_
      rintro e w5 ⟨rfl, hb5⟩
      rw [HV.out]
      have HBN := lhid (HBQ.out.trans (Below.less hb5 HBQ.out.size))
      clear hb5 c0 c1 c2 c3
      by_cases h0 : v = 0
      · subst h0
        have HRN : Hid (rowsE E ops fs len rows = rowsE E ops fs len (rows.drop (k + 1))) := lhid (by rw [HA.out, HST.out]; rfl)
        go_wp2_with fail
        go_roundw
        case rel => exact ⟨k + 1, by go_num, by omega, HBN, HRN⟩
        case measure => simp [intOf]; omega
      · have hv0 : (v == 0) = false := by rw [beq_eq_false_iff_ne]; exact h0
        have HRN : Hid (rowsE E ops fs len rows = v) := lhid (by rw [HA.out, HST.out, if_pos h0])
        go_wp2_with fail
        go_ret
        rw [HRN.out]
        exact ⟨rfl, HBN.out⟩
    · go_wp2_with fail
      go_ret
      have hkr : k = rows.length := by omega
      subst hkr
      rw [HA.out, List.drop_length]
      exact ⟨rfl, HBR.out⟩
end
end Go.Proofs.YtpdnonlelocfbaaGreatDoor
/- Package check: the states that are told, in memory. -/
namespace Go.Proofs.YtpdnonlelocfbaaGreatDoor
open Go.RowKit Go Go.Maps
set_option linter.unusedVariables false
def flatV (vs : List (Value × Value)) : List Value := vs.flatMap fun p => [p.1, p.2]
theorem flatV_len (vs : List (Value × Value)) : (flatV vs).length = vs.length * 2 := by
  induction vs with
  | nil => rfl
  | cons p l ih =>
    show (p.1 :: p.2 :: flatV l).length = _
    simp [ih]
    omega
/-- The states L stand in st: its own row and the lists in it lie in blocks of D. -/
structure Sts (D : Nat → Prop) (T : Nat) (w : World) (st : Value) (L : List Sta) : Prop where
  it : ∃ vs : List (Value × Value), vs.length = L.length ∧ w.ownsRow T 44 2 st L.length (flatV vs) ∧ ∀ (i : Nat) p x, vs[i]? = some p → L[i]? = some x → Ls (fun k => D k ∧ st.ownBlock ≠ some k) w p.1 x.1 ∧ Ls (fun k => D k ∧ st.ownBlock ≠ some k) w p.2 x.2
  row : ∀ k, st.ownBlock = some k → D k
theorem ls_mono {P Q : Nat → Prop} {w : World} {v : Value} {l : List Bs} (h : Ls P w v l) (hp : ∀ k, P k → Q k) : Ls Q w v l := by
  obtain ⟨A, cap, h1, h2, h3, h4⟩ := h
  exact ⟨A, cap, h1, h2, h3, fun i a hi => by
    obtain ⟨g, o, c, q1, q2, q3⟩ := h4 i a hi
    exact ⟨g, o, c, q1, hp g q2, q3⟩⟩
theorem sts_nil (D : Nat → Prop) (T : Nat) (w : World) : Sts D T w (.slice none 0 0) [] :=
  ⟨⟨[], rfl, ⟨rfl, .inl ⟨rfl, rfl⟩⟩, fun i p x h => by cases h⟩, fun k h => by cases h⟩
theorem Sts.kept {D : Nat → Prop} {T : Nat} {w w' : World} {st : Value} {L : List Sta} (h : Sts D T w st L) (hb : ∀ g, D g → g < w.heap.size → w'.heap[g]? = w.heap[g]?) : Sts D T w' st L := by
  obtain ⟨vs, h1, h2, h3⟩ := h.it
  exact ⟨⟨vs, h1, own_of h2 fun g hg => hb g (h.row g hg) (h2.lt g hg).2, fun i p x hp hx => ⟨ls_kept (h3 i p x hp hx).1 fun g hg hl => hb g hg.1 hl, ls_kept (h3 i p x hp hx).2 fun g hg hl => hb g hg.1 hl⟩⟩, h.row⟩
/-- A list that a call made, as one that can be read. -/
theorem own_ls {T : Nat} {w : World} {v : Value} {l : List Bs} (h : w.ownsRow T 9 1 v l.length (lnV l)) (hl : l.length ≤ 1000) (hs : ∀ t ∈ l, t.length ≤ ML) : Ls (fun k => v.ownBlock = some k) w v l := by
  have ho : Ow (fun k => v.ownBlock = some k) T w v l := ⟨h, fun k hk => hk, hs⟩
  obtain ⟨A, cap, rfl⟩ := own_shape h
  refine ⟨A, cap, rfl, fun e => ?_, Nat.le_trans hl (by decide), fun i a hi => ?_⟩
  · subst e
    rcases h.2 with ⟨h1, _⟩ | ⟨g, cap', cur, h1, _⟩
    · injection h1
    · injection h1 with h1 _ _
      cases h1
  · obtain ⟨g, rfl, hc⟩ := ho.cell hi
    refine ⟨g, 0, [.string (tx a)], rfl, rfl, rfl, fun j u hj => ?_⟩
    have hj0 : j = 0 := by
      have := (List.getElem?_eq_some_iff.1 hj).1
      simp at this
      omega
    subst hj0
    injection hj with hj
    subst hj
    rwa [Nat.zero_add, Nat.mul_one, Nat.add_zero]
/-- One state more is told: its two lists are the call's own, new behind w; then the row takes them. -/
theorem Sts.push {D : Nat → Prop} {T : Nat} {w w6 w7 : World} {st : Value} {L : List Sta} (h : Sts D T w st L) (hD : ∀ k, D k → k < w.heap.size) (hb : Below w.heap.size w w6) {y1 y2 : Value} {l1 l2 : List Bs} (n1 : l1.length ≤ 1000) (n2 : l2.length ≤ 1000) (s1 : ∀ t ∈ l1, t.length ≤ ML) (s2 : ∀ t ∈ l2, t.length ≤ ML)
    (h1 : w6.ownsRow w.heap.size 9 1 y1 l1.length (lnV l1)) (h2 : w6.ownsRow w.heap.size 9 1 y2 l2.length (lnV l2)) {o : Obj} {vs : List (Value × Value)} (hvs : vs.length = L.length)
    (hvl : ∀ (i : Nat) p x, vs[i]? = some p → L[i]? = some x → Ls (fun k => D k ∧ st.ownBlock ≠ some k) w p.1 x.1 ∧ Ls (fun k => D k ∧ st.ownBlock ≠ some k) w p.2 x.2)
    (hg : (w6.alloc o).grownBy w7 st.ownBlock) {g cap : Nat} (hown : w7.ownsRow T 44 2 (.slice (some ⟨g, 0, none⟩) (L.length + 1) cap) (L.length + 1) (flatV vs ++ [y1, y2])) (hat : st.ownBlock = some g ∨ g = (w6.alloc o).heap.size) :
    Sts (fun k => D k ∨ y1.ownBlock = some k ∨ y2.ownBlock = some k ∨ k = g) T w7 (.slice (some ⟨g, 0, none⟩) (L.length + 1) cap) (L ++ [(l1, l2)]) := by
  have hsz : (w6.alloc o).heap.size = w6.heap.size + 1 := by simp
  have hw6 := hb.size
  have hbk : ∀ k, k < w6.heap.size → st.ownBlock ≠ some k → w7.heap[k]? = w6.heap[k]? := fun k hk hne => (hg.block k (by omega) (fun e => hne e.symm)).trans (Below.heap_alloc _ _ _ hk)
  have hgD : ∀ k, D k → st.ownBlock ≠ some k → k ≠ g := fun k hk hne e => by
    rcases hat with h9 | h9
    · exact hne (by rw [h9, e])
    · have := hD k hk
      omega
  have hyD : ∀ (y : Value) (l : List Bs), w6.ownsRow w.heap.size 9 1 y l.length (lnV l) → ∀ k, y.ownBlock = some k → k ≠ g ∧ k < w6.heap.size ∧ st.ownBlock ≠ some k := fun y l hy k hk => by
    have h3 := hy.lt k hk
    refine ⟨fun e => ?_, h3.2, fun e => ?_⟩
    · rcases hat with h9 | h9
      · have := hD g (h.row g h9)
        omega
      · omega
    · have := hD k (h.row k e)
      omega
  have hv : (Value.slice (some ⟨g, 0, none⟩) (L.length + 1) cap).ownBlock = some g := rfl
  refine ⟨⟨vs ++ [(y1, y2)], by simp [hvs], ?_, fun i p x hp hx => ?_⟩, fun k hk => ?_⟩
  · have e1 : flatV (vs ++ [(y1, y2)]) = flatV vs ++ [y1, y2] := by simp [flatV]
    rw [e1, List.length_append]
    exact hown
  · rcases Nat.lt_or_ge i L.length with hi | hi
    · rw [List.getElem?_append_left (by omega)] at hp
      rw [List.getElem?_append_left hi] at hx
      obtain ⟨q1, q2⟩ := hvl i p x hp hx
      have tr : ∀ {v : Value} {l : List Bs}, Ls (fun k => D k ∧ st.ownBlock ≠ some k) w v l → Ls (fun k => (D k ∨ y1.ownBlock = some k ∨ y2.ownBlock = some k ∨ k = g) ∧ (Value.slice (some ⟨g, 0, none⟩) (L.length + 1) cap).ownBlock ≠ some k) w7 v l := fun hq =>
        ls_mono (ls_kept hq fun k hk hl => (hbk k (by omega) hk.2).trans (hb.block k hl)) fun k hk => ⟨.inl hk.1, fun e => hgD k hk.1 hk.2 (by rw [hv] at e; injection e with e; exact e.symm)⟩
      exact ⟨tr q1, tr q2⟩
    · have hi0 : i = L.length := by
        have := (List.getElem?_eq_some_iff.1 hx).1
        simp at this
        omega
      subst hi0
      rw [List.getElem?_append_right (by omega)] at hp
      rw [List.getElem?_append_right (Nat.le_refl _)] at hx
      rw [show L.length - vs.length = 0 from by omega] at hp
      rw [Nat.sub_self] at hx
      injection hp with hp
      injection hx with hx
      subst hp hx
      have tr : ∀ (y : Value) (l : List Bs), l.length ≤ 1000 → (∀ t ∈ l, t.length ≤ ML) → w6.ownsRow w.heap.size 9 1 y l.length (lnV l) → (∀ k, y.ownBlock = some k → y1.ownBlock = some k ∨ y2.ownBlock = some k) → Ls (fun k => (D k ∨ y1.ownBlock = some k ∨ y2.ownBlock = some k ∨ k = g) ∧ (Value.slice (some ⟨g, 0, none⟩) (L.length + 1) cap).ownBlock ≠ some k) w7 y l := fun y l hl hs hy hor =>
        ls_mono (ls_kept (own_ls hy hl hs) fun k hk hlt => hbk k hlt (hyD y l hy k hk).2.2) fun k hk => ⟨(hor k hk).elim (fun e => .inr (.inl e)) (fun e => .inr (.inr (.inl e))), fun e => (hyD y l hy k hk).1 (by rw [hv] at e; injection e with e; exact e.symm)⟩
      exact ⟨tr y1 l1 n1 s1 h1 fun k hk => .inl hk, tr y2 l2 n2 s2 h2 fun k hk => .inr hk⟩
  · rw [hv] at hk
    injection hk with hk
    exact .inr (.inr (.inr hk.symm))
end Go.Proofs.YtpdnonlelocfbaaGreatDoor
/- Package check: walk. -/
namespace Go.Proofs.YtpdnonlelocfbaaGreatDoor
open Go.RowKit Go Go.Maps
set_option linter.unusedVariables false
theorem infoSta : (Tryz.prog.info? 44).map (fun i => (i.zero, i.size, i.bytes)) = some (some (.agg #[.slice none 0 0, .slice none 0 0]), 2, 48) := by kernel_rfl
theorem infoSta_parts : ∃ i, Tryz.prog.info? 44 = some i ∧ i.zero = some (.agg #[.slice none 0 0, .slice none 0 0]) ∧ i.size = 2 ∧ i.bytes = 48 := by
  have h := infoSta
  cases hi : Tryz.prog.info? 44 with
  | none => rw [hi] at h; cases h
  | some i =>
    rw [hi] at h
    simp only [Option.map_some, Option.some.injEq, Prod.mk.injEq] at h
    exact ⟨i, rfl, h.1, h.2.1, h.2.2⟩
theorem Sts.mono {D D' : Nat → Prop} {T : Nat} {w : World} {st : Value} {L : List Sta} (h : Sts D T w st L) (hD : ∀ k, D k → D' k) : Sts D' T w st L := by
  obtain ⟨vs, h1, h2, h3⟩ := h.it
  exact ⟨⟨vs, h1, h2, fun i p x hp hx => ⟨ls_mono (h3 i p x hp hx).1 fun k hk => ⟨hD k hk.1, hk.2⟩, ls_mono (h3 i p x hp hx).2 fun k hk => ⟨hD k hk.1, hk.2⟩⟩⟩, fun k hk => hD k (h.row k hk)⟩
section
variable {E : Chk} {Z : Nat → Prop} {wT : World} {c : Nat} {F : Fx} {N : Nat} {s : Cs} {kn : Bool} {st : Value} {w : World}
theorem Ck.past (h : Ck E Z wT c F N s kn st w) {w' : World} {X Q : Nat → Prop} (hc : Ch X w w') (hX : ∀ k, X k → ¬ Z k ∧ wT.heap.size ≤ k) (hQ : ∀ k, Q k → w.heap.size ≤ k ∧ k < w'.heap.size) : Ck E (fun k => Z k ∧ ¬ Q k) wT c F N s kn st w' := by
  obtain ⟨vl, vs, hcc, hl, hs, hd⟩ := h.it
  have hne : ∀ k, k < w.heap.size → ¬ Q k := fun k hk hq => by have := (hQ k hq).1; omega
  have hsz := hc.size
  exact ⟨h.std.trans (hc.to h.std.size (fun k hk => (hX k hk).2)), fun k hk => h.low k hk.1, fun k hk => ⟨h.new k (by omega), fun hq => by have := (hQ k hq).2; omega⟩, ⟨h.cz, hne c (heap_lt hcc)⟩, ⟨h.bz, hne _ h.ask.lt⟩,
    ⟨vl, vs, hc.keep hcc (fun hx => (hX c hx).1 h.cz), ⟨(hl.of fun g hg => hc.block g (hl.row.lt g hg).2 (fun hx => (hX g hx).1 (hl.zone g hg))).row, fun k hk => ⟨hl.zone k hk, hne k (hl.row.lt k hk).2⟩, hl.small⟩, ⟨(hs.of fun g hg => hc.block g (hs.row.lt g hg).2 (fun hx => (hX g hx).1 (hs.zone g hg))).row, fun k hk => ⟨hs.zone k hk, hne k (hs.row.lt k hk).2⟩, hs.small⟩, hd⟩,
    h.ask.of (hc.block _ h.ask.lt (fun hx => (hX _ hx).1 h.bz))⟩
theorem Ck.zone {Z' : Nat → Prop} (h : Ck E Z wT c F N s kn st w) (hz : ∀ k, Z k ↔ Z' k) : Ck E Z' wT c F N s kn st w := by
  have : Z = Z' := funext fun k => propext (hz k)
  exact this ▸ h
theorem Ck.setSt (h : Ck E Z wT c F N s kn st w) (v : Value) : Ck E Z wT c F N s kn v (w.setCell ⟨c, 24, none⟩ v) ∧ Ch Z w (w.setCell ⟨c, 24, none⟩ v) := by
  obtain ⟨vl, vs, hc, hl, hs, hd⟩ := h.it
  exact h.store (s' := s) (heap_set hc _) hl hs hd
/-- What the walk leaves. -/
def WkOut (E : Chk) (Z : Nat → Prop) (wT : World) (c : Nat) (F : Fx) (w : World) (x : Wk) (e : Ending) (w' : World) : Prop :=
  match x with
  | .er v => e = .returned (.int .i64 v) ∧ Ch Z w w'
  | .ok k L => e = .returned (.int .i64 0) ∧ Ch Z w w' ∧ ∃ N s st D, Ck E (fun b => Z b ∧ ¬ D b) wT c F N s k st w' ∧ Sts D wT.heap.size w' st L
theorem walk_stop {fs : List Fm} {rows : List RwI} {o : Ins} {r : List Ins} {L : List Sta} {v : Int} (h : (arrive E fs rows o.pc kn s).1 = v) (hv : v ≠ 0) : walkC E fs rows (o :: r) kn s L = .er v := by
  unfold walkC
  dsimp only
  rw [h, if_pos hv]
theorem walk_more {fs : List Fm} {rows : List RwI} {o : Ins} {r : List Ins} {L : List Sta} (h : (arrive E fs rows o.pc kn s).1 = 0) : walkC E fs rows (o :: r) kn s L =
    (let y := (arrive E fs rows o.pc kn s).2.doOp E o.code o.a.toNat
     if y.flt ≠ 0 then .er y.flt else if leave E fs o y ≠ 0 then .er (leave E fs o y) else walkC E fs rows r (!o.ends) y (L ++ [((arrive E fs rows o.pc kn s).2.loc, (arrive E fs rows o.pc kn s).2.stk)])) := by
  rw [walkC]
  dsimp only
  rw [if_neg (fun h9 => h9 h)]
/-- A state more is told: what holds of the checker behind it. -/
theorem told {D : Nat → Prop} {W w6 w7 : World} {L : List Sta} (h : Ck E Z wT c F N s kn st W) (hs : Sts D wT.heap.size W st L) (hD : ∀ k, D k → ¬ Z k ∧ wT.heap.size ≤ k ∧ k < W.heap.size) (hb : Below W.heap.size W w6) {y1 y2 : Value} {l1 l2 : List Bs} (n1 : l1.length ≤ 1000) (n2 : l2.length ≤ 1000) (s1 : ∀ t ∈ l1, t.length ≤ ML) (s2 : ∀ t ∈ l2, t.length ≤ ML)
    (h1 : w6.ownsRow W.heap.size 9 1 y1 l1.length (lnV l1)) (h2 : w6.ownsRow W.heap.size 9 1 y2 l2.length (lnV l2)) {o : Obj} {vs : List (Value × Value)} (hvs : vs.length = L.length)
    (hvl : ∀ (i : Nat) p x, vs[i]? = some p → L[i]? = some x → Ls (fun k => D k ∧ st.ownBlock ≠ some k) W p.1 x.1 ∧ Ls (fun k => D k ∧ st.ownBlock ≠ some k) W p.2 x.2)
    (hg : (w6.alloc o).grownBy w7 st.ownBlock) {g cap : Nat} (hown : w7.ownsRow wT.heap.size 44 2 (.slice (some ⟨g, 0, none⟩) (L.length + 1) cap) (L.length + 1) (flatV vs ++ [y1, y2])) (hat : st.ownBlock = some g ∨ g = (w6.alloc o).heap.size) (hlt : g < w7.heap.size) :
    (∃ u, w7.cell? ⟨c, 24, none⟩ = some u ∧ w7.frozen? ⟨c, 24, none⟩ = false) ∧
    Ck E (fun k => Z k ∧ ¬ (y1.ownBlock = some k ∨ y2.ownBlock = some k ∨ k = g)) wT c F N s kn (.slice (some ⟨g, 0, none⟩) (L.length + 1) cap) (w7.setCell ⟨c, 24, none⟩ (.slice (some ⟨g, 0, none⟩) (L.length + 1) cap)) ∧
    Sts (fun k => D k ∨ y1.ownBlock = some k ∨ y2.ownBlock = some k ∨ k = g) wT.heap.size (w7.setCell ⟨c, 24, none⟩ (.slice (some ⟨g, 0, none⟩) (L.length + 1) cap)) (.slice (some ⟨g, 0, none⟩) (L.length + 1) cap) (L ++ [(l1, l2)]) ∧
    Ch (fun k => Z k ∨ st.ownBlock = some k) W (w7.setCell ⟨c, 24, none⟩ (.slice (some ⟨g, 0, none⟩) (L.length + 1) cap)) ∧
    ∀ k, (y1.ownBlock = some k ∨ y2.ownBlock = some k ∨ k = g) → k < w7.heap.size ∧ (W.heap.size ≤ k ∨ D k) := by
  have hsz : (w6.alloc o).heap.size = w6.heap.size + 1 := by simp
  have hw6 := hb.size
  have hw7 : (w6.alloc o).heap.size ≤ w7.heap.size := hg.size
  have hchX : Ch (fun k => st.ownBlock = some k) W w7 := ((Ch.of hb).alloc o).grown hg fun k e _ => e
  have hQ : ∀ k, (y1.ownBlock = some k ∨ y2.ownBlock = some k ∨ k = g) → k < w7.heap.size ∧ (W.heap.size ≤ k ∨ D k) := fun k hk => by
    rcases hk with e | e | e
    · have := h1.lt k e
      exact ⟨by omega, .inl this.1⟩
    · have := h2.lt k e
      exact ⟨by omega, .inl this.1⟩
    · subst e
      refine ⟨hlt, ?_⟩
      rcases hat with h9 | h9
      · exact .inr (hs.row k h9)
      · exact .inl (by omega)
  have hk7 := h.past (Q := fun k => W.heap.size ≤ k ∧ (y1.ownBlock = some k ∨ y2.ownBlock = some k ∨ k = g)) hchX (fun k e => ⟨(hD k (hs.row k e)).1, (hD k (hs.row k e)).2.1⟩) (fun k hk => ⟨hk.1, (hQ k hk.2).1⟩)
  have hk8 : Ck E (fun k => Z k ∧ ¬ (y1.ownBlock = some k ∨ y2.ownBlock = some k ∨ k = g)) wT c F N s kn st w7 := hk7.zone fun k => ⟨fun hz => ⟨hz.1, fun hq => by
    rcases (hQ k hq).2 with h9 | h9
    · exact hz.2 ⟨h9, hq⟩
    · exact (hD k h9).1 hz.1⟩, fun hz => ⟨hz.1, fun hq => hz.2 hq.2⟩⟩
  obtain ⟨hk9, hc9⟩ := hk8.setSt (.slice (some ⟨g, 0, none⟩) (L.length + 1) cap)
  refine ⟨?_, hk9, ?_, ?_, hQ⟩
  · obtain ⟨vl, vs', hc, _⟩ := hk8.it
    exact ⟨_, heap_cell hc rfl, heap_thaw hc 24⟩
  · refine (hs.push (fun k hk => (hD k hk).2.2) hb n1 n2 s1 s2 h1 h2 hvs hvl hg hown hat).kept fun k hk _ => Below.heap_setCell _ _ _ _ fun e => ?_
    have e' : k = c := e
    subst e'
    rcases hk with hk | hk
    · exact (hD k hk).1 h.cz
    · exact hk8.cz.2 hk
  · exact (hchX.mono fun _ _ h => .inr h).tr (hc9.mono fun _ _ h => .inl h.1)
end
end Go.Proofs.YtpdnonlelocfbaaGreatDoor
