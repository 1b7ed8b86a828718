/- Contract of the document's Parse. Written by gen_ref8.py. -/
import Derived.Test.YtgihfcimngogfaaGreatJFileRef8L
import Derived.Test.YtgihfcimngogfaaGreatM15
import Derived.Test.YtgihfcimngogfaaGreatM17
import Derived.Laws.AppendOwn
import Derived.Deep.AppendLies
import Derived.Deep.RegionLaw
import Derived.Deep.CutBlock
import Derived.Deep.RegionHeld3
namespace Go.Proofs.YtgihfcimngogfaaGreat
open Go.RowKit Go
set_option linter.unusedVariables false
set_option maxHeartbeats 4000000 in
set_option maxRecDepth 100000 in
theorem rparse_long (v : Value) (l : Bs) (w : World) (h : Hid (RdB w v l)) (hl : 65536 < l.length) :
  Calls Tryz.prog 27 #[v] w (POut (parP l) w) := by
 obtain ⟨A, cap, rfl, hm⟩ := rdB_form h.out
 have HP : Hid (parP l = .er 2) := lhid (by unfold parP; rw [if_pos hl])
 have t : (65536 : Int) < l.length := by omega
 have HB0 := lhid ((Below.refl w.heap.size w).alloc (Nat.le_refl _) zC)
 have HZ := lhid (heap_alloc_new w zC)
 have p0 := heap_cell (i := 0) HZ.out rfl
 have zp0 := heap_thaw HZ.out 0
 have p1 := heap_cell (i := 1) HZ.out rfl
 have zp1 := heap_thaw HZ.out 1
 have p2 := heap_cell (i := 2) HZ.out rfl
 have zp2 := heap_thaw HZ.out 2
 have p3 := heap_cell (i := 3) HZ.out rfl
 have zp3 := heap_thaw HZ.out 3
 have p4 := heap_cell (i := 4) HZ.out rfl
 have zp4 := heap_thaw HZ.out 4
 have p5 := heap_cell (i := 5) HZ.out rfl
 have zp5 := heap_thaw HZ.out 5
 have p6 := heap_cell (i := 6) HZ.out rfl
 have zp6 := heap_thaw HZ.out 6
 go_enter Tryz.func27, Tryz.ntmps27
 go_wp2_with fail
 refine bodyPost_ret (v := .tuple #[.agg #[.int .i64 0, .string ⟨#[]⟩, .string ⟨#[]⟩, .slice none 0 0, .slice none 0 0, .slice none 0 0, .slice none 0 0], .int .i64 2]) (by simp [results, Tryz.results27, go_sem, p0, p1, p2, p3, p4, p5, p6]) rfl ?_
 exact pout_er HB0.out HP.out
set_option maxHeartbeats 4000000 in
set_option maxRecDepth 100000 in
theorem rparse_magic (v : Value) (l : Bs) (w : World) (h : Hid (RdB w v l)) (hl : ¬ 65536 < l.length) (hm : l.length < 4 ∨ l.take 4 ≠ [82, 69, 71, 76]) :
  Calls Tryz.prog 27 #[v] w (POut (parP l) w) := by
 have HLOW := lhid (rdB_low h.out)
 have HP : Hid (parP l = .er 10) := lhid (by unfold parP; rw [if_neg hl]; unfold filP; rw [if_pos hm])
 have hb := magic_bad hm
 generalize htk : takeL (l, false) 4 = tk at hb
 have HTK := lhid htk
 have hq : ((tx tk).toList == [82, 69, 71, 76]) = false := by rw [tx_toList, beq_eq_false_iff_ne]; exact hb
 have HD : Hid (DocS (tlR (.slice none 0 0) 0) w.heap.size ((w.alloc zC).alloc (.cells #[v, .int .i64 0, .bool false, .slice none 0 0, .int .i64 0] 94)) (w.heap.size + 1) v l (l, false)) := lhid (by
  have := docS_reader (B := w.heap.size) (w := w.alloc zC) (rdB_below h.out HLOW.out ((Below.refl w.heap.size w).alloc (Nat.le_refl _) zC)) HLOW.out (by simp)
  rwa [World.size_alloc] at this)
 have HB := lhid (((Below.refl w.heap.size w).alloc (Nat.le_refl _) zC).alloc (by simp) (.cells #[v, .int .i64 0, .bool false, .slice none 0 0, .int .i64 0] 94))
 have HZ := lhid (new_one w zC (.cells #[v, .int .i64 0, .bool false, .slice none 0 0, .int .i64 0] 94))
 obtain ⟨A, cap, rfl, hcap⟩ := rdB_form h.out
 have t : ¬ (65536 : Int) < l.length := by omega
 clear hm hb htk
 go_enter Tryz.func27, Tryz.ntmps27
 go_wp2_with fail
 with_reducible refine (refTake_any _ w.heap.size (w.heap.size + 1) _ l (l, false) 4 _ HD.out).mono ?_
 rintro e w1 ⟨rfl, hd, ho⟩
 rw [HTK.out]
 have HB1 := lhid (HB.out.trans (ho.below (Nat.le_succ _) HB.out.size))
 have HZ1 := lhid (Only.keep ho HZ.out (by omega))
 clear hd ho
 have p0 := heap_cell (i := 0) HZ1.out rfl
 have zp0 := heap_thaw HZ1.out 0
 have p1 := heap_cell (i := 1) HZ1.out rfl
 have zp1 := heap_thaw HZ1.out 1
 have p2 := heap_cell (i := 2) HZ1.out rfl
 have zp2 := heap_thaw HZ1.out 2
 have p3 := heap_cell (i := 3) HZ1.out rfl
 have zp3 := heap_thaw HZ1.out 3
 have p4 := heap_cell (i := 4) HZ1.out rfl
 have zp4 := heap_thaw HZ1.out 4
 have p5 := heap_cell (i := 5) HZ1.out rfl
 have zp5 := heap_thaw HZ1.out 5
 have p6 := heap_cell (i := 6) HZ1.out rfl
 have zp6 := heap_thaw HZ1.out 6
 go_wp2_with fail
 refine bodyPost_ret (v := .tuple #[.agg #[.int .i64 0, .string ⟨#[]⟩, .string ⟨#[]⟩, .slice none 0 0, .slice none 0 0, .slice none 0 0, .slice none 0 0], .int .i64 10]) (by simp [results, Tryz.results27, go_sem, p0, p1, p2, p3, p4, p5, p6]) rfl ?_
 exact pout_er (below_cells (Nat.le_refl _) [.int .i64 0, .string ⟨#[]⟩, .string ⟨#[]⟩, .slice none 0 0, .slice none 0 0, .slice none 0 0, .slice none 0 0] 0 _ HB1.out) HP.out
set_option maxHeartbeats 64000000 in
set_option maxRecDepth 100000 in
theorem rparse_main (v : Value) (l : Bs) (w : World) (h : Hid (RdB w v l)) (hl : ¬ 65536 < l.length) (hm : ¬ (l.length < 4 ∨ l.take 4 ≠ [82, 69, 71, 76])) :
  Calls Tryz.prog 27 #[v] w (POut (parP l) w) := by
 have HLOW := lhid (rdB_low h.out)
 have HP : Hid (parP l = filP l) := lhid (by unfold parP; rw [if_neg hl])
 have hg := magic_good hm
 have HTK := lhid hg.1
 have HTS := lhid hg.2
 have HMG := lhid hm
 have hq : ((tx [82, 69, 71, 76]).toList == [82, 69, 71, 76]) = true := by rw [tx_toList]; rfl
 clear hm hg
 generalize htk : tx [82, 69, 71, 76] = tk at hq
 have HD : Hid (DocS (tlR (.slice none 0 0) 0) w.heap.size ((w.alloc zC).alloc (.cells #[v, .int .i64 0, .bool false, .slice none 0 0, .int .i64 0] 94)) (w.heap.size + 1) v l (l, false)) := lhid (by
  have := docS_reader (B := w.heap.size) (w := w.alloc zC) (rdB_below h.out HLOW.out ((Below.refl w.heap.size w).alloc (Nat.le_refl _) zC)) HLOW.out (by simp)
  rwa [World.size_alloc] at this)
 have HB := lhid (((Below.refl w.heap.size w).alloc (Nat.le_refl _) zC).alloc (by simp) (.cells #[v, .int .i64 0, .bool false, .slice none 0 0, .int .i64 0] 94))
 have HZ := lhid (new_one w zC (.cells #[v, .int .i64 0, .bool false, .slice none 0 0, .int .i64 0] 94))
 obtain ⟨A, cap, rfl, hcap⟩ := rdB_form h.out
 have t : ¬ (65536 : Int) < l.length := by omega
 go_enter Tryz.func27, Tryz.ntmps27
 go_wp2_with fail
 with_reducible refine (refTake_any _ w.heap.size (w.heap.size + 1) _ l (l, false) 4 _ HD.out).mono ?_
 rintro e w1 ⟨rfl, hd, ho⟩
 rw [HTK.out, htk]
 rw [HTS.out] at hd
 have HB1 := lhid (HB.out.trans (ho.below (Nat.le_succ _) HB.out.size))
 have HD1 := lhid hd
 have HZ1 := lhid (Only.keep ho HZ.out (by omega))
 clear hd ho
 go_wp2_with fail
 with_reducible refine (refRead_both _ w.heap.size (w.heap.size + 1) _ l (l.drop 4, false) _ HD1).mono ?_
 rintro e w2 ⟨pA, pn, g, L, rfl, hd, ho, hpv, hgood, hlen⟩
 have HB2 := lhid (HB1.out.trans (ho.below (Nat.le_succ _) HB1.out.size))
 have HZ2 := lhid (Only.keep ho HZ1.out (by omega))
 obtain ⟨x, hx⟩ : ∃ x, poolX (l.drop 4, false) = x := ⟨_, rfl⟩
 obtain ⟨s2, hs2⟩ : ∃ s, poolS (l.drop 4, false) = s := ⟨_, rfl⟩
 rw [hx] at hpv
 rw [hs2] at hd
 have HX := lhid hx
 have HS2 := lhid hs2
 have HR2 := lhid (rf_begin (x := x) hd (fun h0 => (hpv h0).2) hgood hlen)
 have HL : Hid (x = 0 → L = poolL (l.drop 4, false)) := lhid fun h0 => (hpv h0).1
 have z3 := heap_thaw hd.doc 3
 have q3 := heap_cell (i := 3) hd.doc (app_at2 #[.slice A l.length cap, .int .i64 (l.length - s2.1.length : Nat), .bool s2.2] _ 0 _ rfl)
 have HQ4 := heap_set (i := 3) hd.doc (.slice pA pn pn)
 have z4 := heap_thaw HQ4 4
 have q4 := heap_cell (i := 4) hd.doc (app_at2 #[.slice A l.length cap, .int .i64 (l.length - s2.1.length : Nat), .bool s2.2] _ 1 _ rfl)
 have HB3 := lhid ((HB2.out.setCell (p := ⟨w.heap.size + 1, 3, none⟩) (Nat.le_succ _) (.slice pA pn pn)).setCell (p := ⟨w.heap.size + 1, 4, none⟩) (Nat.le_succ _) (.int .i64 x))
 clear hd ho hpv hgood hlen hs2 HD1 HD HTK HTS hq h HB HB1 HZ HZ1 HB2
 rw [hx]
 clear hx
 go_upto_region 7 with fail
 have HZ3 : Hid (((w2.setCell ⟨w.heap.size + 1, 3, none⟩ (.slice pA pn pn)).setCell ⟨w.heap.size + 1, 4, none⟩ (.int .i64 x)).heap[w.heap.size]? = some zC) := lhid ((Below.heap_setCell _ ⟨w.heap.size + 1, 4, none⟩ _ w.heap.size (by show w.heap.size ≠ w.heap.size + 1; omega)).trans ((Below.heap_setCell w2 ⟨w.heap.size + 1, 3, none⟩ (.slice pA pn pn) w.heap.size (by show w.heap.size ≠ w.heap.size + 1; omega)).trans HZ2.out))
 generalize ((w2.setCell ⟨w.heap.size + 1, 3, none⟩ (.slice pA pn pn)).setCell ⟨w.heap.size + 1, 4, none⟩ (.int .i64 x)) = w3 at *
 clear z3 q3 HQ4 z4 q4 HZ2
 obtain ⟨ρ, hρ⟩ : ∃ ρ : Rc, (⟨w.heap.size, w.heap.size + 1, g, .slice A l.length cap, .slice pA pn pn, l, L⟩ : Rc) = ρ := ⟨_, rfl⟩
 rw [hρ] at HR2
 have eM : ρ.M = w.heap.size + 1 := by rw [← hρ]
 have ePv : ρ.pv = .slice pA pn pn := by rw [← hρ]
 have hc3 := HR2.out.c3
 rw [ePv] at hc3
 rw [← eM]
 have EM := lhid eM
 have EP := lhid ePv
 clear eM ePv
 obtain ⟨⟨cf, t1⟩, hk1⟩ : ∃ p, rFlg 1536 (x, s2) = p := ⟨_, rfl⟩
 have HK1 := lhid hk1
 clear hk1
 go_cut [5] from 8 (fun p wc => ∃ X : Nat, p = .pointer (some ⟨X, 0, none⟩) ∧ w.heap.size + 2 ≤ X ∧ Hid (wc.heap[X]? = some (.cells #[.int .i64 cf, .string ⟨#[]⟩, .string ⟨#[]⟩, .slice none 0 0, .slice pA pn pn, .slice none 0 0, .slice none 0 0] 27 (0, 0))) ∧ Hid (Rf ρ t1 wc) ∧ Hid (Below w.heap.size w wc) ∧ Hid (wc.heap[w.heap.size]? = some zC))
 case first =>
  have HRa : Hid (Rf ρ (x, s2) w3.drew) := lhid (HR2.out.drewN 1)
  have HXb : Hid ((w3.alloc zC).drew.heap[w3.heap.size]? = some zC) := lhid (heap_alloc_new w3 zC)
  have HXM : Hid (w3.heap.size ≠ ρ.M) := lhid (Nat.ne_of_gt HR2.out.lt)
  have HRb : Hid (Rf ρ (x, s2) (w3.alloc zC).drew) := lhid ((HR2.out.alloc zC).drewN 1)
  go_region_held3 (fun w' => w'.cell? ⟨ρ.M, 3, none⟩ = some (.slice pA pn pn)) (go_keep)
   (first
    | ((with_reducible refine (rflags_any ρ (x, s2) 1536 1536 (by decide) _ HRa (lhid rfl)).mono ?_); rintro e w5 ⟨rfl, hr, ho⟩; have c3 := hr.c3; rw [EP.out] at c3; have hlt := hr.lt; have n1 : ¬ (w5.heap.size = ρ.M) := Nat.ne_of_gt hlt; have n2 : ¬ (ρ.M = w5.heap.size) := Nat.ne_of_lt hlt)
    | ((with_reducible refine (rflags_any ρ (x, s2) 1536 1536 (by decide) _ HRb (lhid rfl)).mono ?_); rintro e w5 ⟨rfl, hr, ho⟩; have c3 := hr.c3; rw [EP.out] at c3; have hx5 := Only.keep ho HXb.out HXM.out; have n1 : ¬ (w3.heap.size = ρ.M) := HXM.out; have n2 : ¬ (ρ.M = w3.heap.size) := fun e => HXM.out e.symm; have y0 := heap_cell (i := 0) hx5 rfl; have yz0 := heap_thaw hx5 0; have y1 := heap_cell (i := 1) hx5 rfl; have yz1 := heap_thaw hx5 1; have y2 := heap_cell (i := 2) hx5 rfl; have yz2 := heap_thaw hx5 2; have y3 := heap_cell (i := 3) hx5 rfl; have yz3 := heap_thaw hx5 3; have y4 := heap_cell (i := 4) hx5 rfl; have yz4 := heap_thaw hx5 4; have y5 := heap_cell (i := 5) hx5 rfl; have yz5 := heap_thaw hx5 5; have y6 := heap_cell (i := 6) hx5 rfl; have yz6 := heap_thaw hx5 6))
  ·rw [HK1.out] at hr
   have HB5 := lhid ((Below.drewN' HB3.out 1).trans (ho.below (by rw [EM.out]; omega) HB3.out.size))
   have HZ5 := lhid (Only.keep ho HZ3.out (by rw [EM.out]; omega))
   have hlt5 := hr.lt
   rw [EM.out] at hlt5
   go_wp2_with fail
   try rw [HK1.out]
   go_meet
   case rel => exact ⟨w5.heap.size, rfl, by omega, lhid (heap_alloc_new w5 _), lhid (hr.alloc _), lhid (HB5.out.alloc HB5.out.size _), lhid ((Below.heap_alloc w5 _ _ (heap_lt HZ5.out)).trans HZ5.out)⟩
  ·rw [HK1.out] at hr
   have HB5 := lhid ((Below.drewN' (HB3.out.alloc HB3.out.size zC) 1).trans (ho.below (by rw [EM.out]; omega) (by simp; exact Nat.le_succ_of_le HB3.out.size)))
   have HZ5 := lhid (Only.keep ho ((Below.heap_alloc w3 zC _ (heap_lt HZ3.out)).trans HZ3.out) (by rw [EM.out]; omega))
   have hlt3 := HR2.out.lt
   rw [EM.out] at hlt3
   go_wp2_with fail
   try rw [HK1.out]
   go_meet
   case rel => exact ⟨w3.heap.size, rfl, by omega, lhid (heap_set (i := 6) (heap_set (i := 5) (heap_set (i := 4) (heap_set (i := 3) (heap_set (i := 2) (heap_set (i := 1) (heap_set (i := 0) hx5 _) _) _) _) _) _) _), lhid (rf_cells (t := 27) (by decide) (by rw [← hρ]; show w.heap.size ≤ w3.heap.size; omega) [.int .i64 cf, .string ⟨#[]⟩, .string ⟨#[]⟩, .slice none 0 0, .slice pA pn pn, .slice none 0 0, .slice none 0 0] 0 _ ⟨_, _, hx5⟩ hr), lhid (below_cells (by omega) [.int .i64 cf, .string ⟨#[]⟩, .string ⟨#[]⟩, .slice none 0 0, .slice pA pn pn, .slice none 0 0, .slice none 0 0] 0 _ HB5.out), lhid ((cells_other (by omega) [.int .i64 cf, .string ⟨#[]⟩, .string ⟨#[]⟩, .slice none 0 0, .slice pA pn pn, .slice none 0 0, .slice none 0 0] 0 w5).trans HZ5.out)⟩
 case rest =>
  obtain ⟨X, rfl, hXge, HX3, HR3, HB3, HZ3⟩ := hcut
  generalize wc = w4 at *
  have HXM : Hid (X ≠ ρ.M) := lhid (by rw [EM.out]; omega)
  have HXw : Hid (w.heap.size ≤ X) := lhid (by omega)
  have HZX : Hid (w.heap.size ≠ X) := lhid (by omega)
  have HZM : Hid (w.heap.size ≠ ρ.M) := lhid (by rw [EM.out]; omega)
  have HMw : Hid (w.heap.size ≤ ρ.M) := lhid (by rw [EM.out]; omega)
  have HXB : Hid (ρ.B ≤ X) := lhid (by rw [← hρ]; exact HXw.out)
  have HρB : Hid (ρ.B = w.heap.size) := lhid (by rw [← hρ])
  have HρL : Hid (ρ.L = L) := lhid (by rw [← hρ])
  have HRHO := lhid hρ
  clear hρ hXge hc3
  obtain ⟨t2, ht2⟩ : ∃ t, (if cf = 512 then wrS 22 t1 else t1) = t := ⟨_, rfl⟩
  have HK2 := lhid ht2
  clear ht2
  have y0 := heap_cell (i := 0) HX3.out rfl
  go_upto_if 47 with fail
  go_cut [] from 11 (fun wc => Hid (wc.heap[X]? = some (.cells #[.int .i64 cf, .string ⟨#[]⟩, .string ⟨#[]⟩, .slice none 0 0, .slice pA pn pn, .slice none 0 0, .slice none 0 0] 27 (0, 0))) ∧ Hid (Rf ρ t2 wc) ∧ Hid (Below w.heap.size w wc) ∧ Hid (wc.heap[w.heap.size]? = some zC))
  case first =>
   by_cases h5 : cf = 512
   ·have t5 : ((cf : Int) == 512) = true := by rw [beq_iff_eq]; omega
    have hk2 := HK2.out
    rw [if_pos h5] at hk2
    have HW2 := lhid hk2
    clear h5 hk2
    go_wp2_with fail
    with_reducible refine (rwrong_any ρ t1 22 22 (by decide) _ HR3 (lhid rfl)).mono ?_
    rintro e w5 ⟨rfl, hr, ho⟩
    rw [HW2.out] at hr
    go_wp2_with fail
    go_meet
    case rel => exact ⟨lhid (Only.keep ho HX3.out HXM.out), lhid hr, lhid (HB3.out.trans (ho.below HMw.out HB3.out.size)), lhid (Only.keep ho HZ3.out HZM.out)⟩
   ·have t5 : ((cf : Int) == 512) = false := by rw [beq_eq_false_iff_ne]; omega
    have hk2 := HK2.out
    rw [if_neg h5] at hk2
    subst hk2
    clear h5
    go_wp2_with fail
    go_meet
    case rel => exact ⟨HX3, HR3, HB3, HZ3⟩
  case rest =>
   obtain ⟨HXa, HRa, HBa, HZa⟩ := hcut
   clear HX3 HR3 HB3 HZ3 y0
   generalize wc = wa at *
   obtain ⟨⟨nm, t3⟩, hk3⟩ : ∃ p, rCls ρ.L t2 = p := ⟨_, rfl⟩
   have Hk3 := lhid hk3
   clear hk3
   go_wp2_with fail
   with_reducible refine (rclass_any ρ t2 _ HRa).mono ?_
   rintro e wn1 ⟨rfl, hr, ho⟩
   rw [Hk3.out] at hr ⊢
   have HRn1 := lhid hr
   have HXn1 := lhid (Only.keep ho HXa.out HXM.out)
   have HZn1 := lhid (Only.keep ho HZa.out HZM.out)
   have HBn1 := lhid (HBa.out.trans (ho.below HMw.out HBa.out.size))
   have HSn1 := lhid (Rf.stay HRa.out ho)
   clear hr ho HSn1
   have qn2 := heap_cell (i := 1) HXn1.out rfl
   have zn2 := heap_thaw HXn1.out 1
   have HXn2 : Hid ((wn1.setCell ⟨X, 1, none⟩ (.string (tx nm))).heap[X]? = some (.cells #[.int .i64 cf, .string (tx nm), .string ⟨#[]⟩, .slice none 0 0, .slice pA pn pn, .slice none 0 0, .slice none 0 0] 27 (0, 0))) := lhid (heap_set HXn1.out _)
   have HZn2 := lhid ((Below.heap_setCell wn1 ⟨X, 1, none⟩ (.string (tx nm)) w.heap.size HZX.out).trans HZn1.out)
   have HRn2 := lhid (Rf.set HRn1.out (show Boxed _ _ 27 from ⟨_, _, HXn1.out⟩) (by decide) HXB.out 1 (.string (tx nm)))
   have HBn2 := lhid (HBn1.out.setCell (p := ⟨X, 1, none⟩) HXw.out (.string (tx nm)))
   obtain ⟨⟨sp, t4⟩, hk4⟩ : ∃ p, rCls ρ.L t3 = p := ⟨_, rfl⟩
   have Hk4 := lhid hk4
   clear hk4
   go_wp2_with fail
   with_reducible refine (rclass_any ρ t3 _ HRn2).mono ?_
   rintro e wn3 ⟨rfl, hr, ho⟩
   rw [Hk4.out] at hr ⊢
   have HRn3 := lhid hr
   have HXn3 := lhid (Only.keep ho HXn2.out HXM.out)
   have HZn3 := lhid (Only.keep ho HZn2.out HZM.out)
   have HBn3 := lhid (HBn2.out.trans (ho.below HMw.out HBn2.out.size))
   have HSn3 := lhid (Rf.stay HRn2.out ho)
   clear hr ho HSn3
   have qn4 := heap_cell (i := 2) HXn3.out rfl
   have zn4 := heap_thaw HXn3.out 2
   have HXn4 : Hid ((wn3.setCell ⟨X, 2, none⟩ (.string (tx sp))).heap[X]? = some (.cells #[.int .i64 cf, .string (tx nm), .string (tx sp), .slice none 0 0, .slice pA pn pn, .slice none 0 0, .slice none 0 0] 27 (0, 0))) := lhid (heap_set HXn3.out _)
   have HZn4 := lhid ((Below.heap_setCell wn3 ⟨X, 2, none⟩ (.string (tx sp)) w.heap.size HZX.out).trans HZn3.out)
   have HRn4 := lhid (Rf.set HRn3.out (show Boxed _ _ 27 from ⟨_, _, HXn3.out⟩) (by decide) HXB.out 2 (.string (tx sp)))
   have HBn4 := lhid (HBn3.out.setCell (p := ⟨X, 2, none⟩) HXw.out (.string (tx sp)))
   have hnle := rCnt_le 2 8 t4
   obtain ⟨⟨n, t5⟩, hk5⟩ : ∃ p, rCnt 2 8 t4 = p := ⟨_, rfl⟩
   have Hk5 := lhid hk5
   clear hk5
   rw [Hk5.out] at hnle
   have hnle2 : n ≤ 8 := hnle
   clear hnle
   go_wp2_with fail
   with_reducible refine (rcount_any ρ t4 2 8 2 8 _ HRn4 (by omega) (lhid rfl) (lhid rfl)).mono ?_
   rintro e wn5 ⟨rfl, hr, ho⟩
   rw [Hk5.out] at hr ⊢
   have HRn5 := lhid hr
   have HXn5 := lhid (Only.keep ho HXn4.out HXM.out)
   have HZn5 := lhid (Only.keep ho HZn4.out HZM.out)
   have HBn5 := lhid (HBn4.out.trans (ho.below HMw.out HBn4.out.size))
   have HSn5 := lhid (Rf.stay HRn4.out ho)
   clear hr ho HSn5
   obtain ⟨⟨is, t6⟩, hkL0⟩ : ∃ p, manyR (rCls ρ.L) n [] t5 = p := ⟨_, rfl⟩
   have HKL0 := lhid hkL0
   clear hkL0
   obtain ⟨i0, hi0, hz0, hz1, hz2⟩ := info_parts infoStr
   go_upto_block 0 with fail
   go_cut [] from 11 (fun wc => ∃ (A : Option Addr) (c : Nat) (xs : List Value), Hid (wc.heap[X]? = some (.cells #[.int .i64 cf, .string (tx nm), .string (tx sp), .slice A is.length c, .slice pA pn pn, .slice none 0 0, .slice none 0 0] 27 (0, 0))) ∧ Hid (wc.ownsRow w.heap.size 9 1 (.slice A is.length c) is.length xs) ∧ Hid (ListE (StrE wc) is xs) ∧ Hid (Rf ρ t6 wc) ∧ Hid (Below w.heap.size w wc) ∧ Hid (wc.heap[w.heap.size]? = some zC))
   case first =>
    go_wp2_with fail
    go_loopw [7] (fun i wr => ∃ (acc : List Bs) (σ' : Sg) (A2 : Option Addr) (c2 : Nat) (xs : List Value), i = .int .i64 acc.length ∧ acc.length ≤ n ∧ Hid (wr.heap[X]? = some (.cells #[.int .i64 cf, .string (tx nm), .string (tx sp), .slice A2 acc.length c2, .slice pA pn pn, .slice none 0 0, .slice none 0 0] 27 (0, 0))) ∧ Hid (wr.ownsRow w.heap.size 9 1 (.slice A2 acc.length c2) acc.length xs) ∧ Hid (ListE (StrE wr) acc xs) ∧ Hid (Rf ρ σ' wr) ∧ Hid (Below w.heap.size w wr) ∧ Hid (wr.heap[w.heap.size]? = some zC) ∧ Hid (manyR (rCls ρ.L) (n - acc.length) acc σ' = (is, t6))) (fun i _ => n - (intOf i).toNat)
    case atStart => exact ⟨[], _, none, 0, [], rfl, Nat.zero_le _, HXn5, lhid (World.ownsRow_nil _ _ _ _), lhid rfl, HRn5, HBn5, HZn5, HKL0⟩
    case round =>
     obtain ⟨acc, σ', A2, c2, xs, rfl, hle, HXr, HWr, HEr, HRr, HBr, HZr, HM⟩ := hrel
     clear HXn5 HRn5 HBn5 HZn5 HKL0
     have c4 := HRr.out.c4
     by_cases hlt : acc.length < n
     ·have hlt2 : (acc.length : Int) < n := by omega
      by_cases h0 : σ'.1 = 0
      ·have t0 : ((σ'.1 : Int) == 0) = true := by rw [h0]; rfl
       have H0 := lhid h0
       clear h0
       obtain ⟨⟨s, τ1⟩, hk⟩ : ∃ p, rCls ρ.L σ' = p := ⟨_, rfl⟩
       have HROW := lhid hk
       clear hk
       have H1C : Hid (∀ u ∈ ([.string (tx s)] : List Value), u.oneCell' = true) := lhid (by intro u hu; simp at hu; subst hu <;> simp [Value.oneCell'])
       have h63 : acc.length + 1 ≤ maxLen := by unfold maxLen; omega
       have hby : (acc.length + 1) * 16 ≤ 140737488355328 := by omega
       have xr := heap_cell (i := 3) HXr.out rfl
       have HRd : Hid (Rf ρ σ' wr.drew) := lhid (HRr.out.drewN 1)
       go_upto_region 16 with fail
       refine wp_region_any (by kernel_rfl) ?_
       try (change wpAny _ _ _ _ _ _ _ (World.drew _))
       refine wpAny_take (i := 0) (v := ?v0_1) rfl (by kernel_rfl) (by kernel_rfl) (by kernel_rfl) (fun _ _ _ h => h) (Or.inl ⟨by rfl, ?hy0_1⟩) ?rest0_1
       case hy0_1 => intro w; (first | (go_simp; done) | (go_simp; with_reducible rfl))
       refine wpAny_take (i := 2) (v := ?v2_2) rfl (by kernel_rfl) (by kernel_rfl) (by kernel_rfl) (fun _ _ _ h => h) (Or.inl ⟨by rfl, ?hy2_2⟩) ?rest2_2
       case hy2_2 => intro w; (first | (go_simp; done) | (go_simp; with_reducible rfl))
       refine wpAny_ready (rs := [1, 3]) (by kernel_rfl) (by simp) ?_
       refine AllReady.cons rfl (fun K hK => ?_) (AllReady.cons rfl (fun K hK => ?_) AllReady.nil)
       ·go_simp
        refine hK _ _ ?_
        clear hK K
        refine wpAny_ready (rs := [3]) (by kernel_rfl) (by simp) ?_
        refine AllReady.cons rfl (fun K hK => ?_) AllReady.nil
        go_simp
        with_reducible refine (rclass_any ρ σ' _ HRd).mono ?_
        rintro e w5 ⟨rfl, hr, ho⟩
        rw [HROW.out] at hr ⊢
        have HX5 := lhid (Only.keep ho HXr.out HXM.out)
        have HZ5 := lhid (Only.keep ho HZr.out HZM.out)
        have HB5 := lhid ((Below.drewN' HBr.out 1).trans (ho.below HMw.out HBr.out.size))
        have HS5 := lhid (Rf.stay HRd.out ho)
        have HW5 := lhid (own_stay HWr.out HS5.out (by decide))
        have x5 := heap_cell (i := 3) HX5.out rfl
        dsimp only
        refine hK _ _ ?_
        clear hK K
        refine wpAny_ready (rs := [4]) (by kernel_rfl) (by simp) ?_
        refine AllReady.cons rfl (fun K hK => ?_) AllReady.nil
        go_simp
        refine hK _ _ ?_
        clear hK K
        have HRa := lhid (hr.alloc (.cells #[.string (tx s)] 9 (0, 0)))
        have HXa : Hid ((w5.alloc (.cells #[.string (tx s)] 9 (0, 0))).heap[X]? = some (.cells #[.int .i64 cf, .string (tx nm), .string (tx sp), .slice A2 acc.length c2, .slice pA pn pn, .slice none 0 0, .slice none 0 0] 27 (0, 0))) := lhid ((Below.heap_alloc w5 (.cells #[.string (tx s)] 9 (0, 0)) _ (heap_lt HX5.out)).trans HX5.out)
        have HZa : Hid ((w5.alloc (.cells #[.string (tx s)] 9 (0, 0))).heap[w.heap.size]? = some zC) := lhid ((Below.heap_alloc w5 (.cells #[.string (tx s)] 9 (0, 0)) _ (heap_lt HZ5.out)).trans HZ5.out)
        have HWa := lhid (HW5.out.alloc (.cells #[.string (tx s)] 9 (0, 0)))
        have HBa := lhid (HB5.out.alloc HB5.out.size (.cells #[.string (tx s)] 9 (0, 0)))
        have HSa : Hid (Stay tC w5 (w5.alloc (.cells #[.string (tx s)] 9 (0, 0)))) := lhid ((Stay.refl tC w5).alloc (.cells #[.string (tx s)] 9 (0, 0)))
        have HNa : Hid ((w5.alloc (.cells #[.string (tx s)] 9 (0, 0))).heap[w5.heap.size]? = some (.cells #[.string (tx s)] 9 (0, 0))) := lhid (heap_alloc_new w5 (.cells #[.string (tx s)] 9 (0, 0)))
        have xa := heap_cell (i := 3) HXa.out rfl
        refine wpAny_ready (rs := [5]) (by kernel_rfl) (by simp) ?_
        refine AllReady.cons rfl (fun K hK => ?_) AllReady.nil
        refine step_append_lies _ rfl (.tmp 71) (.tmp 74) 22 rfl w.heap.size 9 i0 (.string ⟨#[]⟩) 1 16 Tryz.underlying22 hi0 hz0 hz1 hz2 rfl (by decide) (.slice A2 acc.length c2) acc.length xs rfl HWa.out _ 1 _ [.string (tx s)] rfl rfl (World.news_of_block HNa.out) H1C.out (by decide) h63 hby HBa.out.size _ rfl ?_
        intro g cap w6 hown hgrow hat hlt6
        have hge := own_lt HWa.out
        have hX6 : w6.heap[X]? = some (.cells #[.int .i64 cf, .string (tx nm), .string (tx sp), .slice A2 acc.length c2, .slice pA pn pn, .slice none 0 0, .slice none 0 0] 27 (0, 0)) := (grown_stay (Ts := [27]) hgrow HWa.out (by decide)) X _ _ _ (by simp) HXa.out
        have q6 := heap_cell (i := 3) hX6 rfl
        have z6 := heap_thaw hX6 3
        refine hK _ _ ?_
        clear hK K
        refine wpAny_take (i := 6) (v := ?v6_3) rfl (by kernel_rfl) (by kernel_rfl) (by kernel_rfl) (fun _ _ _ h => h) (Or.inl ⟨by rfl, ?hy6_3⟩) ?rest6_3
        case hy6_3 => intro w; (first | (go_simp; done) | (go_simp; with_reducible rfl))
        refine wpAny_ready (rs := [7]) (by kernel_rfl) (by simp) ?_
        refine AllReady.cons rfl (fun K hK => ?_) AllReady.nil
        go_simp
        refine hK _ _ ?_
        clear hK K
        refine wpAny_done (by kernel_rfl) ?_ _
        have HXn : Hid ((w6.setCell ⟨X, 3, none⟩ (.slice (some ⟨g, 0, none⟩) (acc.length + 1) cap)).heap[X]? = some (.cells #[.int .i64 cf, .string (tx nm), .string (tx sp), .slice (some ⟨g, 0, none⟩) (acc.length + 1) cap, .slice pA pn pn, .slice none 0 0, .slice none 0 0] 27 (0, 0))) := lhid (heap_set hX6 _)
        have HWn : Hid ((w6.setCell ⟨X, 3, none⟩ (.slice (some ⟨g, 0, none⟩) (acc.length + 1) cap)).ownsRow w.heap.size 9 1 (.slice (some ⟨g, 0, none⟩) (acc.length + 1) cap) (acc.length + 1) (xs ++ [.string (tx s)])) := lhid (own_stay hown ((Stay.refl [9] w6).set (p := ⟨X, 3, none⟩) hX6 (by decide) _) (by simp))
        have HRn : Hid (Rf ρ τ1 (w6.setCell ⟨X, 3, none⟩ (.slice (some ⟨g, 0, none⟩) (acc.length + 1) cap))) := lhid (Rf.set (Rf.grown HRa.out hgrow (grown_stay hgrow HWa.out (by decide)) (fun k hk => by rw [HρB.out]; exact hge k hk)) (show Boxed _ _ 27 from ⟨_, _, hX6⟩) (by decide) HXB.out 3 _)
        have HBn : Hid (Below w.heap.size w (w6.setCell ⟨X, 3, none⟩ (.slice (some ⟨g, 0, none⟩) (acc.length + 1) cap))) := lhid ((HBa.out.trans (grown_below hgrow hge HBa.out.size)).setCell (p := ⟨X, 3, none⟩) HXw.out _)
        have HZn : Hid ((w6.setCell ⟨X, 3, none⟩ (.slice (some ⟨g, 0, none⟩) (acc.length + 1) cap)).heap[w.heap.size]? = some zC) := lhid ((Below.heap_setCell _ _ _ _ HZX.out).trans ((grown_stay (Ts := [27]) hgrow HWa.out (by decide)) w.heap.size _ _ _ (by simp) HZa.out))
        have HEn : Hid (ListE (StrE (w6.setCell ⟨X, 3, none⟩ (.slice (some ⟨g, 0, none⟩) (acc.length + 1) cap))) (acc ++ [s]) (xs ++ [.string (tx s)])) := lhid (ListE.snoc (E := StrE (w6.setCell ⟨X, 3, none⟩ (.slice (some ⟨g, 0, none⟩) (acc.length + 1) cap))) rfl (HEr.out.imp fun _ _ h => h))
        clear hown hgrow hat hge hlt6 hX6 q6 z6
        go_wp2
        go_roundw
        case rel =>
         have hlen : (acc ++ [s]).length = acc.length + 1 := by simp
         refine ⟨acc ++ [s], τ1, some ⟨g, 0, none⟩, cap, xs ++ [.string (tx s)], by simp, by omega, lhid (by rw [hlen]; exact HXn.out), lhid (by rw [hlen]; exact HWn.out), HEn, HRn, HBn, HZn, lhid ?_⟩
         rw [← HM.out, show n - acc.length = n - (acc ++ [s]).length + 1 by omega, manyR, if_neg (by rw [H0.out]; simp), HROW.out]
        case measure => simp [intOf]; omega
       ·go_simp
        with_reducible refine (rclass_any ρ σ' _ HRd).mono ?_
        rintro e w5 ⟨rfl, hr, ho⟩
        rw [HROW.out] at hr ⊢
        have HX5 := lhid (Only.keep ho HXr.out HXM.out)
        have HZ5 := lhid (Only.keep ho HZr.out HZM.out)
        have HB5 := lhid ((Below.drewN' HBr.out 1).trans (ho.below HMw.out HBr.out.size))
        have HS5 := lhid (Rf.stay HRd.out ho)
        have HW5 := lhid (own_stay HWr.out HS5.out (by decide))
        have x5 := heap_cell (i := 3) HX5.out rfl
        dsimp only
        refine hK _ _ ?_
        clear hK K
        refine wpAny_ready (rs := [1, 4]) (by kernel_rfl) (by simp) ?_
        refine AllReady.cons rfl (fun K hK => ?_) (AllReady.cons rfl (fun K hK => ?_) AllReady.nil)
        ·go_simp
         refine hK _ _ ?_
         clear hK K
         refine wpAny_ready (rs := [4]) (by kernel_rfl) (by simp) ?_
         refine AllReady.cons rfl (fun K hK => ?_) AllReady.nil
         go_simp
         refine hK _ _ ?_
         clear hK K
         have HRa := lhid (hr.alloc (.cells #[.string (tx s)] 9 (0, 0)))
         have HXa : Hid ((w5.alloc (.cells #[.string (tx s)] 9 (0, 0))).heap[X]? = some (.cells #[.int .i64 cf, .string (tx nm), .string (tx sp), .slice A2 acc.length c2, .slice pA pn pn, .slice none 0 0, .slice none 0 0] 27 (0, 0))) := lhid ((Below.heap_alloc w5 (.cells #[.string (tx s)] 9 (0, 0)) _ (heap_lt HX5.out)).trans HX5.out)
         have HZa : Hid ((w5.alloc (.cells #[.string (tx s)] 9 (0, 0))).heap[w.heap.size]? = some zC) := lhid ((Below.heap_alloc w5 (.cells #[.string (tx s)] 9 (0, 0)) _ (heap_lt HZ5.out)).trans HZ5.out)
         have HWa := lhid (HW5.out.alloc (.cells #[.string (tx s)] 9 (0, 0)))
         have HBa := lhid (HB5.out.alloc HB5.out.size (.cells #[.string (tx s)] 9 (0, 0)))
         have HSa : Hid (Stay tC w5 (w5.alloc (.cells #[.string (tx s)] 9 (0, 0)))) := lhid ((Stay.refl tC w5).alloc (.cells #[.string (tx s)] 9 (0, 0)))
         have HNa : Hid ((w5.alloc (.cells #[.string (tx s)] 9 (0, 0))).heap[w5.heap.size]? = some (.cells #[.string (tx s)] 9 (0, 0))) := lhid (heap_alloc_new w5 (.cells #[.string (tx s)] 9 (0, 0)))
         have xa := heap_cell (i := 3) HXa.out rfl
         refine wpAny_ready (rs := [5]) (by kernel_rfl) (by simp) ?_
         refine AllReady.cons rfl (fun K hK => ?_) AllReady.nil
         refine step_append_lies _ rfl (.tmp 71) (.tmp 74) 22 rfl w.heap.size 9 i0 (.string ⟨#[]⟩) 1 16 Tryz.underlying22 hi0 hz0 hz1 hz2 rfl (by decide) (.slice A2 acc.length c2) acc.length xs rfl HWa.out _ 1 _ [.string (tx s)] rfl rfl (World.news_of_block HNa.out) H1C.out (by decide) h63 hby HBa.out.size _ rfl ?_
         intro g cap w6 hown hgrow hat hlt6
         have hge := own_lt HWa.out
         have hX6 : w6.heap[X]? = some (.cells #[.int .i64 cf, .string (tx nm), .string (tx sp), .slice A2 acc.length c2, .slice pA pn pn, .slice none 0 0, .slice none 0 0] 27 (0, 0)) := (grown_stay (Ts := [27]) hgrow HWa.out (by decide)) X _ _ _ (by simp) HXa.out
         have q6 := heap_cell (i := 3) hX6 rfl
         have z6 := heap_thaw hX6 3
         refine hK _ _ ?_
         clear hK K
         refine wpAny_take (i := 6) (v := ?v6_4) rfl (by kernel_rfl) (by kernel_rfl) (by kernel_rfl) (fun _ _ _ h => h) (Or.inl ⟨by rfl, ?hy6_4⟩) ?rest6_4
         case hy6_4 => intro w; (first | (go_simp; done) | (go_simp; with_reducible rfl))
         refine wpAny_ready (rs := [7]) (by kernel_rfl) (by simp) ?_
         refine AllReady.cons rfl (fun K hK => ?_) AllReady.nil
         go_simp
         refine hK _ _ ?_
         clear hK K
         refine wpAny_done (by kernel_rfl) ?_ _
         have HXn : Hid ((w6.setCell ⟨X, 3, none⟩ (.slice (some ⟨g, 0, none⟩) (acc.length + 1) cap)).heap[X]? = some (.cells #[.int .i64 cf, .string (tx nm), .string (tx sp), .slice (some ⟨g, 0, none⟩) (acc.length + 1) cap, .slice pA pn pn, .slice none 0 0, .slice none 0 0] 27 (0, 0))) := lhid (heap_set hX6 _)
         have HWn : Hid ((w6.setCell ⟨X, 3, none⟩ (.slice (some ⟨g, 0, none⟩) (acc.length + 1) cap)).ownsRow w.heap.size 9 1 (.slice (some ⟨g, 0, none⟩) (acc.length + 1) cap) (acc.length + 1) (xs ++ [.string (tx s)])) := lhid (own_stay hown ((Stay.refl [9] w6).set (p := ⟨X, 3, none⟩) hX6 (by decide) _) (by simp))
         have HRn : Hid (Rf ρ τ1 (w6.setCell ⟨X, 3, none⟩ (.slice (some ⟨g, 0, none⟩) (acc.length + 1) cap))) := lhid (Rf.set (Rf.grown HRa.out hgrow (grown_stay hgrow HWa.out (by decide)) (fun k hk => by rw [HρB.out]; exact hge k hk)) (show Boxed _ _ 27 from ⟨_, _, hX6⟩) (by decide) HXB.out 3 _)
         have HBn : Hid (Below w.heap.size w (w6.setCell ⟨X, 3, none⟩ (.slice (some ⟨g, 0, none⟩) (acc.length + 1) cap))) := lhid ((HBa.out.trans (grown_below hgrow hge HBa.out.size)).setCell (p := ⟨X, 3, none⟩) HXw.out _)
         have HZn : Hid ((w6.setCell ⟨X, 3, none⟩ (.slice (some ⟨g, 0, none⟩) (acc.length + 1) cap)).heap[w.heap.size]? = some zC) := lhid ((Below.heap_setCell _ _ _ _ HZX.out).trans ((grown_stay (Ts := [27]) hgrow HWa.out (by decide)) w.heap.size _ _ _ (by simp) HZa.out))
         have HEn : Hid (ListE (StrE (w6.setCell ⟨X, 3, none⟩ (.slice (some ⟨g, 0, none⟩) (acc.length + 1) cap))) (acc ++ [s]) (xs ++ [.string (tx s)])) := lhid (ListE.snoc (E := StrE (w6.setCell ⟨X, 3, none⟩ (.slice (some ⟨g, 0, none⟩) (acc.length + 1) cap))) rfl (HEr.out.imp fun _ _ h => h))
         clear hown hgrow hat hge hlt6 hX6 q6 z6
         go_wp2
         go_roundw
         case rel =>
          have hlen : (acc ++ [s]).length = acc.length + 1 := by simp
          refine ⟨acc ++ [s], τ1, some ⟨g, 0, none⟩, cap, xs ++ [.string (tx s)], by simp, by omega, lhid (by rw [hlen]; exact HXn.out), lhid (by rw [hlen]; exact HWn.out), HEn, HRn, HBn, HZn, lhid ?_⟩
          rw [← HM.out, show n - acc.length = n - (acc ++ [s]).length + 1 by omega, manyR, if_neg (by rw [H0.out]; simp), HROW.out]
         case measure => simp [intOf]; omega
        ·go_simp
         refine hK _ _ ?_
         clear hK K
         have HRa := lhid (hr.alloc (.cells #[.string (tx s)] 9 (0, 0)))
         have HXa : Hid ((w5.alloc (.cells #[.string (tx s)] 9 (0, 0))).heap[X]? = some (.cells #[.int .i64 cf, .string (tx nm), .string (tx sp), .slice A2 acc.length c2, .slice pA pn pn, .slice none 0 0, .slice none 0 0] 27 (0, 0))) := lhid ((Below.heap_alloc w5 (.cells #[.string (tx s)] 9 (0, 0)) _ (heap_lt HX5.out)).trans HX5.out)
         have HZa : Hid ((w5.alloc (.cells #[.string (tx s)] 9 (0, 0))).heap[w.heap.size]? = some zC) := lhid ((Below.heap_alloc w5 (.cells #[.string (tx s)] 9 (0, 0)) _ (heap_lt HZ5.out)).trans HZ5.out)
         have HWa := lhid (HW5.out.alloc (.cells #[.string (tx s)] 9 (0, 0)))
         have HBa := lhid (HB5.out.alloc HB5.out.size (.cells #[.string (tx s)] 9 (0, 0)))
         have HSa : Hid (Stay tC w5 (w5.alloc (.cells #[.string (tx s)] 9 (0, 0)))) := lhid ((Stay.refl tC w5).alloc (.cells #[.string (tx s)] 9 (0, 0)))
         have HNa : Hid ((w5.alloc (.cells #[.string (tx s)] 9 (0, 0))).heap[w5.heap.size]? = some (.cells #[.string (tx s)] 9 (0, 0))) := lhid (heap_alloc_new w5 (.cells #[.string (tx s)] 9 (0, 0)))
         have xa := heap_cell (i := 3) HXa.out rfl
         refine wpAny_ready (rs := [1]) (by kernel_rfl) (by simp) ?_
         refine AllReady.cons rfl (fun K hK => ?_) AllReady.nil
         go_simp
         refine hK _ _ ?_
         clear hK K
         refine wpAny_ready (rs := [5]) (by kernel_rfl) (by simp) ?_
         refine AllReady.cons rfl (fun K hK => ?_) AllReady.nil
         refine step_append_lies _ rfl (.tmp 71) (.tmp 74) 22 rfl w.heap.size 9 i0 (.string ⟨#[]⟩) 1 16 Tryz.underlying22 hi0 hz0 hz1 hz2 rfl (by decide) (.slice A2 acc.length c2) acc.length xs rfl HWa.out _ 1 _ [.string (tx s)] rfl rfl (World.news_of_block HNa.out) H1C.out (by decide) h63 hby HBa.out.size _ rfl ?_
         intro g cap w6 hown hgrow hat hlt6
         have hge := own_lt HWa.out
         have hX6 : w6.heap[X]? = some (.cells #[.int .i64 cf, .string (tx nm), .string (tx sp), .slice A2 acc.length c2, .slice pA pn pn, .slice none 0 0, .slice none 0 0] 27 (0, 0)) := (grown_stay (Ts := [27]) hgrow HWa.out (by decide)) X _ _ _ (by simp) HXa.out
         have q6 := heap_cell (i := 3) hX6 rfl
         have z6 := heap_thaw hX6 3
         refine hK _ _ ?_
         clear hK K
         refine wpAny_take (i := 6) (v := ?v6_5) rfl (by kernel_rfl) (by kernel_rfl) (by kernel_rfl) (fun _ _ _ h => h) (Or.inl ⟨by rfl, ?hy6_5⟩) ?rest6_5
         case hy6_5 => intro w; (first | (go_simp; done) | (go_simp; with_reducible rfl))
         refine wpAny_ready (rs := [7]) (by kernel_rfl) (by simp) ?_
         refine AllReady.cons rfl (fun K hK => ?_) AllReady.nil
         go_simp
         refine hK _ _ ?_
         clear hK K
         refine wpAny_done (by kernel_rfl) ?_ _
         have HXn : Hid ((w6.setCell ⟨X, 3, none⟩ (.slice (some ⟨g, 0, none⟩) (acc.length + 1) cap)).heap[X]? = some (.cells #[.int .i64 cf, .string (tx nm), .string (tx sp), .slice (some ⟨g, 0, none⟩) (acc.length + 1) cap, .slice pA pn pn, .slice none 0 0, .slice none 0 0] 27 (0, 0))) := lhid (heap_set hX6 _)
         have HWn : Hid ((w6.setCell ⟨X, 3, none⟩ (.slice (some ⟨g, 0, none⟩) (acc.length + 1) cap)).ownsRow w.heap.size 9 1 (.slice (some ⟨g, 0, none⟩) (acc.length + 1) cap) (acc.length + 1) (xs ++ [.string (tx s)])) := lhid (own_stay hown ((Stay.refl [9] w6).set (p := ⟨X, 3, none⟩) hX6 (by decide) _) (by simp))
         have HRn : Hid (Rf ρ τ1 (w6.setCell ⟨X, 3, none⟩ (.slice (some ⟨g, 0, none⟩) (acc.length + 1) cap))) := lhid (Rf.set (Rf.grown HRa.out hgrow (grown_stay hgrow HWa.out (by decide)) (fun k hk => by rw [HρB.out]; exact hge k hk)) (show Boxed _ _ 27 from ⟨_, _, hX6⟩) (by decide) HXB.out 3 _)
         have HBn : Hid (Below w.heap.size w (w6.setCell ⟨X, 3, none⟩ (.slice (some ⟨g, 0, none⟩) (acc.length + 1) cap))) := lhid ((HBa.out.trans (grown_below hgrow hge HBa.out.size)).setCell (p := ⟨X, 3, none⟩) HXw.out _)
         have HZn : Hid ((w6.setCell ⟨X, 3, none⟩ (.slice (some ⟨g, 0, none⟩) (acc.length + 1) cap)).heap[w.heap.size]? = some zC) := lhid ((Below.heap_setCell _ _ _ _ HZX.out).trans ((grown_stay (Ts := [27]) hgrow HWa.out (by decide)) w.heap.size _ _ _ (by simp) HZa.out))
         have HEn : Hid (ListE (StrE (w6.setCell ⟨X, 3, none⟩ (.slice (some ⟨g, 0, none⟩) (acc.length + 1) cap))) (acc ++ [s]) (xs ++ [.string (tx s)])) := lhid (ListE.snoc (E := StrE (w6.setCell ⟨X, 3, none⟩ (.slice (some ⟨g, 0, none⟩) (acc.length + 1) cap))) rfl (HEr.out.imp fun _ _ h => h))
         clear hown hgrow hat hge hlt6 hX6 q6 z6
         go_wp2
         go_roundw
         case rel =>
          have hlen : (acc ++ [s]).length = acc.length + 1 := by simp
          refine ⟨acc ++ [s], τ1, some ⟨g, 0, none⟩, cap, xs ++ [.string (tx s)], by simp, by omega, lhid (by rw [hlen]; exact HXn.out), lhid (by rw [hlen]; exact HWn.out), HEn, HRn, HBn, HZn, lhid ?_⟩
          rw [← HM.out, show n - acc.length = n - (acc ++ [s]).length + 1 by omega, manyR, if_neg (by rw [H0.out]; simp), HROW.out]
         case measure => simp [intOf]; omega
      ·have t0 : ((σ'.1 : Int) == 0) = false := by rw [beq_eq_false_iff_ne]; omega
       have H0 := lhid h0
       clear h0
       have hm2 := HM.out
       rw [show n - acc.length = n - acc.length - 1 + 1 by omega, manyR, if_pos H0.out] at hm2
       injection hm2 with e1 e2
       subst e1 e2
       clear HM
       go_wp2_with fail
       go_meet
       case rel => exact ⟨_, _, _, HXr, HWr, HEr, HRr, HBr, HZr⟩
     ·have he : acc.length = n := by omega
      have hlt2 : ¬ (acc.length : Int) < n := by omega
      have hm2 := HM.out
      rw [he, Nat.sub_self] at hm2
      injection hm2 with e1 e2
      subst e1 e2
      clear HM he
      go_wp2_with fail
      go_meet
      case rel => exact ⟨_, _, _, HXr, HWr, HEr, HRr, HBr, HZr⟩
   case rest =>
    obtain ⟨iA, ic, xsI, HXb, HWb, HEb, HRb, HBb, HZb⟩ := hcut
    generalize wc = wb at *
    have HIb : Hid (StrsO wb (.slice iA is.length ic) is) := lhid ⟨xsI, own_base HWb.out (Nat.zero_le _), HEb.out⟩
    clear HWb HEb hi0 hz0 hz1 hz2
    have hnle := rCnt_le 2 60 t6
    obtain ⟨⟨n2, t7⟩, hk7⟩ : ∃ p, rCnt 2 60 t6 = p := ⟨_, rfl⟩
    have Hk7 := lhid hk7
    clear hk7
    rw [Hk7.out] at hnle
    have hnle3 : n2 ≤ 60 := hnle
    clear hnle
    go_wp2_with fail
    with_reducible refine (rcount_any ρ t6 2 60 2 60 _ HRb (by omega) (lhid rfl) (lhid rfl)).mono ?_
    rintro e wn6 ⟨rfl, hr, ho⟩
    rw [Hk7.out] at hr ⊢
    have HRn6 := lhid hr
    have HXn6 := lhid (Only.keep ho HXb.out HXM.out)
    have HZn6 := lhid (Only.keep ho HZb.out HZM.out)
    have HBn6 := lhid (HBb.out.trans (ho.below HMw.out HBb.out.size))
    have HSn6 := lhid (Rf.stay HRb.out ho)
    have HIn6 := lhid (strs_stay (by simp [tC, tM, tF]) HIb.out HSn6.out)
    clear hr ho HSn6
    obtain ⟨⟨fs, t8⟩, hkL2⟩ : ∃ p, manyR (rFld ρ.L cf) n2 [] t7 = p := ⟨_, rfl⟩
    have HKL2 := lhid hkL2
    clear hkL2
    obtain ⟨i0, hi0, hz0, hz1, hz2⟩ := info_parts infoFld
    go_upto_block 2 with fail
    go_cut [] from 11 (fun wc => ∃ (A : Option Addr) (c : Nat) (xs : List Value), Hid (wc.heap[X]? = some (.cells #[.int .i64 cf, .string (tx nm), .string (tx sp), .slice iA is.length ic, .slice pA pn pn, .slice A fs.length c, .slice none 0 0] 27 (0, 0))) ∧ Hid (wc.ownsRow w.heap.size 57 3 (.slice A fs.length c) fs.length xs) ∧ Hid (ListE (FldE wc) fs xs) ∧ Hid (Rf ρ t8 wc) ∧ Hid (Below w.heap.size w wc) ∧ Hid (wc.heap[w.heap.size]? = some zC) ∧ Hid (StrsO wc (.slice iA is.length ic) is))
    case first =>
     go_wp2_with fail
     go_loopw [8] (fun i wr => ∃ (acc : List Fld) (σ' : Sg) (A2 : Option Addr) (c2 : Nat) (xs : List Value), i = .int .i64 acc.length ∧ acc.length ≤ n2 ∧ Hid (wr.heap[X]? = some (.cells #[.int .i64 cf, .string (tx nm), .string (tx sp), .slice iA is.length ic, .slice pA pn pn, .slice A2 acc.length c2, .slice none 0 0] 27 (0, 0))) ∧ Hid (wr.ownsRow w.heap.size 57 3 (.slice A2 acc.length c2) acc.length xs) ∧ Hid (ListE (FldE wr) acc xs) ∧ Hid (Rf ρ σ' wr) ∧ Hid (Below w.heap.size w wr) ∧ Hid (wr.heap[w.heap.size]? = some zC) ∧ Hid (StrsO wr (.slice iA is.length ic) is) ∧ Hid (manyR (rFld ρ.L cf) (n2 - acc.length) acc σ' = (fs, t8))) (fun i _ => n2 - (intOf i).toNat)
     case atStart => exact ⟨[], _, none, 0, [], rfl, Nat.zero_le _, HXn6, lhid (World.ownsRow_nil _ _ _ _), lhid rfl, HRn6, HBn6, HZn6, HIn6, HKL2⟩
     case round =>
      obtain ⟨acc, σ', A2, c2, xs, rfl, hle, HXr, HWr, HEr, HRr, HBr, HZr, HIr, HM⟩ := hrel
      clear HXn6 HRn6 HBn6 HZn6 HKL2 HIn6
      have c4 := HRr.out.c4
      by_cases hlt : acc.length < n2
      ·have hlt2 : (acc.length : Int) < n2 := by omega
       by_cases h0 : σ'.1 = 0
       ·have t0 : ((σ'.1 : Int) == 0) = true := by rw [h0]; rfl
        have H0 := lhid h0
        clear h0
        obtain ⟨⟨fl, τ1⟩, hk⟩ : ∃ p, rFlg 8 σ' = p := ⟨_, rfl⟩
        obtain ⟨⟨m, τ2⟩, hkm⟩ : ∃ p, rMem ρ.L false τ1 = p := ⟨_, rfl⟩
        obtain ⟨τ3, hk3⟩ : ∃ t, rFldC cf fl τ2 = t := ⟨_, rfl⟩
        have HROW : Hid (rFld ρ.L cf σ' = (⟨fl, m.1, m.2⟩, τ3)) := lhid (by unfold rFld; rw [hk]; dsimp only; rw [hkm]; dsimp only; rw [hk3])
        have HKf := lhid hk
        have HKm := lhid hkm
        have HK3f := lhid hk3
        clear hk hkm hk3
        go_wp2_with fail
        with_reducible refine (rflags_any ρ σ' 8 8 (by decide) _ HRr (lhid rfl)).mono ?_
        rintro e w5 ⟨rfl, hr, ho⟩
        rw [HKf.out] at hr ⊢
        have HX5 := lhid (Only.keep ho HXr.out HXM.out)
        have HZ5 := lhid (Only.keep ho HZr.out HZM.out)
        have HB5 := lhid (HBr.out.trans (ho.below HMw.out HBr.out.size))
        have HS5 := lhid (Rf.stay HRr.out ho)
        have HW5 := lhid (own_stay HWr.out HS5.out (by decide))
        have HI5 := lhid (strs_stay (by simp [tC, tM, tF]) HIr.out HS5.out)
        have HR5 := lhid hr
        clear hr ho HS5
        go_wp2_with fail
        have HXy := lhid ((Below.heap_alloc w5 (.cells #[.int .i64 fl, .string ⟨#[]⟩, .string ⟨#[]⟩] 57 (0, 0)) _ (heap_lt HX5.out)).trans HX5.out)
        have HZy := lhid ((Below.heap_alloc w5 (.cells #[.int .i64 fl, .string ⟨#[]⟩, .string ⟨#[]⟩] 57 (0, 0)) _ (heap_lt HZ5.out)).trans HZ5.out)
        have HBy := lhid (HB5.out.alloc HB5.out.size (.cells #[.int .i64 fl, .string ⟨#[]⟩, .string ⟨#[]⟩] 57 (0, 0)))
        have HWy := lhid (HW5.out.alloc (.cells #[.int .i64 fl, .string ⟨#[]⟩, .string ⟨#[]⟩] 57 (0, 0)))
        have HIy := lhid (strs_alloc HI5.out (.cells #[.int .i64 fl, .string ⟨#[]⟩, .string ⟨#[]⟩] 57 (0, 0)))
        have HRy := lhid (HR5.out.alloc (.cells #[.int .i64 fl, .string ⟨#[]⟩, .string ⟨#[]⟩] 57 (0, 0)))
        have HYy := lhid (heap_alloc_new w5 (.cells #[.int .i64 fl, .string ⟨#[]⟩, .string ⟨#[]⟩] 57 (0, 0)))
        have HYM : Hid (w5.heap.size ≠ ρ.M) := lhid (Nat.ne_of_gt HR5.out.lt)
        have HXY : Hid (X ≠ w5.heap.size) := lhid (Nat.ne_of_lt (heap_lt HX5.out))
        have HZY : Hid (w.heap.size ≠ w5.heap.size) := lhid (Nat.ne_of_lt (heap_lt HZ5.out))
        have HYw : Hid (w.heap.size ≤ w5.heap.size) := lhid HB5.out.size
        have HYB : Hid (ρ.B ≤ w5.heap.size) := lhid (by rw [HρB.out]; exact HYw.out)
        have HYo : Hid (∀ g, (.slice A2 acc.length c2 : Value).ownBlock = some g → g ≠ w5.heap.size) := lhid fun g hg => Nat.ne_of_lt (HW5.out.lt g hg).2
        clear HX5 HZ5 HB5 HW5 HI5 HR5
        generalize w5.alloc (.cells #[.int .i64 fl, .string ⟨#[]⟩, .string ⟨#[]⟩] 57 (0, 0)) = wy at *
        generalize w5.heap.size = Y at *
        with_reducible refine (rmember_any false ρ τ1 _ HRy).mono ?_
        rintro e w7 ⟨rfl, hr, ho⟩
        rw [HKm.out] at hr ⊢
        have HX7 := lhid (Only.keep ho HXy.out HXM.out)
        have HZ7 := lhid (Only.keep ho HZy.out HZM.out)
        have HB7 := lhid (HBy.out.trans (ho.below HMw.out HBy.out.size))
        have HS7 := lhid (Rf.stay HRy.out ho)
        have HW7 := lhid (own_stay HWy.out HS7.out (by decide))
        have HI7 := lhid (strs_stay (by simp [tC, tM, tF]) HIy.out HS7.out)
        have HR7 := lhid hr
        have HY7 := lhid (Only.keep ho HYy.out HYM.out)
        clear hr ho HS7
        have q1 := heap_cell (i := 1) HY7.out rfl
        have z1 := heap_thaw HY7.out 1
        have HYs : Hid ((w7.setCell ⟨Y, 1, none⟩ (.string (tx m.1))).heap[Y]? = some (.cells #[.int .i64 fl, .string (tx m.1), .string ⟨#[]⟩] 57 (0, 0))) := lhid (heap_set HY7.out _)
        have q2 := heap_cell (i := 2) HYs.out rfl
        have z2 := heap_thaw HYs.out 2
        have HY8 : Hid (((w7.setCell ⟨Y, 1, none⟩ (.string (tx m.1))).setCell ⟨Y, 2, none⟩ (.string (tx m.2))).heap[Y]? = some (.cells #[.int .i64 fl, .string (tx m.1), .string (tx m.2)] 57 (0, 0))) := lhid (heap_set HYs.out _)
        have HR8 := lhid (Rf.set (Rf.set HR7.out (show Boxed _ _ 57 from ⟨_, _, HY7.out⟩) (by decide) HYB.out 1 (.string (tx m.1))) (show Boxed _ _ 57 from ⟨_, _, HYs.out⟩) (by decide) HYB.out 2 (.string (tx m.2)))
        have HX8 := lhid ((Below.heap_setCell (w7.setCell ⟨Y, 1, none⟩ (.string (tx m.1))) ⟨Y, 2, none⟩ (.string (tx m.2)) X HXY.out).trans ((Below.heap_setCell w7 ⟨Y, 1, none⟩ (.string (tx m.1)) X HXY.out).trans HX7.out))
        have HZ8 := lhid ((Below.heap_setCell (w7.setCell ⟨Y, 1, none⟩ (.string (tx m.1))) ⟨Y, 2, none⟩ (.string (tx m.2)) w.heap.size HZY.out).trans ((Below.heap_setCell w7 ⟨Y, 1, none⟩ (.string (tx m.1)) w.heap.size HZY.out).trans HZ7.out))
        have HB8 := lhid ((HB7.out.setCell (p := ⟨Y, 1, none⟩) HYw.out (.string (tx m.1))).setCell (p := ⟨Y, 2, none⟩) HYw.out (.string (tx m.2)))
        have HW8 := lhid (own_far (own_far HW7.out (w' := (w7.setCell ⟨Y, 1, none⟩ (.string (tx m.1)))) fun g hg => Below.heap_setCell _ _ _ _ (HYo.out g hg)) (w' := ((w7.setCell ⟨Y, 1, none⟩ (.string (tx m.1))).setCell ⟨Y, 2, none⟩ (.string (tx m.2)))) fun g hg => Below.heap_setCell _ _ _ _ (HYo.out g hg))
        have HI8 := lhid (strs_set (strs_set HI7.out (show Boxed _ _ 57 from ⟨_, _, HY7.out⟩) (by decide) 1 (.string (tx m.1))) (show Boxed _ _ 57 from ⟨_, _, HYs.out⟩) (by decide) 2 (.string (tx m.2)))
        go_upto_region 23 with fail
        clear q1 z1 q2 z2 HYs HX7 HZ7 HB7 HW7 HI7 HR7 HY7
        generalize ((w7.setCell ⟨Y, 1, none⟩ (.string (tx m.1))).setCell ⟨Y, 2, none⟩ (.string (tx m.2))) = w8 at *
        have y0 := heap_cell (i := 0) HY8.out rfl
        have x0 := heap_cell (i := 0) HX8.out rfl
        by_cases h5 : cf = 1536
        ·by_cases hf0 : fl = 0
         ·have t1 : ((cf : Int) == 1536) = true := by rw [beq_iff_eq]; omega
          have t2 : ((fl : Int) == 0) = true := by rw [beq_iff_eq]; omega
          have hk3 := HK3f.out
          unfold rFldC at hk3
          rw [if_pos (by omega)] at hk3
          clear h5 hf0
          have HW3 := lhid hk3
          clear hk3
          go_wp2_with fail
          with_reducible refine (rwrong_any ρ τ2 22 22 (by decide) _ HR8 (lhid rfl)).mono ?_
          rintro e w9 ⟨rfl, hr, ho⟩
          rw [HW3.out] at hr
          have HXz := lhid (Only.keep ho HX8.out HXM.out)
          have HZz := lhid (Only.keep ho HZ8.out HZM.out)
          have HBz := lhid (HB8.out.trans (ho.below HMw.out HB8.out.size))
          have HS9 := lhid (Rf.stay HR8.out ho)
          have HWz := lhid (own_stay HW8.out HS9.out (by decide))
          have HIz := lhid (strs_stay (by simp [tC, tM, tF]) HI8.out HS9.out)
          have HRz := lhid hr
          have HYz := lhid (Only.keep ho HY8.out HYM.out)
          clear hr ho HS9
          have wz9 : w9 = w9 := rfl
          clear wz9
          clear HX8 HZ8 HB8 HW8 HI8 HY8 HR8 y0 x0
          go_upto_region 25 with fail
          have y0 := heap_cell (i := 0) HYz.out rfl
          have y1 := heap_cell (i := 1) HYz.out rfl
          have y2 := heap_cell (i := 2) HYz.out rfl
          have x5 := heap_cell (i := 5) HXz.out rfl
          have HXa := lhid ((Below.heap_alloc w9 (.cells #[.int .i64 fl, .string (tx m.1), .string (tx m.2)] 57) _ (heap_lt HXz.out)).trans HXz.out)
          have HZa := lhid ((Below.heap_alloc w9 (.cells #[.int .i64 fl, .string (tx m.1), .string (tx m.2)] 57) _ (heap_lt HZz.out)).trans HZz.out)
          have HBa := lhid (HBz.out.alloc HBz.out.size (.cells #[.int .i64 fl, .string (tx m.1), .string (tx m.2)] 57))
          have HWa := lhid (HWz.out.alloc (.cells #[.int .i64 fl, .string (tx m.1), .string (tx m.2)] 57))
          have HIa := lhid (strs_alloc HIz.out (.cells #[.int .i64 fl, .string (tx m.1), .string (tx m.2)] 57))
          have HRa := lhid (HRz.out.alloc (.cells #[.int .i64 fl, .string (tx m.1), .string (tx m.2)] 57))
          have HNa : Hid ((w9.alloc (.cells #[.int .i64 fl, .string (tx m.1), .string (tx m.2)] 57)).heap[w9.heap.size]? = some (.cells #[.int .i64 fl, .string (tx m.1), .string (tx m.2)] 57)) := lhid (heap_alloc_new w9 (.cells #[.int .i64 fl, .string (tx m.1), .string (tx m.2)] 57))
          go_wp2_with (at_builtin; refine wpList_append_own _ rfl (.tmp 112) (.tmp 114) 24 rfl w.heap.size 57 i0 (.agg #[.int .i64 0, .string ⟨#[]⟩, .string ⟨#[]⟩]) 3 40 Tryz.underlying24 hi0 hz0 hz1 hz2 rfl (by decide) (.slice A2 acc.length c2) acc.length xs rfl HWa.out ⟨w9.heap.size, 0, none⟩ 1 1 [.int .i64 fl, .string (tx m.1), .string (tx m.2)] rfl rfl (World.news_of_block HNa.out) ?c2 ?c3 ?c4 HBa.out.size ?_)
          case c2 => intro u hu; simp at hu; rcases hu with rfl | rfl | rfl <;> simp [Value.oneCell']
          case c3 => unfold maxLen; omega
          case c4 => omega
          intro v' w6 hown hgrow _
          obtain ⟨A', c', rfl⟩ := own_shape hown
          have hge := own_lt HWa.out
          have hX6 : w6.heap[X]? = some (.cells #[.int .i64 cf, .string (tx nm), .string (tx sp), .slice iA is.length ic, .slice pA pn pn, .slice A2 acc.length c2, .slice none 0 0] 27 (0, 0)) := (grown_stay (Ts := [27]) hgrow HWa.out (by decide)) X _ _ _ (by simp) HXa.out
          have q6 := heap_cell (i := 5) hX6 rfl
          have z6 := heap_thaw hX6 5
          have HXn : Hid ((w6.setCell ⟨X, 5, none⟩ (.slice A' (acc.length + 1) c')).heap[X]? = some (.cells #[.int .i64 cf, .string (tx nm), .string (tx sp), .slice iA is.length ic, .slice pA pn pn, (.slice A' (acc.length + 1) c'), .slice none 0 0] 27 (0, 0))) := lhid (heap_set hX6 _)
          have HWn : Hid ((w6.setCell ⟨X, 5, none⟩ (.slice A' (acc.length + 1) c')).ownsRow w.heap.size 57 3 (.slice A' (acc.length + 1) c') (acc.length + 1) (xs ++ [.int .i64 fl, .string (tx m.1), .string (tx m.2)])) := lhid (own_stay hown ((Stay.refl [57] w6).set (p := ⟨X, 5, none⟩) hX6 (by decide) _) (by simp))
          have HRn : Hid (Rf ρ τ3 (w6.setCell ⟨X, 5, none⟩ (.slice A' (acc.length + 1) c'))) := lhid (Rf.set (Rf.grown HRa.out hgrow (grown_stay hgrow HWa.out (by decide)) (fun k hk => by rw [HρB.out]; exact hge k hk)) (show Boxed _ _ 27 from ⟨_, _, hX6⟩) (by decide) HXB.out 5 _)
          have HBn : Hid (Below w.heap.size w (w6.setCell ⟨X, 5, none⟩ (.slice A' (acc.length + 1) c'))) := lhid ((HBa.out.trans (grown_below hgrow hge HBa.out.size)).setCell (p := ⟨X, 5, none⟩) HXw.out _)
          have HZn : Hid ((w6.setCell ⟨X, 5, none⟩ (.slice A' (acc.length + 1) c')).heap[w.heap.size]? = some zC) := lhid ((Below.heap_setCell _ _ _ _ HZX.out).trans ((grown_stay (Ts := [27]) hgrow HWa.out (by decide)) w.heap.size _ _ _ (by simp) HZa.out))
          have HIn : Hid (StrsO (w6.setCell ⟨X, 5, none⟩ (.slice A' (acc.length + 1) c')) (.slice iA is.length ic) is) := lhid (strs_set (strs_stay (Ts := [9]) (by simp) HIa.out (grown_stay hgrow HWa.out (by decide))) (show Boxed _ _ 27 from ⟨_, _, hX6⟩) (by decide) 5 _)
          have HEn : Hid (ListE (FldE (w6.setCell ⟨X, 5, none⟩ (.slice A' (acc.length + 1) c'))) (acc ++ [(⟨fl, m.1, m.2⟩ : Fld)]) (xs ++ [.int .i64 fl, .string (tx m.1), .string (tx m.2)])) := lhid (ListE.snoc (E := FldE (w6.setCell ⟨X, 5, none⟩ (.slice A' (acc.length + 1) c'))) rfl (HEr.out.imp fun _ _ h => h))
          clear hown hgrow hge hX6
          go_wp2
          go_roundw
          case rel =>
           have hlen : (acc ++ [(⟨fl, m.1, m.2⟩ : Fld)]).length = acc.length + 1 := by simp
           refine ⟨acc ++ [(⟨fl, m.1, m.2⟩ : Fld)], τ3, A', c', xs ++ [.int .i64 fl, .string (tx m.1), .string (tx m.2)], by simp, by omega, lhid (by rw [hlen]; exact HXn.out), lhid (by rw [hlen]; exact HWn.out), HEn, HRn, HBn, HZn, HIn, lhid ?_⟩
           rw [← HM.out, show n2 - acc.length = n2 - (acc ++ [(⟨fl, m.1, m.2⟩ : Fld)]).length + 1 by omega, manyR, if_neg (by rw [H0.out]; simp), HROW.out]
          case measure => simp [intOf]; omega
         ·have t1 : ((cf : Int) == 1536) = true := by rw [beq_iff_eq]; omega
          have t2 : ((fl : Int) == 0) = false := by rw [beq_eq_false_iff_ne]; omega
          have hk3 := HK3f.out
          unfold rFldC at hk3
          rw [if_neg (by omega)] at hk3
          clear h5 hf0
          have HRq : Hid (Rf ρ τ3 w8) := lhid (by rw [← hk3]; exact HR8.out)
          clear hk3
          go_upto_region 25 with fail
          have HXz := HX8
          have HZz := HZ8
          have HBz := HB8
          have HWz := HW8
          have HIz := HI8
          have HYz := HY8
          have HRz := HRq
          clear HX8 HZ8 HB8 HW8 HI8 HY8 HR8 y0 x0
          have y0 := heap_cell (i := 0) HYz.out rfl
          have y1 := heap_cell (i := 1) HYz.out rfl
          have y2 := heap_cell (i := 2) HYz.out rfl
          have x5 := heap_cell (i := 5) HXz.out rfl
          have HXa := lhid ((Below.heap_alloc w8 (.cells #[.int .i64 fl, .string (tx m.1), .string (tx m.2)] 57) _ (heap_lt HXz.out)).trans HXz.out)
          have HZa := lhid ((Below.heap_alloc w8 (.cells #[.int .i64 fl, .string (tx m.1), .string (tx m.2)] 57) _ (heap_lt HZz.out)).trans HZz.out)
          have HBa := lhid (HBz.out.alloc HBz.out.size (.cells #[.int .i64 fl, .string (tx m.1), .string (tx m.2)] 57))
          have HWa := lhid (HWz.out.alloc (.cells #[.int .i64 fl, .string (tx m.1), .string (tx m.2)] 57))
          have HIa := lhid (strs_alloc HIz.out (.cells #[.int .i64 fl, .string (tx m.1), .string (tx m.2)] 57))
          have HRa := lhid (HRz.out.alloc (.cells #[.int .i64 fl, .string (tx m.1), .string (tx m.2)] 57))
          have HNa : Hid ((w8.alloc (.cells #[.int .i64 fl, .string (tx m.1), .string (tx m.2)] 57)).heap[w8.heap.size]? = some (.cells #[.int .i64 fl, .string (tx m.1), .string (tx m.2)] 57)) := lhid (heap_alloc_new w8 (.cells #[.int .i64 fl, .string (tx m.1), .string (tx m.2)] 57))
          go_wp2_with (at_builtin; refine wpList_append_own _ rfl (.tmp 112) (.tmp 114) 24 rfl w.heap.size 57 i0 (.agg #[.int .i64 0, .string ⟨#[]⟩, .string ⟨#[]⟩]) 3 40 Tryz.underlying24 hi0 hz0 hz1 hz2 rfl (by decide) (.slice A2 acc.length c2) acc.length xs rfl HWa.out ⟨w8.heap.size, 0, none⟩ 1 1 [.int .i64 fl, .string (tx m.1), .string (tx m.2)] rfl rfl (World.news_of_block HNa.out) ?c2 ?c3 ?c4 HBa.out.size ?_)
          case c2 => intro u hu; simp at hu; rcases hu with rfl | rfl | rfl <;> simp [Value.oneCell']
          case c3 => unfold maxLen; omega
          case c4 => omega
          intro v' w6 hown hgrow _
          obtain ⟨A', c', rfl⟩ := own_shape hown
          have hge := own_lt HWa.out
          have hX6 : w6.heap[X]? = some (.cells #[.int .i64 cf, .string (tx nm), .string (tx sp), .slice iA is.length ic, .slice pA pn pn, .slice A2 acc.length c2, .slice none 0 0] 27 (0, 0)) := (grown_stay (Ts := [27]) hgrow HWa.out (by decide)) X _ _ _ (by simp) HXa.out
          have q6 := heap_cell (i := 5) hX6 rfl
          have z6 := heap_thaw hX6 5
          have HXn : Hid ((w6.setCell ⟨X, 5, none⟩ (.slice A' (acc.length + 1) c')).heap[X]? = some (.cells #[.int .i64 cf, .string (tx nm), .string (tx sp), .slice iA is.length ic, .slice pA pn pn, (.slice A' (acc.length + 1) c'), .slice none 0 0] 27 (0, 0))) := lhid (heap_set hX6 _)
          have HWn : Hid ((w6.setCell ⟨X, 5, none⟩ (.slice A' (acc.length + 1) c')).ownsRow w.heap.size 57 3 (.slice A' (acc.length + 1) c') (acc.length + 1) (xs ++ [.int .i64 fl, .string (tx m.1), .string (tx m.2)])) := lhid (own_stay hown ((Stay.refl [57] w6).set (p := ⟨X, 5, none⟩) hX6 (by decide) _) (by simp))
          have HRn : Hid (Rf ρ τ3 (w6.setCell ⟨X, 5, none⟩ (.slice A' (acc.length + 1) c'))) := lhid (Rf.set (Rf.grown HRa.out hgrow (grown_stay hgrow HWa.out (by decide)) (fun k hk => by rw [HρB.out]; exact hge k hk)) (show Boxed _ _ 27 from ⟨_, _, hX6⟩) (by decide) HXB.out 5 _)
          have HBn : Hid (Below w.heap.size w (w6.setCell ⟨X, 5, none⟩ (.slice A' (acc.length + 1) c'))) := lhid ((HBa.out.trans (grown_below hgrow hge HBa.out.size)).setCell (p := ⟨X, 5, none⟩) HXw.out _)
          have HZn : Hid ((w6.setCell ⟨X, 5, none⟩ (.slice A' (acc.length + 1) c')).heap[w.heap.size]? = some zC) := lhid ((Below.heap_setCell _ _ _ _ HZX.out).trans ((grown_stay (Ts := [27]) hgrow HWa.out (by decide)) w.heap.size _ _ _ (by simp) HZa.out))
          have HIn : Hid (StrsO (w6.setCell ⟨X, 5, none⟩ (.slice A' (acc.length + 1) c')) (.slice iA is.length ic) is) := lhid (strs_set (strs_stay (Ts := [9]) (by simp) HIa.out (grown_stay hgrow HWa.out (by decide))) (show Boxed _ _ 27 from ⟨_, _, hX6⟩) (by decide) 5 _)
          have HEn : Hid (ListE (FldE (w6.setCell ⟨X, 5, none⟩ (.slice A' (acc.length + 1) c'))) (acc ++ [(⟨fl, m.1, m.2⟩ : Fld)]) (xs ++ [.int .i64 fl, .string (tx m.1), .string (tx m.2)])) := lhid (ListE.snoc (E := FldE (w6.setCell ⟨X, 5, none⟩ (.slice A' (acc.length + 1) c'))) rfl (HEr.out.imp fun _ _ h => h))
          clear hown hgrow hge hX6
          go_wp2
          go_roundw
          case rel =>
           have hlen : (acc ++ [(⟨fl, m.1, m.2⟩ : Fld)]).length = acc.length + 1 := by simp
           refine ⟨acc ++ [(⟨fl, m.1, m.2⟩ : Fld)], τ3, A', c', xs ++ [.int .i64 fl, .string (tx m.1), .string (tx m.2)], by simp, by omega, lhid (by rw [hlen]; exact HXn.out), lhid (by rw [hlen]; exact HWn.out), HEn, HRn, HBn, HZn, HIn, lhid ?_⟩
           rw [← HM.out, show n2 - acc.length = n2 - (acc ++ [(⟨fl, m.1, m.2⟩ : Fld)]).length + 1 by omega, manyR, if_neg (by rw [H0.out]; simp), HROW.out]
          case measure => simp [intOf]; omega
        ·have t1 : ((cf : Int) == 1536) = false := by rw [beq_eq_false_iff_ne]; omega
         have hk3 := HK3f.out
         unfold rFldC at hk3
         rw [if_neg (by omega)] at hk3
         clear h5
         have HRq : Hid (Rf ρ τ3 w8) := lhid (by rw [← hk3]; exact HR8.out)
         clear hk3
         go_upto_region 25 with fail
         have HXz := HX8
         have HZz := HZ8
         have HBz := HB8
         have HWz := HW8
         have HIz := HI8
         have HYz := HY8
         have HRz := HRq
         clear HX8 HZ8 HB8 HW8 HI8 HY8 HR8 y0 x0
         have y0 := heap_cell (i := 0) HYz.out rfl
         have y1 := heap_cell (i := 1) HYz.out rfl
         have y2 := heap_cell (i := 2) HYz.out rfl
         have x5 := heap_cell (i := 5) HXz.out rfl
         have HXa := lhid ((Below.heap_alloc w8 (.cells #[.int .i64 fl, .string (tx m.1), .string (tx m.2)] 57) _ (heap_lt HXz.out)).trans HXz.out)
         have HZa := lhid ((Below.heap_alloc w8 (.cells #[.int .i64 fl, .string (tx m.1), .string (tx m.2)] 57) _ (heap_lt HZz.out)).trans HZz.out)
         have HBa := lhid (HBz.out.alloc HBz.out.size (.cells #[.int .i64 fl, .string (tx m.1), .string (tx m.2)] 57))
         have HWa := lhid (HWz.out.alloc (.cells #[.int .i64 fl, .string (tx m.1), .string (tx m.2)] 57))
         have HIa := lhid (strs_alloc HIz.out (.cells #[.int .i64 fl, .string (tx m.1), .string (tx m.2)] 57))
         have HRa := lhid (HRz.out.alloc (.cells #[.int .i64 fl, .string (tx m.1), .string (tx m.2)] 57))
         have HNa : Hid ((w8.alloc (.cells #[.int .i64 fl, .string (tx m.1), .string (tx m.2)] 57)).heap[w8.heap.size]? = some (.cells #[.int .i64 fl, .string (tx m.1), .string (tx m.2)] 57)) := lhid (heap_alloc_new w8 (.cells #[.int .i64 fl, .string (tx m.1), .string (tx m.2)] 57))
         go_wp2_with (at_builtin; refine wpList_append_own _ rfl (.tmp 112) (.tmp 114) 24 rfl w.heap.size 57 i0 (.agg #[.int .i64 0, .string ⟨#[]⟩, .string ⟨#[]⟩]) 3 40 Tryz.underlying24 hi0 hz0 hz1 hz2 rfl (by decide) (.slice A2 acc.length c2) acc.length xs rfl HWa.out ⟨w8.heap.size, 0, none⟩ 1 1 [.int .i64 fl, .string (tx m.1), .string (tx m.2)] rfl rfl (World.news_of_block HNa.out) ?c2 ?c3 ?c4 HBa.out.size ?_)
         case c2 => intro u hu; simp at hu; rcases hu with rfl | rfl | rfl <;> simp [Value.oneCell']
         case c3 => unfold maxLen; omega
         case c4 => omega
         intro v' w6 hown hgrow _
         obtain ⟨A', c', rfl⟩ := own_shape hown
         have hge := own_lt HWa.out
         have hX6 : w6.heap[X]? = some (.cells #[.int .i64 cf, .string (tx nm), .string (tx sp), .slice iA is.length ic, .slice pA pn pn, .slice A2 acc.length c2, .slice none 0 0] 27 (0, 0)) := (grown_stay (Ts := [27]) hgrow HWa.out (by decide)) X _ _ _ (by simp) HXa.out
         have q6 := heap_cell (i := 5) hX6 rfl
         have z6 := heap_thaw hX6 5
         have HXn : Hid ((w6.setCell ⟨X, 5, none⟩ (.slice A' (acc.length + 1) c')).heap[X]? = some (.cells #[.int .i64 cf, .string (tx nm), .string (tx sp), .slice iA is.length ic, .slice pA pn pn, (.slice A' (acc.length + 1) c'), .slice none 0 0] 27 (0, 0))) := lhid (heap_set hX6 _)
         have HWn : Hid ((w6.setCell ⟨X, 5, none⟩ (.slice A' (acc.length + 1) c')).ownsRow w.heap.size 57 3 (.slice A' (acc.length + 1) c') (acc.length + 1) (xs ++ [.int .i64 fl, .string (tx m.1), .string (tx m.2)])) := lhid (own_stay hown ((Stay.refl [57] w6).set (p := ⟨X, 5, none⟩) hX6 (by decide) _) (by simp))
         have HRn : Hid (Rf ρ τ3 (w6.setCell ⟨X, 5, none⟩ (.slice A' (acc.length + 1) c'))) := lhid (Rf.set (Rf.grown HRa.out hgrow (grown_stay hgrow HWa.out (by decide)) (fun k hk => by rw [HρB.out]; exact hge k hk)) (show Boxed _ _ 27 from ⟨_, _, hX6⟩) (by decide) HXB.out 5 _)
         have HBn : Hid (Below w.heap.size w (w6.setCell ⟨X, 5, none⟩ (.slice A' (acc.length + 1) c'))) := lhid ((HBa.out.trans (grown_below hgrow hge HBa.out.size)).setCell (p := ⟨X, 5, none⟩) HXw.out _)
         have HZn : Hid ((w6.setCell ⟨X, 5, none⟩ (.slice A' (acc.length + 1) c')).heap[w.heap.size]? = some zC) := lhid ((Below.heap_setCell _ _ _ _ HZX.out).trans ((grown_stay (Ts := [27]) hgrow HWa.out (by decide)) w.heap.size _ _ _ (by simp) HZa.out))
         have HIn : Hid (StrsO (w6.setCell ⟨X, 5, none⟩ (.slice A' (acc.length + 1) c')) (.slice iA is.length ic) is) := lhid (strs_set (strs_stay (Ts := [9]) (by simp) HIa.out (grown_stay hgrow HWa.out (by decide))) (show Boxed _ _ 27 from ⟨_, _, hX6⟩) (by decide) 5 _)
         have HEn : Hid (ListE (FldE (w6.setCell ⟨X, 5, none⟩ (.slice A' (acc.length + 1) c'))) (acc ++ [(⟨fl, m.1, m.2⟩ : Fld)]) (xs ++ [.int .i64 fl, .string (tx m.1), .string (tx m.2)])) := lhid (ListE.snoc (E := FldE (w6.setCell ⟨X, 5, none⟩ (.slice A' (acc.length + 1) c'))) rfl (HEr.out.imp fun _ _ h => h))
         clear hown hgrow hge hX6
         go_wp2
         go_roundw
         case rel =>
          have hlen : (acc ++ [(⟨fl, m.1, m.2⟩ : Fld)]).length = acc.length + 1 := by simp
          refine ⟨acc ++ [(⟨fl, m.1, m.2⟩ : Fld)], τ3, A', c', xs ++ [.int .i64 fl, .string (tx m.1), .string (tx m.2)], by simp, by omega, lhid (by rw [hlen]; exact HXn.out), lhid (by rw [hlen]; exact HWn.out), HEn, HRn, HBn, HZn, HIn, lhid ?_⟩
          rw [← HM.out, show n2 - acc.length = n2 - (acc ++ [(⟨fl, m.1, m.2⟩ : Fld)]).length + 1 by omega, manyR, if_neg (by rw [H0.out]; simp), HROW.out]
         case measure => simp [intOf]; omega
       ·have t0 : ((σ'.1 : Int) == 0) = false := by rw [beq_eq_false_iff_ne]; omega
        have H0 := lhid h0
        clear h0
        have hm2 := HM.out
        rw [show n2 - acc.length = n2 - acc.length - 1 + 1 by omega, manyR, if_pos H0.out] at hm2
        injection hm2 with e1 e2
        subst e1 e2
        clear HM
        go_wp2_with fail
        go_meet
        case rel => exact ⟨_, _, _, HXr, HWr, HEr, HRr, HBr, HZr, HIr⟩
      ·have he : acc.length = n2 := by omega
       have hlt2 : ¬ (acc.length : Int) < n2 := by omega
       have hm2 := HM.out
       rw [he, Nat.sub_self] at hm2
       injection hm2 with e1 e2
       subst e1 e2
       clear HM he
       go_wp2_with fail
       go_meet
       case rel => exact ⟨_, _, _, HXr, HWr, HEr, HRr, HBr, HZr, HIr⟩
    case rest =>
     obtain ⟨fA, fc, xsF, HXc, HWc, HEc, HRc, HBc, HZc, HIc⟩ := hcut
     generalize wc = wd at *
     have HFc : Hid (FldsO wd (.slice fA fs.length fc) fs) := lhid ⟨xsF, own_base HWc.out (Nat.zero_le _), HEc.out⟩
     clear HWc HEc hi0 hz0 hz1 hz2
     have hnle := rCnt_le 2 60 t8
     obtain ⟨⟨n3, t9⟩, hk9⟩ : ∃ p, rCnt 2 60 t8 = p := ⟨_, rfl⟩
     have Hk9 := lhid hk9
     clear hk9
     rw [Hk9.out] at hnle
     have hnle4 : n3 ≤ 60 := hnle
     clear hnle
     go_wp2_with fail
     with_reducible refine (rcount_any ρ t8 2 60 2 60 _ HRc (by omega) (lhid rfl) (lhid rfl)).mono ?_
     rintro e wn7 ⟨rfl, hr, ho⟩
     rw [Hk9.out] at hr ⊢
     have HRn7 := lhid hr
     have HXn7 := lhid (Only.keep ho HXc.out HXM.out)
     have HZn7 := lhid (Only.keep ho HZc.out HZM.out)
     have HBn7 := lhid (HBc.out.trans (ho.below HMw.out HBc.out.size))
     have HSn7 := lhid (Rf.stay HRc.out ho)
     have HIn7 := lhid (strs_stay (by simp [tC, tM, tF]) HIc.out HSn7.out)
     have HFn7 := lhid (flds_stay (by simp [tC, tM, tF]) HFc.out HSn7.out)
     clear hr ho HSn7
     obtain ⟨⟨ms, tz⟩, hkL4⟩ : ∃ p, manyR (rMet ρ.L cf) n3 [] t9 = p := ⟨_, rfl⟩
     have HKL4 := lhid hkL4
     clear hkL4
     obtain ⟨i0, hi0, hz0, hz1, hz2⟩ := info_parts infoMet
     go_upto_block 4 with fail
     refine rparse_loop3 l w wn7 A cap ρ X cf nm sp is iA ic pA pn fs fA fc n3 t9 ms tz hnle4 HXM HXw HZX HZM HMw HXB HρB HXn7 HRn7 HBn7 HZn7 HIn7 HFn7 HKL4 _ _ _ _ _ _ _ _ _ _ _ _ _ _ _ _ _ _ _ _ _ _ _ _ _ _ _ _ _ _ _ _ _ _ _ _ _ _ _ _ _ _ _ _ _ _ _ _ _ _ _ _ _ _ _ _ _ _ _ _ _ _ _ _ _ _ _ _ _ _ _ _ _ _ _ _ _ _ _ _ _ _ _ _ _ _ _ _ _ _ _ _ _ _ _ _ _ _ _ _ _ _ _ _ _ _ _ _ _ _ _ _ _ _ _ _ _ _ _ _ _ _ _ _ _ _ _ _ _ _ _ _ _ _ _ _ _ _ _ _ _ _ _ _ _ _ _ _ _ _ _ _ _ _ _ _ _ _ _ _ _ _ _ _ _ _ _ _ _ _ _ _ (lhid fun wc v10 v11 v12 v13 v14 v15 v16 v17 v18 v19 v20 v21 v22 v23 v24 v25 v26 v27 v28 v29 v30 v31 v32 v33 v34 v35 v36 v37 v38 v39 v40 v41 v42 v43 v44 v45 v46 v47 v48 v49 v50 v51 v52 v53 v54 v55 v56 v57 v58 v59 v60 v61 v62 v63 v64 v65 v66 v67 v68 v69 v70 v71 v72 v73 v74 v75 v76 v77 v78 v79 v80 v81 v82 v83 v84 v85 v86 v87 v88 v89 v90 v91 v92 v93 v94 v95 v96 v97 v98 v99 v100 v101 v102 v103 v104 v105 v106 v107 v108 v109 v110 v111 v112 v113 v114 v115 v116 v117 v118 v119 v120 v121 v122 v123 v124 v125 v126 v127 v128 v129 v130 v131 v132 v133 v134 v135 v136 v137 v138 v139 v140 v141 v142 v143 v144 v145 v146 v147 v148 v149 v150 v151 v152 v153 v154 v155 v156 v157 v158 v159 v160 v161 v162 v163 v164 v165 v166 v167 v168 v169 v170 v171 v172 v173 v174 v175 v176 v177 v178 hcut => ?_)
     rename_i hKK
     refine hKK _ _ ?_
     obtain ⟨mA, mc, xsM, HXd, HWd, HEd, HRd, HBd, HZd, HId, HFd⟩ := hcut
     generalize wc = we at *
     have HMd : Hid (MetsO we (.slice mA ms.length mc) ms) := lhid ⟨xsM, own_base HWd.out (Nat.zero_le _), HEd.out⟩
     have hbeh : rBeh ρ.L (x, s2) = ((⟨cf, nm, sp, is, ρ.L, fs, ms⟩ : Cls), tz) := by simp only [rBeh, HK1.out, rB5, HK2.out, rB4, Hk3.out, rB3, Hk4.out, Hk5.out, rB2, HKL0.out, Hk7.out, rB1, HKL2.out, Hk9.out, HKL4.out]
     have hlink := par_link HMG.out HX.out HS2.out (fun h => HρL.out.trans (HL.out h)) hbeh
     have HLINK := lhid hlink
     have HBEH := lhid hbeh
     clear HWd HEd hi0 hz0 hz1 hz2 hbeh hlink
     have c4 := HRd.out.c4
     have c1 := HRd.out.c1
     have hLb : ρ.Lb = l := by rw [← HRHO.out]
     rw [hLb] at c1
     clear hLb
     by_cases h0 : tz.1 = 0
     ·have t0 : ((tz.1 : Int) == 0) = true := by rw [h0]; rfl
      have H0 := lhid h0
      rw [h0] at c4
      clear h0 t0
      by_cases hr0 : tz.2.1 = []
      ·have hLb : ρ.Lb = l := by rw [← HRHO.out]
       have t1 : ¬ ((l.length - tz.2.1.length : Nat) : Int) < l.length := by rw [hr0]; simp
       have HR0 := lhid hr0
       have hpg := par_good HX.out HS2.out (fun h => HρL.out.trans (HL.out h)) HBEH.out HRd.out.good HRd.out.small H0.out
       have HPG := lhid hpg.2
       have hpool := HRd.out.pool H0.out
       have hpv := EP.out.symm.trans hpool.1
       obtain ⟨rfl, rfl⟩ : pA = some ⟨ρ.g, 0, none⟩ ∧ pn = ρ.L.length := by injection hpv with e1 e2 _; exact ⟨e1, e2⟩
       have HGd := lhid hpool.2.1
       have HCV := lhid (cls_rd (w := we) HPG.out.small HId.out HGd.out HFd.out HMd.out)
       have htw := tw_link (⟨cf, nm, sp, is, ρ.L, fs, ms⟩ : Cls)
       clear hLb hr0 hpg hpool hpv
       have x0 := heap_cell (i := 0) HXd.out rfl
       have x1 := heap_cell (i := 1) HXd.out rfl
       have x2 := heap_cell (i := 2) HXd.out rfl
       have x3 := heap_cell (i := 3) HXd.out rfl
       have x4 := heap_cell (i := 4) HXd.out rfl
       have x5 := heap_cell (i := 5) HXd.out rfl
       have x6 := heap_cell (i := 6) HXd.out rfl
       go_wp2_with fail
       with_reducible refine (rtwice_any (clI (⟨cf, nm, sp, is, ρ.L, fs, ms⟩ : Cls)) _ _ HCV).mono ?_
       rintro e wf ⟨⟨r, rfl, hiff⟩, hb⟩
       have ho : Only ρ.M we wf := Below.only hb
       have HXf := lhid (Only.keep ho HXd.out HXM.out)
       have HZf := lhid (Only.keep ho HZd.out HZM.out)
       have HBf := lhid (HBd.out.trans (ho.below HMw.out HBd.out.size))
       have HSf : Hid (Stay tC we wf) := lhid (Stay.below hb)
       have HRf := lhid (HRd.out.turn (Stay.below hb) ⟨hb.os, hb.tape, hb.output, hb.size, fun k hk => hb.block k (Nat.lt_of_lt_of_le hk HRd.out.d.bw)⟩)
       have HIf := lhid (strs_stay (by simp [tC, tM, tF]) HId.out HSf.out)
       have HFf := lhid (flds_stay (by simp [tC, tM, tF]) HFd.out HSf.out)
       have HMf := lhid (mets_stay (fun _ h => h) HMd.out HSf.out)
       have hgl := HGd.out.lt
       have HGf := lhid (HGd.out.of_block (hb.block ρ.g hgl))
       have HGZ : Hid (ρ.g ≠ w.heap.size) := lhid (by
        rintro e
        obtain ⟨cc, hcc, _⟩ := HGd.out
        rw [e, HZd.out] at hcc
        injection hcc with hcc
        injection hcc with _ hcc _
        exact absurd hcc (by decide))
       have c4f := HRf.out.c4
       rw [H0.out] at c4f
       clear hb ho hgl c4 c1 x0 x1 x2 x3 x4 x5 x6
       cases r with
       | true =>
        have HT := lhid (htw.1 (hiff.1 rfl))
        have he : (rEnd (⟨cf, nm, sp, is, ρ.L, fs, ms⟩ : Cls) tz).1 = 23 := by
         exact rEnd_23 H0.out HR0.out HT.out
        have HE := lhid he
        have HW23 := lhid (wrS_new 23 H0.out)
        clear hiff htw he
        go_wp2_with fail
        with_reducible refine (rwrong_any ρ tz 23 23 (by decide) _ HRf (lhid rfl)).mono ?_
        rintro e wg ⟨rfl, hr, ho⟩
        rw [HW23.out] at hr
        have HZg := lhid (Only.keep ho HZf.out HZM.out)
        have HBg := lhid (HBf.out.trans (ho.below HMw.out HBf.out.size))
        have c4g : wg.cell? ⟨ρ.M, 4, none⟩ = some (.int .i64 23) := hr.c4
        clear hr ho c4f
        have p0 := heap_cell (i := 0) HZg.out rfl
        have zp0 := heap_thaw HZg.out 0
        have p1 := heap_cell (i := 1) HZg.out rfl
        have zp1 := heap_thaw HZg.out 1
        have p2 := heap_cell (i := 2) HZg.out rfl
        have zp2 := heap_thaw HZg.out 2
        have p3 := heap_cell (i := 3) HZg.out rfl
        have zp3 := heap_thaw HZg.out 3
        have p4 := heap_cell (i := 4) HZg.out rfl
        have zp4 := heap_thaw HZg.out 4
        have p5 := heap_cell (i := 5) HZg.out rfl
        have zp5 := heap_thaw HZg.out 5
        have p6 := heap_cell (i := 6) HZg.out rfl
        have zp6 := heap_thaw HZg.out 6
        have nz1 : ¬ (w.heap.size = ρ.M) := HZM.out
        have nz2 : ¬ (ρ.M = w.heap.size) := fun e => HZM.out e.symm
        go_upto_region 36 with fail
        refine wp_region_any (by kernel_rfl) ?_
        try (change wpAny _ _ _ _ _ _ _ (World.drew _))
        refine wpAny_take (i := 0) (v := ?v0_21) rfl (by kernel_rfl) (by kernel_rfl) (by kernel_rfl) (fun _ _ _ h => h) (Or.inl ⟨by rfl, ?hy0_21⟩) ?rest0_21
        case hy0_21 => intro w; (first | (go_simp; done) | (go_simp; with_reducible rfl))
        refine wpAny_take (i := 1) (v := ?v1_22) rfl (by kernel_rfl) (by kernel_rfl) (by kernel_rfl) (fun _ _ _ h => h) (Or.inl ⟨by rfl, ?hy1_22⟩) ?rest1_22
        case hy1_22 => intro w; (first | (go_simp; done) | (go_simp; with_reducible rfl))
        refine wpAny_take (i := 2) (v := ?v2_23) rfl (by kernel_rfl) (by kernel_rfl) (by kernel_rfl) (fun _ _ _ h => h) (Or.inl ⟨by rfl, ?hy2_23⟩) ?rest2_23
        case hy2_23 => intro w; (first | (go_simp; done) | (go_simp; with_reducible rfl))
        refine wpAny_take (i := 3) (v := ?v3_24) rfl (by kernel_rfl) (by kernel_rfl) (by kernel_rfl) (fun _ _ _ h => h) (Or.inl ⟨by rfl, ?hy3_24⟩) ?rest3_24
        case hy3_24 => intro w; (first | (go_simp; done) | (go_simp; with_reducible rfl))
        refine wpAny_ready (rs := [4, 5]) (by kernel_rfl) (by simp) ?_
        refine AllReady.cons rfl (fun K hK => ?_) (AllReady.cons rfl (fun K hK => ?_) AllReady.nil)
        ·go_simp
         refine hK _ _ ?_
         clear hK K
         refine wpAny_ready (rs := [5]) (by kernel_rfl) (by simp) ?_
         refine AllReady.cons rfl (fun K hK => ?_) AllReady.nil
         go_simp
         refine hK _ _ ?_
         clear hK K
         refine wpAny_ready (rs := [6]) (by kernel_rfl) (by simp) ?_
         refine AllReady.cons rfl (fun K hK => ?_) AllReady.nil
         go_simp
         refine hK _ _ ?_
         clear hK K
         refine wpAny_done (by kernel_rfl) ?_ _
         go_wp2_with fail
         refine bodyPost_ret (v := .tuple #[.agg #[.int .i64 0, .string ⟨#[]⟩, .string ⟨#[]⟩, .slice none 0 0, .slice none 0 0, .slice none 0 0, .slice none 0 0], .int .i64 23]) (by simp [results, Tryz.results27, go_sem, p0, p1, p2, p3, p4, p5, p6]) rfl ?_
         exact pout_er (Below.drew (below_cells (Nat.le_refl _) [.int .i64 0, .string ⟨#[]⟩, .string ⟨#[]⟩, .slice none 0 0, .slice none 0 0, .slice none 0 0, .slice none 0 0] 0 _ HBg.out)) (HP.out.trans (by rcases HLINK.out with ⟨r, h1, h2⟩ | ⟨h1, _⟩; exact absurd (HE.out.symm.trans h2) (by decide); rw [h1, HE.out]))
        ·go_simp
         refine hK _ _ ?_
         clear hK K
         refine wpAny_ready (rs := [4]) (by kernel_rfl) (by simp) ?_
         refine AllReady.cons rfl (fun K hK => ?_) AllReady.nil
         go_simp
         refine hK _ _ ?_
         clear hK K
         refine wpAny_ready (rs := [6]) (by kernel_rfl) (by simp) ?_
         refine AllReady.cons rfl (fun K hK => ?_) AllReady.nil
         go_simp
         refine hK _ _ ?_
         clear hK K
         refine wpAny_done (by kernel_rfl) ?_ _
         go_wp2_with fail
         refine bodyPost_ret (v := .tuple #[.agg #[.int .i64 0, .string ⟨#[]⟩, .string ⟨#[]⟩, .slice none 0 0, .slice none 0 0, .slice none 0 0, .slice none 0 0], .int .i64 23]) (by simp [results, Tryz.results27, go_sem, p0, p1, p2, p3, p4, p5, p6]) rfl ?_
         exact pout_er (Below.drew (below_cells (Nat.le_refl _) [.int .i64 0, .string ⟨#[]⟩, .string ⟨#[]⟩, .slice none 0 0, .slice none 0 0, .slice none 0 0, .slice none 0 0] 0 _ HBg.out)) (HP.out.trans (by rcases HLINK.out with ⟨r, h1, h2⟩ | ⟨h1, _⟩; exact absurd (HE.out.symm.trans h2) (by decide); rw [h1, HE.out]))
       | false =>
        have hnt : ¬ twC (⟨cf, nm, sp, is, ρ.L, fs, ms⟩ : Cls) = true := fun h => by have := hiff.2 (htw.2 h); cases this
        have he : (rEnd (⟨cf, nm, sp, is, ρ.L, fs, ms⟩ : Cls) tz).1 = 0 := by
         exact rEnd_0 H0.out HR0.out hnt
        have HE := lhid he
        clear hiff htw hnt he
        have x0 := heap_cell (i := 0) HXf.out rfl
        have x1 := heap_cell (i := 1) HXf.out rfl
        have x2 := heap_cell (i := 2) HXf.out rfl
        have x3 := heap_cell (i := 3) HXf.out rfl
        have x4 := heap_cell (i := 4) HXf.out rfl
        have x5 := heap_cell (i := 5) HXf.out rfl
        have x6 := heap_cell (i := 6) HXf.out rfl
        have p0 := heap_cell (i := 0) HZf.out rfl
        have zp0 := heap_thaw HZf.out 0
        have p1 := heap_cell (i := 1) HZf.out rfl
        have zp1 := heap_thaw HZf.out 1
        have p2 := heap_cell (i := 2) HZf.out rfl
        have zp2 := heap_thaw HZf.out 2
        have p3 := heap_cell (i := 3) HZf.out rfl
        have zp3 := heap_thaw HZf.out 3
        have p4 := heap_cell (i := 4) HZf.out rfl
        have zp4 := heap_thaw HZf.out 4
        have p5 := heap_cell (i := 5) HZf.out rfl
        have zp5 := heap_thaw HZf.out 5
        have p6 := heap_cell (i := 6) HZf.out rfl
        have zp6 := heap_thaw HZf.out 6
        go_wp2_with fail
        refine bodyPost_ret (v := .tuple #[.agg #[.int .i64 cf, .string (tx nm), .string (tx sp), .slice iA is.length ic, .slice (some ⟨ρ.g, 0, none⟩) ρ.L.length ρ.L.length, .slice fA fs.length fc, .slice mA ms.length mc], .int .i64 0]) (by simp [results, Tryz.results27, go_sem, p0, p1, p2, p3, p4, p5, p6]) rfl ?_
        rcases HLINK.out with ⟨r, h1, h2⟩ | ⟨h1, h2⟩
        case inr => exact absurd HE.out h2
        exact pout_ok (c := (⟨cf, nm, sp, is, ρ.L, fs, ms⟩ : Cls)) (r := r) (g := ρ.g) (below_cells (Nat.le_refl _) [.int .i64 cf, .string (tx nm), .string (tx sp), .slice iA is.length ic, .slice (some ⟨ρ.g, 0, none⟩) ρ.L.length ρ.L.length, .slice fA fs.length fc, .slice mA ms.length mc] 0 _ HBf.out) (HP.out.trans h1) ⟨_, _, _, rfl, strs_cells HIf.out ⟨_, _, HZf.out⟩ (by decide) [.int .i64 cf, .string (tx nm), .string (tx sp), .slice iA is.length ic, .slice (some ⟨ρ.g, 0, none⟩) ρ.L.length ρ.L.length, .slice fA fs.length fc, .slice mA ms.length mc] 0, rows_cells HGZ.out [.int .i64 cf, .string (tx nm), .string (tx sp), .slice iA is.length ic, .slice (some ⟨ρ.g, 0, none⟩) ρ.L.length ρ.L.length, .slice fA fs.length fc, .slice mA ms.length mc] 0 wf HGf.out, flds_cells HFf.out ⟨_, _, HZf.out⟩ (by decide) [.int .i64 cf, .string (tx nm), .string (tx sp), .slice iA is.length ic, .slice (some ⟨ρ.g, 0, none⟩) ρ.L.length ρ.L.length, .slice fA fs.length fc, .slice mA ms.length mc] 0, mets_cells HMf.out ⟨_, _, HZf.out⟩ (by decide) [.int .i64 cf, .string (tx nm), .string (tx sp), .slice iA is.length ic, .slice (some ⟨ρ.g, 0, none⟩) ρ.L.length ρ.L.length, .slice fA fs.length fc, .slice mA ms.length mc] 0⟩
      ·have hle := HRd.out.d.le
       have hpos : 0 < tz.2.1.length := List.length_pos_iff.2 hr0
       have hLb : ρ.Lb = l := by rw [← HRHO.out]
       rw [hLb] at hle
       have t1 : ((l.length - tz.2.1.length : Nat) : Int) < l.length := by omega
       have he : (rEnd (⟨cf, nm, sp, is, ρ.L, fs, ms⟩ : Cls) tz).1 = 11 := by
        exact rEnd_11 H0.out hr0
       have HE := lhid he
       have HW11 := lhid (wrS_new 11 H0.out)
       clear hle hpos hLb hr0 he
       go_wp2_with fail
       with_reducible refine (rwrong_any ρ tz 11 11 (by decide) _ HRd (lhid rfl)).mono ?_
       rintro e wf ⟨rfl, hr, ho⟩
       rw [HW11.out] at hr
       have HZf := lhid (Only.keep ho HZd.out HZM.out)
       have HBf := lhid (HBd.out.trans (ho.below HMw.out HBd.out.size))
       have c4f : wf.cell? ⟨ρ.M, 4, none⟩ = some (.int .i64 11) := hr.c4
       clear hr ho c4 c1
       have p0 := heap_cell (i := 0) HZf.out rfl
       have zp0 := heap_thaw HZf.out 0
       have p1 := heap_cell (i := 1) HZf.out rfl
       have zp1 := heap_thaw HZf.out 1
       have p2 := heap_cell (i := 2) HZf.out rfl
       have zp2 := heap_thaw HZf.out 2
       have p3 := heap_cell (i := 3) HZf.out rfl
       have zp3 := heap_thaw HZf.out 3
       have p4 := heap_cell (i := 4) HZf.out rfl
       have zp4 := heap_thaw HZf.out 4
       have p5 := heap_cell (i := 5) HZf.out rfl
       have zp5 := heap_thaw HZf.out 5
       have p6 := heap_cell (i := 6) HZf.out rfl
       have zp6 := heap_thaw HZf.out 6
       have nz1 : ¬ (w.heap.size = ρ.M) := HZM.out
       have nz2 : ¬ (ρ.M = w.heap.size) := fun e => HZM.out e.symm
       go_upto_region 36 with fail
       refine wp_region_any (by kernel_rfl) ?_
       try (change wpAny _ _ _ _ _ _ _ (World.drew _))
       refine wpAny_take (i := 0) (v := ?v0_17) rfl (by kernel_rfl) (by kernel_rfl) (by kernel_rfl) (fun _ _ _ h => h) (Or.inl ⟨by rfl, ?hy0_17⟩) ?rest0_17
       case hy0_17 => intro w; (first | (go_simp; done) | (go_simp; with_reducible rfl))
       refine wpAny_take (i := 1) (v := ?v1_18) rfl (by kernel_rfl) (by kernel_rfl) (by kernel_rfl) (fun _ _ _ h => h) (Or.inl ⟨by rfl, ?hy1_18⟩) ?rest1_18
       case hy1_18 => intro w; (first | (go_simp; done) | (go_simp; with_reducible rfl))
       refine wpAny_take (i := 2) (v := ?v2_19) rfl (by kernel_rfl) (by kernel_rfl) (by kernel_rfl) (fun _ _ _ h => h) (Or.inl ⟨by rfl, ?hy2_19⟩) ?rest2_19
       case hy2_19 => intro w; (first | (go_simp; done) | (go_simp; with_reducible rfl))
       refine wpAny_take (i := 3) (v := ?v3_20) rfl (by kernel_rfl) (by kernel_rfl) (by kernel_rfl) (fun _ _ _ h => h) (Or.inl ⟨by rfl, ?hy3_20⟩) ?rest3_20
       case hy3_20 => intro w; (first | (go_simp; done) | (go_simp; with_reducible rfl))
       refine wpAny_ready (rs := [4, 5]) (by kernel_rfl) (by simp) ?_
       refine AllReady.cons rfl (fun K hK => ?_) (AllReady.cons rfl (fun K hK => ?_) AllReady.nil)
       ·go_simp
        refine hK _ _ ?_
        clear hK K
        refine wpAny_ready (rs := [5]) (by kernel_rfl) (by simp) ?_
        refine AllReady.cons rfl (fun K hK => ?_) AllReady.nil
        go_simp
        refine hK _ _ ?_
        clear hK K
        refine wpAny_ready (rs := [6]) (by kernel_rfl) (by simp) ?_
        refine AllReady.cons rfl (fun K hK => ?_) AllReady.nil
        go_simp
        refine hK _ _ ?_
        clear hK K
        refine wpAny_done (by kernel_rfl) ?_ _
        go_wp2_with fail
        refine bodyPost_ret (v := .tuple #[.agg #[.int .i64 0, .string ⟨#[]⟩, .string ⟨#[]⟩, .slice none 0 0, .slice none 0 0, .slice none 0 0, .slice none 0 0], .int .i64 11]) (by simp [results, Tryz.results27, go_sem, p0, p1, p2, p3, p4, p5, p6]) rfl ?_
        exact pout_er (Below.drew (below_cells (Nat.le_refl _) [.int .i64 0, .string ⟨#[]⟩, .string ⟨#[]⟩, .slice none 0 0, .slice none 0 0, .slice none 0 0, .slice none 0 0] 0 _ HBf.out)) (HP.out.trans (by rcases HLINK.out with ⟨r, h1, h2⟩ | ⟨h1, _⟩; exact absurd (HE.out.symm.trans h2) (by decide); rw [h1, HE.out]))
       ·go_simp
        refine hK _ _ ?_
        clear hK K
        refine wpAny_ready (rs := [4]) (by kernel_rfl) (by simp) ?_
        refine AllReady.cons rfl (fun K hK => ?_) AllReady.nil
        go_simp
        refine hK _ _ ?_
        clear hK K
        refine wpAny_ready (rs := [6]) (by kernel_rfl) (by simp) ?_
        refine AllReady.cons rfl (fun K hK => ?_) AllReady.nil
        go_simp
        refine hK _ _ ?_
        clear hK K
        refine wpAny_done (by kernel_rfl) ?_ _
        go_wp2_with fail
        refine bodyPost_ret (v := .tuple #[.agg #[.int .i64 0, .string ⟨#[]⟩, .string ⟨#[]⟩, .slice none 0 0, .slice none 0 0, .slice none 0 0, .slice none 0 0], .int .i64 11]) (by simp [results, Tryz.results27, go_sem, p0, p1, p2, p3, p4, p5, p6]) rfl ?_
        exact pout_er (Below.drew (below_cells (Nat.le_refl _) [.int .i64 0, .string ⟨#[]⟩, .string ⟨#[]⟩, .slice none 0 0, .slice none 0 0, .slice none 0 0, .slice none 0 0] 0 _ HBf.out)) (HP.out.trans (by rcases HLINK.out with ⟨r, h1, h2⟩ | ⟨h1, _⟩; exact absurd (HE.out.symm.trans h2) (by decide); rw [h1, HE.out]))
     ·have t0 : ((tz.1 : Int) == 0) = false := by rw [beq_eq_false_iff_ne]; omega
      have t1 : ((tz.1 : Int) != 0) = true := by rw [bne_iff_ne]; omega
      have he : (rEnd (⟨cf, nm, sp, is, ρ.L, fs, ms⟩ : Cls) tz).1 = tz.1 := rEnd_stay h0
      have HE := lhid he
      have H0 := lhid h0
      clear h0 he
      have p0 := heap_cell (i := 0) HZd.out rfl
      have zp0 := heap_thaw HZd.out 0
      have p1 := heap_cell (i := 1) HZd.out rfl
      have zp1 := heap_thaw HZd.out 1
      have p2 := heap_cell (i := 2) HZd.out rfl
      have zp2 := heap_thaw HZd.out 2
      have p3 := heap_cell (i := 3) HZd.out rfl
      have zp3 := heap_thaw HZd.out 3
      have p4 := heap_cell (i := 4) HZd.out rfl
      have zp4 := heap_thaw HZd.out 4
      have p5 := heap_cell (i := 5) HZd.out rfl
      have zp5 := heap_thaw HZd.out 5
      have p6 := heap_cell (i := 6) HZd.out rfl
      have zp6 := heap_thaw HZd.out 6
      have nz1 : ¬ (w.heap.size = ρ.M) := HZM.out
      have nz2 : ¬ (ρ.M = w.heap.size) := fun e => HZM.out e.symm
      go_upto_region 36 with fail
      refine wp_region_any (by kernel_rfl) ?_
      try (change wpAny _ _ _ _ _ _ _ (World.drew _))
      refine wpAny_take (i := 0) (v := ?v0_13) rfl (by kernel_rfl) (by kernel_rfl) (by kernel_rfl) (fun _ _ _ h => h) (Or.inl ⟨by rfl, ?hy0_13⟩) ?rest0_13
      case hy0_13 => intro w; (first | (go_simp; done) | (go_simp; with_reducible rfl))
      refine wpAny_take (i := 1) (v := ?v1_14) rfl (by kernel_rfl) (by kernel_rfl) (by kernel_rfl) (fun _ _ _ h => h) (Or.inl ⟨by rfl, ?hy1_14⟩) ?rest1_14
      case hy1_14 => intro w; (first | (go_simp; done) | (go_simp; with_reducible rfl))
      refine wpAny_take (i := 2) (v := ?v2_15) rfl (by kernel_rfl) (by kernel_rfl) (by kernel_rfl) (fun _ _ _ h => h) (Or.inl ⟨by rfl, ?hy2_15⟩) ?rest2_15
      case hy2_15 => intro w; (first | (go_simp; done) | (go_simp; with_reducible rfl))
      refine wpAny_take (i := 3) (v := ?v3_16) rfl (by kernel_rfl) (by kernel_rfl) (by kernel_rfl) (fun _ _ _ h => h) (Or.inl ⟨by rfl, ?hy3_16⟩) ?rest3_16
      case hy3_16 => intro w; (first | (go_simp; done) | (go_simp; with_reducible rfl))
      refine wpAny_ready (rs := [4, 5]) (by kernel_rfl) (by simp) ?_
      refine AllReady.cons rfl (fun K hK => ?_) (AllReady.cons rfl (fun K hK => ?_) AllReady.nil)
      ·go_simp
       refine hK _ _ ?_
       clear hK K
       refine wpAny_ready (rs := [5]) (by kernel_rfl) (by simp) ?_
       refine AllReady.cons rfl (fun K hK => ?_) AllReady.nil
       go_simp
       refine hK _ _ ?_
       clear hK K
       refine wpAny_ready (rs := [6]) (by kernel_rfl) (by simp) ?_
       refine AllReady.cons rfl (fun K hK => ?_) AllReady.nil
       go_simp
       refine hK _ _ ?_
       clear hK K
       refine wpAny_done (by kernel_rfl) ?_ _
       go_wp2_with fail
       refine bodyPost_ret (v := .tuple #[.agg #[.int .i64 0, .string ⟨#[]⟩, .string ⟨#[]⟩, .slice none 0 0, .slice none 0 0, .slice none 0 0, .slice none 0 0], .int .i64 tz.1]) (by simp [results, Tryz.results27, go_sem, p0, p1, p2, p3, p4, p5, p6]) rfl ?_
       exact pout_er (Below.drew (below_cells (Nat.le_refl _) [.int .i64 0, .string ⟨#[]⟩, .string ⟨#[]⟩, .slice none 0 0, .slice none 0 0, .slice none 0 0, .slice none 0 0] 0 _ HBd.out)) (HP.out.trans (by rcases HLINK.out with ⟨r, h1, h2⟩ | ⟨h1, _⟩; exact absurd (HE.out.symm.trans h2) H0.out; rw [h1, HE.out]))
      ·go_simp
       refine hK _ _ ?_
       clear hK K
       refine wpAny_ready (rs := [4]) (by kernel_rfl) (by simp) ?_
       refine AllReady.cons rfl (fun K hK => ?_) AllReady.nil
       go_simp
       refine hK _ _ ?_
       clear hK K
       refine wpAny_ready (rs := [6]) (by kernel_rfl) (by simp) ?_
       refine AllReady.cons rfl (fun K hK => ?_) AllReady.nil
       go_simp
       refine hK _ _ ?_
       clear hK K
       refine wpAny_done (by kernel_rfl) ?_ _
       go_wp2_with fail
       refine bodyPost_ret (v := .tuple #[.agg #[.int .i64 0, .string ⟨#[]⟩, .string ⟨#[]⟩, .slice none 0 0, .slice none 0 0, .slice none 0 0, .slice none 0 0], .int .i64 tz.1]) (by simp [results, Tryz.results27, go_sem, p0, p1, p2, p3, p4, p5, p6]) rfl ?_
       exact pout_er (Below.drew (below_cells (Nat.le_refl _) [.int .i64 0, .string ⟨#[]⟩, .string ⟨#[]⟩, .slice none 0 0, .slice none 0 0, .slice none 0 0, .slice none 0 0] 0 _ HBd.out)) (HP.out.trans (by rcases HLINK.out with ⟨r, h1, h2⟩ | ⟨h1, _⟩; exact absurd (HE.out.symm.trans h2) H0.out; rw [h1, HE.out]))
theorem rparse_any (v : Value) (l : Bs) (w : World) (h : Hid (RdB w v l)) :
  Calls Tryz.prog 27 #[v] w (POut (parP l) w) := by
 by_cases hl : 65536 < l.length
 ·exact rparse_long v l w h hl
 ·by_cases hm : l.length < 4 ∨ l.take 4 ≠ [82, 69, 71, 76]
  ·exact rparse_magic v l w h hl hm
  ·exact rparse_main v l w h hl hm
end Go.Proofs.YtgihfcimngogfaaGreat
