/- The document's method and Same at any two: where they say true both are one. Written by gen_samew.py. -/
import Derived.Test.YtgihfcimngogfaaGreatJFileSame
namespace Go.Proofs.YtgihfcimngogfaaGreat
open Go.RowKit Go
set_option linter.unusedVariables false
def SImp (P : Prop) (w : World) (e : Ending) (w' : World) : Prop := (∃ r : Bool, e = .returned (.bool r) ∧ (r = true → P)) ∧ Below w.heap.size w w'
theorem simp_no {P : Prop} {w w' : World} (hb : Below w.heap.size w w') : SImp P w (.returned (.bool false)) w' := ⟨⟨false, rfl, fun h => by cases h⟩, hb⟩
theorem simp_yes {P : Prop} {w w' : World} (h : P) (hb : Below w.heap.size w w') : SImp P w (.returned (.bool true)) w' := ⟨⟨true, rfl, fun _ => h⟩, hb⟩
theorem int_neb {a b : Int} (h : ¬ a = b) : (a != b) = true := by rw [bne_iff_ne]; exact h
theorem tx_nes {a b : Bs} (h : ¬ a = b) : ((tx a).toList == (tx b).toList) = false := by rw [tx_toL, tx_toL, beq_eq_false_iff_ne]; exact h
theorem tx_inj {a b : Bs} (h : tx a = tx b) : a = b := by have := congrArg (fun x : ByteArray => x.toList) h; simpa [tx_toL] using this
theorem sameL_no (l m : List Bs) (va vb : Value) (w : World) (ha : Hid (RdL 1 StIE w va l)) (hb : Hid (RdL 1 StIE w vb m)) (hne : Hid (¬ l = m)) :
  Calls Tryz.prog 31 #[va, vb] w fun e w' => e = .returned (.bool false) ∧ ∃ n, w' = w.drewN n := by
 obtain ⟨A, ca, rfl⟩ := ha.out.shape
 obtain ⟨B, cb, rfl⟩ := hb.out.shape
 have hl := ha.out.len
 have hl2 := hb.out.len
 have h := same_any A B (l.map tx) (m.map tx) ca cb w (by rw [List.length_map]; omega) (by rw [List.length_map]; omega) (lhid (rdS_of ha.out)) (lhid (rdS_of hb.out))
 rw [List.length_map, List.length_map, decide_eq_false (fun e => hne.out (by
  have hinj : ∀ (l m : List Bs), l.map tx = m.map tx → l = m := fun l => by
   induction l with
   | nil => intro m h; cases m with
    | nil => rfl
    | cons b m => cases h
   | cons a l ih => intro m h; cases m with
    | nil => cases h
    | cons b m =>
     injection h with h1 h2
     rw [tx_inj h1, ih m h2]
  exact hinj l m e))] at h
 exact h
set_option maxHeartbeats 16000000 in
set_option maxRecDepth 100000 in
theorem smet_w (m n : MeI) (ca cb : List Value) (w : World) (ha : Hid (MeIE w m ca)) (hb : Hid (MeIE w n cb)) :
  Calls Tryz.prog 33 #[.agg ca.toArray, .agg cb.toArray] w (SImp (m = n) w) := by
 obtain ⟨fa, na, da, sa, la, cda, ra, qa⟩ := m
 obtain ⟨fb, nb, db, sb, lb, cdb, rb, qb⟩ := n
 obtain ⟨a1, a2, a3, rfl, h1, h2, h3⟩ := ha.out
 obtain ⟨b1, b2, b3, rfl, k1, k2, k3⟩ := hb.out
 obtain ⟨A1a, C1a, rfl⟩ := h1.shape
 obtain ⟨A2a, C2a, rfl⟩ := h2.shape
 obtain ⟨A3a, C3a, rfl⟩ := h3.shape
 obtain ⟨A1b, C1b, rfl⟩ := k1.shape
 obtain ⟨A2b, C2b, rfl⟩ := k2.shape
 obtain ⟨A3b, C3b, rfl⟩ := k3.shape
 have l2 := h2.len
 have l3 := h3.len
 have l4 := k2.len
 have l5 := k3.len
 simp only at h1 h2 h3 k1 k2 k3 l2 l3 l4 l5 ha hb ⊢
 clear ha hb
 by_cases e_f : fa = fb
 case neg =>
  have x_f := int_neb e_f
  go_enter Tryz.func33, Tryz.ntmps33
  go_wp2_with fail
  go_ret
  exact simp_no (((Below.refl w.heap.size w).alloc (Nat.le_refl _) _).alloc (by simp) _)
 subst e_f
 by_cases e_n : na = nb
 case neg =>
  have x_n := tx_nes e_n
  go_enter Tryz.func33, Tryz.ntmps33
  go_wp2_with fail
  go_ret
  exact simp_no (((Below.refl w.heap.size w).alloc (Nat.le_refl _) _).alloc (by simp) _)
 subst e_n
 by_cases e_d : da = db
 case neg =>
  have x_d := tx_nes e_d
  go_enter Tryz.func33, Tryz.ntmps33
  go_wp2_with fail
  go_ret
  exact simp_no (((Below.refl w.heap.size w).alloc (Nat.le_refl _) _).alloc (by simp) _)
 subst e_d
 by_cases e_s : sa = sb
 case neg =>
  have x_s := int_neb e_s
  go_enter Tryz.func33, Tryz.ntmps33
  go_wp2_with fail
  go_ret
  exact simp_no (((Below.refl w.heap.size w).alloc (Nat.le_refl _) _).alloc (by simp) _)
 subst e_s
 by_cases e_l : la = lb
 case neg =>
  have x_l := int_neb e_l
  go_enter Tryz.func33, Tryz.ntmps33
  go_wp2_with fail
  go_ret
  exact simp_no (((Below.refl w.heap.size w).alloc (Nat.le_refl _) _).alloc (by simp) _)
 subst e_l
 have HX := lhid (new_one w (.cells #[.int .i64 fa, .string (tx na), .string (tx da), .int .i64 sa, .int .i64 la, .slice A1a cda.length C1a, .slice A2a ra.length C2a, .slice A3a qa.length C3a] 62) (.cells #[.int .i64 fa, .string (tx na), .string (tx da), .int .i64 sa, .int .i64 la, .slice A1b cdb.length C1b, .slice A2b rb.length C2b, .slice A3b qb.length C3b] 62))
 have HY := lhid (new_two w (.cells #[.int .i64 fa, .string (tx na), .string (tx da), .int .i64 sa, .int .i64 la, .slice A1a cda.length C1a, .slice A2a ra.length C2a, .slice A3a qa.length C3a] 62) (.cells #[.int .i64 fa, .string (tx na), .string (tx da), .int .i64 sa, .int .i64 la, .slice A1b cdb.length C1b, .slice A2b rb.length C2b, .slice A3b qb.length C3b] 62))
 have HB := lhid (((Below.refl w.heap.size w).alloc (Nat.le_refl _) (.cells #[.int .i64 fa, .string (tx na), .string (tx da), .int .i64 sa, .int .i64 la, .slice A1a cda.length C1a, .slice A2a ra.length C2a, .slice A3a qa.length C3a] 62)).alloc (by simp) (.cells #[.int .i64 fa, .string (tx na), .string (tx da), .int .i64 sa, .int .i64 la, .slice A1b cdb.length C1b, .slice A2b rb.length C2b, .slice A3b qb.length C3b] 62))
 have G2 := lhid (h2.below kept_rw HB.out)
 have K2 := lhid (k2.below kept_rw HB.out)
 have G3 := lhid (h3.below kept_fr HB.out)
 have K3 := lhid (k3.below kept_fr HB.out)
 have g1 := h1.below kept_by HB.out
 have j1 := k1.below kept_by HB.out
 have LEN := lhid (show ra.length = ra.length from rfl)
 go_enter Tryz.func33, Tryz.ntmps33
 go_wp2_with fail
 generalize (w.alloc (.cells #[.int .i64 fa, .string (tx na), .string (tx da), .int .i64 sa, .int .i64 la, .slice A1a cda.length C1a, .slice A2a ra.length C2a, .slice A3a qa.length C3a] 62)).alloc (.cells #[.int .i64 fa, .string (tx na), .string (tx da), .int .i64 sa, .int .i64 la, .slice A1b cdb.length C1b, .slice A2b rb.length C2b, .slice A3b qb.length C3b] 62) = W at *
 have hc1 := conv_rdl W _ cda g1
 have hc2 := conv_rdl W _ cdb j1
 have p0 := heap_cell (i := 0) HX.out rfl
 have q0 := heap_cell (i := 0) HY.out rfl
 have p1 := heap_cell (i := 1) HX.out rfl
 have q1 := heap_cell (i := 1) HY.out rfl
 have p2 := heap_cell (i := 2) HX.out rfl
 have q2 := heap_cell (i := 2) HY.out rfl
 have p3 := heap_cell (i := 3) HX.out rfl
 have q3 := heap_cell (i := 3) HY.out rfl
 have p4 := heap_cell (i := 4) HX.out rfl
 have q4 := heap_cell (i := 4) HY.out rfl
 have p5 := heap_cell (i := 5) HX.out rfl
 have q5 := heap_cell (i := 5) HY.out rfl
 have p6 := heap_cell (i := 6) HX.out rfl
 have q6 := heap_cell (i := 6) HY.out rfl
 have p7 := heap_cell (i := 7) HX.out rfl
 have q7 := heap_cell (i := 7) HY.out rfl
 clear h1 h2 h3 k1 k2 k3 g1 j1
 rw [hc1]
 by_cases e_c : cda = cdb
 case neg =>
  have x_c := tx_nes e_c
  clear e_c
  go_wp2_with fail
  go_ret
  exact simp_no HB.out
 subst e_c
 by_cases e_r : ra.length = rb.length
 case neg =>
  have x_r : ((ra.length : Int) != rb.length) = true := int_neb (by omega)
  clear e_r
  go_wp2_with fail
  go_ret
  exact simp_no HB.out
 by_cases e_q : qa.length = qb.length
 case neg =>
  have x_r : ((ra.length : Int) != rb.length) = false := by rw [e_r]; simp
  have x_q : ((qa.length : Int) != qb.length) = true := int_neb (by omega)
  clear e_q e_r
  go_wp2_with fail
  go_ret
  exact simp_no HB.out
 have x_r : ((ra.length : Int) != rb.length) = false := by rw [e_r]; simp
 have x_q : ((qa.length : Int) != qb.length) = false := by rw [e_q]; simp
 have ER := lhid e_r
 have EQ := lhid e_q
 clear e_r e_q
 go_wp2_with fail
 go_loopw [5] (fun i wr => ∃ k n : Nat, i = .int .i64 k ∧ k ≤ ra.length ∧ Hid (ra.take k = rb.take k) ∧ wr = W.drewN n) (fun i _ => ra.length - (intOf i).toNat)
 case atStart => exact ⟨0, 0, rfl, Nat.zero_le _, lhid (by simp), rfl⟩
 case round =>
  obtain ⟨k, n, rfl, hk, HT, rfl⟩ := hrel
  by_cases hlt : k < ra.length
  ·obtain ⟨x, hx⟩ : ∃ x, ra[k]? = some x := ⟨_, List.getElem?_eq_getElem hlt⟩
   obtain ⟨y, hy⟩ : ∃ y, rb[k]? = some y := ⟨_, List.getElem?_eq_getElem (by have := ER.out; omega)⟩
   have HXX := lhid hx
   have HYY := lhid hy
   obtain ⟨g, o, c, rfl, rfl, hc⟩ := G2.out.at' hx
   obtain ⟨g', o', c', rfl, rfl, hc'⟩ := K2.out.at' hy
   have a0 := hc 0 _ rfl
   have a1 := hc 1 _ rfl
   have a2 := hc 2 _ rfl
   have a3 := hc 3 _ rfl
   have b0 := hc' 0 _ rfl
   have b1 := hc' 1 _ rfl
   have b2 := hc' 2 _ rfl
   have b3 := hc' 3 _ rfl
   have k3 : (k : Int) < ra.length := by omega
   have k4 : (k : Int) < rb.length := by have := ER.out; omega
   clear hx hy hc hc'
   rw [Nat.add_zero] at a0 b0
   by_cases z_fr : x.fr = y.fr
   case neg =>
    go_wp2_with fail
    go_quiet (fail)
    go_wp2_with fail
    go_ret
    exact simp_no (Below.drewN' (Below.drewN' HB.out _) _)
   by_cases z_too : x.too = y.too
   case neg =>
    go_wp2_with fail
    go_quiet (fail)
    go_wp2_with fail
    go_ret
    exact simp_no (Below.drewN' (Below.drewN' HB.out _) _)
   by_cases z_at_ : x.at_ = y.at_
   case neg =>
    go_wp2_with fail
    go_quiet (fail)
    go_wp2_with fail
    go_ret
    exact simp_no (Below.drewN' (Below.drewN' HB.out _) _)
   by_cases z_cls : x.cls = y.cls
   case neg =>
    have z2 := tx_ne z_cls
    go_wp2_with fail
    go_quiet (fail)
    go_wp2_with fail
    go_ret
    exact simp_no (Below.drewN' (Below.drewN' HB.out _) _)
   have HT2 := lhid (take_on HXX.out HYY.out HT.out (show x = y by cases x; cases y; simp only at z_fr z_too z_at_ z_cls; subst z_fr z_too z_at_ z_cls; rfl))
   go_wp2_with fail
   go_quiet (fail)
   go_wp2_with fail
   go_roundw
   case rel => exact ⟨k + 1, _, by go_num, by omega, HT2, rfl⟩
   case measure => simp [intOf]; omega
  ·have k3 : ¬ (k : Int) < ra.length := by omega
   have ht := HT.out
   rw [List.take_of_length_le (by omega), List.take_of_length_le (by have := ER.out; omega)] at ht
   have HRE := lhid ht
   clear ht HT
   go_wp2_with fail
   go_loopw [6] (fun i wr => ∃ k n : Nat, i = .int .i64 k ∧ k ≤ qa.length ∧ Hid (qa.take k = qb.take k) ∧ wr = W.drewN n) (fun i _ => qa.length - (intOf i).toNat)
   case atStart => exact ⟨0, n, rfl, Nat.zero_le _, lhid (by simp), rfl⟩
   case round =>
    obtain ⟨j, q, rfl, hj, HT, rfl⟩ := hrel
    by_cases hlt2 : j < qa.length
    ·obtain ⟨x, hx⟩ : ∃ x, qa[j]? = some x := ⟨_, List.getElem?_eq_getElem hlt2⟩
     obtain ⟨y, hy⟩ : ∃ y, qb[j]? = some y := ⟨_, List.getElem?_eq_getElem (by have := EQ.out; omega)⟩
     have HXX := lhid hx
     have HYY := lhid hy
     obtain ⟨g, o, c, rfl, ⟨u1, u2, rfl, U1, U2⟩, hc⟩ := G3.out.at' hx
     obtain ⟨g', o', c', rfl, ⟨v1, v2, rfl, V1, V2⟩, hc'⟩ := K3.out.at' hy
     have a0 := hc 0 _ rfl
     have a1 := hc 1 _ rfl
     have a2 := hc 2 _ rfl
     have b0 := hc' 0 _ rfl
     have b1 := hc' 1 _ rfl
     have b2 := hc' 2 _ rfl
     have k4 : (j : Int) < qa.length := by omega
     have k5 : (j : Int) < qb.length := by have := EQ.out; omega
     have HU1 := lhid U1
     have HU2 := lhid U2
     have HV1 := lhid V1
     have HV2 := lhid V2
     obtain ⟨s1, t1, rfl⟩ := U1.shape
     obtain ⟨s2, t2, rfl⟩ := U2.shape
     obtain ⟨s3, t3, rfl⟩ := V1.shape
     obtain ⟨s4, t4, rfl⟩ := V2.shape
     clear hx hy hc hc' U1 U2 V1 V2
     rw [Nat.add_zero] at a0 b0
     by_cases z_pc : x.pc = y.pc
     case neg =>
      have z2 := int_neb z_pc
      clear z_pc
      go_wp2_with fail
      go_quiet (fail)
      go_wp2_with fail
      go_ret
      exact simp_no (Below.drewN' (Below.drewN' HB.out _) _)
     have HPC := lhid z_pc
     have z3 : (x.pc != y.pc) = false := by rw [z_pc]; simp
     clear z_pc
     by_cases z_lo : x.locals = y.locals
     case neg =>
      have HNE := lhid z_lo
      clear z_lo
      go_wp2_with fail
      go_quiet (with_reducible refine quiet_sum (sameL_no x.locals y.locals _ _ _ (lhid (rdL_drewN HU1.out _)) (lhid (rdL_drewN HV1.out _)) HNE))
      go_wp2_with fail
      go_ret
      exact simp_no (Below.drewN' (Below.drewN' HB.out _) _)
     have HLO := lhid z_lo
     rw [← z_lo] at HV1 b1
     clear z_lo
     by_cases z_st : x.stack = y.stack
     case neg =>
      have HNE := lhid z_st
      clear z_st
      go_wp2_with fail
      go_quiet (first | (with_reducible refine quiet_sum (sameL_any x.locals _ _ _ (lhid (rdL_drewN HU1.out _)) (lhid (rdL_drewN HV1.out _)))) | (with_reducible refine quiet_sum (sameL_no x.stack y.stack _ _ _ (lhid (rdL_drewN HU2.out _)) (lhid (rdL_drewN HV2.out _)) HNE)))
      go_wp2_with fail
      go_ret
      exact simp_no (Below.drewN' (Below.drewN' HB.out _) _)
     rw [← z_st] at HV2 b2
     have HT2 := lhid (take_on HXX.out HYY.out HT.out (show x = y by have z_pc := HPC.out; have z_lo := HLO.out; cases x; cases y; simp only at z_pc z_lo z_st; subst z_pc z_lo z_st; rfl))
     clear z_st
     go_wp2_with fail
     go_quiet (first | (with_reducible refine quiet_sum (sameL_any x.locals _ _ _ (lhid (rdL_drewN HU1.out _)) (lhid (rdL_drewN HV1.out _)))) | (with_reducible refine quiet_sum (sameL_any x.stack _ _ _ (lhid (rdL_drewN HU2.out _)) (lhid (rdL_drewN HV2.out _)))))
     go_wp2_with fail
     go_roundw
     case rel => exact ⟨j + 1, _, by go_num, by omega, HT2, rfl⟩
     case measure => simp [intOf]; omega
    ·have k4 : ¬ (j : Int) < qa.length := by omega
     have ht := HT.out
     rw [List.take_of_length_le (by omega), List.take_of_length_le (by have := EQ.out; omega)] at ht
     have HQE := lhid ht
     clear ht HT
     go_wp2_with fail
     go_ret
     exact simp_yes (by rw [HRE.out, HQE.out]; first | done | exact ⟨rfl, rfl⟩) (Below.drewN' HB.out _)
set_option maxHeartbeats 16000000 in
set_option maxRecDepth 100000 in
theorem scls_w (c d : ClI) (va vb : Value) (w : World) (ha : Hid (ClIV w c va)) (hb : Hid (ClIV w d vb)) :
  Calls Tryz.prog 14 #[va, vb] w (SImp (c = d) w) := by
 obtain ⟨cf, cn, cs, ia, pa, fa, ma⟩ := c
 obtain ⟨df, dn, ds, ib, pb, fb, mb⟩ := d
 obtain ⟨a1, a2, a3, a4, rfl, h1, h2, h3, h4⟩ := ha.out
 obtain ⟨b1, b2, b3, b4, rfl, k1, k2, k3, k4⟩ := hb.out
 obtain ⟨A3, c3, rfl⟩ := h3.shape
 obtain ⟨A4, c4, rfl⟩ := h4.shape
 obtain ⟨B3, d3, rfl⟩ := k3.shape
 obtain ⟨B4, d4, rfl⟩ := k4.shape
 obtain ⟨A1, c1, rfl⟩ := h1.shape
 obtain ⟨A2, c2, rfl⟩ := h2.shape
 obtain ⟨B1, d1, rfl⟩ := k1.shape
 obtain ⟨B2, d2, rfl⟩ := k2.shape
 have l3 := h3.len
 have l4 := h4.len
 simp only at h1 h2 h3 h4 k1 k2 k3 k4 l3 l4 ha hb ⊢
 have l5 := k3.len
 have l6 := k4.len
 by_cases e_cf : cf = df
 case neg =>
  have x_cf := int_neb e_cf
  clear ha hb
  go_enter Tryz.func14, Tryz.ntmps14
  go_wp2_with fail
  go_ret
  exact simp_no (((Below.refl w.heap.size w).alloc (Nat.le_refl _) _).alloc (by simp) _)
 subst e_cf
 by_cases e_cn : cn = dn
 case neg =>
  have x_cn := tx_nes e_cn
  clear ha hb
  go_enter Tryz.func14, Tryz.ntmps14
  go_wp2_with fail
  go_ret
  exact simp_no (((Below.refl w.heap.size w).alloc (Nat.le_refl _) _).alloc (by simp) _)
 subst e_cn
 by_cases e_cs : cs = ds
 case neg =>
  have x_cs := tx_nes e_cs
  clear ha hb
  go_enter Tryz.func14, Tryz.ntmps14
  go_wp2_with fail
  go_ret
  exact simp_no (((Below.refl w.heap.size w).alloc (Nat.le_refl _) _).alloc (by simp) _)
 subst e_cs
 have HX := lhid (new_one w (.cells #[.int .i64 cf, .string (tx cn), .string (tx cs), .slice A1 ia.length c1, .slice A2 pa.length c2, .slice A3 fa.length c3, .slice A4 ma.length c4] 27) (.cells #[.int .i64 cf, .string (tx cn), .string (tx cs), .slice B1 ib.length d1, .slice B2 pb.length d2, .slice B3 fb.length d3, .slice B4 mb.length d4] 27))
 have HY := lhid (new_two w (.cells #[.int .i64 cf, .string (tx cn), .string (tx cs), .slice A1 ia.length c1, .slice A2 pa.length c2, .slice A3 fa.length c3, .slice A4 ma.length c4] 27) (.cells #[.int .i64 cf, .string (tx cn), .string (tx cs), .slice B1 ib.length d1, .slice B2 pb.length d2, .slice B3 fb.length d3, .slice B4 mb.length d4] 27))
 have HB := lhid (((Below.refl w.heap.size w).alloc (Nat.le_refl _) (.cells #[.int .i64 cf, .string (tx cn), .string (tx cs), .slice A1 ia.length c1, .slice A2 pa.length c2, .slice A3 fa.length c3, .slice A4 ma.length c4] 27)).alloc (by simp) (.cells #[.int .i64 cf, .string (tx cn), .string (tx cs), .slice B1 ib.length d1, .slice B2 pb.length d2, .slice B3 fb.length d3, .slice B4 mb.length d4] 27))
 have G1 := lhid (h1.below kept_st HB.out)
 have K1 := lhid (k1.below kept_st HB.out)
 have G2 := lhid (h2.below kept_co HB.out)
 have K2 := lhid (k2.below kept_co HB.out)
 have G3 := lhid (h3.below kept_fl HB.out)
 have K3 := lhid (k3.below kept_fl HB.out)
 have G4 := lhid (h4.below kept_me HB.out)
 have K4 := lhid (k4.below kept_me HB.out)
 clear h1 h2 h3 h4 k1 k2 k3 k4 ha hb
 go_enter Tryz.func14, Tryz.ntmps14
 go_wp2_with fail
 generalize (w.alloc (.cells #[.int .i64 cf, .string (tx cn), .string (tx cs), .slice A1 ia.length c1, .slice A2 pa.length c2, .slice A3 fa.length c3, .slice A4 ma.length c4] 27)).alloc (.cells #[.int .i64 cf, .string (tx cn), .string (tx cs), .slice B1 ib.length d1, .slice B2 pb.length d2, .slice B3 fb.length d3, .slice B4 mb.length d4] 27) = W at *
 have p0 := heap_cell (i := 0) HX.out rfl
 have q0 := heap_cell (i := 0) HY.out rfl
 have p1 := heap_cell (i := 1) HX.out rfl
 have q1 := heap_cell (i := 1) HY.out rfl
 have p2 := heap_cell (i := 2) HX.out rfl
 have q2 := heap_cell (i := 2) HY.out rfl
 have p3 := heap_cell (i := 3) HX.out rfl
 have q3 := heap_cell (i := 3) HY.out rfl
 have p4 := heap_cell (i := 4) HX.out rfl
 have q4 := heap_cell (i := 4) HY.out rfl
 have p5 := heap_cell (i := 5) HX.out rfl
 have q5 := heap_cell (i := 5) HY.out rfl
 have p6 := heap_cell (i := 6) HX.out rfl
 have q6 := heap_cell (i := 6) HY.out rfl
 by_cases e_i : ia = ib
 case neg =>
  have HNE := lhid e_i
  clear e_i
  with_reducible refine (sameL_no ia ib _ _ _ G1 K1 HNE).mono ?_
  rintro e w1 ⟨rfl, n, rfl⟩
  go_wp2_with fail
  go_ret
  exact simp_no (Below.drewN' HB.out _)
 subst e_i
 with_reducible refine (sameL_any ia _ _ _ G1 K1).mono ?_
 rintro e w1 ⟨rfl, n, rfl⟩
 go_wp2_with fail
 have hxl := heap_lt HX.out
 have hyl := heap_lt HY.out
 with_reducible refine (sameC_any pa pb _ _ _ (lhid (rdC_drewN G2.out n)) (lhid (rdC_drewN K2.out n))).mono ?_
 rintro e w2 ⟨⟨r, rfl, hr⟩, hb⟩
 have HR := lhid hr
 have hb' : Below W.heap.size W w2 := ⟨hb.os, hb.tape, hb.output, hb.size, hb.block⟩
 have HX2 : Hid (w2.heap[w.heap.size]? = some (.cells #[.int .i64 cf, .string (tx cn), .string (tx cs), .slice A1 ia.length c1, .slice A2 pa.length c2, .slice A3 fa.length c3, .slice A4 ma.length c4] 27)) := lhid ((hb'.block _ hxl).trans HX.out)
 have HY2 : Hid (w2.heap[w.heap.size + 1]? = some (.cells #[.int .i64 cf, .string (tx cn), .string (tx cs), .slice B1 ia.length d1, .slice B2 pb.length d2, .slice B3 fb.length d3, .slice B4 mb.length d4] 27)) := lhid ((hb'.block _ hyl).trans HY.out)
 have HB2 := lhid (HB.out.trans (below_le hb' HB.out.size))
 have M3 := lhid (G3.out.below kept_fl hb')
 have N3 := lhid (K3.out.below kept_fl hb')
 have M4 := lhid (G4.out.below kept_me hb')
 have N4 := lhid (K4.out.below kept_me hb')
 clear hb hb' hr p0 q0 p1 q1 p2 q2 p3 q3 p4 q4 p5 q5 p6 q6 hxl hyl G1 K1 G2 K2 G3 K3 G4 K4 HX HY HB
 have p0 := heap_cell (i := 0) HX2.out rfl
 have q0 := heap_cell (i := 0) HY2.out rfl
 have p1 := heap_cell (i := 1) HX2.out rfl
 have q1 := heap_cell (i := 1) HY2.out rfl
 have p2 := heap_cell (i := 2) HX2.out rfl
 have q2 := heap_cell (i := 2) HY2.out rfl
 have p3 := heap_cell (i := 3) HX2.out rfl
 have q3 := heap_cell (i := 3) HY2.out rfl
 have p4 := heap_cell (i := 4) HX2.out rfl
 have q4 := heap_cell (i := 4) HY2.out rfl
 have p5 := heap_cell (i := 5) HX2.out rfl
 have q5 := heap_cell (i := 5) HY2.out rfl
 have p6 := heap_cell (i := 6) HX2.out rfl
 have q6 := heap_cell (i := 6) HY2.out rfl
 cases r
 case false =>
  go_wp2_with fail
  go_ret
  exact simp_no HB2.out
 have hpe := HR.out.1 rfl
 subst hpe
 by_cases e_f : fa.length = fb.length
 case neg =>
  have x_f : ((fa.length : Int) != fb.length) = true := int_neb (by omega)
  clear e_f
  go_wp2_with fail
  go_ret
  exact simp_no HB2.out
 have x_f : ((fa.length : Int) != fb.length) = false := by rw [e_f]; simp
 have EF := lhid e_f
 clear e_f
 by_cases e_m : ma.length = mb.length
 case neg =>
  have x_m : ((ma.length : Int) != mb.length) = true := int_neb (by omega)
  clear e_m
  go_wp2_with fail
  go_ret
  exact simp_no HB2.out
 have x_m : ((ma.length : Int) != mb.length) = false := by rw [e_m]; simp
 have EM := lhid e_m
 clear e_m
 go_wp2_with fail
 go_loopw [5] (fun i wr => ∃ k n : Nat, i = .int .i64 k ∧ k ≤ fa.length ∧ Hid (fa.take k = fb.take k) ∧ wr = w2.drewN n) (fun i _ => fa.length - (intOf i).toNat)
 case atStart => exact ⟨0, 0, rfl, Nat.zero_le _, lhid (by simp), rfl⟩
 case round =>
  obtain ⟨k, n, rfl, hk, HT, rfl⟩ := hrel
  by_cases hlt : k < fa.length
  ·obtain ⟨x, hx⟩ : ∃ x, fa[k]? = some x := ⟨_, List.getElem?_eq_getElem hlt⟩
   obtain ⟨y, hy⟩ : ∃ y, fb[k]? = some y := ⟨_, List.getElem?_eq_getElem (by have := EF.out; omega)⟩
   have HXX := lhid hx
   have HYY := lhid hy
   have k4 : (k : Int) < fb.length := by have := EF.out; omega
   obtain ⟨g, o, cc, rfl, rfl, hc⟩ := M3.out.at' hx
   obtain ⟨g', o', cc', rfl, rfl, hc'⟩ := N3.out.at' hy
   have a0 := hc 0 _ rfl
   have a1 := hc 1 _ rfl
   have a2 := hc 2 _ rfl
   have b0 := hc' 0 _ rfl
   have b1 := hc' 1 _ rfl
   have b2 := hc' 2 _ rfl
   have k3 : (k : Int) < fa.length := by omega
   clear hx hy hc hc'
   rw [Nat.add_zero] at a0 b0
   by_cases z_flags : x.flags = y.flags
   case neg =>
    go_wp2_with fail
    go_quiet (fail)
    go_wp2_with fail
    go_ret
    exact simp_no (Below.drewN' (Below.drewN' HB2.out _) _)
   by_cases z_name : x.name = y.name
   case neg =>
    have z2 := tx_ne z_name
    go_wp2_with fail
    go_quiet (fail)
    go_wp2_with fail
    go_ret
    exact simp_no (Below.drewN' (Below.drewN' HB2.out _) _)
   by_cases z_desc : x.desc = y.desc
   case neg =>
    have z2 := tx_ne z_desc
    go_wp2_with fail
    go_quiet (fail)
    go_wp2_with fail
    go_ret
    exact simp_no (Below.drewN' (Below.drewN' HB2.out _) _)
   have HT2 := lhid (take_on HXX.out HYY.out HT.out (show x = y by cases x; cases y; simp only at z_flags z_name z_desc; subst z_flags z_name z_desc; rfl))
   go_wp2_with fail
   go_quiet (fail)
   go_wp2_with fail
   go_roundw
   case rel => exact ⟨k + 1, _, by go_num, by omega, HT2, rfl⟩
   case measure => simp [intOf]; omega
  ·have k3 : ¬ (k : Int) < fa.length := by omega
   have ht := HT.out
   rw [List.take_of_length_le (by omega), List.take_of_length_le (by have := EF.out; omega)] at ht
   have HFE := lhid ht
   clear ht HT
   go_wp2_with fail
   clear p0 q0 p1 q1 p2 q2 p3 q3 p4 q4 p5 q5 p6 q6
   go_loopw [6] (fun i wr => ∃ k : Nat, i = .int .i64 k ∧ k ≤ ma.length ∧ Hid (ma.take k = mb.take k) ∧ Hid (Below w2.heap.size w2 wr)) (fun i _ => ma.length - (intOf i).toNat)
   case atStart => exact ⟨0, rfl, Nat.zero_le _, lhid (by simp), lhid (Below.drewN' (Below.refl _ _) _)⟩
   case round =>
    obtain ⟨j, rfl, hj, HT, HBr⟩ := hrel
    have HXr : Hid (wr.heap[w.heap.size]? = some (.cells #[.int .i64 cf, .string (tx cn), .string (tx cs), .slice A1 ia.length c1, .slice A2 pa.length c2, .slice A3 fa.length c3, .slice A4 ma.length c4] 27)) := lhid ((HBr.out.block _ (heap_lt HX2.out)).trans HX2.out)
    have HYr : Hid (wr.heap[w.heap.size + 1]? = some (.cells #[.int .i64 cf, .string (tx cn), .string (tx cs), .slice B1 ia.length d1, .slice B2 pa.length d2, .slice B3 fb.length d3, .slice B4 mb.length d4] 27)) := lhid ((HBr.out.block _ (heap_lt HY2.out)).trans HY2.out)
    have p6 := heap_cell (i := 6) HXr.out rfl
    have q6 := heap_cell (i := 6) HYr.out rfl
    by_cases hlt2 : j < ma.length
    ·obtain ⟨x, hx⟩ : ∃ x, ma[j]? = some x := ⟨_, List.getElem?_eq_getElem hlt2⟩
     obtain ⟨y, hy⟩ : ∃ y, mb[j]? = some y := ⟨_, List.getElem?_eq_getElem (by have := EM.out; omega)⟩
     have HXX := lhid hx
     have HYY := lhid hy
     have k5 : (j : Int) < mb.length := by have := EM.out; omega
     obtain ⟨g, o, cc, rfl, E1, hc⟩ := (M4.out.below kept_me HBr.out).at' hx
     obtain ⟨g', o', cc', rfl, E2, hc'⟩ := (N4.out.below kept_me HBr.out).at' hy
     have F1 := lhid E1
     have F2 := lhid E2
     obtain ⟨u1, u2, u3, rfl, _⟩ := E1
     obtain ⟨v1, v2, v3, rfl, _⟩ := E2
     have a0 := hc 0 _ rfl
     have b0 := hc' 0 _ rfl
     have a1 := hc 1 _ rfl
     have b1 := hc' 1 _ rfl
     have a2 := hc 2 _ rfl
     have b2 := hc' 2 _ rfl
     have a3 := hc 3 _ rfl
     have b3 := hc' 3 _ rfl
     have a4 := hc 4 _ rfl
     have b4 := hc' 4 _ rfl
     have a5 := hc 5 _ rfl
     have b5 := hc' 5 _ rfl
     have a6 := hc 6 _ rfl
     have b6 := hc' 6 _ rfl
     have a7 := hc 7 _ rfl
     have b7 := hc' 7 _ rfl
     have k4 : (j : Int) < ma.length := by omega
     clear hx hy hc hc'
     rw [Nat.add_zero] at a0 b0
     have hS : ∀ w' : World, Below wr.heap.size wr w' → (w'.cell? ⟨w.heap.size, 6, none⟩ = some (.slice (some ⟨g, o, none⟩) ma.length c4) ∧ w'.cell? ⟨w.heap.size + 1, 6, none⟩ = some (.slice (some ⟨g', o', none⟩) mb.length d4) ∧ w'.cell? ⟨g, o + j * 8, none⟩ = some (.int .i64 x.flags) ∧ w'.cell? ⟨g', o' + j * 8, none⟩ = some (.int .i64 y.flags) ∧ w'.cell? ⟨g, o + j * 8 + 1, none⟩ = some (.string (tx x.name)) ∧ w'.cell? ⟨g', o' + j * 8 + 1, none⟩ = some (.string (tx y.name)) ∧ w'.cell? ⟨g, o + j * 8 + 2, none⟩ = some (.string (tx x.desc)) ∧ w'.cell? ⟨g', o' + j * 8 + 2, none⟩ = some (.string (tx y.desc)) ∧ w'.cell? ⟨g, o + j * 8 + 3, none⟩ = some (.int .i64 x.stack) ∧ w'.cell? ⟨g', o' + j * 8 + 3, none⟩ = some (.int .i64 y.stack) ∧ w'.cell? ⟨g, o + j * 8 + 4, none⟩ = some (.int .i64 x.locals) ∧ w'.cell? ⟨g', o' + j * 8 + 4, none⟩ = some (.int .i64 y.locals) ∧ w'.cell? ⟨g, o + j * 8 + 5, none⟩ = some (u1) ∧ w'.cell? ⟨g', o' + j * 8 + 5, none⟩ = some (v1) ∧ w'.cell? ⟨g, o + j * 8 + 6, none⟩ = some (u2) ∧ w'.cell? ⟨g', o' + j * 8 + 6, none⟩ = some (v2) ∧ w'.cell? ⟨g, o + j * 8 + 7, none⟩ = some (u3) ∧ w'.cell? ⟨g', o' + j * 8 + 7, none⟩ = some (v3)) := fun w' hb => ⟨(hb.cell (p := ⟨w.heap.size, 6, none⟩) (heap_lt HXr.out)).trans p6, (hb.cell (p := ⟨w.heap.size + 1, 6, none⟩) (heap_lt HYr.out)).trans q6, (hb.cell (p := ⟨g, o + j * 8, none⟩) (cell_lt a0)).trans a0, (hb.cell (p := ⟨g', o' + j * 8, none⟩) (cell_lt b0)).trans b0, (hb.cell (p := ⟨g, o + j * 8 + 1, none⟩) (cell_lt a1)).trans a1, (hb.cell (p := ⟨g', o' + j * 8 + 1, none⟩) (cell_lt b1)).trans b1, (hb.cell (p := ⟨g, o + j * 8 + 2, none⟩) (cell_lt a2)).trans a2, (hb.cell (p := ⟨g', o' + j * 8 + 2, none⟩) (cell_lt b2)).trans b2, (hb.cell (p := ⟨g, o + j * 8 + 3, none⟩) (cell_lt a3)).trans a3, (hb.cell (p := ⟨g', o' + j * 8 + 3, none⟩) (cell_lt b3)).trans b3, (hb.cell (p := ⟨g, o + j * 8 + 4, none⟩) (cell_lt a4)).trans a4, (hb.cell (p := ⟨g', o' + j * 8 + 4, none⟩) (cell_lt b4)).trans b4, (hb.cell (p := ⟨g, o + j * 8 + 5, none⟩) (cell_lt a5)).trans a5, (hb.cell (p := ⟨g', o' + j * 8 + 5, none⟩) (cell_lt b5)).trans b5, (hb.cell (p := ⟨g, o + j * 8 + 6, none⟩) (cell_lt a6)).trans a6, (hb.cell (p := ⟨g', o' + j * 8 + 6, none⟩) (cell_lt b6)).trans b6, (hb.cell (p := ⟨g, o + j * 8 + 7, none⟩) (cell_lt a7)).trans a7, (hb.cell (p := ⟨g', o' + j * 8 + 7, none⟩) (cell_lt b7)).trans b7⟩
     have hSH := lhid hS
     clear hS
     have G1 := lhid (kept_me wr wr.drew _ _ (Below.drew (Below.refl wr.heap.size wr)) F1.out)
     have G2 := lhid (kept_me wr wr.drew _ _ (Below.drew (Below.refl wr.heap.size wr)) F2.out)
     go_upto_region 11 with fail
     go_region_held3 (fun w' => w'.cell? ⟨w.heap.size, 6, none⟩ = some (.slice (some ⟨g, o, none⟩) ma.length c4) ∧ w'.cell? ⟨w.heap.size + 1, 6, none⟩ = some (.slice (some ⟨g', o', none⟩) mb.length d4) ∧ w'.cell? ⟨g, o + j * 8, none⟩ = some (.int .i64 x.flags) ∧ w'.cell? ⟨g', o' + j * 8, none⟩ = some (.int .i64 y.flags) ∧ w'.cell? ⟨g, o + j * 8 + 1, none⟩ = some (.string (tx x.name)) ∧ w'.cell? ⟨g', o' + j * 8 + 1, none⟩ = some (.string (tx y.name)) ∧ w'.cell? ⟨g, o + j * 8 + 2, none⟩ = some (.string (tx x.desc)) ∧ w'.cell? ⟨g', o' + j * 8 + 2, none⟩ = some (.string (tx y.desc)) ∧ w'.cell? ⟨g, o + j * 8 + 3, none⟩ = some (.int .i64 x.stack) ∧ w'.cell? ⟨g', o' + j * 8 + 3, none⟩ = some (.int .i64 y.stack) ∧ w'.cell? ⟨g, o + j * 8 + 4, none⟩ = some (.int .i64 x.locals) ∧ w'.cell? ⟨g', o' + j * 8 + 4, none⟩ = some (.int .i64 y.locals) ∧ w'.cell? ⟨g, o + j * 8 + 5, none⟩ = some (u1) ∧ w'.cell? ⟨g', o' + j * 8 + 5, none⟩ = some (v1) ∧ w'.cell? ⟨g, o + j * 8 + 6, none⟩ = some (u2) ∧ w'.cell? ⟨g', o' + j * 8 + 6, none⟩ = some (v2) ∧ w'.cell? ⟨g, o + j * 8 + 7, none⟩ = some (u3) ∧ w'.cell? ⟨g', o' + j * 8 + 7, none⟩ = some (v3)) (first | exact hSH.out _ (Below.drew (Below.refl _ _)) | exact hSH.out _ hb5 | exact hSH.out _ (Below.drew hb5)) (first
      | ((with_reducible refine (smet_w x y _ _ _ G1 G2).mono ?_); rintro e w5 ⟨⟨r, rfl, hr⟩, hb5'⟩; have hb5 : Below wr.heap.size wr w5 := ⟨hb5'.os, hb5'.tape, hb5'.output, hb5'.size, hb5'.block⟩))
     cases r
     ·go_wp2_with fail
      go_ret
      exact simp_no (HB2.out.trans (below_le (HBr.out.trans (below_le hb5 HBr.out.size)) HB2.out.size))
     ·have HT2 := lhid (take_on HXX.out HYY.out HT.out (hr rfl))
      go_wp2_with fail
      go_roundw
      case rel => exact ⟨j + 1, by go_num, by omega, HT2, lhid (HBr.out.trans (below_le hb5 HBr.out.size))⟩
      case measure => simp [intOf]; omega
    ·have k4 : ¬ (j : Int) < ma.length := by omega
     have ht := HT.out
     rw [List.take_of_length_le (by omega), List.take_of_length_le (by have := EM.out; omega)] at ht
     have HME := lhid ht
     clear ht HT
     go_wp2_with fail
     go_ret
     exact simp_yes (by rw [HFE.out, HME.out]; first | done | exact ⟨rfl, rfl⟩) (HB2.out.trans (below_le HBr.out HB2.out.size))
end Go.Proofs.YtgihfcimngogfaaGreat
