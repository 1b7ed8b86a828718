/- The walk of law 10's InsReplaces. -/
import Derived.Test.YthaijdcgmcfpiaaInsRepl1
import Derived.Deep.Cut
import Derived.Deep.CutRange
import Derived.Deep.CutBlock
namespace Go.Proofs.Ythaijdcgmcfpiaa
open Go.RowKit Go
set_option linter.unusedVariables false
set_option linter.unusedSimpArgs false

theorem uses_r2 {P : Nat → Prop} (x : InI) (v : Value) (l : List Int) (w : World) (h : Hid (RdX P 1 NuE w v x.args)) (hby : Hid (x.args.length ≤ 2000)) (hl : Hid (usesI x = l)) :
    Calls Try.prog 14 #[inA x v] w fun e w' => ∃ v', e = .returned v' ∧ OwN w' w.heap.size v' l ∧ Below w.heap.size w w' := by
  have := uses_any x v w h (lhid (by have := hby.out; omega))
  rwa [hl.out] at this
theorem def_r2 (x : InI) (v : Value) (w : World) (d : Int) (hd : Hid (defI x = d)) : Calls Try.prog 16 #[inA x v] w fun e w' => e = .returned (.int .i64 d) ∧ Below w.heap.size w w' := by
  have := def_any x v w
  rwa [hd.out] at this
theorem uses_p {P : Nat → Prop} (x : InI) (p : Int) (v : Value) (l : List Int) (w : World) (hp : Hid (x.op = p)) (h : Hid (RdX P 1 NuE w v x.args)) (hby : Hid (x.args.length ≤ 2000)) (hl : Hid (usesI x = l)) :
    Calls Try.prog 14 #[inL p x.dst x.a x.b x.c x.num x.too x.ref v] w fun e w' => ∃ v', e = .returned v' ∧ OwN w' w.heap.size v' l ∧ Below w.heap.size w w' := by
  have e := hp.out
  subst e
  exact uses_r2 x v l w h hby hl
theorem def_p (x : InI) (p : Int) (v : Value) (w : World) (d : Int) (hp : Hid (x.op = p)) (hd : Hid (defI x = d)) : Calls Try.prog 16 #[inL p x.dst x.a x.b x.c x.num x.too x.ref v] w fun e w' => e = .returned (.int .i64 d) ∧ Below w.heap.size w w' := by
  have e := hp.out
  subst e
  exact def_r2 x v w d hd
theorem replace_p {P Q : Nat → Prop} (x : InI) (p : Int) (v lv : Value) (l : List Int) (y : InI) (w : World) (hp : Hid (x.op = p)) (h : Hid (RdX P 1 NuE w v x.args)) (hl : Hid (RdX Q 1 NuE w lv l)) (hx : Hid (x.args.length ≤ 2000)) (hll : Hid (l.length ≤ 2000)) (hy : Hid (replI x l = y)) :
    Calls Try.prog 31 #[inL p x.dst x.a x.b x.c x.num x.too x.ref v, lv] w fun e w' => ∃ v', e = .returned (inA y v') ∧ OwN w' w.heap.size v' y.args ∧ Below w.heap.size w w' := by
  have e := hp.out
  subst e
  exact replace_r x v lv l y w h hl hx hll hy
set_option maxHeartbeats 8000000 in
set_option maxRecDepth 100000 in
theorem InsReplaces_walk (x : InI) (v lv : Value) (l : List Int) (w : World) (h : Hid (RdX Tru 1 NuE w v x.args)) (hl : Hid (RdX Tru 1 NuE w lv l)) :
    Calls Try.prog 5 #[inA x v, lv] w fun e w' => e = .returned (.bool true) ∧ Below w.heap.size w w' := by
  obtain ⟨VA, vc, hva⟩ := h.out.shape
  subst hva
  obtain ⟨LA, lc, hlv⟩ := hl.out.shape
  subst hlv
  by_cases q0 : 1000 < x.args.length
  · have e0 : (1000 : Int) < x.args.length := by omega
    clear q0
    go_enter Try.func5, Try.ntmps5
    go_wp2_with fail
    with_reducible refine (holds_any _).mono ?_
    rintro e w1 ⟨rfl, hb⟩
    have hX1 : XBox w1 w.heap.size x.op x.dst x.a x.b x.c x.num x.too x.ref (.slice VA x.args.length vc) := heap_keep (heap_alloc_new w _) hb
    have hB1 := ((Below.refl w.heap.size w).alloc (Nat.le_refl _) _).trans (hb.mono (by simp))
    have HB1 := lhid hB1
    obtain ⟨y0, y1, y2, y3, y4, y5, y6, y7, y8⟩ := hX1.cells
    have HX1 := lhid hX1
    clear hb hB1 hX1
    go_wp2_with fail
    go_ret
    exact ⟨rfl, HB1.out⟩
  by_cases q1 : 1000 < l.length
  · have e0 : ¬ (1000 : Int) < x.args.length := by omega
    have e1 : (1000 : Int) < l.length := by omega
    clear q0 q1
    go_enter Try.func5, Try.ntmps5
    go_wp2_with fail
    with_reducible refine (holds_any _).mono ?_
    rintro e w1 ⟨rfl, hb⟩
    have hX1 : XBox w1 w.heap.size x.op x.dst x.a x.b x.c x.num x.too x.ref (.slice VA x.args.length vc) := heap_keep (heap_alloc_new w _) hb
    have hB1 := ((Below.refl w.heap.size w).alloc (Nat.le_refl _) _).trans (hb.mono (by simp))
    have HB1 := lhid hB1
    obtain ⟨y0, y1, y2, y3, y4, y5, y6, y7, y8⟩ := hX1.cells
    have HX1 := lhid hX1
    clear hb hB1 hX1
    go_wp2_with fail
    go_ret
    exact ⟨rfl, HB1.out⟩
  have e0 : ¬ (1000 : Int) < x.args.length := by omega
  have e1 : ¬ (1000 : Int) < l.length := by omega
  obtain ⟨us, hus⟩ : ∃ us, usesI x = us := ⟨_, rfl⟩
  obtain ⟨y, hy⟩ : ∃ y, replI x l = y := ⟨_, rfl⟩
  have HUS := lhid hus
  have HY := lhid hy
  have HXN : Hid (x.args.length ≤ 2000) := lhid (by omega)
  have HLN : Hid (l.length ≤ 2000) := lhid (by omega)
  have HUN : Hid (us.length ≤ 2000) := lhid (by rw [← hus]; have := usesI_len x; omega)
  have HRO : Hid (replI x us = x) := lhid (by rw [← hus]; exact repl_own x)
  have HYN : Hid (y.args.length ≤ 2000) := lhid (by
    rw [← hy]
    unfold replI
    split
    · split
      · exact HLN.out
      · exact HXN.out
    · exact HXN.out)
  clear q0 q1 hus hy
  go_enter Try.func5, Try.ntmps5
  go_wp2_with fail
  with_reducible refine (holds_any _).mono ?_
  rintro e w1 ⟨rfl, hb⟩
  have hX1 : XBox w1 w.heap.size x.op x.dst x.a x.b x.c x.num x.too x.ref (.slice VA x.args.length vc) := heap_keep (heap_alloc_new w _) hb
  have hB1 := ((Below.refl w.heap.size w).alloc (Nat.le_refl _) _).trans (hb.mono (by simp))
  have HB1 := lhid hB1
  obtain ⟨y0, y1, y2, y3, y4, y5, y6, y7, y8⟩ := hX1.cells
  have HX1 := lhid hX1
  clear hb hB1 hX1
  have HV1 := lhid (h.out.below (keptX_nu _) HB1.out)
  go_wp2_with fail
  with_reducible refine (uses_r2 x (.slice VA x.args.length vc) us _ HV1 HXN HUS).mono ?_
  rintro e w2 ⟨va, rfl, ho, hb⟩
  obtain ⟨OA, oc, hoa⟩ := own_shape ho
  subst hoa
  have hX2 : XBox w2 w.heap.size x.op x.dst x.a x.b x.c x.num x.too x.ref (.slice VA x.args.length vc) := heap_keep HX1.out hb
  have HB2 := lhid (HB1.out.trans (hb.mono HB1.out.size))
  have HO2 := lhid (own_base ho HB1.out.size)
  clear ho hb HB1 HX1 HV1 y0 y1 y2 y3 y4 y5 y6 y7 y8
  obtain ⟨y0, y1, y2, y3, y4, y5, y6, y7, y8⟩ := hX2.cells
  have HX2 := lhid hX2
  have HV2 := lhid (h.out.below (keptX_nu _) HB2.out)
  clear hX2
  go_upto_region 6 with fail
  have HG : Hid (∀ w' : World, Below w2.heap.size w2 w' → w'.cell? ⟨w.heap.size, 0, none⟩ = some (.int .i64 x.op) ∧ w'.cell? ⟨w.heap.size, 1, none⟩ = some (.int .i64 x.dst) ∧ w'.cell? ⟨w.heap.size, 2, none⟩ = some (.int .i64 x.a) ∧ w'.cell? ⟨w.heap.size, 3, none⟩ = some (.int .i64 x.b) ∧ w'.cell? ⟨w.heap.size, 4, none⟩ = some (.int .i64 x.c) ∧ w'.cell? ⟨w.heap.size, 5, none⟩ = some (.int .i64 x.num) ∧ w'.cell? ⟨w.heap.size, 6, none⟩ = some (.int .i64 x.too) ∧ w'.cell? ⟨w.heap.size, 7, none⟩ = some (.string (tx x.ref)) ∧ w'.cell? ⟨w.heap.size, 8, none⟩ = some (.slice VA x.args.length vc)) := lhid (fun w' hw' => by
    have k1 : XBox w' w.heap.size x.op x.dst x.a x.b x.c x.num x.too x.ref (.slice VA x.args.length vc) := heap_keep HX2.out hw'
    exact k1.cells)
  clear y0 y1 y2 y3 y4 y5 y6 y7 y8
  go_cut [27] from 9 (fun t27 wc => t27 = .bool false ∧ Hid (Below w2.heap.size w2 wc))
  case first =>
    refine wp_region_held_drew (S := fun w' => Below w2.heap.size w2 w') (by kernel_rfl) (Below.drew' (Below.refl _ _)) ?_
    intro hS0
    refine wpAnyH_take (i := 0) (v := ?tv1) rfl (by kernel_rfl) (by kernel_rfl) (by kernel_rfl) (fun _ _ _ h => h) (Or.inl ⟨by rfl, ?ty1⟩) hS0 ?tr1
    case ty1 => (intro w' hw'; obtain ⟨y0, y1, y2, y3, y4, y5, y6, y7, y8⟩ := HG.out w' hw'; go_simp; try with_reducible rfl)
    try simp only [Act.put, List.setIfInBounds_toArray, List.set_cons_zero, List.set_cons_succ]
    refine wpAnyH_take (i := 1) (v := ?tv2) rfl (by kernel_rfl) (by kernel_rfl) (by kernel_rfl) (fun _ _ _ h => h) (Or.inl ⟨by rfl, ?ty2⟩) hS0 ?tr2
    case ty2 => (intro w' hw'; obtain ⟨y0, y1, y2, y3, y4, y5, y6, y7, y8⟩ := HG.out w' hw'; go_simp; try with_reducible rfl)
    try simp only [Act.put, List.setIfInBounds_toArray, List.set_cons_zero, List.set_cons_succ]
    refine wpAnyH_take (i := 3) (v := ?tv3) rfl (by kernel_rfl) (by kernel_rfl) (by kernel_rfl) (fun _ _ _ h => h) (Or.inl ⟨by rfl, ?ty3⟩) hS0 ?tr3
    case ty3 => (intro w' hw'; obtain ⟨y0, y1, y2, y3, y4, y5, y6, y7, y8⟩ := HG.out w' hw'; go_simp; try with_reducible rfl)
    try simp only [Act.put, List.setIfInBounds_toArray, List.set_cons_zero, List.set_cons_succ]
    refine wpAnyH_ready (rs := [2]) (by kernel_rfl) (by simp) ?_
    refine AllReadyH.cons rfl (fun K hK => ?_) AllReadyH.nil

    go_simp
    refine (replace_r x (.slice VA x.args.length vc) (.slice OA us.length oc) us x _ (lhid (HV2.out.below (keptX_nu _) hS0)) (lhid (OwN.rd (own_below HO2.out hS0) (by have := HUN.out; omega))) HXN HUN HRO).mono ?_
    rintro e wa ⟨vb, rfl, ho, hb⟩
    have hS1 : Below w2.heap.size w2 wa := hS0.trans (hb.mono hS0.size)
    have HO := lhid ho
    clear ho
    clear hb
    dsimp only
    refine hK.out _ _ hS1 (fun _ => ?_)
    clear hK K
    try simp only [Act.put, List.setIfInBounds_toArray, List.set_cons_zero, List.set_cons_succ]
    refine wpAnyH_ready (rs := [4]) (by kernel_rfl) (by simp) ?_
    refine AllReadyH.cons rfl (fun K hK => ?_) AllReadyH.nil

    go_simp
    refine (sameIns_t x _ (.slice VA x.args.length vc) _ (lhid (OwN.rd HO.out (by have := HXN.out; omega))) (lhid (HV2.out.below (keptX_nu _) hS1))).mono ?_
    rintro e wb ⟨rfl, hb⟩
    have hS2 : Below w2.heap.size w2 wb := hS1.trans (hb.mono hS1.size)

    clear hb
    dsimp only
    refine hK.out _ _ hS2 (fun _ => ?_)
    clear hK K
    try simp only [Act.put, List.setIfInBounds_toArray, List.set_cons_zero, List.set_cons_succ]
    refine wpAnyH_quiet_tail 5 (by rfl) (by kernel_rfl) (by kernel_rfl) hS2 ?_
    simp only [List.drop_succ_cons, List.drop_zero]
    repeat (first
      | go_big_quiet_skip
      | (go_big_quiet_want
         refine quiet_of_run (v := ?_) (fun w' hw' => ?_) ?_
         rotate_left
         · (go_simp; try with_reducible rfl)
         go_big_quiet_on
         try simp only [Act.put, List.setIfInBounds_toArray, List.set_cons_zero, List.set_cons_succ]))
    refine wpQuiet_nil ?_
    intro wx hwx
    have HWX := lhid hwx
    clear hwx
    go_wp2_with fail
    go_meet
    case rel => exact ⟨rfl, HWX⟩
  obtain ⟨rfl, hcut⟩ := hcut
  have hX3 : XBox wc w.heap.size x.op x.dst x.a x.b x.c x.num x.too x.ref (.slice VA x.args.length vc) := heap_keep HX2.out hcut.out
  have HB3 := lhid (HB2.out.trans (hcut.out.mono HB2.out.size))
  have HO3 := lhid (own_below HO2.out hcut.out)
  have HV3 := lhid (HV2.out.below (keptX_nu _) hcut.out)
  clear HG hcut HO2 HB2 HX2 HV2
  obtain ⟨y0, y1, y2, y3, y4, y5, y6, y7, y8⟩ := hX3.cells
  have HX3 := lhid hX3
  have HL3 := lhid (hl.out.below (keptX_nu _) HB3.out)
  clear hX3
  go_wp2_with fail
  with_reducible refine (replace_r x (.slice VA x.args.length vc) (.slice LA l.length lc) l y _ HV3 HL3 HXN HLN HY).mono ?_
  rintro e w4 ⟨vy, rfl, ho, hb⟩
  obtain ⟨YA, yc, hvy⟩ := own_shape ho
  subst hvy
  have HB4 := lhid (HB3.out.trans (hb.mono HB3.out.size))
  have hX4 : XBox w4 w.heap.size x.op x.dst x.a x.b x.c x.num x.too x.ref (.slice VA x.args.length vc) := heap_keep HX3.out hb
  have HX4 := lhid hX4
  have HO4 := lhid (own_below HO3.out hb)
  have HY4 := lhid (own_base ho HB3.out.size)
  clear ho hb HB3 HX3 HO3 HV3 HL3 y0 y1 y2 y3 y4 y5 y6 y7 y8 hX4
  go_upto_region 9 with fail
  generalize hW5 : World.alloc _ _ = w5
  obtain ⟨Y, hYY⟩ : ∃ Y, Y = w4.heap.size := ⟨_, rfl⟩
  have h45 : Below w4.heap.size w4 w5 := by rw [← hW5]; exact (Below.refl _ _).alloc (Nat.le_refl _) _
  have hU5 : XBox w5 Y y.op y.dst y.a y.b y.c y.num y.too y.ref (.slice YA y.args.length yc) := by rw [← hW5, hYY]; exact heap_alloc_new w4 _
  rw [← hYY]
  have HB5 := lhid (HB4.out.trans (h45.mono HB4.out.size))
  have hX5 : XBox w5 w.heap.size x.op x.dst x.a x.b x.c x.num x.too x.ref (.slice VA x.args.length vc) := heap_keep HX4.out h45
  have HO5 := lhid (own_below HO4.out h45)
  have HY5 := lhid (own_below HY4.out h45)
  clear hW5 h45 HB4 HX4 HO4 HY4 hYY
  obtain ⟨y0, y1, y2, y3, y4, y5, y6, y7, y8⟩ := hX5.cells
  obtain ⟨u0, u1, u2, u3, u4, u5, u6, u7, u8⟩ := hU5.cells
  have HX5 := lhid hX5
  have HU5 := lhid hU5
  have HV5 := lhid (h.out.below (keptX_nu _) HB5.out)
  have HL5 := lhid (hl.out.below (keptX_nu _) HB5.out)
  clear hX5 hU5
  by_cases hne : l.length = us.length
  case neg =>
    have k0 : ¬ (l.length : Int) = us.length := by omega
    have k1 : ((l.length : Int) == (us.length : Int)) = false := by rw [beq_eq_false_iff_ne]; exact k0
    have hyx : y = x := by rw [← HY.out]; exact repl_ne (by rw [HUS.out]; exact hne)
    subst hyx
    clear hne
    go_wp2_with fail
    with_reducible refine (sameIns_t y (.slice YA y.args.length yc) (.slice VA y.args.length vc) _ (lhid (OwN.rd HY5.out (by have := HXN.out; omega))) HV5).mono ?_
    rintro e w6 ⟨rfl, hb⟩
    have HB6 := lhid (HB5.out.trans (hb.mono HB5.out.size))
    clear hb
    go_wp2_with fail
    go_ret
    exact ⟨rfl, HB6.out⟩
  have k0 : (l.length : Int) = us.length := by omega
  have k1 : ((l.length : Int) == (us.length : Int)) = true := by rw [k0]; simp
  have k2 : ((l.length : Int) != (us.length : Int)) = false := by rw [bne, k1]; rfl
  have HNE := lhid hne
  have HK0 := lhid k0
  clear k0 hne
  obtain ⟨al, hal⟩ : ∃ al, l ++ us = al := ⟨_, rfl⟩
  have HAL := lhid hal
  have HALN : Hid (al.length = l.length + us.length) := lhid (by rw [← hal]; simp)
  clear hal
  go_upto_region 11 with fail
  clear y0 y1 y2 y3 y4 y5 y6 y7 y8 u0 u1 u2 u3 u4 u5 u6 u7 u8
  obtain ⟨i0, hi0, hz0, hz1, hz2⟩ := info_parts info_nuP
  have HI1 := lhid hi0
  have HI2 := lhid hz0
  have HI3 := lhid hz1
  have HI4 := lhid hz2
  clear hi0 hz0 hz1 hz2
  go_cut [42, 43, 44] from 9 (fun t42 t43 t44 wc => ∃ A c, t42 = .slice A al.length c ∧ t43 = .int .i64 al.length ∧ t44 = .int .i64 0 ∧ Hid (OwN wc w5.heap.size (.slice A al.length c) al) ∧ Hid (Below w5.heap.size w5 wc))
  case first =>
    have n1 : l.length ≤ 1000 := by omega
    have n2 : us.length ≤ 1000 := by have := HNE.out; omega
    have HUO : Hid (∀ t ∈ us.map vI, t.oneCell' = true) := lhid (fun t ht => by
      obtain ⟨z, _, rfl⟩ := List.mem_map.1 ht
      rfl)
    have HLO : Hid (∀ t ∈ l.map vI, t.oneCell' = true) := lhid (fun t ht => by
      obtain ⟨z, _, rfl⟩ := List.mem_map.1 ht
      rfl)
    have HUR := lhid (OwN.rd HO5.out (by omega))
    cases LA with
    | none =>
      obtain ⟨hl0, _, hc0⟩ := hl.out.none0
      subst hl0 hc0
      cases OA with
      | none =>
        obtain ⟨hu0, _, hd0⟩ := HUR.out.none0
        subst hu0 hd0
        go_wp2_with (first | (at_builtin; refine wpList_append_own_none rfl (.const (.slice none 0 0)) (.tmp 39) 22 rfl w5.heap.size 3 i0 1 Try.underlying22 HI1.out (.slice none 0 0) 0 [] rfl (World.ownsRow_nil _ _ _ _) rfl ?_) | (at_builtin; refine wpList_append_own_none rfl (.tmp 40) (.tmp 41) 22 rfl w5.heap.size 3 i0 1 Try.underlying22 HI1.out (.slice none 0 0) 0 [] rfl (World.ownsRow_nil _ _ _ _) rfl ?_))
        go_meet
        case rel =>
          have h0 : al = [] := by rw [← HAL.out]; rfl
          subst h0
          exact ⟨none, 0, rfl, rfl, rfl, lhid (World.ownsRow_nil _ _ _ _), lhid (Below.refl _ _)⟩
      | some ad2 =>
        obtain ⟨ys, hy1, hy2, _⟩ := rdX_cells row_nu HUR.out
        rw [rowsE_nu hy1] at hy2
        have HUC := lhid hy2
        clear hy1 hy2
        go_wp2_with (first | (at_builtin; refine wpList_append_own_none rfl (.const (.slice none 0 0)) (.tmp 39) 22 rfl w5.heap.size 3 i0 1 Try.underlying22 HI1.out (.slice none 0 0) 0 [] rfl (World.ownsRow_nil _ _ _ _) rfl ?_) | (at_builtin; refine wpList_append_own _ rfl (.tmp 40) (.tmp 41) 22 rfl w5.heap.size 3 i0 (.int .i64 0) 1 8 Try.underlying22 HI1.out HI2.out HI3.out HI4.out rfl (by decide) (.slice none 0 0) 0 [] rfl (World.ownsRow_nil _ _ _ _) ad2 us.length oc (us.map vI) rfl ?b1 HUC.out HUO.out ?b4 ?b5 (Nat.le_refl _) ?_))
        case b1 => (rw [List.length_map, Nat.mul_one])
        case b4 => (unfold maxLen; omega)
        case b5 => omega
        intro vz w7 hoy hgr _
        have hbz : Below w5.heap.size w5 w7 := Below.grown (Below.refl _ _) hgr (Nat.le_refl _) (fun k hk => by cases hk)
        have hoz : OwN w7 w5.heap.size vz al := by
          show World.ownsRow _ _ _ _ _ al.length (al.map vI)
          rw [← HAL.out, List.length_append, List.map_append]
          simpa using hoy
        obtain ⟨A, c, hvz⟩ := own_shape hoz
        subst hvz
        go_wp2_with fail
        go_meet
        case rel => exact ⟨_, _, rfl, rfl, rfl, lhid hoz, lhid hbz⟩
    | some ad =>
      obtain ⟨xs1, hx1, hx2, _⟩ := rdX_cells row_nu HL5.out
      rw [rowsE_nu hx1] at hx2
      have HLC := lhid hx2
      clear hx1 hx2
      go_wp2_with ((at_builtin; refine wpList_append_own _ rfl (.const (.slice none 0 0)) (.tmp 39) 22 rfl w5.heap.size 3 i0 (.int .i64 0) 1 8 Try.underlying22 HI1.out HI2.out HI3.out HI4.out rfl (by decide) (.slice none 0 0) 0 [] rfl (World.ownsRow_nil _ _ _ _) ad l.length lc (l.map vI) rfl ?a1 HLC.out HLO.out ?a4 ?a5 (Nat.le_refl _) ?_))
      case a1 => (rw [List.length_map, Nat.mul_one])
      case a4 => (unfold maxLen; omega)
      case a5 => omega
      intro v1 w6 ho1 hgr1 _
      have hb6 : Below w5.heap.size w5 w6 := Below.grown (Below.refl _ _) hgr1 (Nat.le_refl _) (fun k hk => by cases hk)
      have HB6 := lhid hb6
      have HO1 : Hid (w6.ownsRow w5.heap.size 3 1 v1 l.length (l.map vI)) := lhid (by simpa using ho1)
      obtain ⟨A1, c1, hv1⟩ := own_shape HO1.out
      subst hv1
      clear ho1 hgr1 hb6
      cases OA with
      | none =>
        obtain ⟨hu0, _, hd0⟩ := HUR.out.none0
        subst hu0 hd0
        have hl0 : l = [] := List.length_eq_zero_iff.1 HNE.out
        subst hl0
        go_wp2_with ((at_builtin; refine wpList_append_own_none rfl (.tmp 40) (.tmp 41) 22 rfl w5.heap.size 3 i0 1 Try.underlying22 HI1.out (.slice A1 ([] : List Int).length c1) ([] : List Int).length (([] : List Int).map vI) rfl HO1.out rfl ?_))
        have h0 : al = [] := by rw [← HAL.out]; rfl
        subst h0
        have hoz : OwN w6 w5.heap.size (.slice A1 ([] : List Int).length c1) [] := HO1.out
        have hbz := HB6.out
        go_wp2_with fail
        go_meet
        case rel => exact ⟨_, _, rfl, rfl, rfl, lhid hoz, lhid hbz⟩
      | some ad2 =>
        obtain ⟨ys, hy1, hy2, _⟩ := rdX_cells row_nu HUR.out
        rw [rowsE_nu hy1] at hy2
        have HUC : Hid (∀ (j : Nat) u, (us.map vI)[j]? = some u → w6.cell? (ad2.add j) = some u) := lhid (fun j u hj => by
          have h1 := hy2 j u hj
          rw [Go.RowKit.Below.cell HB6.out (cell_lt h1)]
          exact h1)
        clear hy1 hy2
        go_wp2_with ((at_builtin; refine wpList_append_own _ rfl (.tmp 40) (.tmp 41) 22 rfl w5.heap.size 3 i0 (.int .i64 0) 1 8 Try.underlying22 HI1.out HI2.out HI3.out HI4.out rfl (by decide) (.slice A1 l.length c1) l.length (l.map vI) rfl HO1.out ad2 us.length oc (us.map vI) rfl ?b1 HUC.out HUO.out ?b4 ?b5 HB6.out.size ?_))
        case b1 => (rw [List.length_map, Nat.mul_one])
        case b4 => (unfold maxLen; omega)
        case b5 => omega
        intro vz w7 hoy hgr _
        have hbz : Below w5.heap.size w5 w7 := Below.grown HB6.out hgr HB6.out.size (own_lt HO1.out)
        have hoz : OwN w7 w5.heap.size vz al := by
          show World.ownsRow _ _ _ _ _ al.length (al.map vI)
          rw [← HAL.out, List.length_append, List.map_append]
          simpa using hoy
        obtain ⟨A, c, hvz⟩ := own_shape hoz
        subst hvz
        go_wp2_with fail
        go_meet
        case rel => exact ⟨_, _, rfl, rfl, rfl, lhid hoz, lhid hbz⟩
  obtain ⟨A, c, rfl, rfl, rfl, HAO, hBW⟩ := hcut
  have HBW := lhid (HB5.out.trans (hBW.out.mono HB5.out.size))
  have HB5W := hBW
  clear hBW HI1 HI2 HI3 HI4
  have n9 : al.length ≤ 3000 := by have := HALN.out; have := HNE.out; omega
  go_upto_block 0 with fail
  go_cut [8, 44] from 9 (fun _ _ wx => wx = wc ∧ Hid (∀ z ∈ l, 0 ≤ z))
  case first =>
    go_wp2_with fail
    go_loopw [8, 44] (fun _ i wr => ∃ k : Nat, i = .int .i64 k ∧ k ≤ al.length ∧ Hid (∀ (j : Nat) z, j < k → al[j]? = some z → 0 ≤ z) ∧ wr = wc) (fun _ i _ => al.length - (intOf i).toNat)
    case atStart => exact ⟨0, rfl, Nat.zero_le _, lhid (fun j z hj => absurd hj (Nat.not_lt_zero _)), rfl⟩
    case round =>
      obtain ⟨k, rfl, hk, HPOSK, rfl⟩ := hrel
      by_cases hlt : k < al.length
      · obtain ⟨z, hz⟩ : ∃ z, al[k]? = some z := ⟨_, List.getElem?_eq_getElem hlt⟩
        obtain ⟨g, hg⟩ : ∃ g, A = some ⟨g, 0, none⟩ := by
          rcases HAO.out.2 with ⟨_, h2⟩ | ⟨g, cap, cur, h1, _⟩
          · omega
          · injection h1 with h1
            exact ⟨g, h1⟩
        subst hg
        have c0 : wr.cell? ⟨g, k, none⟩ = some (.int .i64 z) := by
          rw [HAO.out.cellAt k (by omega), List.getElem?_map, hz]
          rfl
        have HZ := lhid hz
        have k3 : (k : Int) < al.length := by omega
        clear hz
        by_cases q : z < 0
        · go_wp2_with fail
          go_ret
          exact ⟨rfl, HBW.out⟩
        · have HP2 : Hid (∀ (j : Nat) z, j < k + 1 → al[j]? = some z → 0 ≤ z) := lhid (fun j z' hj hz' => by
            by_cases e : j = k
            · subst e
              rw [HZ.out] at hz'
              injection hz' with hz'
              omega
            · exact HPOSK.out j z' (by omega) hz')
          have hwk : wrap64 ((k : Int) + 1) = (k : Int) + 1 := IntWalk.wrap64_in _ (by omega)
          go_wp2_with fail
          go_roundw
          case rel => exact ⟨k + 1, by first | go_num | (rw [hwk]; rfl), by omega, HP2, by first | rfl | trivial⟩
          case measure => simp [intOf]; omega
      · have k3 : ¬ (k : Int) < al.length := by omega
        have HALL : Hid (∀ z ∈ l, 0 ≤ z) := lhid (fun z hz => by
          obtain ⟨j, hj, hjz⟩ := List.getElem_of_mem hz
          have hjl : j < al.length := by rw [HALN.out]; omega
          exact HPOSK.out j z (by omega) (by rw [← HAL.out, List.getElem?_append_left hj, List.getElem?_eq_getElem hj, hjz]))
        go_wp2_with fail
        go_meet
        case rel => exact ⟨rfl, HALL⟩
  obtain ⟨hwr, HALL⟩ := hcut
  subst hwr
  have hll : l.length = (usesI x).length := by rw [HUS.out]; exact HNE.out
  have HUY : Hid (usesI y = l) := lhid (by rw [← HY.out]; exact repl_uses x l hll HALL.out)
  have HRB : Hid (replI y us = x) := lhid (by rw [← HY.out, ← HUS.out]; exact repl_back x l hll HALL.out)
  obtain ⟨d, hd⟩ : ∃ d, defI x = d := ⟨_, rfl⟩
  have HDX := lhid hd
  have HDY : Hid (defI y = d) := lhid (by rw [← HY.out, repl_def, hd])
  have HOP : Hid (y.op = x.op) := lhid (by rw [← HY.out]; exact repl_op x l)
  clear hd hll
  go_upto_region 17 with fail
  have HVR := lhid (HV5.out.below (keptX_nu _) HB5W.out)
  have HLR := lhid (HL5.out.below (keptX_nu _) HB5W.out)
  have HOR := lhid (own_below HO5.out HB5W.out)
  have HYR := lhid (own_below HY5.out HB5W.out)
  have HG2 : Hid (∀ w' : World, Below wc.heap.size wc w' → (w'.cell? ⟨w.heap.size, 0, none⟩ = some (.int .i64 x.op) ∧ w'.cell? ⟨w.heap.size, 1, none⟩ = some (.int .i64 x.dst) ∧ w'.cell? ⟨w.heap.size, 2, none⟩ = some (.int .i64 x.a) ∧ w'.cell? ⟨w.heap.size, 3, none⟩ = some (.int .i64 x.b) ∧ w'.cell? ⟨w.heap.size, 4, none⟩ = some (.int .i64 x.c) ∧ w'.cell? ⟨w.heap.size, 5, none⟩ = some (.int .i64 x.num) ∧ w'.cell? ⟨w.heap.size, 6, none⟩ = some (.int .i64 x.too) ∧ w'.cell? ⟨w.heap.size, 7, none⟩ = some (.string (tx x.ref)) ∧ w'.cell? ⟨w.heap.size, 8, none⟩ = some (.slice VA x.args.length vc)) ∧ (w'.cell? ⟨Y, 0, none⟩ = some (.int .i64 x.op) ∧ w'.cell? ⟨Y, 1, none⟩ = some (.int .i64 y.dst) ∧ w'.cell? ⟨Y, 2, none⟩ = some (.int .i64 y.a) ∧ w'.cell? ⟨Y, 3, none⟩ = some (.int .i64 y.b) ∧ w'.cell? ⟨Y, 4, none⟩ = some (.int .i64 y.c) ∧ w'.cell? ⟨Y, 5, none⟩ = some (.int .i64 y.num) ∧ w'.cell? ⟨Y, 6, none⟩ = some (.int .i64 y.too) ∧ w'.cell? ⟨Y, 7, none⟩ = some (.string (tx y.ref)) ∧ w'.cell? ⟨Y, 8, none⟩ = some (.slice YA y.args.length yc))) := lhid (fun w' hw' => by
    have k1 : XBox w' w.heap.size x.op x.dst x.a x.b x.c x.num x.too x.ref (.slice VA x.args.length vc) := heap_keep (heap_keep HX5.out HB5W.out) hw'
    have k2 : XBox w' Y y.op y.dst y.a y.b y.c y.num y.too y.ref (.slice YA y.args.length yc) := heap_keep (heap_keep HU5.out HB5W.out) hw'
    have k3 := k2.cells
    rw [HOP.out] at k3
    exact ⟨k1.cells, k3⟩)
  refine wp_region_held_drew (S := fun w' => Below wc.heap.size wc w') (by kernel_rfl) (Below.drew' (Below.refl _ _)) ?_
  intro hS0
  refine wpAnyH_take (i := 0) (v := ?tv101) rfl (by kernel_rfl) (by kernel_rfl) (by kernel_rfl) (fun _ _ _ h => h) (Or.inl ⟨by rfl, ?ty101⟩) hS0 ?tr101
  case ty101 => (intro w' hw'; obtain ⟨⟨y0, y1, y2, y3, y4, y5, y6, y7, y8⟩, ⟨u0, u1, u2, u3, u4, u5, u6, u7, u8⟩⟩ := HG2.out w' hw'; go_simp; try with_reducible rfl)
  try simp only [List.getElem_toArray, List.getElem_cons_zero, List.getElem_cons_succ]
  try simp only [Act.put, List.setIfInBounds_toArray, List.set_cons_zero, List.set_cons_succ]
  refine wpAnyH_take (i := 2) (v := ?tv102) rfl (by kernel_rfl) (by kernel_rfl) (by kernel_rfl) (fun _ _ _ h => h) (Or.inl ⟨by rfl, ?ty102⟩) hS0 ?tr102
  case ty102 => (intro w' hw'; obtain ⟨⟨y0, y1, y2, y3, y4, y5, y6, y7, y8⟩, ⟨u0, u1, u2, u3, u4, u5, u6, u7, u8⟩⟩ := HG2.out w' hw'; go_simp; try with_reducible rfl)
  try simp only [List.getElem_toArray, List.getElem_cons_zero, List.getElem_cons_succ]
  try simp only [Act.put, List.setIfInBounds_toArray, List.set_cons_zero, List.set_cons_succ]
  refine wpAnyH_ready (rs := [1]) (by kernel_rfl) (by simp) ?_
  refine AllReadyH.cons rfl (fun K hK => ?_) AllReadyH.nil

  go_simp
  refine (uses_p y x.op (.slice YA y.args.length yc) l _ HOP (lhid (OwN.rd (own_below HYR.out hS0) (by have := HYN.out; omega))) HYN HUY).mono ?_
  rintro e wa ⟨va, rfl, ho, hb⟩
  have hS1 : Below wc.heap.size wc wa := hS0.trans (hb.mono hS0.size)
  have HO := lhid (own_base ho hS0.size)
  clear ho
  clear hb
  dsimp only
  refine hK.out _ _ hS1 (fun _ => ?_)
  clear hK K
  try simp only [Act.put, List.setIfInBounds_toArray, List.set_cons_zero, List.set_cons_succ]
  refine wpAnyH_ready (rs := [3]) (by kernel_rfl) (by simp) ?_
  refine AllReadyH.cons rfl (fun K hK => ?_) AllReadyH.nil

  go_simp
  refine (rints_b _ _ l _ (lhid (OwN.rd HO.out (by have := HLN.out; omega))) (lhid (HLR.out.below (keptX_nu _) hS1))).mono ?_
  rintro e wb ⟨rfl, hb⟩
  have hS2 : Below wc.heap.size wc wb := hS1.trans (hb.mono hS1.size)
  clear HO
  clear hb
  dsimp only
  refine hK.out _ _ hS2 (fun _ => ?_)
  clear hK K
  try simp only [Act.put, List.setIfInBounds_toArray, List.set_cons_zero, List.set_cons_succ]
  refine wpAnyH_take (i := 4) (v := ?tv103) rfl (by kernel_rfl) (by kernel_rfl) (by kernel_rfl) (fun _ _ _ h => h) (Or.inl ⟨by rfl, ?ty103⟩) hS2 ?tr103
  case ty103 => (intro w' hw'; obtain ⟨⟨y0, y1, y2, y3, y4, y5, y6, y7, y8⟩, ⟨u0, u1, u2, u3, u4, u5, u6, u7, u8⟩⟩ := HG2.out w' hw'; go_simp; try with_reducible rfl)
  try simp only [List.getElem_toArray, List.getElem_cons_zero, List.getElem_cons_succ]
  try simp only [Act.put, List.setIfInBounds_toArray, List.set_cons_zero, List.set_cons_succ]
  refine wpAnyH_take (i := 5) (v := ?tv104) rfl (by kernel_rfl) (by kernel_rfl) (by kernel_rfl) (fun _ _ _ h => h) (Or.inl ⟨by rfl, ?ty104⟩) hS2 ?tr104
  case ty104 => (intro w' hw'; obtain ⟨⟨y0, y1, y2, y3, y4, y5, y6, y7, y8⟩, ⟨u0, u1, u2, u3, u4, u5, u6, u7, u8⟩⟩ := HG2.out w' hw'; go_simp; try with_reducible rfl)
  try simp only [List.getElem_toArray, List.getElem_cons_zero, List.getElem_cons_succ]
  try simp only [Act.put, List.setIfInBounds_toArray, List.set_cons_zero, List.set_cons_succ]
  refine wpAnyH_take (i := 7) (v := ?tv105) rfl (by kernel_rfl) (by kernel_rfl) (by kernel_rfl) (fun _ _ _ h => h) (Or.inl ⟨by rfl, ?ty105⟩) hS2 ?tr105
  case ty105 => (intro w' hw'; obtain ⟨⟨y0, y1, y2, y3, y4, y5, y6, y7, y8⟩, ⟨u0, u1, u2, u3, u4, u5, u6, u7, u8⟩⟩ := HG2.out w' hw'; go_simp; try with_reducible rfl)
  try simp only [List.getElem_toArray, List.getElem_cons_zero, List.getElem_cons_succ]
  try simp only [Act.put, List.setIfInBounds_toArray, List.set_cons_zero, List.set_cons_succ]
  refine wpAnyH_ready (rs := [6]) (by kernel_rfl) (by simp) ?_
  refine AllReadyH.cons rfl (fun K hK => ?_) AllReadyH.nil
  rw [if_pos (by rfl)]
  go_simp
  refine (def_p y x.op (.slice YA y.args.length yc) _ d HOP HDY).mono ?_
  rintro e wd ⟨rfl, hb⟩
  have hS3 : Below wc.heap.size wc wd := hS2.trans (hb.mono hS2.size)

  clear hb
  dsimp only
  refine hK.out _ _ hS3 (fun _ => ?_)
  clear hK K
  try simp only [Act.put, List.setIfInBounds_toArray, List.set_cons_zero, List.set_cons_succ]
  refine wpAnyH_ready (rs := [8]) (by kernel_rfl) (by simp) ?_
  refine AllReadyH.cons rfl (fun K hK => ?_) AllReadyH.nil
  rw [if_pos (by rfl)]
  go_simp
  refine (def_r2 x (.slice VA x.args.length vc) _ d HDX).mono ?_
  rintro e we ⟨rfl, hb⟩
  have hS4 : Below wc.heap.size wc we := hS3.trans (hb.mono hS3.size)

  clear hb
  dsimp only
  refine hK.out _ _ hS4 (fun _ => ?_)
  clear hK K
  try simp only [Act.put, List.setIfInBounds_toArray, List.set_cons_zero, List.set_cons_succ]
  refine wpAnyH_take (i := 9) (v := ?tv106) rfl (by kernel_rfl) (by kernel_rfl) (by kernel_rfl) (fun _ _ _ h => h) (Or.inl ⟨by rfl, ?ty106⟩) hS4 ?tr106
  case ty106 => (intro w' hw'; obtain ⟨⟨y0, y1, y2, y3, y4, y5, y6, y7, y8⟩, ⟨u0, u1, u2, u3, u4, u5, u6, u7, u8⟩⟩ := HG2.out w' hw'; go_simp; try with_reducible rfl)
  try simp only [List.getElem_toArray, List.getElem_cons_zero, List.getElem_cons_succ]
  try simp only [Act.put, List.setIfInBounds_toArray, List.set_cons_zero, List.set_cons_succ]
  refine wpAnyH_take (i := 10) (v := ?tv107) rfl (by kernel_rfl) (by kernel_rfl) (by kernel_rfl) (fun _ _ _ h => h) (Or.inl ⟨by rfl, ?ty107⟩) hS4 ?tr107
  case ty107 => (intro w' hw'; obtain ⟨⟨y0, y1, y2, y3, y4, y5, y6, y7, y8⟩, ⟨u0, u1, u2, u3, u4, u5, u6, u7, u8⟩⟩ := HG2.out w' hw'; go_simp; try with_reducible rfl)
  try simp only [List.getElem_toArray, List.getElem_cons_zero, List.getElem_cons_succ]
  try simp only [Act.put, List.setIfInBounds_toArray, List.set_cons_zero, List.set_cons_succ]
  refine wpAnyH_take (i := 11) (v := ?tv108) rfl (by kernel_rfl) (by kernel_rfl) (by kernel_rfl) (fun _ _ _ h => h) (Or.inl ⟨by rfl, ?ty108⟩) hS4 ?tr108
  case ty108 => (intro w' hw'; obtain ⟨⟨y0, y1, y2, y3, y4, y5, y6, y7, y8⟩, ⟨u0, u1, u2, u3, u4, u5, u6, u7, u8⟩⟩ := HG2.out w' hw'; go_simp; try with_reducible rfl)
  try simp only [List.getElem_toArray, List.getElem_cons_zero, List.getElem_cons_succ]
  try simp only [Act.put, List.setIfInBounds_toArray, List.set_cons_zero, List.set_cons_succ]
  refine wpAnyH_take (i := 12) (v := ?tv109) rfl (by kernel_rfl) (by kernel_rfl) (by kernel_rfl) (fun _ _ _ h => h) (Or.inl ⟨by rfl, ?ty109⟩) hS4 ?tr109
  case ty109 => (intro w' hw'; obtain ⟨⟨y0, y1, y2, y3, y4, y5, y6, y7, y8⟩, ⟨u0, u1, u2, u3, u4, u5, u6, u7, u8⟩⟩ := HG2.out w' hw'; go_simp; try with_reducible rfl)
  try simp only [List.getElem_toArray, List.getElem_cons_zero, List.getElem_cons_succ]
  try simp only [Act.put, List.setIfInBounds_toArray, List.set_cons_zero, List.set_cons_succ]
  refine wpAnyH_take (i := 13) (v := ?tv110) rfl (by kernel_rfl) (by kernel_rfl) (by kernel_rfl) (fun _ _ _ h => h) (Or.inl ⟨by rfl, ?ty110⟩) hS4 ?tr110
  case ty110 => (intro w' hw'; obtain ⟨⟨y0, y1, y2, y3, y4, y5, y6, y7, y8⟩, ⟨u0, u1, u2, u3, u4, u5, u6, u7, u8⟩⟩ := HG2.out w' hw'; go_simp; try with_reducible rfl)
  try simp only [List.getElem_toArray, List.getElem_cons_zero, List.getElem_cons_succ]
  try simp only [Act.put, List.setIfInBounds_toArray, List.set_cons_zero, List.set_cons_succ]
  refine wpAnyH_take (i := 14) (v := ?tv111) rfl (by kernel_rfl) (by kernel_rfl) (by kernel_rfl) (fun _ _ _ h => h) (Or.inl ⟨by rfl, ?ty111⟩) hS4 ?tr111
  case ty111 => (intro w' hw'; obtain ⟨⟨y0, y1, y2, y3, y4, y5, y6, y7, y8⟩, ⟨u0, u1, u2, u3, u4, u5, u6, u7, u8⟩⟩ := HG2.out w' hw'; go_simp; try with_reducible rfl)
  try simp only [List.getElem_toArray, List.getElem_cons_zero, List.getElem_cons_succ]
  try simp only [Act.put, List.setIfInBounds_toArray, List.set_cons_zero, List.set_cons_succ]
  refine wpAnyH_take (i := 15) (v := ?tv112) rfl (by kernel_rfl) (by kernel_rfl) (by kernel_rfl) (fun _ _ _ h => h) (Or.inl ⟨by rfl, ?ty112⟩) hS4 ?tr112
  case ty112 => (intro w' hw'; obtain ⟨⟨y0, y1, y2, y3, y4, y5, y6, y7, y8⟩, ⟨u0, u1, u2, u3, u4, u5, u6, u7, u8⟩⟩ := HG2.out w' hw'; go_simp; try with_reducible rfl)
  try simp only [List.getElem_toArray, List.getElem_cons_zero, List.getElem_cons_succ]
  try simp only [Act.put, List.setIfInBounds_toArray, List.set_cons_zero, List.set_cons_succ]
  refine wpAnyH_take (i := 16) (v := ?tv113) rfl (by kernel_rfl) (by kernel_rfl) (by kernel_rfl) (fun _ _ _ h => h) (Or.inl ⟨by rfl, ?ty113⟩) hS4 ?tr113
  case ty113 => (intro w' hw'; obtain ⟨⟨y0, y1, y2, y3, y4, y5, y6, y7, y8⟩, ⟨u0, u1, u2, u3, u4, u5, u6, u7, u8⟩⟩ := HG2.out w' hw'; go_simp; try with_reducible rfl)
  try simp only [List.getElem_toArray, List.getElem_cons_zero, List.getElem_cons_succ]
  try simp only [Act.put, List.setIfInBounds_toArray, List.set_cons_zero, List.set_cons_succ]
  refine wpAnyH_take (i := 17) (v := ?tv114) rfl (by kernel_rfl) (by kernel_rfl) (by kernel_rfl) (fun _ _ _ h => h) (Or.inl ⟨by rfl, ?ty114⟩) hS4 ?tr114
  case ty114 => (intro w' hw'; obtain ⟨⟨y0, y1, y2, y3, y4, y5, y6, y7, y8⟩, ⟨u0, u1, u2, u3, u4, u5, u6, u7, u8⟩⟩ := HG2.out w' hw'; go_simp; try with_reducible rfl)
  try simp only [List.getElem_toArray, List.getElem_cons_zero, List.getElem_cons_succ]
  try simp only [Act.put, List.setIfInBounds_toArray, List.set_cons_zero, List.set_cons_succ]
  refine wpAnyH_take (i := 18) (v := ?tv115) rfl (by kernel_rfl) (by kernel_rfl) (by kernel_rfl) (fun _ _ _ h => h) (Or.inl ⟨by rfl, ?ty115⟩) hS4 ?tr115
  case ty115 => (intro w' hw'; obtain ⟨⟨y0, y1, y2, y3, y4, y5, y6, y7, y8⟩, ⟨u0, u1, u2, u3, u4, u5, u6, u7, u8⟩⟩ := HG2.out w' hw'; go_simp; try with_reducible rfl)
  try simp only [List.getElem_toArray, List.getElem_cons_zero, List.getElem_cons_succ]
  try simp only [Act.put, List.setIfInBounds_toArray, List.set_cons_zero, List.set_cons_succ]
  refine wpAnyH_take (i := 19) (v := ?tv116) rfl (by kernel_rfl) (by kernel_rfl) (by kernel_rfl) (fun _ _ _ h => h) (Or.inl ⟨by rfl, ?ty116⟩) hS4 ?tr116
  case ty116 => (intro w' hw'; obtain ⟨⟨y0, y1, y2, y3, y4, y5, y6, y7, y8⟩, ⟨u0, u1, u2, u3, u4, u5, u6, u7, u8⟩⟩ := HG2.out w' hw'; go_simp; try with_reducible rfl)
  try simp only [List.getElem_toArray, List.getElem_cons_zero, List.getElem_cons_succ]
  try simp only [Act.put, List.setIfInBounds_toArray, List.set_cons_zero, List.set_cons_succ]
  refine wpAnyH_take (i := 20) (v := ?tv117) rfl (by kernel_rfl) (by kernel_rfl) (by kernel_rfl) (fun _ _ _ h => h) (Or.inl ⟨by rfl, ?ty117⟩) hS4 ?tr117
  case ty117 => (intro w' hw'; obtain ⟨⟨y0, y1, y2, y3, y4, y5, y6, y7, y8⟩, ⟨u0, u1, u2, u3, u4, u5, u6, u7, u8⟩⟩ := HG2.out w' hw'; go_simp; try with_reducible rfl)
  try simp only [List.getElem_toArray, List.getElem_cons_zero, List.getElem_cons_succ]
  try simp only [Act.put, List.setIfInBounds_toArray, List.set_cons_zero, List.set_cons_succ]
  refine wpAnyH_take (i := 22) (v := ?tv118) rfl (by kernel_rfl) (by kernel_rfl) (by kernel_rfl) (fun _ _ _ h => h) (Or.inl ⟨by rfl, ?ty118⟩) hS4 ?tr118
  case ty118 => (intro w' hw'; obtain ⟨⟨y0, y1, y2, y3, y4, y5, y6, y7, y8⟩, ⟨u0, u1, u2, u3, u4, u5, u6, u7, u8⟩⟩ := HG2.out w' hw'; go_simp; try with_reducible rfl)
  try simp only [List.getElem_toArray, List.getElem_cons_zero, List.getElem_cons_succ]
  try simp only [Act.put, List.setIfInBounds_toArray, List.set_cons_zero, List.set_cons_succ]
  refine wpAnyH_ready (rs := [21]) (by kernel_rfl) (by simp) ?_
  refine AllReadyH.cons rfl (fun K hK => ?_) AllReadyH.nil
  rw [if_pos (by rfl)]
  go_simp
  refine (replace_p y x.op (.slice YA y.args.length yc) (.slice OA us.length oc) us x _ HOP (lhid (OwN.rd (own_below HYR.out hS4) (by have := HYN.out; omega))) (lhid (OwN.rd (own_below HOR.out hS4) (by have := HUN.out; omega))) HYN HUN HRB).mono ?_
  rintro e wf ⟨vb, rfl, ho, hb⟩
  have hS5 : Below wc.heap.size wc wf := hS4.trans (hb.mono hS4.size)
  have HO := lhid ho
  clear ho
  clear hb
  dsimp only
  refine hK.out _ _ hS5 (fun _ => ?_)
  clear hK K
  try simp only [Act.put, List.setIfInBounds_toArray, List.set_cons_zero, List.set_cons_succ]
  refine wpAnyH_ready (rs := [23]) (by kernel_rfl) (by simp) ?_
  refine AllReadyH.cons rfl (fun K hK => ?_) AllReadyH.nil
  rw [if_pos (by rfl)]
  go_simp
  refine (sameIns_t x _ (.slice VA x.args.length vc) _ (lhid (OwN.rd HO.out (by have := HXN.out; omega))) (lhid (HVR.out.below (keptX_nu _) hS5))).mono ?_
  rintro e wg ⟨rfl, hb⟩
  have hS6 : Below wc.heap.size wc wg := hS5.trans (hb.mono hS5.size)

  clear hb
  dsimp only
  refine hK.out _ _ hS6 (fun _ => ?_)
  clear hK K
  try simp only [Act.put, List.setIfInBounds_toArray, List.set_cons_zero, List.set_cons_succ]
  refine wpAnyH_quiet_tail 24 (by rfl) (by kernel_rfl) (by kernel_rfl) hS6 ?_
  simp only [List.drop_succ_cons, List.drop_zero]
  repeat (first
    | go_big_quiet_skip
    | (go_big_quiet_want
       refine quiet_of_run (v := ?_) (fun w' hw' => ?_) ?_
       rotate_left
       · (go_simp; try with_reducible rfl)
       go_big_quiet_on
       try simp only [Act.put, List.setIfInBounds_toArray, List.set_cons_zero, List.set_cons_succ]))
  refine wpQuiet_nil ?_
  intro wx hwx
  have HW := lhid (HBW.out.trans (hwx.mono HBW.out.size))
  clear hwx
  go_wp2_with fail
  go_ret
  exact ⟨rfl, HW.out⟩
end Go.Proofs.Ythaijdcgmcfpiaa
