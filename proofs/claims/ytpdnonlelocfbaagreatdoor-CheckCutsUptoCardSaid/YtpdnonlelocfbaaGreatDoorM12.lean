/- Texts of this claim, joined: KinCopyM, KinTree, KinOwn, KinOwnC, KinHas, KinReach. -/
import Derived.Test.YtpdnonlelocfbaaGreatDoorJKinCopy
import Derived.Test.YtpdnonlelocfbaaGreatDoorM11
import Derived.Deep.MidRow
/- Copies of lists of methods, and of classes. -/
namespace Go.Proofs.YtpdnonlelocfbaaGreatDoor
open Go.RowKit Go
set_option linter.unusedVariables false


theorem copyMethod_cs (P : Nat → Prop) (x : MeI) (cs : List Value) (w : World) (h : Hid (MeE P w x cs)) :
    Calls Tryz.prog 66 #[.agg cs.toArray] w fun e w' => ∃ cs' : List Value, e = .returned (.agg cs'.toArray) ∧ MeE (fun g => w.heap.size ≤ g) w' x cs' ∧ Below w.heap.size w w' := by
  obtain ⟨a, b, d, rfl, ha, hb, hd⟩ := h.out
  exact copyMethod_any P x a b d w (lhid ha) (lhid hb) (lhid hd)
set_option maxHeartbeats 16000000 in
set_option maxRecDepth 100000 in
theorem copyMethods_any (P : Nat → Prop) (v : Value) (l : List MeI) (w : World) (h : Hid (RdX P 8 (MeE P) w v l)) :
    Calls Tryz.prog 133 #[v, .func (.func 66) #[] #[]] w fun e w' => ∃ v', e = .returned v' ∧ RdX (fun g => w.heap.size ≤ g) 8 (MeE fun g => w.heap.size ≤ g) w' v' l ∧ Below w.heap.size w w' := by
  obtain ⟨A, cap, rfl⟩ := h.out.shape
  have hlen := h.out.len
  go_enter Tryz.func133, Tryz.ntmps133
  go_wp2_with fail
  with_reducible refine (clone_me (row_me P) (.slice A l.length cap) l _ h).mono ?_
  rintro e w1 ⟨v1, xs, rfl, ho, hr, hb⟩
  have HB1 := lhid hb
  have H1 := lhid (h.out.below (keptX_me P) hb)
  have HO := lhid ho
  have hws := hb.size
  clear hb ho hr
  rcases Nat.eq_zero_or_pos l.length with h0 | hpos
  · have hl : l = [] := List.length_eq_zero_iff.1 h0
    subst hl
    clear h0
    have HN := lhid (rdX_own (E := MeE fun g => w.heap.size ≤ g) (l := ([] : List MeI)) HO.out (by simp) ⟨HO.out.1, fun i a hi => by simp at hi⟩)
    obtain ⟨A1, c1, rfl⟩ := own_shape HO.out
    go_wp2_with fail
    go_loopw [12] (fun i wr => i = .int .i64 0 ∧ wr = w1) (fun _ _ => 0)
    case atStart => exact ⟨rfl, rfl⟩
    case round =>
      obtain ⟨rfl, rfl⟩ := hrel
      go_wp2_with fail
      go_ret
      exact ⟨_, rfl, HN.out.any fun g hg => hg.1, HB1.out⟩
  obtain ⟨g, cap1, rfl, hg1, hcap1, HC0⟩ : ∃ g cap1, v1 = .slice (some ⟨g, 0, none⟩) l.length cap1 ∧ w.heap.size ≤ g ∧ l.length ≤ cap1 ∧ Hid (CI 27 8 (MeE fun b => w.heap.size ≤ b ∧ b ≠ g) w1 g cap1 l 0) := by
    rcases HO.out.2 with ⟨_, h2⟩ | ⟨g, cap1, cur, hv, h2, h3, h4, h5, h6, _⟩
    · omega
    · exact ⟨g, cap1, hv, h2, h4, lhid ⟨cur, h3, h6, fun i a hi => by omega⟩⟩
  clear HO
  go_wp2_with fail
  go_loopw [12] (fun i wr => ∃ kk : Nat, i = .int .i64 kk ∧ kk ≤ l.length ∧ Hid (CI 27 8 (MeE fun b => w.heap.size ≤ b ∧ b ≠ g) wr g cap1 l kk) ∧ Hid (Below w.heap.size w wr)) (fun i _ => l.length - (intOf i).toNat)
  case atStart => exact ⟨0, rfl, Nat.zero_le _, HC0, HB1⟩
  case round =>
    obtain ⟨kk, rfl, hkk, HC, HB⟩ := hrel
    by_cases hlt : kk < l.length
    · obtain ⟨x, hx⟩ : ∃ x, l[kk]? = some x := ⟨_, List.getElem?_eq_getElem hlt⟩
      have HX := lhid hx
      have HR := lhid (h.out.below (keptX_me P) HB.out)
      obtain ⟨ga, oa, cc, rfl, _, hE, hc⟩ := HR.out.at' hx
      have hc1 := row_me P _ _ _ hE
      have HE := lhid hE
      have HCL := lhid hc1.1
      have HRA : Hid (wr.rangeAt ga (oa + kk * 8) cc) := lhid hc
      have HSZ : Hid ((Tryz.prog.info? 27).map (·.size) = some cc.length) := lhid (by rw [hc1.1]; exact sz_meK)
      have HSA : Hid ((Tryz.prog.info? 27).map (·.size) = some cc.toArray.size) := lhid (by simpa using HSZ.out)
      have HALL : Hid (cc.toArray.all (·.oneCell') = true) := lhid (all_oneCell_toArray hc1.2)
      have hth : (wr.alloc (.cells #[.int .i64 0, .string ⟨#[]⟩, .string ⟨#[]⟩, .int .i64 0, .int .i64 0, .slice none 0 0, .slice none 0 0, .slice none 0 0] 27)).there wr.heap.size 0 8 := fun j hj => ⟨by
        rw [Nat.zero_add, heap_cell (heap_alloc_new wr _) (Array.getElem?_eq_getElem (by simpa using hj))]; rfl, heap_thaw (heap_alloc_new wr _) _⟩
      have HTA : Hid ((wr.alloc (.cells #[.int .i64 0, .string ⟨#[]⟩, .string ⟨#[]⟩, .int .i64 0, .int .i64 0, .slice none 0 0, .slice none 0 0, .slice none 0 0] 27)).there wr.heap.size 0 cc.toArray.size) := lhid (by rw [show cc.toArray.size = 8 by simpa using hc1.1]; exact hth)
      have HRB : Hid (((wr.alloc (.cells #[.int .i64 0, .string ⟨#[]⟩, .string ⟨#[]⟩, .int .i64 0, .int .i64 0, .slice none 0 0, .slice none 0 0, .slice none 0 0] 27)).setCells wr.heap.size 0 cc).rangeAt wr.heap.size 0 cc) := lhid (World.rangeAt_setCells_same _ _ _ _ (by rw [hc1.1]; exact hth))
      have k3 : (kk : Int) < l.length := by omega
      have hbs := HB.out.size
      have hgs := HC.out.lt
      have HW : Hid (Below w.heap.size w ((wr.alloc (.cells #[.int .i64 0, .string ⟨#[]⟩, .string ⟨#[]⟩, .int .i64 0, .int .i64 0, .slice none 0 0, .slice none 0 0, .slice none 0 0] 27)).setCells wr.heap.size 0 cc)) := lhid (below_cells (HB.out.alloc HB.out.size _) hbs _ _)
      have HW2 : Hid (Below wr.heap.size wr ((wr.alloc (.cells #[.int .i64 0, .string ⟨#[]⟩, .string ⟨#[]⟩, .int .i64 0, .int .i64 0, .slice none 0 0, .slice none 0 0, .slice none 0 0] 27)).setCells wr.heap.size 0 cc)) := lhid (below_cells ((Below.refl wr.heap.size wr).alloc (Nat.le_refl _) _) (Nat.le_refl _) _ _)
      have HES := lhid (keptX_me P _ _ _ _ (fun b _ hl => HW2.out.block b hl) HE.out)
      have hsz1 : wr.heap.size + 1 = ((wr.alloc (.cells #[.int .i64 0, .string ⟨#[]⟩, .string ⟨#[]⟩, .int .i64 0, .int .i64 0, .slice none 0 0, .slice none 0 0, .slice none 0 0] 27)).setCells wr.heap.size 0 cc).heap.size := by rw [setCells_size]; simp
      have HS1 := lhid hsz1
      clear hx hc hE hc1 hth hsz1
      go_wp2_with (first | (refine wpList_load_mid rfl 27 _ rfl ga (oa + kk * 8) rfl cc _ HRA.out Tryz.underlying27 (by rfl) HSZ.out ?_) | (refine wpList_store_mid rfl 27 _ _ rfl wr.heap.size 0 cc.toArray rfl rfl HTA.out HSA.out HALL.out ?_) | (refine wpList_load_mid rfl 27 _ rfl wr.heap.size 0 rfl cc _ HRB.out Tryz.underlying27 (by rfl) HSZ.out ?_))
      refine (copyMethod_cs P x cc _ HES).mono ?_
      rintro e w2 ⟨cs2, rfl, hE2, hB2⟩
      have hbb : Below wr.heap.size wr w2 := HW2.out.trans (Below.less hB2 (by rw [← HS1.out]; omega))
      have HC2 := lhid (HC.out.below (keptX_me _) hbb)
      have HBN := lhid (HW.out.trans (Below.less hB2 (by rw [← HS1.out]; omega)))
      have hE3 : MeE (fun b => w.heap.size ≤ b ∧ b ≠ g) w2 x cs2 := meE_mono (fun b hb _ => by have h1 := HS1.out; constructor <;> omega) _ _ hE2
      have HE3 := lhid hE3
      have hc2 := row_me _ _ _ _ hE3
      have HCL2 := lhid hc2.1
      obtain ⟨cur, hcur, hcs, _⟩ := HC2.out
      have hmul : (kk + 1) * 8 ≤ cap1 * 8 := Nat.mul_le_mul_right _ (by omega)
      have hth : w2.there g (kk * 8) 8 := fun j hj => ⟨by rw [heap_cell hcur (Array.getElem?_eq_getElem (by omega))]; rfl, heap_thaw hcur _⟩
      have HTH : Hid (w2.there g (kk * 8) cs2.toArray.size) := lhid (by rw [show cs2.toArray.size = 8 by simpa using hc2.1]; exact hth)
      have HSB : Hid ((Tryz.prog.info? 27).map (·.size) = some cs2.toArray.size) := lhid (by rw [show cs2.toArray.size = 8 by simpa using hc2.1]; exact sz_meK)
      have HAL2 : Hid (cs2.toArray.all (·.oneCell') = true) := lhid (all_oneCell_toArray hc2.2)
      clear hbb hB2 hE3 hcur hcs hE2 hth hc2 hmul
      go_wp2_with (refine wpList_store_mid rfl 27 _ _ rfl g (kk * 8) cs2.toArray rfl rfl HTH.out HSB.out HAL2.out ?_)
      go_roundw
      case rel => exact ⟨kk + 1, by go_num, by omega, lhid (CI.store (keptX_me _) (fun b hb => hb.2) HC2.out HX.out HE3.out HCL2.out (by omega)), lhid (below_cells (b := g) HBN.out hg1 (kk * 8) cs2)⟩
      case measure => simp [intOf]; omega
    · have k3 : ¬ (kk : Int) < l.length := by omega
      have e : kk = l.length := by omega
      subst e
      go_wp2_with fail
      go_ret
      exact ⟨_, rfl, CI.done HC.out hg1 (meE_mono fun b hb _ => hb.1) hlen, HB.out⟩

set_option maxHeartbeats 4000000 in
set_option maxRecDepth 100000 in
theorem copyClass_any (P : Nat → Prop) (x : ClI) (a p b d : Value) (w : World) (Ha : Hid (RdX P 1 StE w a x.ifaces)) (Hp : Hid (RdX P 5 CoE w p x.pool)) (Hb : Hid (RdX P 3 FlE w b x.fields)) (Hd : Hid (RdX P 8 (MeE P) w d x.methods)) :
    Calls Tryz.prog 65 #[.agg #[.int .i64 x.flags, .string (tx x.name), .string (tx x.super), a, p, b, d]] w fun e w' => ∃ cs' : List Value, e = .returned (.agg cs'.toArray) ∧ ClE (fun g => w.heap.size ≤ g) w' x cs' ∧ Below w.heap.size w w' := by
  have HB0 : Hid (Below w.heap.size w ((w.alloc (.cells #[.int .i64 x.flags, .string (tx x.name), .string (tx x.super), a, p, b, d] 39)).alloc (.cells #[.int .i64 0, .string ⟨#[]⟩, .string ⟨#[]⟩, .slice none 0 0, .slice none 0 0, .slice none 0 0, .slice none 0 0] 39))) := lhid (((Below.refl _ _).alloc (Nat.le_refl _) _).alloc (by simp) _)
  have HX0 : Hid (((w.alloc (.cells #[.int .i64 x.flags, .string (tx x.name), .string (tx x.super), a, p, b, d] 39)).alloc (.cells #[.int .i64 0, .string ⟨#[]⟩, .string ⟨#[]⟩, .slice none 0 0, .slice none 0 0, .slice none 0 0, .slice none 0 0] 39)).heap[w.heap.size]? = some (.cells #[.int .i64 x.flags, .string (tx x.name), .string (tx x.super), a, p, b, d] 39 (0, 0))) := lhid ((Below.heap_alloc _ _ _ (by simp)).trans (heap_alloc_new w _))
  have HY0 : Hid (((w.alloc (.cells #[.int .i64 x.flags, .string (tx x.name), .string (tx x.super), a, p, b, d] 39)).alloc (.cells #[.int .i64 0, .string ⟨#[]⟩, .string ⟨#[]⟩, .slice none 0 0, .slice none 0 0, .slice none 0 0, .slice none 0 0] 39)).heap[w.heap.size + 1]? = some (.cells #[.int .i64 0, .string ⟨#[]⟩, .string ⟨#[]⟩, .slice none 0 0, .slice none 0 0, .slice none 0 0, .slice none 0 0] 39 (0, 0))) := lhid (by
    have := heap_alloc_new (w.alloc (.cells #[.int .i64 x.flags, .string (tx x.name), .string (tx x.super), a, p, b, d] 39)) (.cells #[.int .i64 0, .string ⟨#[]⟩, .string ⟨#[]⟩, .slice none 0 0, .slice none 0 0, .slice none 0 0, .slice none 0 0] 39)
    simpa using this)
  have HS0 : Hid (w.heap.size + 2 ≤ ((w.alloc (.cells #[.int .i64 x.flags, .string (tx x.name), .string (tx x.super), a, p, b, d] 39)).alloc (.cells #[.int .i64 0, .string ⟨#[]⟩, .string ⟨#[]⟩, .slice none 0 0, .slice none 0 0, .slice none 0 0, .slice none 0 0] 39)).heap.size) := lhid (by simp)
  go_enter Tryz.func65, Tryz.ntmps65
  go_wp2_with fail
  with_reducible refine (clone_st row_st a _ _ (lhid ((Ha.out).below (keptX_st _) HB0.out))).mono ?_
  rintro e w1 ⟨v1, xs1, rfl, ho1, hr1, hb⟩
  obtain ⟨A1, c1, rfl⟩ := own_shape ho1
  have HX1' := lhid ((hb.block _ (heap_lt HX0.out)).trans HX0.out)
  have HY1' := lhid ((hb.block _ (heap_lt HY0.out)).trans HY0.out)
  have HB1' := lhid (HB0.out.trans (Below.less hb HB0.out.size))
  have HS1 : Hid (w.heap.size + 2 ≤ w1.heap.size) := lhid (by have h1 := HS0.out; have h2 := hb.size; omega)
  have HV1_1 := lhid ((rdX_own (E := StE) ho1 Ha.out.len hr1).any (Q := fun g => w.heap.size + 1 < g) fun g hg => by have h1 := hg.1; have h2 := HS0.out; omega)
  clear hb
  have HS1s : Hid (w.heap.size + 2 ≤ (w1.setCell ⟨w.heap.size, 3, none⟩ (.slice A1 x.ifaces.length c1)).heap.size) := lhid (by have h1 := HS1.out; simpa [World.setCell] using h1)
  have q1 := heap_cell (i := 3) HX1'.out rfl
  have z1 := heap_thaw HX1'.out 3
  have r1 := heap_cell (i := 4) HX1'.out rfl
  have HX1 : Hid ((w1.setCell ⟨w.heap.size, 3, none⟩ (.slice A1 x.ifaces.length c1)).heap[w.heap.size]? = some (.cells #[.int .i64 x.flags, .string (tx x.name), .string (tx x.super), .slice A1 x.ifaces.length c1, p, b, d] 39 (0, 0))) := lhid (heap_set HX1'.out (.slice A1 x.ifaces.length c1))
  have HY1 : Hid ((w1.setCell ⟨w.heap.size, 3, none⟩ (.slice A1 x.ifaces.length c1)).heap[w.heap.size + 1]? = some (.cells #[.int .i64 0, .string ⟨#[]⟩, .string ⟨#[]⟩, .slice none 0 0, .slice none 0 0, .slice none 0 0, .slice none 0 0] 39 (0, 0))) := lhid ((Below.heap_setCell _ _ _ _ (by simp)).trans HY1'.out)
  have HB1 : Hid (Below w.heap.size w (w1.setCell ⟨w.heap.size, 3, none⟩ (.slice A1 x.ifaces.length c1))) := lhid (HB1'.out.setCell (Nat.le_refl _) (.slice A1 x.ifaces.length c1))
  have HV1_1s : Hid (RdX (fun g => w.heap.size + 1 < g) 1 StE (w1.setCell ⟨w.heap.size, 3, none⟩ (.slice A1 x.ifaces.length c1)) (.slice A1 x.ifaces.length c1) x.ifaces) := lhid (HV1_1.out.kept (keptX_st _) (fun g hg _ => Below.heap_setCell _ _ _ _ (by show g ≠ w.heap.size; omega)))
  go_wp2_with fail
  clear q1 z1 r1
  with_reducible refine (clone_co row_co p _ _ (lhid ((Hp.out).below (keptX_co _) HB1.out))).mono ?_
  rintro e w2 ⟨v2, xs2, rfl, ho2, hr2, hb⟩
  obtain ⟨A2, c2, rfl⟩ := own_shape ho2
  have HX2' := lhid ((hb.block _ (heap_lt HX1.out)).trans HX1.out)
  have HY2' := lhid ((hb.block _ (heap_lt HY1.out)).trans HY1.out)
  have HB2' := lhid (HB1.out.trans (Below.less hb HB1.out.size))
  have HS2 : Hid (w.heap.size + 2 ≤ w2.heap.size) := lhid (by have h1 := HS1s.out; have h2 := hb.size; omega)
  have HV2_2 := lhid ((rdX_own (E := CoE) ho2 Hp.out.len hr2).any (Q := fun g => w.heap.size + 1 < g) fun g hg => by have h1 := hg.1; have h2 := HS1s.out; omega)
  have HV1_2 := lhid (HV1_1s.out.below (keptX_st _) hb)
  clear hb
  have HS2s : Hid (w.heap.size + 2 ≤ (w2.setCell ⟨w.heap.size, 4, none⟩ (.slice A2 x.pool.length c2)).heap.size) := lhid (by have h1 := HS2.out; simpa [World.setCell] using h1)
  have q2 := heap_cell (i := 4) HX2'.out rfl
  have z2 := heap_thaw HX2'.out 4
  have r2 := heap_cell (i := 5) HX2'.out rfl
  have HX2 : Hid ((w2.setCell ⟨w.heap.size, 4, none⟩ (.slice A2 x.pool.length c2)).heap[w.heap.size]? = some (.cells #[.int .i64 x.flags, .string (tx x.name), .string (tx x.super), .slice A1 x.ifaces.length c1, .slice A2 x.pool.length c2, b, d] 39 (0, 0))) := lhid (heap_set HX2'.out (.slice A2 x.pool.length c2))
  have HY2 : Hid ((w2.setCell ⟨w.heap.size, 4, none⟩ (.slice A2 x.pool.length c2)).heap[w.heap.size + 1]? = some (.cells #[.int .i64 0, .string ⟨#[]⟩, .string ⟨#[]⟩, .slice none 0 0, .slice none 0 0, .slice none 0 0, .slice none 0 0] 39 (0, 0))) := lhid ((Below.heap_setCell _ _ _ _ (by simp)).trans HY2'.out)
  have HB2 : Hid (Below w.heap.size w (w2.setCell ⟨w.heap.size, 4, none⟩ (.slice A2 x.pool.length c2))) := lhid (HB2'.out.setCell (Nat.le_refl _) (.slice A2 x.pool.length c2))
  have HV1_2s : Hid (RdX (fun g => w.heap.size + 1 < g) 1 StE (w2.setCell ⟨w.heap.size, 4, none⟩ (.slice A2 x.pool.length c2)) (.slice A1 x.ifaces.length c1) x.ifaces) := lhid (HV1_2.out.kept (keptX_st _) (fun g hg _ => Below.heap_setCell _ _ _ _ (by show g ≠ w.heap.size; omega)))
  have HV2_2s : Hid (RdX (fun g => w.heap.size + 1 < g) 5 CoE (w2.setCell ⟨w.heap.size, 4, none⟩ (.slice A2 x.pool.length c2)) (.slice A2 x.pool.length c2) x.pool) := lhid (HV2_2.out.kept (keptX_co _) (fun g hg _ => Below.heap_setCell _ _ _ _ (by show g ≠ w.heap.size; omega)))
  go_wp2_with fail
  clear q2 z2 r2
  with_reducible refine (clone_fl row_fl b _ _ (lhid ((Hb.out).below (keptX_fl _) HB2.out))).mono ?_
  rintro e w3 ⟨v3, xs3, rfl, ho3, hr3, hb⟩
  obtain ⟨A3, c3, rfl⟩ := own_shape ho3
  have HX3' := lhid ((hb.block _ (heap_lt HX2.out)).trans HX2.out)
  have HY3' := lhid ((hb.block _ (heap_lt HY2.out)).trans HY2.out)
  have HB3' := lhid (HB2.out.trans (Below.less hb HB2.out.size))
  have HS3 : Hid (w.heap.size + 2 ≤ w3.heap.size) := lhid (by have h1 := HS2s.out; have h2 := hb.size; omega)
  have HV3_3 := lhid ((rdX_own (E := FlE) ho3 Hb.out.len hr3).any (Q := fun g => w.heap.size + 1 < g) fun g hg => by have h1 := hg.1; have h2 := HS2s.out; omega)
  have HV1_3 := lhid (HV1_2s.out.below (keptX_st _) hb)
  have HV2_3 := lhid (HV2_2s.out.below (keptX_co _) hb)
  clear hb
  have HS3s : Hid (w.heap.size + 2 ≤ (w3.setCell ⟨w.heap.size, 5, none⟩ (.slice A3 x.fields.length c3)).heap.size) := lhid (by have h1 := HS3.out; simpa [World.setCell] using h1)
  have q3 := heap_cell (i := 5) HX3'.out rfl
  have z3 := heap_thaw HX3'.out 5
  have r3 := heap_cell (i := 6) HX3'.out rfl
  have HX3 : Hid ((w3.setCell ⟨w.heap.size, 5, none⟩ (.slice A3 x.fields.length c3)).heap[w.heap.size]? = some (.cells #[.int .i64 x.flags, .string (tx x.name), .string (tx x.super), .slice A1 x.ifaces.length c1, .slice A2 x.pool.length c2, .slice A3 x.fields.length c3, d] 39 (0, 0))) := lhid (heap_set HX3'.out (.slice A3 x.fields.length c3))
  have HY3 : Hid ((w3.setCell ⟨w.heap.size, 5, none⟩ (.slice A3 x.fields.length c3)).heap[w.heap.size + 1]? = some (.cells #[.int .i64 0, .string ⟨#[]⟩, .string ⟨#[]⟩, .slice none 0 0, .slice none 0 0, .slice none 0 0, .slice none 0 0] 39 (0, 0))) := lhid ((Below.heap_setCell _ _ _ _ (by simp)).trans HY3'.out)
  have HB3 : Hid (Below w.heap.size w (w3.setCell ⟨w.heap.size, 5, none⟩ (.slice A3 x.fields.length c3))) := lhid (HB3'.out.setCell (Nat.le_refl _) (.slice A3 x.fields.length c3))
  have HV1_3s : Hid (RdX (fun g => w.heap.size + 1 < g) 1 StE (w3.setCell ⟨w.heap.size, 5, none⟩ (.slice A3 x.fields.length c3)) (.slice A1 x.ifaces.length c1) x.ifaces) := lhid (HV1_3.out.kept (keptX_st _) (fun g hg _ => Below.heap_setCell _ _ _ _ (by show g ≠ w.heap.size; omega)))
  have HV2_3s : Hid (RdX (fun g => w.heap.size + 1 < g) 5 CoE (w3.setCell ⟨w.heap.size, 5, none⟩ (.slice A3 x.fields.length c3)) (.slice A2 x.pool.length c2) x.pool) := lhid (HV2_3.out.kept (keptX_co _) (fun g hg _ => Below.heap_setCell _ _ _ _ (by show g ≠ w.heap.size; omega)))
  have HV3_3s : Hid (RdX (fun g => w.heap.size + 1 < g) 3 FlE (w3.setCell ⟨w.heap.size, 5, none⟩ (.slice A3 x.fields.length c3)) (.slice A3 x.fields.length c3) x.fields) := lhid (HV3_3.out.kept (keptX_fl _) (fun g hg _ => Below.heap_setCell _ _ _ _ (by show g ≠ w.heap.size; omega)))
  go_wp2_with fail
  clear q3 z3 r3
  with_reducible refine (copyMethods_any P d _ _ (lhid ((Hd.out).below (keptX_me _) HB3.out))).mono ?_
  rintro e w4 ⟨v4, rfl, hr4, hb⟩
  obtain ⟨A4, c4, rfl⟩ := hr4.shape
  have HX4' := lhid ((hb.block _ (heap_lt HX3.out)).trans HX3.out)
  have HY4' := lhid ((hb.block _ (heap_lt HY3.out)).trans HY3.out)
  have HB4' := lhid (HB3.out.trans (Below.less hb HB3.out.size))
  have HS4 : Hid (w.heap.size + 2 ≤ w4.heap.size) := lhid (by have h1 := HS3s.out; have h2 := hb.size; omega)
  have HV4_4 := lhid (hr4.mono (E' := MeE fun g => w.heap.size + 1 < g) (meE_mono fun g hg _ => by have h2 := HS3s.out; omega) (Q := fun g => w.heap.size + 1 < g) (fun g hg _ => by have h2 := HS3s.out; omega) me_ne)
  have HV1_4 := lhid (HV1_3s.out.below (keptX_st _) hb)
  have HV2_4 := lhid (HV2_3s.out.below (keptX_co _) hb)
  have HV3_4 := lhid (HV3_3s.out.below (keptX_fl _) hb)
  clear hb
  have HS4s : Hid (w.heap.size + 2 ≤ (w4.setCell ⟨w.heap.size, 6, none⟩ (.slice A4 x.methods.length c4)).heap.size) := lhid (by have h1 := HS4.out; simpa [World.setCell] using h1)
  have q4 := heap_cell (i := 6) HX4'.out rfl
  have z4 := heap_thaw HX4'.out 6
  have r0 := heap_cell (i := 0) HX4'.out rfl
  have y0 := heap_cell (i := 0) HY4'.out rfl
  have yz0 := heap_thaw HY4'.out 0
  have r1 := heap_cell (i := 1) HX4'.out rfl
  have y1 := heap_cell (i := 1) HY4'.out rfl
  have yz1 := heap_thaw HY4'.out 1
  have r2 := heap_cell (i := 2) HX4'.out rfl
  have y2 := heap_cell (i := 2) HY4'.out rfl
  have yz2 := heap_thaw HY4'.out 2
  have r3 := heap_cell (i := 3) HX4'.out rfl
  have y3 := heap_cell (i := 3) HY4'.out rfl
  have yz3 := heap_thaw HY4'.out 3
  have r4 := heap_cell (i := 4) HX4'.out rfl
  have y4 := heap_cell (i := 4) HY4'.out rfl
  have yz4 := heap_thaw HY4'.out 4
  have r5 := heap_cell (i := 5) HX4'.out rfl
  have y5 := heap_cell (i := 5) HY4'.out rfl
  have yz5 := heap_thaw HY4'.out 5
  have y6 := heap_cell (i := 6) HY4'.out rfl
  have yz6 := heap_thaw HY4'.out 6
  have HX4 : Hid ((w4.setCell ⟨w.heap.size, 6, none⟩ (.slice A4 x.methods.length c4)).heap[w.heap.size]? = some (.cells #[.int .i64 x.flags, .string (tx x.name), .string (tx x.super), .slice A1 x.ifaces.length c1, .slice A2 x.pool.length c2, .slice A3 x.fields.length c3, .slice A4 x.methods.length c4] 39 (0, 0))) := lhid (heap_set HX4'.out (.slice A4 x.methods.length c4))
  have HY4 : Hid ((w4.setCell ⟨w.heap.size, 6, none⟩ (.slice A4 x.methods.length c4)).heap[w.heap.size + 1]? = some (.cells #[.int .i64 0, .string ⟨#[]⟩, .string ⟨#[]⟩, .slice none 0 0, .slice none 0 0, .slice none 0 0, .slice none 0 0] 39 (0, 0))) := lhid ((Below.heap_setCell _ _ _ _ (by simp)).trans HY4'.out)
  have HB4 : Hid (Below w.heap.size w (w4.setCell ⟨w.heap.size, 6, none⟩ (.slice A4 x.methods.length c4))) := lhid (HB4'.out.setCell (Nat.le_refl _) (.slice A4 x.methods.length c4))
  have HV1_4s : Hid (RdX (fun g => w.heap.size + 1 < g) 1 StE (w4.setCell ⟨w.heap.size, 6, none⟩ (.slice A4 x.methods.length c4)) (.slice A1 x.ifaces.length c1) x.ifaces) := lhid (HV1_4.out.kept (keptX_st _) (fun g hg _ => Below.heap_setCell _ _ _ _ (by show g ≠ w.heap.size; omega)))
  have HV2_4s : Hid (RdX (fun g => w.heap.size + 1 < g) 5 CoE (w4.setCell ⟨w.heap.size, 6, none⟩ (.slice A4 x.methods.length c4)) (.slice A2 x.pool.length c2) x.pool) := lhid (HV2_4.out.kept (keptX_co _) (fun g hg _ => Below.heap_setCell _ _ _ _ (by show g ≠ w.heap.size; omega)))
  have HV3_4s : Hid (RdX (fun g => w.heap.size + 1 < g) 3 FlE (w4.setCell ⟨w.heap.size, 6, none⟩ (.slice A4 x.methods.length c4)) (.slice A3 x.fields.length c3) x.fields) := lhid (HV3_4.out.kept (keptX_fl _) (fun g hg _ => Below.heap_setCell _ _ _ _ (by show g ≠ w.heap.size; omega)))
  have HV4_4s : Hid (RdX (fun g => w.heap.size + 1 < g) 8 (MeE fun g => w.heap.size + 1 < g) (w4.setCell ⟨w.heap.size, 6, none⟩ (.slice A4 x.methods.length c4)) (.slice A4 x.methods.length c4) x.methods) := lhid (HV4_4.out.kept (keptX_me _) (fun g hg _ => Below.heap_setCell _ _ _ _ (by show g ≠ w.heap.size; omega)))
  go_wp2_with fail
  refine bodyPost_ret (v := .agg #[.int .i64 x.flags, .string (tx x.name), .string (tx x.super), .slice A1 x.ifaces.length c1, .slice A2 x.pool.length c2, .slice A3 x.fields.length c3, .slice A4 x.methods.length c4]) (by simp [results, Tryz.results65, go_sem, y0, y1, y2, y3, y4, y5, y6]) rfl ?_
  refine ⟨[.int .i64 x.flags, .string (tx x.name), .string (tx x.super), .slice A1 x.ifaces.length c1, .slice A2 x.pool.length c2, .slice A3 x.fields.length c3, .slice A4 x.methods.length c4], rfl, ⟨_, _, _, _, rfl, (HV1_4s.out.kept (keptX_st _) (fun g hg _ => setCells_other (b := w.heap.size + 1) (by omega) [.int .i64 x.flags, .string (tx x.name), .string (tx x.super), .slice A1 x.ifaces.length c1, .slice A2 x.pool.length c2, .slice A3 x.fields.length c3, .slice A4 x.methods.length c4] 0 _)).mono (fun _ _ h => h) (fun g hg _ => by omega) st_ne, (HV2_4s.out.kept (keptX_co _) (fun g hg _ => setCells_other (b := w.heap.size + 1) (by omega) [.int .i64 x.flags, .string (tx x.name), .string (tx x.super), .slice A1 x.ifaces.length c1, .slice A2 x.pool.length c2, .slice A3 x.fields.length c3, .slice A4 x.methods.length c4] 0 _)).mono (fun _ _ h => h) (fun g hg _ => by omega) co_ne, (HV3_4s.out.kept (keptX_fl _) (fun g hg _ => setCells_other (b := w.heap.size + 1) (by omega) [.int .i64 x.flags, .string (tx x.name), .string (tx x.super), .slice A1 x.ifaces.length c1, .slice A2 x.pool.length c2, .slice A3 x.fields.length c3, .slice A4 x.methods.length c4] 0 _)).mono (fun _ _ h => h) (fun g hg _ => by omega) fl_ne, (HV4_4s.out.kept (keptX_me _) (fun g hg _ => setCells_other (b := w.heap.size + 1) (by omega) [.int .i64 x.flags, .string (tx x.name), .string (tx x.super), .slice A1 x.ifaces.length c1, .slice A2 x.pool.length c2, .slice A3 x.fields.length c3, .slice A4 x.methods.length c4] 0 _)).mono (meE_mono fun g hg _ => by omega) (fun g hg _ => by omega) me_ne⟩, below_cells HB4.out (b := w.heap.size + 1) (by omega) 0 [.int .i64 x.flags, .string (tx x.name), .string (tx x.super), .slice A1 x.ifaces.length c1, .slice A2 x.pool.length c2, .slice A3 x.fields.length c3, .slice A4 x.methods.length c4]⟩
end Go.Proofs.YtpdnonlelocfbaaGreatDoor
/- A tree of classes in memory: its block, its map of classes; find. -/
namespace Go.Proofs.YtpdnonlelocfbaaGreatDoor
open Go.RowKit Go Go.Maps
set_option linter.unusedVariables false

theorem copyClass_cs (P : Nat → Prop) (x : ClI) (cs : List Value) (w : World) (h : Hid (ClE P w x cs)) :
    Calls Tryz.prog 65 #[.agg cs.toArray] w fun e w' => ∃ cs' : List Value, e = .returned (.agg cs'.toArray) ∧ ClE (fun g => w.heap.size ≤ g) w' x cs' ∧ Below w.heap.size w w' := by
  obtain ⟨a, p, b, d, rfl, ha, hp, hb, hd⟩ := h.out
  exact copyClass_any P x a p b d w (lhid ha) (lhid hp) (lhid hb) (lhid hd)
def findC (L : List ClI) (s : Bs) : Option ClI := L.find? (fun c => decide (c.name = s))
theorem findC_some {L : List ClI} {s : Bs} {c : ClI} (h : findC L s = some c) : c ∈ L ∧ c.name = s := ⟨List.mem_of_find?_eq_some h, by have := List.find?_some h; simpa using this⟩
theorem findC_none {L : List ClI} {s : Bs} : findC L s = none ↔ s ∉ L.map ClI.name := by
  unfold findC
  rw [List.find?_eq_none]
  simp
theorem findC_app (L : List ClI) (c : ClI) (s : Bs) : findC (L ++ [c]) s = (findC L s).or (if c.name = s then some c else none) := by
  unfold findC
  rw [List.find?_append]
  congr 1
  by_cases e : c.name = s <;> simp [e]
/-- Block cb is the map of the classes L by their names. -/
def CM (Q : Nat → Prop) (w : World) (cb : Nat) (L : List ClI) : Prop :=
  ∃ f, MV w cb L.length f ∧ ∀ s : Bs, (findC L s = none → f s = none) ∧ ∀ c, findC L s = some c → ∃ v, f s = some v ∧ ClV Q w c v
theorem CM.lt {Q : Nat → Prop} {w : World} {cb : Nat} {L : List ClI} (h : CM Q w cb L) : cb < w.heap.size := by
  obtain ⟨f, h1, _⟩ := h
  exact h1.lt
theorem CM.ch {Q X : Nat → Prop} {w w' : World} {cb : Nat} {L : List ClI} (h : CM Q w cb L) (hc : Ch X w w') (hX : ¬ X cb) (hQ : ∀ g, Q g → ¬ X g) : CM Q w' cb L := by
  obtain ⟨f, h1, h2⟩ := h
  refine ⟨f, h1.ch hc hX, fun s => ⟨(h2 s).1, fun c hs => ?_⟩⟩
  obtain ⟨v, h3, h4⟩ := (h2 s).2 c hs
  exact ⟨v, h3, h4.ch hc hQ⟩
theorem CM.below {Q : Nat → Prop} {w w' : World} {cb : Nat} {L : List ClI} (h : CM Q w cb L) (hb : Below w.heap.size w w') : CM Q w' cb L := by
  obtain ⟨f, h1, h2⟩ := h
  refine ⟨f, h1.below hb, fun s => ⟨(h2 s).1, fun c hs => ?_⟩⟩
  obtain ⟨v, h3, h4⟩ := (h2 s).2 c hs
  exact ⟨v, h3, h4.below hb⟩
theorem CM.mono {Q Q' : Nat → Prop} {w : World} {cb : Nat} {L : List ClI} (h : CM Q w cb L) (hQ : ∀ g, Q g → g < w.heap.size → Q' g) : CM Q' w cb L := by
  obtain ⟨f, h1, h2⟩ := h
  refine ⟨f, h1, fun s => ⟨(h2 s).1, fun c hs => ?_⟩⟩
  obtain ⟨v, h3, h4⟩ := (h2 s).2 c hs
  exact ⟨v, h3, h4.mono hQ⟩
theorem cm_made (Q : Nat → Prop) (w : World) : CM Q (w.alloc (.map #[] 0)) w.heap.size [] := ⟨_, mv_made w, fun s => ⟨fun _ => rfl, fun c h => (by cases h)⟩⟩
theorem cm_put {Q : Nat → Prop} {w w' : World} {cb : Nat} {L : List ClI} {f : Bs → Option Value} {c : ClI} {v : Value} (h : ∀ s : Bs, (findC L s = none → f s = none) ∧ ∀ c, findC L s = some c → ∃ v, f s = some v ∧ ClV Q w c v) (hc : Ch (· = cb) w w') (hQ : ¬ Q cb) (hn : findC L c.name = none) (hv : ClV Q w c v)
    (hm : MV w' cb (L.length + 1) (fun t => if t = c.name then some v else f t)) : CM Q w' cb (L ++ [c]) := by
  refine ⟨_, hm.mono (by simp), fun s => ?_⟩
  have hQ' : ∀ g, Q g → ¬ g = cb := fun g hg e => hQ (e ▸ hg)
  rw [findC_app]
  by_cases e : c.name = s
  · subst e
    rw [hn]
    simp only [if_true, Option.none_or]
    exact ⟨fun h => (by cases h), fun c' h' => by injection h' with h'; subst h'; exact ⟨v, rfl, hv.ch hc hQ'⟩⟩
  · have e2 : ¬ s = c.name := fun x => e x.symm
    simp only [if_neg e, if_neg e2, Option.or_none]
    refine ⟨(h s).1, fun c' h' => ?_⟩
    obtain ⟨u, h3, h4⟩ := (h s).2 c' h'
    exact ⟨u, h3, h4.ch hc hQ'⟩
/-- Block tb is a tree: its names' slice, its two maps. -/
def Tr (w : World) (tb cb ab : Nat) (v : Value) : Prop := w.heap[tb]? = some (.cells #[v, .map (some cb), .map (some ab)] 100 (0, 0))
theorem Tr.ch {X : Nat → Prop} {w w' : World} {tb cb ab : Nat} {v : Value} (h : Tr w tb cb ab v) (hc : Ch X w w') (hX : ¬ X tb) : Tr w' tb cb ab v := hc.keep h hX
theorem Tr.below {w w' : World} {tb cb ab : Nat} {v : Value} (h : Tr w tb cb ab v) (hb : Below w.heap.size w w') : Tr w' tb cb ab v := (hb.block _ (heap_lt h)).trans h
theorem und_cm : Tryz.prog.underlying 97 = some (.map 9 39) := by kernel_rfl
def zeroC : Value := .agg #[.int .i64 0, .string ⟨#[]⟩, .string ⟨#[]⟩, .slice none 0 0, .slice none 0 0, .slice none 0 0, .slice none 0 0]
theorem zero_cl (w : World) : (zeroValue 39).run Tryz.prog w = .ok zeroC w := by kernel_rfl
/-- What the map of classes says at a text. -/
theorem CM.look {Q : Nat → Prop} {w : World} {cb : Nat} {L : List ClI} (h : CM Q w cb L) {s : Bs} (hs : s.length ≤ maxLen) :
    (findC L s = none ∧ (Instr.lookup 97 (.map (some cb)) (.string (tx s)) false).run Tryz.prog w = .ok zeroC w ∧ (Instr.lookup 97 (.map (some cb)) (.string (tx s)) true).run Tryz.prog w = .ok (.tuple #[zeroC, .bool false]) w)
    ∨ ∃ c cs, findC L s = some c ∧ ClE Q w c cs ∧ (Instr.lookup 97 (.map (some cb)) (.string (tx s)) false).run Tryz.prog w = .ok (.agg cs.toArray) w ∧ (Instr.lookup 97 (.map (some cb)) (.string (tx s)) true).run Tryz.prog w = .ok (.tuple #[.agg cs.toArray, .bool true]) w := by
  obtain ⟨f, h1, h2⟩ := h
  have hl := h1.look und_cm (zero_cl w) hs
  cases hf : findC L s with
  | none =>
    rw [(h2 s).1 hf] at hl
    exact .inl ⟨rfl, hl⟩
  | some c =>
    obtain ⟨v, h3, cs, rfl, h4⟩ := (h2 s).2 c hf
    rw [h3] at hl
    exact .inr ⟨c, cs, rfl, h4, hl⟩
end Go.Proofs.YtpdnonlelocfbaaGreatDoor
/- The machine's own classes and methods. -/
namespace Go.Proofs.YtpdnonlelocfbaaGreatDoor
open Go.RowKit Go
set_option linter.unusedVariables false

structure Om where
  cls : Bs
  name : Bs
  desc : Bs
  flags : Int
def ownM : List Om := [
  ⟨[83, 121, 115], [112, 114, 105, 110, 116], [40, 73, 41, 86], 8⟩,
  ⟨[83, 121, 115], [112, 114, 105, 110, 116], [40, 74, 41, 86], 8⟩,
  ⟨[83, 121, 115], [112, 114, 105, 110, 116], [40, 76, 83, 116, 114, 105, 110, 103, 59, 41, 86], 8⟩,
  ⟨[83, 121, 115], [101, 120, 105, 116], [40, 73, 41, 86], 8⟩,
  ⟨[83, 116, 114, 105, 110, 103], [108, 101, 110, 103, 116, 104], [40, 41, 73], 0⟩,
  ⟨[83, 116, 114, 105, 110, 103], [99, 104, 97, 114, 65, 116], [40, 73, 41, 73], 0⟩]
def omE (m : Om) : List Value := [.string (tx m.cls), .string (tx m.name), .string (tx m.desc), .int .i64 m.flags]
def OmE (_ : World) (m : Om) (c : List Value) : Prop := c = omE m
def meO (m : Om) : MeI := ⟨m.flags, m.name, m.desc, 0, 0, [], [], []⟩
def methO (s : Bs) : List MeI := (ownM.filter fun m => decide (m.cls = s)).map meO
/-- The own classes ahead of their methods. -/
def own0 : List ClI := [
  ⟨0, [79, 98, 106, 101, 99, 116], [], [], [], [], []⟩,
  ⟨0, [83, 116, 114, 105, 110, 103], [79, 98, 106, 101, 99, 116], [], [], [], []⟩,
  ⟨0, [83, 121, 115], [79, 98, 106, 101, 99, 116], [], [], [], []⟩,
  ⟨0, [84, 104, 114, 111, 119, 97, 98, 108, 101], [79, 98, 106, 101, 99, 116], [], [], [], []⟩,
  ⟨0, [69, 120, 99, 101, 112, 116, 105, 111, 110], [84, 104, 114, 111, 119, 97, 98, 108, 101], [], [], [], []⟩,
  ⟨0, [78, 117, 108, 108, 70, 97, 117, 108, 116], [69, 120, 99, 101, 112, 116, 105, 111, 110], [], [], [], []⟩,
  ⟨0, [90, 101, 114, 111, 70, 97, 117, 108, 116], [69, 120, 99, 101, 112, 116, 105, 111, 110], [], [], [], []⟩,
  ⟨0, [66, 111, 117, 110, 100, 115, 70, 97, 117, 108, 116], [69, 120, 99, 101, 112, 116, 105, 111, 110], [], [], [], []⟩,
  ⟨0, [83, 105, 122, 101, 70, 97, 117, 108, 116], [69, 120, 99, 101, 112, 116, 105, 111, 110], [], [], [], []⟩,
  ⟨0, [67, 97, 115, 116, 70, 97, 117, 108, 116], [69, 120, 99, 101, 112, 116, 105, 111, 110], [], [], [], []⟩,
  ⟨0, [83, 116, 111, 114, 101, 70, 97, 117, 108, 116], [69, 120, 99, 101, 112, 116, 105, 111, 110], [], [], [], []⟩,
  ⟨0, [77, 101, 109, 111, 114, 121, 70, 97, 117, 108, 116], [84, 104, 114, 111, 119, 97, 98, 108, 101], [], [], [], []⟩,
  ⟨0, [68, 101, 112, 116, 104, 70, 97, 117, 108, 116], [84, 104, 114, 111, 119, 97, 98, 108, 101], [], [], [], []⟩]
def withM (c : ClI) : ClI := { c with methods := methO c.name }
def ownL : List ClI := own0.map withM
theorem rows_flat {α : Type} {k : Nat} {E : α → List Value → Prop} {f : α → List Value} (hE : ∀ a, E a (f a)) (hk : ∀ a, (f a).length = k) : ∀ l : List α, RowsE k E l (l.flatMap f)
  | [] => rowsE_nil _ _
  | a :: l => by
    have := (rowsE_one (hE a) (hk a)).app (rows_flat hE hk l)
    simpa using this
theorem keptX_om (P : Nat → Prop) : KeptX P OmE := keptX_pure _ _ fun _ _ => rfl
set_option maxHeartbeats 4000000 in
set_option maxRecDepth 100000 in
theorem ownMethods_any (w : World) :
    Calls Tryz.prog 67 #[] w fun e w' => ∃ v, e = .returned v ∧ RdX (fun g => w.heap.size ≤ g) 4 OmE w' v ownM ∧ Below w.heap.size w w' := by
  go_enter Tryz.func67, Tryz.ntmps67
  go_wp2_with fail
  go_ret
  have ho := World.ownsRow_lit (base := w.heap.size) (e := 136) (size := 4) w (ownM.flatMap omE).toArray 6 (Nat.le_refl _) (by decide) (by decide)
  have hr := rdX_own (E := OmE) (l := ownM) ho (by decide) (rows_flat (k := 4) (E := OmE _) (f := omE) (fun _ => rfl) (fun _ => rfl) ownM)
  exact ⟨_, rfl, hr.any fun g hg => hg.1, (Below.refl _ _).alloc (Nat.le_refl _) _⟩
theorem row_om : Row1 4 OmE := by rintro w a c rfl; simp [omE, Value.oneCell']
theorem rows_me0 (P : Nat → Prop) (w : World) (m : Om) : MeE P w (meO m) [.int .i64 m.flags, .string (tx m.name), .string (tx m.desc), .int .i64 0, .int .i64 0, .slice none 0 0, .slice none 0 0, .slice none 0 0] :=
  ⟨_, _, _, rfl, rdX_nil _ _ _ _ _ _ (fun _ => rfl), rdX_nil _ _ _ _ _ _ (fun _ => rfl), rdX_nil _ _ _ _ _ _ (fun _ => rfl)⟩
theorem filt_take (s : Bs) (l : List Om) (k : Nat) (x : Om) (h : l[k]? = some x) : ((l.take (k + 1)).filter fun m => decide (m.cls = s)).map meO = ((l.take k).filter fun m => decide (m.cls = s)).map meO ++ if x.cls = s then [meO x] else [] := by
  rw [List.take_add_one, h]
  simp only [Option.toList_some, List.filter_append, List.map_append]
  congr 1
  by_cases e : x.cls = s <;> simp [e]
set_option maxHeartbeats 4000000 in
set_option maxRecDepth 100000 in
theorem methodsOf_any (s : Bs) (w : World) :
    Calls Tryz.prog 87 #[.string (tx s)] w fun e w' => ∃ v xs, e = .returned v ∧ w'.ownsRow w.heap.size 27 8 v (methO s).length xs ∧ (∀ (P : Nat → Prop) w2, RowsE 8 (MeE P w2) (methO s) xs) ∧ Below w.heap.size w w' := by
  obtain ⟨i0, hi, hz0, hz1, hz2⟩ := info_parts info_me
  go_enter Tryz.func87, Tryz.ntmps87
  go_wp2_with fail
  with_reducible refine (ownMethods_any _).mono ?_
  rintro e w1 ⟨v1, rfl, hv, hb⟩
  obtain ⟨A, c1, rfl⟩ := hv.shape
  have H := lhid hv
  have HB1 := lhid hb
  have hws := hb.size
  have hol : ownM.length = 6 := rfl
  have HOL := lhid hol
  clear hv hb hol
  have hlen6 : (ownM.length : Int) = 6 := rfl
  go_wp2_with fail
  go_loopw [3, 8] (fun v i wr => ∃ (kk : Nat) (xs : List Value), i = .int .i64 kk ∧ kk ≤ ownM.length ∧ Hid (wr.ownsRow w1.heap.size 27 8 v (((ownM.take kk).filter fun m => decide (m.cls = s)).map meO).length xs) ∧ Hid (∀ (P : Nat → Prop) w2, RowsE 8 (MeE P w2) (((ownM.take kk).filter fun m => decide (m.cls = s)).map meO) xs) ∧ Hid (Below w1.heap.size w1 wr)) (fun _ i _ => ownM.length - (intOf i).toNat)
  case atStart => exact ⟨0, [], rfl, Nat.zero_le _, lhid (World.ownsRow_nil _ _ _ _), lhid (fun _ _ => rowsE_nil _ _), lhid (Below.refl _ _)⟩
  case round =>
    obtain ⟨kk, xs, rfl, hkk, HV, HR, HB⟩ := hrel
    have HM := lhid (H.out.below (keptX_om _) HB.out)
    by_cases hlt : kk < ownM.length
    · obtain ⟨x, hx⟩ : ∃ x, ownM[kk]? = some x := ⟨_, List.getElem?_eq_getElem hlt⟩
      obtain ⟨ga, oa, cc, rfl, _, hE, hc⟩ := HM.out.at' hx
      have hE' : cc = omE x := hE
      subst hE'
      have c0 : wr.cell? ⟨ga, oa + kk * 4, none⟩ = some (.string (tx x.cls)) := hc 0 _ rfl
      have c1 : wr.cell? ⟨ga, oa + kk * 4 + 1, none⟩ = some (.string (tx x.name)) := hc 1 _ rfl
      have c2 : wr.cell? ⟨ga, oa + kk * 4 + 2, none⟩ = some (.string (tx x.desc)) := hc 2 _ rfl
      have c3 : wr.cell? ⟨ga, oa + kk * 4 + 3, none⟩ = some (.int .i64 x.flags) := hc 3 _ rfl
      have k3 : (kk : Int) < ownM.length := by omega
      have hft := filt_take s ownM kk x hx
      have HFT := lhid hft
      have hbs := HB.out.size
      have hsz : (((ownM.take kk).filter fun m => decide (m.cls = s)).map meO).length ≤ 6 := by
        rw [List.length_map]
        refine Nat.le_trans (List.length_filter_le _ _) ?_
        rw [List.length_take]
        have : ownM.length = 6 := rfl
        omega
      have HSZ := lhid hsz
      have HA : Hid (Below wr.heap.size wr (wr.alloc (.cells #[.string (tx x.cls), .string (tx x.name), .string (tx x.desc), .int .i64 x.flags] 136))) := lhid ((Below.refl _ _).alloc (Nat.le_refl _) _)
      have HB1' := lhid (HB.out.trans (Below.less HA.out hbs))
      have HV1 := lhid (own_below HV.out HA.out)
      clear hx hc hE hft hsz
      by_cases hs : x.cls = s
      · have HS := lhid hs
        have e1 := tx_yes hs
        clear hs
        have HNC := lhid (new_cells (wr.alloc (.cells #[.string (tx x.cls), .string (tx x.name), .string (tx x.desc), .int .i64 x.flags] 136)) [.int .i64 x.flags, .string (tx x.name), .string (tx x.desc), .int .i64 0, .int .i64 0, .slice none 0 0, .slice none 0 0, .slice none 0 0] 27)
        go_wp2_with (at_builtin; go_loud (refine wpList_append_own _ rfl _ _ 37 rfl w1.heap.size 27 i0 (.agg #[.int .i64 0, .string ⟨#[]⟩, .string ⟨#[]⟩, .int .i64 0, .int .i64 0, .slice none 0 0, .slice none 0 0, .slice none 0 0]) 8 128 Tryz.underlying37 hi hz0 hz1 hz2 rfl (by decide) _ _ xs rfl (HV1.out.alloc _) ⟨wr.heap.size + 1, 0, none⟩ 1 1 [.int .i64 x.flags, .string (tx x.name), .string (tx x.desc), .int .i64 0, .int .i64 0, .slice none 0 0, .slice none 0 0, .slice none 0 0] rfl rfl ?a1 ?a2 ?a3 ?a4 ?a5 ?_))
        case a1 =>
          intro j u hu
          have := HNC.out j u hu
          simpa using this
        case a2 => simp [Value.oneCell']
        case a3 =>
          have := HSZ.out
          unfold maxLen
          omega
        case a4 =>
          have := HSZ.out
          omega
        case a5 => simp; omega
        intro v2 w2 hown hgrow hnil
        have HV2 := lhid hown
        have HB2 := lhid (Below.grown (HB1'.out.alloc (by simp; omega) _) hgrow (by simp; omega) (own_lt HV1.out))
        clear hown hgrow hnil
        go_wp2_with fail
        go_roundw
        case rel => exact ⟨kk + 1, xs ++ [.int .i64 x.flags, .string (tx x.name), .string (tx x.desc), .int .i64 0, .int .i64 0, .slice none 0 0, .slice none 0 0, .slice none 0 0], by go_num, by omega, lhid (by rw [HFT.out, if_pos HS.out, List.length_append]; simpa using HV2.out), lhid (fun P w' => by rw [HFT.out, if_pos HS.out]; exact (HR.out P w').app (rowsE_one (rows_me0 P w' x) rfl)), HB2⟩
        case measure => simp [intOf]; omega
      · have HS := lhid hs
        have e1 := tx_nes hs
        clear hs
        go_wp2_with fail
        go_roundw
        case rel => exact ⟨kk + 1, xs, by go_num, by omega, lhid (by rw [HFT.out, if_neg HS.out, List.append_nil]; exact HV1.out), lhid (by rw [HFT.out, if_neg HS.out, List.append_nil]; exact HR.out), HB1'⟩
        case measure => simp [intOf]; omega
    · have k3 : ¬ (kk : Int) < ownM.length := by omega
      have e : kk = ownM.length := by omega
      subst e
      have ht : ownM.take ownM.length = ownM := List.take_length
      rw [ht] at HV HR
      have HV := lhid (show wr.ownsRow w1.heap.size 27 8 _ (methO s).length xs from HV.out)
      have HR := lhid (show ∀ (P : Nat → Prop) w2, RowsE 8 (MeE P w2) (methO s) xs from HR.out)
      go_wp2_with fail
      go_ret
      exact ⟨_, rfl, xs, own_base HV.out hws, HR.out, HB1.out.trans (Below.less HB.out hws)⟩
theorem CI.cell {α : Type} {T k : Nat} {P : Nat → Prop} {E : World → α → List Value → Prop} (hE : KeptX P E) {w : World} {g cap n : Nat} {l : List α} (hP : ∀ b, P b → b ≠ g) (h : CI T k E w g cap l n) (hn : l.length ≤ n) {i j : Nat} {a a' : α} (hi : l[i]? = some a) (hj : j < k) {v : Value}
    (hnew : ∀ c, E w a c → c.length = k → E w a' (c.set j v)) : CI T k E (w.setCell ⟨g, i * k + j, none⟩ v) g cap (l.set i a') n := by
  obtain ⟨cur, h1, h2, h3⟩ := h
  have hkeep : ∀ b, P b → b < w.heap.size → (w.setCell ⟨g, i * k + j, none⟩ v).heap[b]? = w.heap[b]? := fun b hb _ => Below.heap_setCell _ _ _ _ (hP b hb)
  have hil := (List.getElem?_eq_some_iff.1 hi).1
  refine ⟨_, heap_set h1 v, by simpa using h2, fun i0 x hi0 hx => ?_⟩
  by_cases e : i0 = i
  · subst e
    rw [List.getElem?_set_self hil] at hx
    injection hx with hx
    subst hx
    obtain ⟨c, h4, h5, h6⟩ := h3 i0 a hi0 hi
    refine ⟨c.set j v, hE _ _ _ _ hkeep (hnew c h4 h5), by simpa using h5, fun j0 u hu => ?_⟩
    by_cases e2 : j0 = j
    · subst e2
      rw [List.getElem?_set_self (by omega)] at hu
      injection hu with hu
      subst hu
      have := h6 j0 c[j0] (List.getElem?_eq_getElem (by omega))
      rw [Array.getElem?_setIfInBounds_self, if_pos (Array.getElem?_eq_some_iff.1 this).1]
    · rw [List.getElem?_set_ne (Ne.symm e2)] at hu
      rw [Array.getElem?_setIfInBounds_ne (by omega)]
      exact h6 j0 u hu
  · rw [List.getElem?_set_ne (Ne.symm e)] at hx
    obtain ⟨c, h4, h5, h6⟩ := h3 i0 x hi0 hx
    refine ⟨c, hE _ _ _ _ hkeep h4, h5, fun j0 u hu => ?_⟩
    have hj0 := (List.getElem?_eq_some_iff.1 hu).1
    rw [h5] at hj0
    have hne : i * k + j ≠ i0 * k + j0 := by
      intro e3
      rcases Nat.lt_or_gt_of_ne e with hlt | hgt
      · have := Nat.mul_le_mul_right k (show i0 + 1 ≤ i from hlt)
        rw [Nat.succ_mul] at this
        omega
      · have := Nat.mul_le_mul_right k (show i + 1 ≤ i0 from hgt)
        rw [Nat.succ_mul] at this
        omega
    rw [Array.getElem?_setIfInBounds_ne hne]
    exact h6 j0 u hu
def c0E (c : ClI) : List Value := [.int .i64 c.flags, .string (tx c.name), .string (tx c.super), .slice none 0 0, .slice none 0 0, .slice none 0 0, .slice none 0 0]
def own' (k : Nat) : List ClI := (own0.map withM).take k ++ own0.drop k
theorem set_step {α : Type} : ∀ (l m : List α) (k : Nat) (y : α), l.length = m.length → m[k]? = some y → (m.take k ++ l.drop k).set k y = m.take (k + 1) ++ l.drop (k + 1)
  | [], [], k, y, _, h => by simp at h
  | [], b :: m, k, y, h, _ => by simp at h
  | a :: l, [], k, y, h, _ => by simp at h
  | a :: l, b :: m, 0, y, _, h => by
    simp at h
    subst h
    simp
  | a :: l, b :: m, k + 1, y, h, h2 => by
    have := set_step l m k y (by simpa using h) (by simpa using h2)
    simpa using this
theorem own'_at (k : Nat) (x : ClI) (h : own0[k]? = some x) : (own' k)[k]? = some x ∧ (own' k).set k (withM x) = own' (k + 1) ∧ (own' k).length = 13 := by
  have hk : k < 13 := (List.getElem?_eq_some_iff.1 h).1
  have hl : (own0.map withM).length = 13 := rfl
  have h1 : ((own0.map withM).take k).length = k := by rw [List.length_take, hl]; omega
  refine ⟨?_, ?_, ?_⟩
  · unfold own'
    rw [List.getElem?_append_right (by omega), h1, Nat.sub_self, List.getElem?_drop, Nat.add_zero]
    exact h
  · exact set_step own0 (own0.map withM) k (withM x) rfl (by rw [List.getElem?_map, h]; rfl)
  · unfold own'
    rw [List.length_append, h1, List.length_drop, show own0.length = 13 from rfl]
    omega
theorem cl0E (P : Nat → Prop) (w : World) (c : ClI) (h : c.ifaces = [] ∧ c.pool = [] ∧ c.fields = [] ∧ c.methods = []) : ClE P w c (c0E c) := by
  refine ⟨_, _, _, _, rfl, ?_, ?_, ?_, ?_⟩
  · rw [h.1]; exact rdX_nil _ _ _ _ _ _ (fun _ => rfl)
  · rw [h.2.1]; exact rdX_nil _ _ _ _ _ _ (fun _ => rfl)
  · rw [h.2.2.1]; exact rdX_nil _ _ _ _ _ _ (fun _ => rfl)
  · rw [h.2.2.2]; exact rdX_nil _ _ _ _ _ _ (fun _ => rfl)
theorem own_cellsK (P : Nat → Prop) (w : World) : CI 39 7 (ClE P) (w.alloc (.cells (own0.flatMap c0E).toArray 39)) w.heap.size 13 (own' 0) 13 := by
  have hr := rows_flat (k := 7) (E := fun c cs => cs = c0E c) (f := c0E) (fun _ => rfl) (fun _ => rfl) own0
  refine ⟨_, heap_alloc_new w _, rfl, fun i a _ hi => ?_⟩
  obtain ⟨c, h1, h2⟩ := hr.2 i a hi
  subst h1
  have ha : a.ifaces = [] ∧ a.pool = [] ∧ a.fields = [] ∧ a.methods = [] := by
    have hall : ∀ c ∈ own0, c.ifaces = [] ∧ c.pool = [] ∧ c.fields = [] ∧ c.methods = [] := by
      intro c hc
      simp only [own0, List.mem_cons, List.not_mem_nil, or_false] at hc
      rcases hc with rfl | rfl | rfl | rfl | rfl | rfl | rfl | rfl | rfl | rfl | rfl | rfl | rfl <;> exact ⟨rfl, rfl, rfl, rfl⟩
    exact hall a (List.mem_of_getElem? hi)
  exact ⟨c0E a, cl0E P _ a ha, rfl, fun j u hj => by simpa using h2 j u hj⟩
end Go.Proofs.YtpdnonlelocfbaaGreatDoor
/- The machine's own classes as a list. -/
namespace Go.Proofs.YtpdnonlelocfbaaGreatDoor
open Go.RowKit Go
set_option linter.unusedVariables false

set_option maxHeartbeats 16000000 in
set_option maxRecDepth 100000 in
theorem ownClasses_any (w : World) :
    Calls Tryz.prog 45 #[] w fun e w' => ∃ v, e = .returned v ∧ RdX (fun g => w.heap.size ≤ g) 7 (ClE fun g => w.heap.size ≤ g) w' v ownL ∧ Below w.heap.size w w' := by
  have HC0 := lhid (own_cellsK (fun b => w.heap.size < b) w)
  have HB0 : Hid (Below w.heap.size w (w.alloc (.cells (own0.flatMap c0E).toArray 39))) := lhid ((Below.refl _ _).alloc (Nat.le_refl _) _)
  go_enter Tryz.func45, Tryz.ntmps45
  go_wp2_with fail
  go_loopw [20] (fun i wr => ∃ kk : Nat, i = .int .i64 kk ∧ kk ≤ 13 ∧ Hid (CI 39 7 (ClE fun b => w.heap.size < b) wr w.heap.size 13 (own' kk) 13) ∧ Hid (Below w.heap.size w wr)) (fun i _ => 13 - (intOf i).toNat)
  case atStart => exact ⟨0, rfl, Nat.zero_le _, HC0, HB0⟩
  case round =>
    obtain ⟨kk, rfl, hkk, HC, HB⟩ := hrel
    by_cases hlt : kk < 13
    · obtain ⟨x, hx⟩ : ∃ x, own0[kk]? = some x := ⟨_, List.getElem?_eq_getElem hlt⟩
      obtain ⟨ha, hset, hl13⟩ := own'_at kk x hx
      have HAT := lhid ha
      have HSET := lhid hset
      have HL13 := lhid hl13
      obtain ⟨cur, hcur, hcs, hrow⟩ := HC.out
      obtain ⟨cc, hE, hcl, hc0⟩ := hrow kk x hlt ha
      have hc : ∀ j u, cc[j]? = some u → wr.cell? ⟨w.heap.size, kk * 7 + j, none⟩ = some u := fun j u hj => heap_cell hcur (hc0 j u hj)
      have hc1 := row_cl _ _ _ _ hE
      have HE := lhid hE
      have HCL := lhid hc1.1
      have HRA : Hid (wr.rangeAt w.heap.size (kk * 7) cc) := lhid hc
      have HSZ : Hid ((Tryz.prog.info? 39).map (·.size) = some cc.length) := lhid (by rw [hc1.1]; exact sz_cl)
      have HSA : Hid ((Tryz.prog.info? 39).map (·.size) = some cc.toArray.size) := lhid (by simpa using HSZ.out)
      have HALL : Hid (cc.toArray.all (·.oneCell') = true) := lhid (all_oneCell_toArray hc1.2)
      have hth : (wr.alloc (.cells #[.int .i64 0, .string ⟨#[]⟩, .string ⟨#[]⟩, .slice none 0 0, .slice none 0 0, .slice none 0 0, .slice none 0 0] 39)).there wr.heap.size 0 7 := fun j hj => ⟨by
        rw [Nat.zero_add, heap_cell (heap_alloc_new wr _) (Array.getElem?_eq_getElem (by simpa using hj))]; rfl, heap_thaw (heap_alloc_new wr _) _⟩
      have HTA : Hid ((wr.alloc (.cells #[.int .i64 0, .string ⟨#[]⟩, .string ⟨#[]⟩, .slice none 0 0, .slice none 0 0, .slice none 0 0, .slice none 0 0] 39)).there wr.heap.size 0 cc.toArray.size) := lhid (by rw [show cc.toArray.size = 7 by simpa using hc1.1]; exact hth)
      have HRB : Hid (((wr.alloc (.cells #[.int .i64 0, .string ⟨#[]⟩, .string ⟨#[]⟩, .slice none 0 0, .slice none 0 0, .slice none 0 0, .slice none 0 0] 39)).setCells wr.heap.size 0 cc).rangeAt wr.heap.size 0 cc) := lhid (World.rangeAt_setCells_same _ _ _ _ (by rw [hc1.1]; exact hth))
      have HW2 : Hid (Below wr.heap.size wr ((wr.alloc (.cells #[.int .i64 0, .string ⟨#[]⟩, .string ⟨#[]⟩, .slice none 0 0, .slice none 0 0, .slice none 0 0, .slice none 0 0] 39)).setCells wr.heap.size 0 cc)) := lhid (below_cells ((Below.refl wr.heap.size wr).alloc (Nat.le_refl _) _) (Nat.le_refl _) _ _)
      have hsz1 : ((wr.alloc (.cells #[.int .i64 0, .string ⟨#[]⟩, .string ⟨#[]⟩, .slice none 0 0, .slice none 0 0, .slice none 0 0, .slice none 0 0] 39)).setCells wr.heap.size 0 cc).heap.size = wr.heap.size + 1 := by rw [setCells_size]; simp
      have HS1 := lhid hsz1
      have k3 : (kk : Int) < 13 := by omega
      have hgs := HC.out.lt
      have hq1 : ((wr.alloc (.cells #[.int .i64 0, .string ⟨#[]⟩, .string ⟨#[]⟩, .slice none 0 0, .slice none 0 0, .slice none 0 0, .slice none 0 0] 39)).setCells wr.heap.size 0 cc).cell? ⟨wr.heap.size, 1, none⟩ = some (.string (tx x.name)) := by
        obtain ⟨a, p, b, d, rfl, _⟩ := hE
        exact HRB.out 1 _ rfl
      clear hx ha hset hl13 hcur hcs hrow hE hcl hc0 hc hc1 hth hsz1
      go_wp2_with (first | (refine wpList_load_mid rfl 39 _ rfl w.heap.size (kk * 7) rfl cc _ HRA.out Tryz.underlying39 (by rfl) HSZ.out ?_) | (refine wpList_store_mid rfl 39 _ _ rfl wr.heap.size 0 cc.toArray rfl rfl HTA.out HSA.out HALL.out ?_))
      with_reducible refine (methodsOf_any x.name _).mono ?_
      rintro e w2 ⟨v2, xs2, rfl, ho, hr, hb2⟩
      obtain ⟨A2, c2, rfl⟩ := own_shape ho
      have hml : (methO x.name).length ≤ 6 := by
        unfold methO
        rw [List.length_map]
        exact Nat.le_trans (List.length_filter_le _ _) (by decide)
      have hbb : Below wr.heap.size wr w2 := HW2.out.trans (Below.less hb2 (by rw [HS1.out]; omega))
      have HC2 := lhid (HC.out.below (keptX_cl _) hbb)
      have HBN := lhid (HB.out.trans (Below.less hbb HB.out.size))
      have hrd := (rdX_own (E := MeE fun b => w.heap.size < b) ho (by omega) (hr _ _)).any (Q := fun b => w.heap.size < b) (fun g hg => by have h1 := hg.1; have h2 := HB.out.size; rw [HS1.out] at h1; omega)
      have HRD := lhid hrd
      obtain ⟨cur, hcur, hcs, hrow⟩ := HC2.out
      have hoff : kk * 7 + 6 < cur.size := by omega
      obtain ⟨p6, q6⟩ : ∃ u, w2.cell? ⟨w.heap.size, kk * 7 + 6, none⟩ = some u := ⟨_, heap_cell hcur (Array.getElem?_eq_getElem hoff)⟩
      have z6 : w2.frozen? ⟨w.heap.size, kk * 7 + 6, none⟩ = false := heap_thaw hcur _
      clear ho hr hb2 hbb hrd hcur hcs hrow hoff hml hq1
      go_wp2_with fail
      go_roundw
      case rel => exact ⟨kk + 1, by go_num, by omega, lhid (by
        have := HC2.out.cell (keptX_cl _) (fun b hb => by omega) (by rw [HL13.out]; omega) HAT.out (show 6 < 7 by omega) (v := .slice A2 (methO x.name).length c2) (a' := withM x) (fun c hc hcl => by
          obtain ⟨a, p, b, d, rfl, h1, h2, h3, h4⟩ := hc
          exact ⟨a, p, b, _, rfl, h1, h2, h3, HRD.out⟩)
        rw [HSET.out] at this
        exact this), lhid (HBN.out.setCell (Nat.le_refl _) _)⟩
      case measure => simp [intOf]; omega
    · have k3 : ¬ (kk : Int) < 13 := by omega
      have e : kk = 13 := by omega
      subst e
      go_wp2_with fail
      go_ret
      exact ⟨_, rfl, (CI.done (l := ownL) HC.out (Nat.le_refl _) (clE_mono fun b hb _ => Nat.le_of_lt hb) (by decide)), HB.out⟩
end Go.Proofs.YtpdnonlelocfbaaGreatDoor
/- Parents and interfaces: mayBeBelow, areInterfaces, hasKin. -/
namespace Go.Proofs.YtpdnonlelocfbaaGreatDoor
open Go.RowKit Go Go.Maps
set_option linter.unusedVariables false

abbrev nString : Bs := [83, 116, 114, 105, 110, 103]
abbrev nSys : Bs := [83, 121, 115]
abbrev nObject : Bs := [79, 98, 106, 101, 99, 116]
/-- May c have a class of that name as its parent? -/
def mayB (L : List ClI) (c : ClI) (s : Bs) : Bool :=
  match findC L s with
  | none => false
  | some y => !ifc y && !decide (s = nString) && !decide (s = nSys) && (decide (s = nObject) || !ifc c)
theorem tx_test (s n : Bs) (r : Bool) (h : Hid (decide (s = n) = r)) : ((tx s).toList == n) = r := by
  rw [tx_toL, ← h.out, Bool.eq_iff_iff]
  simp
set_option maxHeartbeats 8000000 in
set_option maxRecDepth 100000 in
theorem mayBeBelow_any (Q : Nat → Prop) (L : List ClI) (tb cb ab : Nat) (v0 : Value) (c : ClI) (a p b d : Value) (s : Bs) (w : World) (hT : Hid (Tr w tb cb ab v0)) (hC : Hid (CM Q w cb L)) (hs : s.length ≤ maxLen) :
    Calls Tryz.prog 88 #[.pointer (some ⟨tb, 0, none⟩), .agg #[.int .i64 c.flags, .string (tx c.name), .string (tx c.super), a, p, b, d], .string (tx s)] w fun e w' => e = .returned (.bool (mayB L c s)) ∧ Below w.heap.size w w' := by
  obtain ⟨f, hm, hfs⟩ := hC.out
  have HM := lhid hm
  have hB := (Below.refl w.heap.size w).alloc (Nat.le_refl _) (.cells #[.int .i64 c.flags, .string (tx c.name), .string (tx c.super), a, p, b, d] 39)
  have t1 := heap_cell (i := 1) (hT.out.below hB) rfl
  clear hm hB
  cases hf : findC L s with
  | none =>
    have hf1 := (hfs s).1 hf
    have HF : Hid (mayB L c s = false) := lhid (by unfold mayB; rw [hf])
    have HF1 := lhid hf1
    clear hf hf1 hfs
    go_enter Tryz.func88, Tryz.ntmps88
    go_wp2_with (at_lookup; refine wpList_lookok_mv _ rfl _ _ 97 rfl _ und_cm _ (zero_cl _) cb _ f rfl (HM.out.alloc _) s rfl hs (.agg #[.int .i64 0, .string ⟨#[]⟩, .string ⟨#[]⟩, .slice none 0 0, .slice none 0 0, .slice none 0 0, .slice none 0 0]) (by rw [HF1.out]; rfl) false (by rw [HF1.out]; rfl) ?_)
    go_wp2_with fail
    go_ret
    exact ⟨by rw [HF.out]; rfl, ((Below.refl _ _).alloc (Nat.le_refl _) _).alloc (by simp) _⟩
  | some y =>
    obtain ⟨u, hfu, cy, rfl, a', p', b', d', rfl, r1, r2, r3, r4⟩ := (hfs s).2 y hf
    obtain ⟨ya, da, rfl⟩ := r1.shape
    obtain ⟨yp, dp, rfl⟩ := r2.shape
    obtain ⟨yb, db, rfl⟩ := r3.shape
    obtain ⟨yd, dd, rfl⟩ := r4.shape
    obtain ⟨k1, hk1⟩ : ∃ k, ifc y = k := ⟨_, rfl⟩
    obtain ⟨k2, hk2⟩ : ∃ k, decide (s = nString) = k := ⟨_, rfl⟩
    obtain ⟨k3, hk3⟩ : ∃ k, decide (s = nSys) = k := ⟨_, rfl⟩
    obtain ⟨k4, hk4⟩ : ∃ k, decide (s = nObject) = k := ⟨_, rfl⟩
    obtain ⟨k5, hk5⟩ : ∃ k, ifc c = k := ⟨_, rfl⟩
    have HF : Hid (mayB L c s = (!k1 && !k2 && !k3 && (k4 || !k5))) := lhid (by unfold mayB; rw [hf]; simp only [hk1, hk2, hk3, hk4, hk5])
    have HF1 := lhid hfu
    have K1 := lhid hk1
    have K5 := lhid hk5
    have e2 := tx_test s nString k2 (lhid hk2)
    have e3 := tx_test s nSys k3 (lhid hk3)
    have e4 := tx_test s nObject k4 (lhid hk4)
    clear hf hfu hfs hk1 hk2 hk3 hk4 hk5 r1 r2 r3 r4
    go_enter Tryz.func88, Tryz.ntmps88
    go_wp2_with (at_lookup; refine wpList_lookok_mv _ rfl _ _ 97 rfl _ und_cm _ (zero_cl _) cb _ f rfl (HM.out.alloc _) s rfl hs (.agg #[.int .i64 y.flags, .string (tx y.name), .string (tx y.super), .slice ya y.ifaces.length da, .slice yp y.pool.length dp, .slice yb y.fields.length db, .slice yd y.methods.length dd]) (by rw [HF1.out]; rfl) true (by rw [HF1.out]; rfl) ?_)
    go_wp2_with fail
    with_reducible refine (isInterface_any y _ _ _ _ _).mono ?_
    rintro e w1 ⟨rfl, hb1⟩
    have HB0 : Hid (Below w.heap.size w w1) := lhid ((((Below.refl w.heap.size w).alloc (Nat.le_refl _) _).alloc (by simp) _).trans (Below.less hb1 (by simp; omega)))
    have HX0 := lhid ((hb1.block w.heap.size (by simp; omega)).trans ((Below.heap_alloc _ _ _ (by simp)).trans (heap_alloc_new w (.cells #[.int .i64 c.flags, .string (tx c.name), .string (tx c.super), a, p, b, d] 39))))
    clear hb1
    rw [K1.out]
    have c0 := heap_cell (i := 0) HX0.out rfl
    have c1 := heap_cell (i := 1) HX0.out rfl
    have c2 := heap_cell (i := 2) HX0.out rfl
    have c3 := heap_cell (i := 3) HX0.out rfl
    have c4 := heap_cell (i := 4) HX0.out rfl
    have c5 := heap_cell (i := 5) HX0.out rfl
    have c6 := heap_cell (i := 6) HX0.out rfl
    clear t1
    cases k1 <;> cases k2 <;> cases k3 <;> cases k4
    all_goals go_wp2_with fail
    all_goals first
      | (go_ret; exact ⟨by rw [HF.out]; rfl, HB0.out⟩)
      | (with_reducible refine (isInterface_any c _ _ _ _ _).mono ?_
         rintro e w2 ⟨rfl, hb2⟩
         rw [K5.out]
         have HB2 := lhid (HB0.out.trans (Below.less hb2 HB0.out.size))
         clear hb2
         cases k5
         all_goals go_wp2_with fail
         all_goals go_ret
         all_goals exact ⟨by rw [HF.out]; rfl, HB2.out⟩)
def zI : ClI := ⟨0, [], [], [], [], [], []⟩
theorem ifc_zero : ifc zI = false := by decide
def isI (L : List ClI) (s : Bs) : Bool := match findC L s with | none => false | some y => ifc y
def AreI (L : List ClI) (ns : List Bs) : Prop := ns.Nodup ∧ ∀ n ∈ ns, isI L n = true
theorem isInterface_zero (w : World) :
    Calls Tryz.prog 147 #[.agg #[.int .i64 0, .string ⟨#[]⟩, .string ⟨#[]⟩, .slice none 0 0, .slice none 0 0, .slice none 0 0, .slice none 0 0]] w fun e w' => e = .returned (.bool false) ∧ Below w.heap.size w w' := by
  have := isInterface_any zI (.slice none 0 0) (.slice none 0 0) (.slice none 0 0) (.slice none 0 0) w
  rw [ifc_zero] at this
  exact this
theorem take_nextS {l : List Bs} {k : Nat} {x : Bs} (h : l[k]? = some x) : l.take (k + 1) = l.take k ++ [x] := by rw [List.take_add_one, h]; rfl
set_option maxHeartbeats 8000000 in
set_option maxRecDepth 100000 in
theorem areInterfaces_any (Q P : Nat → Prop) (L : List ClI) (tb cb ab : Nat) (v0 : Value) (v : Value) (ns : List Bs) (w : World) (hT : Hid (Tr w tb cb ab v0)) (hC : Hid (CM Q w cb L)) (h : Hid (RdX P 1 StE w v ns)) (hs : Hid (∀ n ∈ ns, n.length ≤ maxLen)) :
    Calls Tryz.prog 89 #[.pointer (some ⟨tb, 0, none⟩), v] w fun e w' => ∃ r : Bool, e = .returned (.bool r) ∧ (r = true ↔ AreI L ns) ∧ Below w.heap.size w w' := by
  obtain ⟨A, cap, rfl⟩ := h.out.shape
  have hlen := h.out.len
  have HS0 := lhid (sv_made w)
  have HB0 : Hid (Below w.heap.size w (w.alloc (.map #[] 0))) := lhid ((Below.refl _ _).alloc (Nat.le_refl _) _)
  have hmm := @run_makeMap Tryz.prog
  go_enter Tryz.func89, Tryz.ntmps89
  go_wp2_with fail
  go_loopw [11] (fun i wr => ∃ (kk : Nat) (S : List Bs), i = .int .i64 kk ∧ kk ≤ ns.length ∧ Hid (SV wr w.heap.size S) ∧ S.length = kk ∧ Hid (∀ x, x ∈ S ↔ x ∈ ns.take kk) ∧ Hid (AreI L (ns.take kk)) ∧ Hid (Below w.heap.size w wr)) (fun i _ => ns.length - (intOf i).toNat)
  case atStart => exact ⟨0, [], rfl, Nat.zero_le _, HS0, rfl, lhid (by simp), lhid ⟨by simp, by simp⟩, HB0⟩
  case round =>
    obtain ⟨kk, S, rfl, hkk, HS, hSl, HI, HA, HB⟩ := hrel
    clear hmm
    by_cases hlt : kk < ns.length
    · obtain ⟨x, hx⟩ : ∃ x, ns[kk]? = some x := ⟨_, List.getElem?_eq_getElem hlt⟩
      have HX := lhid hx
      have HRd := lhid (h.out.below (keptX_st P) HB.out)
      obtain ⟨ga, oa, cc, rfl, _, hE, hc⟩ := HRd.out.at' hx
      have c0 : wr.cell? ⟨ga, oa + kk, none⟩ = some (.string (tx x)) := by
        have := hc 0 (.string (tx x)) (by rw [show cc = [.string (tx x)] from hE]; rfl)
        rwa [Nat.mul_one] at this
      have k3 : (kk : Int) < ns.length := by omega
      have hxl := hs.out x (List.mem_of_getElem? hx)
      have HTN := lhid (take_nextS hx)
      have hbs := HB.out.size
      clear hx hE hc
      go_wp2_with fail
      with_reducible refine (has_any w.heap.size S x _ HS hxl).mono ?_
      rintro e w1 ⟨rfl, hb1⟩
      have HB1 := lhid (HB.out.trans (Below.less hb1 hbs))
      have HS1 := lhid (HS.out.below hb1)
      have hb1s := hb1.size
      clear hb1
      by_cases hm : x ∈ S
      · have HM := lhid ((HI.out x).1 hm)
        rw [decide_eq_true hm]
        clear hm
        go_wp2_with fail
        go_ret
        refine ⟨false, rfl, ?_, HB1.out⟩
        constructor
        · intro e; cases e
        · rintro ⟨h1, _⟩
          have h2 : (ns.take (kk + 1)).Nodup := h1.sublist (List.take_sublist _ _)
          rw [HTN.out, List.nodup_append] at h2
          exact absurd rfl (h2.2.2 _ HM.out x (by simp))
      · have HNM := lhid hm
        rw [decide_eq_false hm]
        clear hm
        have t1 := heap_cell (i := 1) (hT.out.below HB1.out) rfl
        obtain ⟨f, hmv, hfs⟩ := hC.out.below HB1.out
        have HMV := lhid hmv
        cases hf : findC L x with
        | none =>
          have HF1 := lhid ((hfs x).1 hf)
          have HR : Hid (isI L x = false) := lhid (by unfold isI; rw [hf])
          clear hf hfs hmv
          have hlk : (Instr.lookup 97 (.map (some cb)) (.string (tx x)) false).run Tryz.prog w1 = .ok (.agg #[.int .i64 0, .string ⟨#[]⟩, .string ⟨#[]⟩, .slice none 0 0, .slice none 0 0, .slice none 0 0, .slice none 0 0]) w1 := by
            have := (HMV.out.look und_cm (zero_cl w1) hxl).1
            rw [HF1.out] at this
            exact this
          go_wp2_with fail
          clear hlk
          with_reducible refine (isInterface_zero _).mono ?_
          rintro e w2 ⟨rfl, hb2⟩
          have HB2 := lhid (HB1.out.trans (Below.less hb2 (by omega)))
          clear hb2 t1
          go_wp2_with fail
          go_ret
          exact ⟨false, rfl, ⟨fun e => (by cases e), fun h1 => by have := h1.2 x (List.mem_of_getElem? HX.out); rw [HR.out] at this; cases this⟩, HB2.out⟩
        | some y =>
          obtain ⟨u, hfu, cy, rfl, a', p', b', d', rfl, _⟩ := (hfs x).2 y hf
          have HF1 := lhid hfu
          obtain ⟨r, hr⟩ : ∃ r, ifc y = r := ⟨_, rfl⟩
          have HR : Hid (isI L x = r) := lhid (by unfold isI; rw [hf]; exact hr)
          have HRY := lhid hr
          clear hf hfs hmv hfu hr
          have hlk : (Instr.lookup 97 (.map (some cb)) (.string (tx x)) false).run Tryz.prog w1 = .ok (.agg #[.int .i64 y.flags, .string (tx y.name), .string (tx y.super), a', p', b', d']) w1 := by
            have := (HMV.out.look und_cm (zero_cl w1) hxl).1
            rw [HF1.out] at this
            exact this
          go_wp2_with fail
          clear hlk
          with_reducible refine (isInterface_any y _ _ _ _ _).mono ?_
          rintro e w2 ⟨rfl, hb2⟩
          rw [HRY.out]
          have HB2 := lhid (HB1.out.trans (Below.less hb2 (by omega)))
          have HS2 := lhid (HS1.out.below hb2)
          have hb2s := hb2.size
          clear hb2 t1
          cases r with
          | false =>
            go_wp2_with fail
            go_ret
            exact ⟨false, rfl, ⟨fun e => (by cases e), fun h1 => by have := h1.2 x (List.mem_of_getElem? HX.out); rw [HR.out] at this; cases this⟩, HB2.out⟩
          | true =>
            go_wp2_with fail
            with_reducible refine (add_any w.heap.size S x _ HS2 hxl HNM (by unfold maxLen; omega)).mono ?_
            rintro e w3 ⟨rfl, hs3, hc3⟩
            have HS3 := lhid hs3
            have HB3 := lhid (HB2.out.trans (hc3.to (by omega) (fun k hk => by omega)))
            clear hs3 hc3
            go_wp2_with fail
            go_roundw
            case rel => exact ⟨kk + 1, x :: S, by go_num, by omega, HS3, by simp [hSl], lhid (fun z => by rw [HTN.out, List.mem_cons, HI.out z, List.mem_append, List.mem_singleton, or_comm]), lhid (by
              rw [HTN.out]
              refine ⟨?_, fun n hn => ?_⟩
              · rw [List.nodup_append]
                refine ⟨HA.out.1, by simp, fun a ha b hb e => ?_⟩
                simp at hb
                subst hb
                subst e
                exact HNM.out ((HI.out a).2 ha)
              · rcases List.mem_append.1 hn with hn | hn
                · exact HA.out.2 n hn
                · simp at hn
                  rw [hn]
                  exact HR.out), HB3⟩
            case measure => simp [intOf]; omega
    · have k3 : ¬ (kk : Int) < ns.length := by omega
      have e : kk = ns.length := by omega
      subst e
      rw [List.take_length] at HA
      go_wp2_with fail
      go_ret
      first
        | exact .inr ⟨rfl, HA.out, HB.out⟩
        | exact ⟨true, rfl, ⟨fun _ => HA.out, fun _ => rfl⟩, HB.out⟩
set_option maxHeartbeats 8000000 in
set_option maxRecDepth 100000 in
theorem hasKin_any (Q P : Nat → Prop) (L : List ClI) (tb cb ab : Nat) (v0 : Value) (c : ClI) (a p b d : Value) (w : World) (hT : Hid (Tr w tb cb ab v0)) (hC : Hid (CM Q w cb L)) (h : Hid (RdX P 1 StE w a c.ifaces)) (hs : c.super.length ≤ maxLen) (hi : Hid (∀ n ∈ c.ifaces, n.length ≤ maxLen)) :
    Calls Tryz.prog 46 #[.pointer (some ⟨tb, 0, none⟩), .agg #[.int .i64 c.flags, .string (tx c.name), .string (tx c.super), a, p, b, d]] w fun e w' => ∃ r : Bool, e = .returned (.bool r) ∧ (r = true ↔ mayB L c c.super = true ∧ AreI L c.ifaces) ∧ Below w.heap.size w w' := by
  have hB := (Below.refl w.heap.size w).alloc (Nat.le_refl _) (.cells #[.int .i64 c.flags, .string (tx c.name), .string (tx c.super), a, p, b, d] 39)
  have HB := lhid hB
  have HT1 := lhid (hT.out.below hB)
  have HC1 := lhid (hC.out.below hB)
  have HX0 := lhid (heap_alloc_new w (.cells #[.int .i64 c.flags, .string (tx c.name), .string (tx c.super), a, p, b, d] 39))
  clear hB
  go_enter Tryz.func46, Tryz.ntmps46
  go_wp2_with fail
  with_reducible refine (mayBeBelow_any Q L tb cb ab v0 c a p b d c.super _ HT1 HC1 hs).mono ?_
  rintro e w1 ⟨rfl, hb1⟩
  have HB1 := lhid (HB.out.trans (Below.less hb1 HB.out.size))
  have HX1 := lhid ((hb1.block _ (heap_lt HX0.out)).trans HX0.out)
  have HT2 := lhid (HT1.out.below hb1)
  have HC2 := lhid (HC1.out.below hb1)
  have c3 := heap_cell (i := 3) HX1.out rfl
  clear hb1
  cases hm : mayB L c c.super with
  | false =>
    have HM := lhid hm
    clear hm
    go_wp2_with fail
    go_ret
    first
      | exact ⟨false, rfl, ⟨fun e => (by cases e), fun h => (by have h2 := h.1; rw [HM.out] at h2; cases h2)⟩, HB1.out⟩
      | exact .inl ⟨rfl, fun h => (by rw [HM.out] at h; cases h), HB1.out⟩
  | true =>
    have HM := lhid hm
    clear hm
    go_wp2_with fail
    with_reducible refine (areInterfaces_any Q P L tb cb ab v0 a c.ifaces _ HT2 HC2 (lhid (h.out.below (keptX_st P) HB1.out)) hi).mono ?_
    rintro e w2 ⟨r, rfl, hr, hb2⟩
    have HB2 := lhid (HB1.out.trans (Below.less hb2 HB1.out.size))
    have HR := lhid hr
    clear hb2 hr
    cases r with
    | false =>
      go_wp2_with fail
      go_ret
      refine ⟨false, rfl, ⟨fun e => (by cases e), fun h => ?_⟩, HB2.out⟩
      have := HR.out.2 h.2
      cases this
    | true =>
      go_wp2_with fail
      go_ret
      exact ⟨true, rfl, ⟨fun _ => ⟨HM.out, HR.out.1 (by simp)⟩, fun _ => rfl⟩, HB2.out⟩
end Go.Proofs.YtpdnonlelocfbaaGreatDoor
/- Who stands above whom, in plain words. -/
namespace Go.Proofs.YtpdnonlelocfbaaGreatDoor
open Go.RowKit Go Go.Maps
set_option linter.unusedVariables false

theorem nodup_len : ∀ (l m : List Bs), l.Nodup → (∀ x ∈ l, x ∈ m) → l.length ≤ m.length
  | [], _, _, _ => Nat.zero_le _
  | a :: l, m, h, hm => by
    rw [List.nodup_cons] at h
    have ha : a ∈ m := hm a (by simp)
    have := nodup_len l (m.erase a) h.2 (fun x hx => (List.mem_erase_of_ne (fun e => h.1 (by rw [← e]; exact hx))).2 (hm x (by simp [hx])))
    rw [List.length_erase_of_mem ha] at this
    have h0 : 0 < m.length := List.length_pos_of_mem ha
    simp only [List.length_cons]
    omega
/-- Parent and interfaces of a class, as far as they are there. -/
def kinOf (L : List ClI) (c : ClI) : List Bs := (if (findC L c.super).isSome then [c.super] else []) ++ c.ifaces
def nxt (L : List ClI) (s : Bs) : List Bs := match findC L s with | none => [] | some c => kinOf L c
inductive Rch (L : List ClI) : Bs → Bs → Prop
  | refl (x : Bs) : Rch L x x
  | step {x y z : Bs} : y ∈ nxt L x → Rch L y z → Rch L x z
theorem Rch.trans {L : List ClI} {x y z : Bs} (h : Rch L x y) (k : Rch L y z) : Rch L x z := by
  induction h with
  | refl => exact k
  | step h1 _ ih => exact .step h1 (ih k)
def names (L : List ClI) : List Bs := L.map ClI.name
/-- Whoever is named as a parent or an interface is there; nobody has no name. -/
def Closed (L : List ClI) : Prop := (∀ c ∈ L, ∀ i ∈ c.ifaces, i ∈ names L) ∧ [] ∉ names L
theorem names_find {L : List ClI} {s : Bs} (h : s ∈ names L) : ∃ c, findC L s = some c := by
  cases hf : findC L s with
  | none => exact absurd h (findC_none.1 hf)
  | some c => exact ⟨c, rfl⟩
theorem find_names {L : List ClI} {s : Bs} {c : ClI} (h : findC L s = some c) : s ∈ names L := by
  have := findC_some h
  rw [← this.2]
  exact List.mem_map_of_mem this.1
theorem kinOf_in {L : List ClI} (hC : Closed L) {c : ClI} (hc : c ∈ L) : ∀ n ∈ kinOf L c, n ∈ names L := by
  intro n hn
  unfold kinOf at hn
  rcases List.mem_append.1 hn with hn | hn
  · split at hn
    · rename_i h
      simp at hn
      subst hn
      obtain ⟨y, hy⟩ := Option.isSome_iff_exists.1 h
      exact find_names hy
    · cases hn
  · exact hC.1 c hc n hn
/-- What a gathering does to a set. -/
structure Gat (L : List ClI) (S S' : List Bs) (ns : List Bs) : Prop where
  old : ∀ z ∈ S, z ∈ S'
  all : ∀ n ∈ ns, n ∈ S'
  only : ∀ z ∈ S', z ∈ S ∨ ∃ n ∈ ns, Rch L n z
  closed : ∀ z ∈ S', z ∉ S → ∀ y ∈ nxt L z, y ∈ S'
theorem Gat.refl (L : List ClI) (S : List Bs) : Gat L S S [] := ⟨fun _ h => h, fun _ h => by simp at h, fun _ h => .inl h, fun z h h' => absurd h h'⟩
theorem Gat.one (L : List ClI) {S : List Bs} {s : Bs} (h : s ∈ S) : Gat L S S [s] := ⟨fun _ h => h, fun n hn => by simp at hn; subst hn; exact h, fun _ h => .inl h, fun z h h' => absurd h h'⟩
theorem Gat.trans {L : List ClI} {S S' S'' ns ms : List Bs} (h : Gat L S S' ns) (k : Gat L S' S'' ms) : Gat L S S'' (ns ++ ms) := by
  refine ⟨fun z hz => k.old z (h.old z hz), fun n hn => ?_, fun z hz => ?_, fun z hz hn y hy => ?_⟩
  · rcases List.mem_append.1 hn with hn | hn
    · exact k.old n (h.all n hn)
    · exact k.all n hn
  · rcases k.only z hz with h1 | ⟨n, hn, h1⟩
    · rcases h.only z h1 with h2 | ⟨n, hn, h2⟩
      · exact .inl h2
      · exact .inr ⟨n, List.mem_append_left _ hn, h2⟩
    · exact .inr ⟨n, List.mem_append_right _ hn, h1⟩
  · by_cases hz' : z ∈ S'
    · exact k.old y (h.closed z hz' hn y hy)
    · exact k.closed z hz hz' y hy
theorem Gat.into {L : List ClI} {S S' : List Bs} {s : Bs} {c : ClI} (hc : findC L s = some c) (h : Gat L (s :: S) S' (kinOf L c)) : Gat L S S' [s] := by
  have hn : nxt L s = kinOf L c := by unfold nxt; rw [hc]
  refine ⟨fun z hz => h.old z (by simp [hz]), fun n hn => by simp at hn; subst hn; exact h.old n (by simp), fun z hz => ?_, fun z hz hz' y hy => ?_⟩
  · rcases h.only z hz with h1 | ⟨n, hn', h1⟩
    · rcases List.mem_cons.1 h1 with h1 | h1
      · exact .inr ⟨s, by simp, by rw [h1]; exact .refl _⟩
      · exact .inl h1
    · exact .inr ⟨s, by simp, .step (by rw [hn]; exact hn') h1⟩
  · by_cases e : z = s
    · subst e
      rw [hn] at hy
      exact h.all y hy
    · exact h.closed z hz (by simp [e, hz']) y hy
/-- A gathering from nothing finds just those above. -/
theorem Gat.exact {L : List ClI} {S' ns : List Bs} (h : Gat L [] S' ns) (z : Bs) : z ∈ S' ↔ ∃ n ∈ ns, Rch L n z := by
  constructor
  · intro hz
    rcases h.only z hz with h1 | h1
    · cases h1
    · exact h1
  · rintro ⟨n, hn, hr⟩
    have hn' := h.all n hn
    clear hn
    induction hr with
    | refl => exact hn'
    | step h1 _ ih => exact ih (h.closed _ hn' (by simp) _ h1)
end Go.Proofs.YtpdnonlelocfbaaGreatDoor
