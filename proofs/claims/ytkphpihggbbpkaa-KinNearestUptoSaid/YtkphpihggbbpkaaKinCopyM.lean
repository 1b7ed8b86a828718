/- Copies of lists of methods, and of classes. -/
import Derived.Test.YtkphpihggbbpkaaKinCopy
namespace Go.Proofs.Ytkphpihggbbpkaa
open Go.RowKit Go
set_option linter.unusedVariables false


theorem copyMethod_cs (P : Nat → Prop) (x : MeI) (cs : List Value) (w : World) (h : Hid (MeE P w x cs)) :
    Calls Try.prog 30 #[.agg cs.toArray] w fun e w' => ∃ cs' : List Value, e = .returned (.agg cs'.toArray) ∧ MeE (fun g => w.heap.size ≤ g) w' x cs' ∧ Below w.heap.size w w' := by
  obtain ⟨a, b, d, rfl, ha, hb, hd⟩ := h.out
  exact copyMethod_any P x a b d w (lhid ha) (lhid hb) (lhid hd)
set_option maxHeartbeats 16000000 in
set_option maxRecDepth 100000 in
theorem copyMethods_any (P : Nat → Prop) (v : Value) (l : List MeI) (w : World) (h : Hid (RdX P 8 (MeE P) w v l)) :
    Calls Try.prog 45 #[v, .func (.func 30) #[] #[]] w fun e w' => ∃ v', e = .returned v' ∧ RdX (fun g => w.heap.size ≤ g) 8 (MeE fun g => w.heap.size ≤ g) w' v' l ∧ Below w.heap.size w w' := by
  obtain ⟨A, cap, rfl⟩ := h.out.shape
  have hlen := h.out.len
  go_enter Try.func45, Try.ntmps45
  go_wp2_with fail
  with_reducible refine (clone_me (row_me P) (.slice A l.length cap) l _ h).mono ?_
  rintro e w1 ⟨v1, xs, rfl, ho, hr, hb⟩
  have HB1 := lhid hb
  have H1 := lhid (h.out.below (keptX_me P) hb)
  have HO := lhid ho
  have hws := hb.size
  clear hb ho hr
  rcases Nat.eq_zero_or_pos l.length with h0 | hpos
  · have hl : l = [] := List.length_eq_zero_iff.1 h0
    subst hl
    clear h0
    have HN := lhid (rdX_own (E := MeE fun g => w.heap.size ≤ g) (l := ([] : List MeI)) HO.out (by simp) ⟨HO.out.1, fun i a hi => by simp at hi⟩)
    obtain ⟨A1, c1, rfl⟩ := own_shape HO.out
    go_wp2_with fail
    go_loopw [12] (fun i wr => i = .int .i64 0 ∧ wr = w1) (fun _ _ => 0)
    case atStart => exact ⟨rfl, rfl⟩
    case round =>
      obtain ⟨rfl, rfl⟩ := hrel
      go_wp2_with fail
      go_ret
      exact ⟨_, rfl, HN.out.any fun g hg => hg.1, HB1.out⟩
  obtain ⟨g, cap1, rfl, hg1, hcap1, HC0⟩ : ∃ g cap1, v1 = .slice (some ⟨g, 0, none⟩) l.length cap1 ∧ w.heap.size ≤ g ∧ l.length ≤ cap1 ∧ Hid (CI 48 8 (MeE fun b => w.heap.size ≤ b ∧ b ≠ g) w1 g cap1 l 0) := by
    rcases HO.out.2 with ⟨_, h2⟩ | ⟨g, cap1, cur, hv, h2, h3, h4, h5, h6, _⟩
    · omega
    · exact ⟨g, cap1, hv, h2, h4, lhid ⟨cur, h3, h6, fun i a hi => by omega⟩⟩
  clear HO
  go_wp2_with fail
  go_loopw [12] (fun i wr => ∃ kk : Nat, i = .int .i64 kk ∧ kk ≤ l.length ∧ Hid (CI 48 8 (MeE fun b => w.heap.size ≤ b ∧ b ≠ g) wr g cap1 l kk) ∧ Hid (Below w.heap.size w wr)) (fun i _ => l.length - (intOf i).toNat)
  case atStart => exact ⟨0, rfl, Nat.zero_le _, HC0, HB1⟩
  case round =>
    obtain ⟨kk, rfl, hkk, HC, HB⟩ := hrel
    by_cases hlt : kk < l.length
    · obtain ⟨x, hx⟩ : ∃ x, l[kk]? = some x := ⟨_, List.getElem?_eq_getElem hlt⟩
      have HX := lhid hx
      have HR := lhid (h.out.below (keptX_me P) HB.out)
      obtain ⟨ga, oa, cc, rfl, _, hE, hc⟩ := HR.out.at' hx
      have hc1 := row_me P _ _ _ hE
      have HE := lhid hE
      have HCL := lhid hc1.1
      have HRA : Hid (wr.rangeAt ga (oa + kk * 8) cc) := lhid hc
      have HSZ : Hid ((Try.prog.info? 48).map (·.size) = some cc.length) := lhid (by rw [hc1.1]; exact sz_me)
      have HSA : Hid ((Try.prog.info? 48).map (·.size) = some cc.toArray.size) := lhid (by simpa using HSZ.out)
      have HALL : Hid (cc.toArray.all (·.oneCell') = true) := lhid (all_oneCell_toArray hc1.2)
      have hth : (wr.alloc (.cells #[.int .i64 0, .string ⟨#[]⟩, .string ⟨#[]⟩, .int .i64 0, .int .i64 0, .slice none 0 0, .slice none 0 0, .slice none 0 0] 48)).there wr.heap.size 0 8 := fun j hj => ⟨by
        rw [Nat.zero_add, heap_cell (heap_alloc_new wr _) (Array.getElem?_eq_getElem (by simpa using hj))]; rfl, heap_thaw (heap_alloc_new wr _) _⟩
      have HTA : Hid ((wr.alloc (.cells #[.int .i64 0, .string ⟨#[]⟩, .string ⟨#[]⟩, .int .i64 0, .int .i64 0, .slice none 0 0, .slice none 0 0, .slice none 0 0] 48)).there wr.heap.size 0 cc.toArray.size) := lhid (by rw [show cc.toArray.size = 8 by simpa using hc1.1]; exact hth)
      have HRB : Hid (((wr.alloc (.cells #[.int .i64 0, .string ⟨#[]⟩, .string ⟨#[]⟩, .int .i64 0, .int .i64 0, .slice none 0 0, .slice none 0 0, .slice none 0 0] 48)).setCells wr.heap.size 0 cc).rangeAt wr.heap.size 0 cc) := lhid (World.rangeAt_setCells_same _ _ _ _ (by rw [hc1.1]; exact hth))
      have k3 : (kk : Int) < l.length := by omega
      have hbs := HB.out.size
      have hgs := HC.out.lt
      have HW : Hid (Below w.heap.size w ((wr.alloc (.cells #[.int .i64 0, .string ⟨#[]⟩, .string ⟨#[]⟩, .int .i64 0, .int .i64 0, .slice none 0 0, .slice none 0 0, .slice none 0 0] 48)).setCells wr.heap.size 0 cc)) := lhid (below_cells (HB.out.alloc HB.out.size _) hbs _ _)
      have HW2 : Hid (Below wr.heap.size wr ((wr.alloc (.cells #[.int .i64 0, .string ⟨#[]⟩, .string ⟨#[]⟩, .int .i64 0, .int .i64 0, .slice none 0 0, .slice none 0 0, .slice none 0 0] 48)).setCells wr.heap.size 0 cc)) := lhid (below_cells ((Below.refl wr.heap.size wr).alloc (Nat.le_refl _) _) (Nat.le_refl _) _ _)
      have HES := lhid (keptX_me P _ _ _ _ (fun b _ hl => HW2.out.block b hl) HE.out)
      have hsz1 : wr.heap.size + 1 = ((wr.alloc (.cells #[.int .i64 0, .string ⟨#[]⟩, .string ⟨#[]⟩, .int .i64 0, .int .i64 0, .slice none 0 0, .slice none 0 0, .slice none 0 0] 48)).setCells wr.heap.size 0 cc).heap.size := by rw [setCells_size]; simp
      have HS1 := lhid hsz1
      clear hx hc hE hc1 hth hsz1
      go_wp2_with (first | (refine wpList_load_mid rfl 48 _ rfl ga (oa + kk * 8) rfl cc _ HRA.out Try.underlying48 (by rfl) HSZ.out ?_) | (refine wpList_store_mid rfl 48 _ _ rfl wr.heap.size 0 cc.toArray rfl rfl HTA.out HSA.out HALL.out ?_) | (refine wpList_load_mid rfl 48 _ rfl wr.heap.size 0 rfl cc _ HRB.out Try.underlying48 (by rfl) HSZ.out ?_))
      refine (copyMethod_cs P x cc _ HES).mono ?_
      rintro e w2 ⟨cs2, rfl, hE2, hB2⟩
      have hbb : Below wr.heap.size wr w2 := HW2.out.trans (Below.less hB2 (by rw [← HS1.out]; omega))
      have HC2 := lhid (HC.out.below (keptX_me _) hbb)
      have HBN := lhid (HW.out.trans (Below.less hB2 (by rw [← HS1.out]; omega)))
      have hE3 : MeE (fun b => w.heap.size ≤ b ∧ b ≠ g) w2 x cs2 := meE_mono (fun b hb _ => by have h1 := HS1.out; constructor <;> omega) _ _ hE2
      have HE3 := lhid hE3
      have hc2 := row_me _ _ _ _ hE3
      have HCL2 := lhid hc2.1
      obtain ⟨cur, hcur, hcs, _⟩ := HC2.out
      have hmul : (kk + 1) * 8 ≤ cap1 * 8 := Nat.mul_le_mul_right _ (by omega)
      have hth : w2.there g (kk * 8) 8 := fun j hj => ⟨by rw [heap_cell hcur (Array.getElem?_eq_getElem (by omega))]; rfl, heap_thaw hcur _⟩
      have HTH : Hid (w2.there g (kk * 8) cs2.toArray.size) := lhid (by rw [show cs2.toArray.size = 8 by simpa using hc2.1]; exact hth)
      have HSB : Hid ((Try.prog.info? 48).map (·.size) = some cs2.toArray.size) := lhid (by rw [show cs2.toArray.size = 8 by simpa using hc2.1]; exact sz_me)
      have HAL2 : Hid (cs2.toArray.all (·.oneCell') = true) := lhid (all_oneCell_toArray hc2.2)
      clear hbb hB2 hE3 hcur hcs hE2 hth hc2 hmul
      go_wp2_with (refine wpList_store_mid rfl 48 _ _ rfl g (kk * 8) cs2.toArray rfl rfl HTH.out HSB.out HAL2.out ?_)
      go_roundw
      case rel => exact ⟨kk + 1, by go_num, by omega, lhid (CI.store (keptX_me _) (fun b hb => hb.2) HC2.out HX.out HE3.out HCL2.out (by omega)), lhid (below_cells (b := g) HBN.out hg1 (kk * 8) cs2)⟩
      case measure => simp [intOf]; omega
    · have k3 : ¬ (kk : Int) < l.length := by omega
      have e : kk = l.length := by omega
      subst e
      go_wp2_with fail
      go_ret
      exact ⟨_, rfl, CI.done HC.out hg1 (meE_mono fun b hb _ => hb.1) hlen, HB.out⟩

set_option maxHeartbeats 4000000 in
set_option maxRecDepth 100000 in
theorem copyClass_any (P : Nat → Prop) (x : ClI) (a p b d : Value) (w : World) (Ha : Hid (RdX P 1 StE w a x.ifaces)) (Hp : Hid (RdX P 5 CoE w p x.pool)) (Hb : Hid (RdX P 3 FlE w b x.fields)) (Hd : Hid (RdX P 8 (MeE P) w d x.methods)) :
    Calls Try.prog 26 #[.agg #[.int .i64 x.flags, .string (tx x.name), .string (tx x.super), a, p, b, d]] w fun e w' => ∃ cs' : List Value, e = .returned (.agg cs'.toArray) ∧ ClE (fun g => w.heap.size ≤ g) w' x cs' ∧ Below w.heap.size w w' := by
  have HB0 : Hid (Below w.heap.size w ((w.alloc (.cells #[.int .i64 x.flags, .string (tx x.name), .string (tx x.super), a, p, b, d] 35)).alloc (.cells #[.int .i64 0, .string ⟨#[]⟩, .string ⟨#[]⟩, .slice none 0 0, .slice none 0 0, .slice none 0 0, .slice none 0 0] 35))) := lhid (((Below.refl _ _).alloc (Nat.le_refl _) _).alloc (by simp) _)
  have HX0 : Hid (((w.alloc (.cells #[.int .i64 x.flags, .string (tx x.name), .string (tx x.super), a, p, b, d] 35)).alloc (.cells #[.int .i64 0, .string ⟨#[]⟩, .string ⟨#[]⟩, .slice none 0 0, .slice none 0 0, .slice none 0 0, .slice none 0 0] 35)).heap[w.heap.size]? = some (.cells #[.int .i64 x.flags, .string (tx x.name), .string (tx x.super), a, p, b, d] 35 (0, 0))) := lhid ((Below.heap_alloc _ _ _ (by simp)).trans (heap_alloc_new w _))
  have HY0 : Hid (((w.alloc (.cells #[.int .i64 x.flags, .string (tx x.name), .string (tx x.super), a, p, b, d] 35)).alloc (.cells #[.int .i64 0, .string ⟨#[]⟩, .string ⟨#[]⟩, .slice none 0 0, .slice none 0 0, .slice none 0 0, .slice none 0 0] 35)).heap[w.heap.size + 1]? = some (.cells #[.int .i64 0, .string ⟨#[]⟩, .string ⟨#[]⟩, .slice none 0 0, .slice none 0 0, .slice none 0 0, .slice none 0 0] 35 (0, 0))) := lhid (by
    have := heap_alloc_new (w.alloc (.cells #[.int .i64 x.flags, .string (tx x.name), .string (tx x.super), a, p, b, d] 35)) (.cells #[.int .i64 0, .string ⟨#[]⟩, .string ⟨#[]⟩, .slice none 0 0, .slice none 0 0, .slice none 0 0, .slice none 0 0] 35)
    simpa using this)
  have HS0 : Hid (w.heap.size + 2 ≤ ((w.alloc (.cells #[.int .i64 x.flags, .string (tx x.name), .string (tx x.super), a, p, b, d] 35)).alloc (.cells #[.int .i64 0, .string ⟨#[]⟩, .string ⟨#[]⟩, .slice none 0 0, .slice none 0 0, .slice none 0 0, .slice none 0 0] 35)).heap.size) := lhid (by simp)
  go_enter Try.func26, Try.ntmps26
  go_wp2_with fail
  with_reducible refine (clone_st row_st a _ _ (lhid ((Ha.out).below (keptX_st _) HB0.out))).mono ?_
  rintro e w1 ⟨v1, xs1, rfl, ho1, hr1, hb⟩
  obtain ⟨A1, c1, rfl⟩ := own_shape ho1
  have HX1' := lhid ((hb.block _ (heap_lt HX0.out)).trans HX0.out)
  have HY1' := lhid ((hb.block _ (heap_lt HY0.out)).trans HY0.out)
  have HB1' := lhid (HB0.out.trans (Below.less hb HB0.out.size))
  have HS1 : Hid (w.heap.size + 2 ≤ w1.heap.size) := lhid (by have h1 := HS0.out; have h2 := hb.size; omega)
  have HV1_1 := lhid ((rdX_own (E := StE) ho1 Ha.out.len hr1).any (Q := fun g => w.heap.size + 1 < g) fun g hg => by have h1 := hg.1; have h2 := HS0.out; omega)
  clear hb
  have HS1s : Hid (w.heap.size + 2 ≤ (w1.setCell ⟨w.heap.size, 3, none⟩ (.slice A1 x.ifaces.length c1)).heap.size) := lhid (by have h1 := HS1.out; simpa [World.setCell] using h1)
  have q1 := heap_cell (i := 3) HX1'.out rfl
  have z1 := heap_thaw HX1'.out 3
  have r1 := heap_cell (i := 4) HX1'.out rfl
  have HX1 : Hid ((w1.setCell ⟨w.heap.size, 3, none⟩ (.slice A1 x.ifaces.length c1)).heap[w.heap.size]? = some (.cells #[.int .i64 x.flags, .string (tx x.name), .string (tx x.super), .slice A1 x.ifaces.length c1, p, b, d] 35 (0, 0))) := lhid (heap_set HX1'.out (.slice A1 x.ifaces.length c1))
  have HY1 : Hid ((w1.setCell ⟨w.heap.size, 3, none⟩ (.slice A1 x.ifaces.length c1)).heap[w.heap.size + 1]? = some (.cells #[.int .i64 0, .string ⟨#[]⟩, .string ⟨#[]⟩, .slice none 0 0, .slice none 0 0, .slice none 0 0, .slice none 0 0] 35 (0, 0))) := lhid ((Below.heap_setCell _ _ _ _ (by simp)).trans HY1'.out)
  have HB1 : Hid (Below w.heap.size w (w1.setCell ⟨w.heap.size, 3, none⟩ (.slice A1 x.ifaces.length c1))) := lhid (HB1'.out.setCell (Nat.le_refl _) (.slice A1 x.ifaces.length c1))
  have HV1_1s : Hid (RdX (fun g => w.heap.size + 1 < g) 1 StE (w1.setCell ⟨w.heap.size, 3, none⟩ (.slice A1 x.ifaces.length c1)) (.slice A1 x.ifaces.length c1) x.ifaces) := lhid (HV1_1.out.kept (keptX_st _) (fun g hg _ => Below.heap_setCell _ _ _ _ (by show g ≠ w.heap.size; omega)))
  go_wp2_with fail
  clear q1 z1 r1
  with_reducible refine (clone_co row_co p _ _ (lhid ((Hp.out).below (keptX_co _) HB1.out))).mono ?_
  rintro e w2 ⟨v2, xs2, rfl, ho2, hr2, hb⟩
  obtain ⟨A2, c2, rfl⟩ := own_shape ho2
  have HX2' := lhid ((hb.block _ (heap_lt HX1.out)).trans HX1.out)
  have HY2' := lhid ((hb.block _ (heap_lt HY1.out)).trans HY1.out)
  have HB2' := lhid (HB1.out.trans (Below.less hb HB1.out.size))
  have HS2 : Hid (w.heap.size + 2 ≤ w2.heap.size) := lhid (by have h1 := HS1s.out; have h2 := hb.size; omega)
  have HV2_2 := lhid ((rdX_own (E := CoE) ho2 Hp.out.len hr2).any (Q := fun g => w.heap.size + 1 < g) fun g hg => by have h1 := hg.1; have h2 := HS1s.out; omega)
  have HV1_2 := lhid (HV1_1s.out.below (keptX_st _) hb)
  clear hb
  have HS2s : Hid (w.heap.size + 2 ≤ (w2.setCell ⟨w.heap.size, 4, none⟩ (.slice A2 x.pool.length c2)).heap.size) := lhid (by have h1 := HS2.out; simpa [World.setCell] using h1)
  have q2 := heap_cell (i := 4) HX2'.out rfl
  have z2 := heap_thaw HX2'.out 4
  have r2 := heap_cell (i := 5) HX2'.out rfl
  have HX2 : Hid ((w2.setCell ⟨w.heap.size, 4, none⟩ (.slice A2 x.pool.length c2)).heap[w.heap.size]? = some (.cells #[.int .i64 x.flags, .string (tx x.name), .string (tx x.super), .slice A1 x.ifaces.length c1, .slice A2 x.pool.length c2, b, d] 35 (0, 0))) := lhid (heap_set HX2'.out (.slice A2 x.pool.length c2))
  have HY2 : Hid ((w2.setCell ⟨w.heap.size, 4, none⟩ (.slice A2 x.pool.length c2)).heap[w.heap.size + 1]? = some (.cells #[.int .i64 0, .string ⟨#[]⟩, .string ⟨#[]⟩, .slice none 0 0, .slice none 0 0, .slice none 0 0, .slice none 0 0] 35 (0, 0))) := lhid ((Below.heap_setCell _ _ _ _ (by simp)).trans HY2'.out)
  have HB2 : Hid (Below w.heap.size w (w2.setCell ⟨w.heap.size, 4, none⟩ (.slice A2 x.pool.length c2))) := lhid (HB2'.out.setCell (Nat.le_refl _) (.slice A2 x.pool.length c2))
  have HV1_2s : Hid (RdX (fun g => w.heap.size + 1 < g) 1 StE (w2.setCell ⟨w.heap.size, 4, none⟩ (.slice A2 x.pool.length c2)) (.slice A1 x.ifaces.length c1) x.ifaces) := lhid (HV1_2.out.kept (keptX_st _) (fun g hg _ => Below.heap_setCell _ _ _ _ (by show g ≠ w.heap.size; omega)))
  have HV2_2s : Hid (RdX (fun g => w.heap.size + 1 < g) 5 CoE (w2.setCell ⟨w.heap.size, 4, none⟩ (.slice A2 x.pool.length c2)) (.slice A2 x.pool.length c2) x.pool) := lhid (HV2_2.out.kept (keptX_co _) (fun g hg _ => Below.heap_setCell _ _ _ _ (by show g ≠ w.heap.size; omega)))
  go_wp2_with fail
  clear q2 z2 r2
  with_reducible refine (clone_fl row_fl b _ _ (lhid ((Hb.out).below (keptX_fl _) HB2.out))).mono ?_
  rintro e w3 ⟨v3, xs3, rfl, ho3, hr3, hb⟩
  obtain ⟨A3, c3, rfl⟩ := own_shape ho3
  have HX3' := lhid ((hb.block _ (heap_lt HX2.out)).trans HX2.out)
  have HY3' := lhid ((hb.block _ (heap_lt HY2.out)).trans HY2.out)
  have HB3' := lhid (HB2.out.trans (Below.less hb HB2.out.size))
  have HS3 : Hid (w.heap.size + 2 ≤ w3.heap.size) := lhid (by have h1 := HS2s.out; have h2 := hb.size; omega)
  have HV3_3 := lhid ((rdX_own (E := FlE) ho3 Hb.out.len hr3).any (Q := fun g => w.heap.size + 1 < g) fun g hg => by have h1 := hg.1; have h2 := HS2s.out; omega)
  have HV1_3 := lhid (HV1_2s.out.below (keptX_st _) hb)
  have HV2_3 := lhid (HV2_2s.out.below (keptX_co _) hb)
  clear hb
  have HS3s : Hid (w.heap.size + 2 ≤ (w3.setCell ⟨w.heap.size, 5, none⟩ (.slice A3 x.fields.length c3)).heap.size) := lhid (by have h1 := HS3.out; simpa [World.setCell] using h1)
  have q3 := heap_cell (i := 5) HX3'.out rfl
  have z3 := heap_thaw HX3'.out 5
  have r3 := heap_cell (i := 6) HX3'.out rfl
  have HX3 : Hid ((w3.setCell ⟨w.heap.size, 5, none⟩ (.slice A3 x.fields.length c3)).heap[w.heap.size]? = some (.cells #[.int .i64 x.flags, .string (tx x.name), .string (tx x.super), .slice A1 x.ifaces.length c1, .slice A2 x.pool.length c2, .slice A3 x.fields.length c3, d] 35 (0, 0))) := lhid (heap_set HX3'.out (.slice A3 x.fields.length c3))
  have HY3 : Hid ((w3.setCell ⟨w.heap.size, 5, none⟩ (.slice A3 x.fields.length c3)).heap[w.heap.size + 1]? = some (.cells #[.int .i64 0, .string ⟨#[]⟩, .string ⟨#[]⟩, .slice none 0 0, .slice none 0 0, .slice none 0 0, .slice none 0 0] 35 (0, 0))) := lhid ((Below.heap_setCell _ _ _ _ (by simp)).trans HY3'.out)
  have HB3 : Hid (Below w.heap.size w (w3.setCell ⟨w.heap.size, 5, none⟩ (.slice A3 x.fields.length c3))) := lhid (HB3'.out.setCell (Nat.le_refl _) (.slice A3 x.fields.length c3))
  have HV1_3s : Hid (RdX (fun g => w.heap.size + 1 < g) 1 StE (w3.setCell ⟨w.heap.size, 5, none⟩ (.slice A3 x.fields.length c3)) (.slice A1 x.ifaces.length c1) x.ifaces) := lhid (HV1_3.out.kept (keptX_st _) (fun g hg _ => Below.heap_setCell _ _ _ _ (by show g ≠ w.heap.size; omega)))
  have HV2_3s : Hid (RdX (fun g => w.heap.size + 1 < g) 5 CoE (w3.setCell ⟨w.heap.size, 5, none⟩ (.slice A3 x.fields.length c3)) (.slice A2 x.pool.length c2) x.pool) := lhid (HV2_3.out.kept (keptX_co _) (fun g hg _ => Below.heap_setCell _ _ _ _ (by show g ≠ w.heap.size; omega)))
  have HV3_3s : Hid (RdX (fun g => w.heap.size + 1 < g) 3 FlE (w3.setCell ⟨w.heap.size, 5, none⟩ (.slice A3 x.fields.length c3)) (.slice A3 x.fields.length c3) x.fields) := lhid (HV3_3.out.kept (keptX_fl _) (fun g hg _ => Below.heap_setCell _ _ _ _ (by show g ≠ w.heap.size; omega)))
  go_wp2_with fail
  clear q3 z3 r3
  with_reducible refine (copyMethods_any P d _ _ (lhid ((Hd.out).below (keptX_me _) HB3.out))).mono ?_
  rintro e w4 ⟨v4, rfl, hr4, hb⟩
  obtain ⟨A4, c4, rfl⟩ := hr4.shape
  have HX4' := lhid ((hb.block _ (heap_lt HX3.out)).trans HX3.out)
  have HY4' := lhid ((hb.block _ (heap_lt HY3.out)).trans HY3.out)
  have HB4' := lhid (HB3.out.trans (Below.less hb HB3.out.size))
  have HS4 : Hid (w.heap.size + 2 ≤ w4.heap.size) := lhid (by have h1 := HS3s.out; have h2 := hb.size; omega)
  have HV4_4 := lhid (hr4.mono (E' := MeE fun g => w.heap.size + 1 < g) (meE_mono fun g hg _ => by have h2 := HS3s.out; omega) (Q := fun g => w.heap.size + 1 < g) (fun g hg _ => by have h2 := HS3s.out; omega) me_ne)
  have HV1_4 := lhid (HV1_3s.out.below (keptX_st _) hb)
  have HV2_4 := lhid (HV2_3s.out.below (keptX_co _) hb)
  have HV3_4 := lhid (HV3_3s.out.below (keptX_fl _) hb)
  clear hb
  have HS4s : Hid (w.heap.size + 2 ≤ (w4.setCell ⟨w.heap.size, 6, none⟩ (.slice A4 x.methods.length c4)).heap.size) := lhid (by have h1 := HS4.out; simpa [World.setCell] using h1)
  have q4 := heap_cell (i := 6) HX4'.out rfl
  have z4 := heap_thaw HX4'.out 6
  have r0 := heap_cell (i := 0) HX4'.out rfl
  have y0 := heap_cell (i := 0) HY4'.out rfl
  have yz0 := heap_thaw HY4'.out 0
  have r1 := heap_cell (i := 1) HX4'.out rfl
  have y1 := heap_cell (i := 1) HY4'.out rfl
  have yz1 := heap_thaw HY4'.out 1
  have r2 := heap_cell (i := 2) HX4'.out rfl
  have y2 := heap_cell (i := 2) HY4'.out rfl
  have yz2 := heap_thaw HY4'.out 2
  have r3 := heap_cell (i := 3) HX4'.out rfl
  have y3 := heap_cell (i := 3) HY4'.out rfl
  have yz3 := heap_thaw HY4'.out 3
  have r4 := heap_cell (i := 4) HX4'.out rfl
  have y4 := heap_cell (i := 4) HY4'.out rfl
  have yz4 := heap_thaw HY4'.out 4
  have r5 := heap_cell (i := 5) HX4'.out rfl
  have y5 := heap_cell (i := 5) HY4'.out rfl
  have yz5 := heap_thaw HY4'.out 5
  have y6 := heap_cell (i := 6) HY4'.out rfl
  have yz6 := heap_thaw HY4'.out 6
  have HX4 : Hid ((w4.setCell ⟨w.heap.size, 6, none⟩ (.slice A4 x.methods.length c4)).heap[w.heap.size]? = some (.cells #[.int .i64 x.flags, .string (tx x.name), .string (tx x.super), .slice A1 x.ifaces.length c1, .slice A2 x.pool.length c2, .slice A3 x.fields.length c3, .slice A4 x.methods.length c4] 35 (0, 0))) := lhid (heap_set HX4'.out (.slice A4 x.methods.length c4))
  have HY4 : Hid ((w4.setCell ⟨w.heap.size, 6, none⟩ (.slice A4 x.methods.length c4)).heap[w.heap.size + 1]? = some (.cells #[.int .i64 0, .string ⟨#[]⟩, .string ⟨#[]⟩, .slice none 0 0, .slice none 0 0, .slice none 0 0, .slice none 0 0] 35 (0, 0))) := lhid ((Below.heap_setCell _ _ _ _ (by simp)).trans HY4'.out)
  have HB4 : Hid (Below w.heap.size w (w4.setCell ⟨w.heap.size, 6, none⟩ (.slice A4 x.methods.length c4))) := lhid (HB4'.out.setCell (Nat.le_refl _) (.slice A4 x.methods.length c4))
  have HV1_4s : Hid (RdX (fun g => w.heap.size + 1 < g) 1 StE (w4.setCell ⟨w.heap.size, 6, none⟩ (.slice A4 x.methods.length c4)) (.slice A1 x.ifaces.length c1) x.ifaces) := lhid (HV1_4.out.kept (keptX_st _) (fun g hg _ => Below.heap_setCell _ _ _ _ (by show g ≠ w.heap.size; omega)))
  have HV2_4s : Hid (RdX (fun g => w.heap.size + 1 < g) 5 CoE (w4.setCell ⟨w.heap.size, 6, none⟩ (.slice A4 x.methods.length c4)) (.slice A2 x.pool.length c2) x.pool) := lhid (HV2_4.out.kept (keptX_co _) (fun g hg _ => Below.heap_setCell _ _ _ _ (by show g ≠ w.heap.size; omega)))
  have HV3_4s : Hid (RdX (fun g => w.heap.size + 1 < g) 3 FlE (w4.setCell ⟨w.heap.size, 6, none⟩ (.slice A4 x.methods.length c4)) (.slice A3 x.fields.length c3) x.fields) := lhid (HV3_4.out.kept (keptX_fl _) (fun g hg _ => Below.heap_setCell _ _ _ _ (by show g ≠ w.heap.size; omega)))
  have HV4_4s : Hid (RdX (fun g => w.heap.size + 1 < g) 8 (MeE fun g => w.heap.size + 1 < g) (w4.setCell ⟨w.heap.size, 6, none⟩ (.slice A4 x.methods.length c4)) (.slice A4 x.methods.length c4) x.methods) := lhid (HV4_4.out.kept (keptX_me _) (fun g hg _ => Below.heap_setCell _ _ _ _ (by show g ≠ w.heap.size; omega)))
  go_wp2_with fail
  refine bodyPost_ret (v := .agg #[.int .i64 x.flags, .string (tx x.name), .string (tx x.super), .slice A1 x.ifaces.length c1, .slice A2 x.pool.length c2, .slice A3 x.fields.length c3, .slice A4 x.methods.length c4]) (by simp [results, Try.results26, go_sem, y0, y1, y2, y3, y4, y5, y6]) rfl ?_
  refine ⟨[.int .i64 x.flags, .string (tx x.name), .string (tx x.super), .slice A1 x.ifaces.length c1, .slice A2 x.pool.length c2, .slice A3 x.fields.length c3, .slice A4 x.methods.length c4], rfl, ⟨_, _, _, _, rfl, (HV1_4s.out.kept (keptX_st _) (fun g hg _ => setCells_other (b := w.heap.size + 1) (by omega) [.int .i64 x.flags, .string (tx x.name), .string (tx x.super), .slice A1 x.ifaces.length c1, .slice A2 x.pool.length c2, .slice A3 x.fields.length c3, .slice A4 x.methods.length c4] 0 _)).mono (fun _ _ h => h) (fun g hg _ => by omega) st_ne, (HV2_4s.out.kept (keptX_co _) (fun g hg _ => setCells_other (b := w.heap.size + 1) (by omega) [.int .i64 x.flags, .string (tx x.name), .string (tx x.super), .slice A1 x.ifaces.length c1, .slice A2 x.pool.length c2, .slice A3 x.fields.length c3, .slice A4 x.methods.length c4] 0 _)).mono (fun _ _ h => h) (fun g hg _ => by omega) co_ne, (HV3_4s.out.kept (keptX_fl _) (fun g hg _ => setCells_other (b := w.heap.size + 1) (by omega) [.int .i64 x.flags, .string (tx x.name), .string (tx x.super), .slice A1 x.ifaces.length c1, .slice A2 x.pool.length c2, .slice A3 x.fields.length c3, .slice A4 x.methods.length c4] 0 _)).mono (fun _ _ h => h) (fun g hg _ => by omega) fl_ne, (HV4_4s.out.kept (keptX_me _) (fun g hg _ => setCells_other (b := w.heap.size + 1) (by omega) [.int .i64 x.flags, .string (tx x.name), .string (tx x.super), .slice A1 x.ifaces.length c1, .slice A2 x.pool.length c2, .slice A3 x.fields.length c3, .slice A4 x.methods.length c4] 0 _)).mono (meE_mono fun g hg _ => by omega) (fun g hg _ => by omega) me_ne⟩, below_cells HB4.out (b := w.heap.size + 1) (by omega) 0 [.int .i64 x.flags, .string (tx x.name), .string (tx x.super), .slice A1 x.ifaces.length c1, .slice A2 x.pool.length c2, .slice A3 x.fields.length c3, .slice A4 x.methods.length c4]⟩
end Go.Proofs.Ytkphpihggbbpkaa
