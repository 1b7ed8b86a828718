/- Walk of law 04's FileParses: for all bytes both readers answer the same class or the same error. -/
import Derived.Test.YtdlmadckpcnkoaaGreatJFileHolds
import Derived.Test.YtdlmadckpcnkoaaGreatM15
namespace Go.Proofs.YtdlmadckpcnkoaaGreat
open Go.RowKit Go
set_option linter.unusedVariables false

theorem parP_good {l : Bs} {c : Cls} {r : Bs} (h : parP l = .ok c r) : GoodK c := by
  unfold parP at h
  split at h
  · cases h
  unfold filP at h
  split at h
  · cases h
  split at h
  · cases h
  rename_i h1 h2 h3
  have hx : poolX (l.drop 4, false) = 0 := by simpa using h3
  obtain ⟨c', r', h4, h5⟩ := then_ok_inv h
  unfold endC at h5
  split at h5
  · cases h5
  split at h5
  · cases h5
  injection h5 with h5 _
  subst h5
  exact behP_good (poolL_good hx) (poolL_len _ hx) h4
abbrev HParse : Prop := ∀ (v : Value) (l : Bs) (w : World), Hid (RdB w v l) → Calls Tryz.prog 15 #[v] w (POut (parP l) w)
set_option maxHeartbeats 8000000 in
set_option maxRecDepth 100000 in
theorem fparses_er (hparse : Hid HParse) (v : Value) (l : Bs) (x : Nat) (w : World) (h : Hid (RdB w v l)) (hp : Hid (parP l = .er x)) :
    Calls Tryz.prog 3 #[v] w fun e w' => e = .returned (.bool true) ∧ Below w.heap.size w w' := by
  go_enter Tryz.func3, Tryz.ntmps3
  go_wp2_with fail
  with_reducible refine (fholds_any hparse w).mono ?_
  rintro e w1 ⟨rfl, hb⟩
  have HB1 := lhid hb
  have HR1 := lhid (rdB_below h.out (rdB_low h.out) hb)
  clear hb
  go_wp2_with fail
  with_reducible refine (parse_any _ l _ HR1).mono ?_
  rintro e w2 ⟨hb, hx⟩
  rw [hp.out] at hx
  obtain rfl := hx
  have HB2 := lhid (HB1.out.trans (below_lt hb HB1.out.size))
  have HB3 := lhid (HB2.out.alloc HB2.out.size zC)
  have HX3 := lhid (heap_alloc_new w2 zC)
  have HR3 := lhid (rdB_below h.out (rdB_low h.out) HB3.out)
  clear hb
  go_wp2_with fail
  with_reducible refine (hparse.out _ l _ HR3).mono ?_
  rintro e w4 ⟨hb, hx⟩
  rw [hp.out] at hx
  obtain rfl := hx
  have HB4 := lhid (HB3.out.trans (below_lt hb HB3.out.size))
  have HX4 : Hid (w4.heap[w2.heap.size]? = some zC) := lhid ((hb.block _ (heap_lt HX3.out)).trans HX3.out)
  have HX5 := lhid ((Below.heap_alloc w4 zC _ (heap_lt HX4.out)).trans HX4.out)
  have HB5 := lhid (HB4.out.alloc HB4.out.size zC)
  have HY5 := lhid (heap_alloc_new w4 zC)
  clear hb
  have x0 := heap_cell (i := 0) HX5.out rfl
  have y0 := heap_cell (i := 0) HY5.out rfl
  have x1 := heap_cell (i := 1) HX5.out rfl
  have y1 := heap_cell (i := 1) HY5.out rfl
  have x2 := heap_cell (i := 2) HX5.out rfl
  have y2 := heap_cell (i := 2) HY5.out rfl
  have x3 := heap_cell (i := 3) HX5.out rfl
  have y3 := heap_cell (i := 3) HY5.out rfl
  have x4 := heap_cell (i := 4) HX5.out rfl
  have y4 := heap_cell (i := 4) HY5.out rfl
  have x5 := heap_cell (i := 5) HX5.out rfl
  have y5 := heap_cell (i := 5) HY5.out rfl
  have x6 := heap_cell (i := 6) HX5.out rfl
  have y6 := heap_cell (i := 6) HY5.out rfl
  have t0 : ((x : Int) == x) = true := by simp
  go_wp2_with fail
  with_reducible refine (scls_any zI _ _ _ (lhid (zI_val _)) (lhid (zI_val _))).mono ?_
  rintro e w6 ⟨rfl, hb⟩
  have HB6 := lhid (HB5.out.trans (below_lt hb HB5.out.size))
  clear hb
  go_wp2_with fail
  go_ret
  exact ⟨rfl, HB6.out⟩
set_option maxHeartbeats 8000000 in
set_option maxRecDepth 100000 in
theorem fparses_ok (hparse : Hid HParse) (v : Value) (l : Bs) (c : Cls) (r : Bs) (w : World) (h : Hid (RdB w v l)) (hp : Hid (parP l = .ok c r)) :
    Calls Tryz.prog 3 #[v] w fun e w' => e = .returned (.bool true) ∧ Below w.heap.size w w' := by
  have HG := lhid (parP_good hp.out).small
  go_enter Tryz.func3, Tryz.ntmps3
  go_wp2_with fail
  with_reducible refine (fholds_any hparse w).mono ?_
  rintro e w1 ⟨rfl, hb⟩
  have HB1 := lhid hb
  have HR1 := lhid (rdB_below h.out (rdB_low h.out) hb)
  clear hb
  go_wp2_with fail
  with_reducible refine (parse_any _ l _ HR1).mono ?_
  rintro e w2 ⟨hb, hx⟩
  rw [hp.out] at hx
  obtain ⟨cv, g, rfl, xa, xb, xd, rfl, v1, v2, v3, v4⟩ := hx
  obtain ⟨A1, ae1, rfl⟩ := slO_shape v1
  obtain ⟨A3, ae3, rfl⟩ := slO_shape v3
  obtain ⟨A4, ae4, rfl⟩ := slO_shape v4
  have HV := lhid (cls_rd HG.out v1 v2 v3 v4)
  clear v1 v2 v3 v4
  have HB2 := lhid (HB1.out.trans (below_lt hb HB1.out.size))
  have HB3 := lhid (HB2.out.alloc HB2.out.size (.cells #[.int .i64 c.flags, .string (tx c.name), .string (tx c.super), .slice A1 c.ifaces.length ae1, .slice (some ⟨g, 0, none⟩) c.pool.length c.pool.length, .slice A3 c.fields.length ae3, .slice A4 c.methods.length ae4] 29))
  have HD3 := lhid ((Below.refl w2.heap.size w2).alloc (Nat.le_refl _) (.cells #[.int .i64 c.flags, .string (tx c.name), .string (tx c.super), .slice A1 c.ifaces.length ae1, .slice (some ⟨g, 0, none⟩) c.pool.length c.pool.length, .slice A3 c.fields.length ae3, .slice A4 c.methods.length ae4] 29))
  have HX3 := lhid (heap_alloc_new w2 (.cells #[.int .i64 c.flags, .string (tx c.name), .string (tx c.super), .slice A1 c.ifaces.length ae1, .slice (some ⟨g, 0, none⟩) c.pool.length c.pool.length, .slice A3 c.fields.length ae3, .slice A4 c.methods.length ae4] 29))
  have HR3 := lhid (rdB_below h.out (rdB_low h.out) HB3.out)
  clear hb
  go_wp2_with fail
  with_reducible refine (hparse.out _ l _ HR3).mono ?_
  rintro e w4 ⟨hb, hx⟩
  rw [hp.out] at hx
  obtain ⟨cv, k, rfl, ya, yb, yd, rfl, v1, v2, v3, v4⟩ := hx
  obtain ⟨B1, be1, rfl⟩ := slO_shape v1
  obtain ⟨B3, be3, rfl⟩ := slO_shape v3
  obtain ⟨B4, be4, rfl⟩ := slO_shape v4
  have HU := lhid (cls_rd HG.out v1 v2 v3 v4)
  clear v1 v2 v3 v4
  have HB4 := lhid (HB3.out.trans (below_lt hb HB3.out.size))
  have HD4 := lhid (HD3.out.trans (below_lt hb HD3.out.size))
  have HX4 : Hid (w4.heap[w2.heap.size]? = some (.cells #[.int .i64 c.flags, .string (tx c.name), .string (tx c.super), .slice A1 c.ifaces.length ae1, .slice (some ⟨g, 0, none⟩) c.pool.length c.pool.length, .slice A3 c.fields.length ae3, .slice A4 c.methods.length ae4] 29)) := lhid ((hb.block _ (heap_lt HX3.out)).trans HX3.out)
  have HX5 := lhid ((Below.heap_alloc w4 (.cells #[.int .i64 c.flags, .string (tx c.name), .string (tx c.super), .slice B1 c.ifaces.length be1, .slice (some ⟨k, 0, none⟩) c.pool.length c.pool.length, .slice B3 c.fields.length be3, .slice B4 c.methods.length be4] 29) _ (heap_lt HX4.out)).trans HX4.out)
  have HB5 := lhid (HB4.out.alloc HB4.out.size (.cells #[.int .i64 c.flags, .string (tx c.name), .string (tx c.super), .slice B1 c.ifaces.length be1, .slice (some ⟨k, 0, none⟩) c.pool.length c.pool.length, .slice B3 c.fields.length be3, .slice B4 c.methods.length be4] 29))
  have HD5 := lhid (HD4.out.alloc HD4.out.size (.cells #[.int .i64 c.flags, .string (tx c.name), .string (tx c.super), .slice B1 c.ifaces.length be1, .slice (some ⟨k, 0, none⟩) c.pool.length c.pool.length, .slice B3 c.fields.length be3, .slice B4 c.methods.length be4] 29))
  have HE5 := lhid ((Below.refl w4.heap.size w4).alloc (Nat.le_refl _) (.cells #[.int .i64 c.flags, .string (tx c.name), .string (tx c.super), .slice B1 c.ifaces.length be1, .slice (some ⟨k, 0, none⟩) c.pool.length c.pool.length, .slice B3 c.fields.length be3, .slice B4 c.methods.length be4] 29))
  have HY5 := lhid (heap_alloc_new w4 (.cells #[.int .i64 c.flags, .string (tx c.name), .string (tx c.super), .slice B1 c.ifaces.length be1, .slice (some ⟨k, 0, none⟩) c.pool.length c.pool.length, .slice B3 c.fields.length be3, .slice B4 c.methods.length be4] 29))
  have HV5 := lhid (HV.out.below HD5.out)
  have HU5 := lhid (HU.out.below HE5.out)
  clear hb
  have x0 := heap_cell (i := 0) HX5.out rfl
  have y0 := heap_cell (i := 0) HY5.out rfl
  have x1 := heap_cell (i := 1) HX5.out rfl
  have y1 := heap_cell (i := 1) HY5.out rfl
  have x2 := heap_cell (i := 2) HX5.out rfl
  have y2 := heap_cell (i := 2) HY5.out rfl
  have x3 := heap_cell (i := 3) HX5.out rfl
  have y3 := heap_cell (i := 3) HY5.out rfl
  have x4 := heap_cell (i := 4) HX5.out rfl
  have y4 := heap_cell (i := 4) HY5.out rfl
  have x5 := heap_cell (i := 5) HX5.out rfl
  have y5 := heap_cell (i := 5) HY5.out rfl
  have x6 := heap_cell (i := 6) HX5.out rfl
  have y6 := heap_cell (i := 6) HY5.out rfl
  go_wp2_with fail
  with_reducible refine (scls_any (clI c) _ _ _ HV5 HU5).mono ?_
  rintro e w6 ⟨rfl, hb⟩
  have HB6 := lhid (HB5.out.trans (below_lt hb HB5.out.size))
  clear hb
  go_wp2_with fail
  go_ret
  exact ⟨rfl, HB6.out⟩
theorem FileParses_walk (hparse : Hid HParse) (v : Value) (l : Bs) (w : World) (h : RdB w v l) :
    Calls Tryz.prog 3 #[v] w fun e w' => e = .returned (.bool true) ∧ Below w.heap.size w w' := by
  cases hp : parP l with
  | er x => exact fparses_er hparse v l x w (lhid h) (lhid hp)
  | ok c r => exact fparses_ok hparse v l c r w (lhid h) (lhid hp)
end Go.Proofs.YtdlmadckpcnkoaaGreat
