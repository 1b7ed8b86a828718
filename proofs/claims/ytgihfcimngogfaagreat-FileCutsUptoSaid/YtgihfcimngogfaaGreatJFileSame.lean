/- Contracts of the document's method and Same, where both are alike. -/
import Derived.Test.YtgihfcimngogfaaGreatM7
import Derived.Test.YtgihfcimngogfaaGreatM10
import Derived.Test.YtgihfcimngogfaaGreatM6
import Derived.Deep.RegionHeld3
namespace Go.Proofs.YtgihfcimngogfaaGreat
open Go.RowKit Go
set_option linter.unusedVariables false
theorem rdS_of {w : World} {A : Option Addr} {cap : Nat} {l : List Bs} (h : RdL 1 StIE w (.slice A l.length cap) l) : rdS w A (l.map tx) := by
 intro k hk
 rw [List.length_map] at hk
 obtain ⟨x, hx⟩ : ∃ x, l[k]? = some x := ⟨_, List.getElem?_eq_getElem hk⟩
 obtain ⟨g, o, c, h1, h2, h3⟩ := h.at' hx
 obtain rfl := h2
 refine ⟨g, o, h1, ?_⟩
 have := h3 0 _ rfl
 rw [Nat.mul_one, Nat.add_zero] at this
 rw [this]
 congr 2
 rw [List.getD_eq_getElem?_getD, List.getElem?_map, hx]
 rfl
theorem rdL_drewN {w : World} {v : Value} {l : List Bs} (h : RdL 1 StIE w v l) (n : Nat) : RdL 1 StIE (w.drewN n) v l := h
theorem quiet_sum {P : Program} {f : FuncId} {args : Array Value} {w : World} {q n : Nat} {v : Value} (h : Calls P f args (w.drewN (q + n)) fun e w' => e = .returned v ∧ ∃ m, w' = (w.drewN (q + n)).drewN m) :
  Calls P f args (w.drewN (q + n)) fun e w'' => e = .returned v ∧ ∃ m, w'' = w.drewN (q + m) :=
 h.mono fun _ _ ⟨he, m, hm⟩ => ⟨he, n + m, by rw [hm, World.drewN_drewN, Nat.add_assoc]⟩
theorem rdC_drewN {w : World} {v : Value} {l : List CoI} (h : RdL 5 CoIE w v l) (n : Nat) : RdL 5 CoIE (w.drewN n) v l := h
theorem below_le {B B' : Nat} {a w : World} (h : Below B a w) (hb : B' ≤ B) : Below B' a w := ⟨h.os, h.tape, h.output, h.size, fun k hk => h.block k (by omega)⟩
theorem sameL_any (l : List Bs) (va vb : Value) (w : World) (ha : Hid (RdL 1 StIE w va l)) (hb : Hid (RdL 1 StIE w vb l)) :
  Calls Tryz.prog 31 #[va, vb] w fun e w' => e = .returned (.bool true) ∧ ∃ n, w' = w.drewN n := by
 obtain ⟨A, ca, rfl⟩ := ha.out.shape
 obtain ⟨B, cb, rfl⟩ := hb.out.shape
 have hl := ha.out.len
 have h := same_any A B (l.map tx) (l.map tx) ca cb w (by rw [List.length_map]; omega) (by rw [List.length_map]; omega) (lhid (rdS_of ha.out)) (lhid (rdS_of hb.out))
 rw [List.length_map, decide_eq_true rfl] at h
 exact h
set_option maxHeartbeats 8000000 in
set_option maxRecDepth 100000 in
theorem smet_any (m : MeI) (ca cb : List Value) (w : World) (ha : Hid (MeIE w m ca)) (hb : Hid (MeIE w m cb)) :
  Calls Tryz.prog 33 #[.agg ca.toArray, .agg cb.toArray] w fun e w' => e = .returned (.bool true) ∧ Below w.heap.size w w' := by
 obtain ⟨a1, a2, a3, rfl, h1, h2, h3⟩ := ha.out
 obtain ⟨b1, b2, b3, rfl, k1, k2, k3⟩ := hb.out
 obtain ⟨A1, c1, rfl⟩ := h1.shape
 obtain ⟨A2, c2, rfl⟩ := h2.shape
 obtain ⟨A3, c3, rfl⟩ := h3.shape
 obtain ⟨B1, d1, rfl⟩ := k1.shape
 obtain ⟨B2, d2, rfl⟩ := k2.shape
 obtain ⟨B3, d3, rfl⟩ := k3.shape
 have l2 := h2.len
 have l3 := h3.len
 have HX := lhid (new_one w (.cells #[.int .i64 m.flags, .string (tx m.name), .string (tx m.desc), .int .i64 m.stack, .int .i64 m.locals, .slice A1 m.code.length c1, .slice A2 m.rows.length c2, .slice A3 m.frames.length c3] 62) (.cells #[.int .i64 m.flags, .string (tx m.name), .string (tx m.desc), .int .i64 m.stack, .int .i64 m.locals, .slice B1 m.code.length d1, .slice B2 m.rows.length d2, .slice B3 m.frames.length d3] 62))
 have HY := lhid (new_two w (.cells #[.int .i64 m.flags, .string (tx m.name), .string (tx m.desc), .int .i64 m.stack, .int .i64 m.locals, .slice A1 m.code.length c1, .slice A2 m.rows.length c2, .slice A3 m.frames.length c3] 62) (.cells #[.int .i64 m.flags, .string (tx m.name), .string (tx m.desc), .int .i64 m.stack, .int .i64 m.locals, .slice B1 m.code.length d1, .slice B2 m.rows.length d2, .slice B3 m.frames.length d3] 62))
 have HB := lhid (((Below.refl w.heap.size w).alloc (Nat.le_refl _) (.cells #[.int .i64 m.flags, .string (tx m.name), .string (tx m.desc), .int .i64 m.stack, .int .i64 m.locals, .slice A1 m.code.length c1, .slice A2 m.rows.length c2, .slice A3 m.frames.length c3] 62)).alloc (by simp) (.cells #[.int .i64 m.flags, .string (tx m.name), .string (tx m.desc), .int .i64 m.stack, .int .i64 m.locals, .slice B1 m.code.length d1, .slice B2 m.rows.length d2, .slice B3 m.frames.length d3] 62))
 have G2 := lhid (h2.below kept_rw HB.out)
 have K2 := lhid (k2.below kept_rw HB.out)
 have G3 := lhid (h3.below kept_fr HB.out)
 have K3 := lhid (k3.below kept_fr HB.out)
 have g1 := h1.below kept_by HB.out
 have j1 := k1.below kept_by HB.out
 go_enter Tryz.func33, Tryz.ntmps33
 go_wp2_with fail
 generalize (w.alloc (.cells #[.int .i64 m.flags, .string (tx m.name), .string (tx m.desc), .int .i64 m.stack, .int .i64 m.locals, .slice A1 m.code.length c1, .slice A2 m.rows.length c2, .slice A3 m.frames.length c3] 62)).alloc (.cells #[.int .i64 m.flags, .string (tx m.name), .string (tx m.desc), .int .i64 m.stack, .int .i64 m.locals, .slice B1 m.code.length d1, .slice B2 m.rows.length d2, .slice B3 m.frames.length d3] 62) = W at *
 have hc1 := conv_rdl W _ m.code g1
 have hc2 := conv_rdl W _ m.code j1
 have p0 := heap_cell (i := 0) HX.out rfl
 have q0 := heap_cell (i := 0) HY.out rfl
 have p1 := heap_cell (i := 1) HX.out rfl
 have q1 := heap_cell (i := 1) HY.out rfl
 have p2 := heap_cell (i := 2) HX.out rfl
 have q2 := heap_cell (i := 2) HY.out rfl
 have p3 := heap_cell (i := 3) HX.out rfl
 have q3 := heap_cell (i := 3) HY.out rfl
 have p4 := heap_cell (i := 4) HX.out rfl
 have q4 := heap_cell (i := 4) HY.out rfl
 have p5 := heap_cell (i := 5) HX.out rfl
 have q5 := heap_cell (i := 5) HY.out rfl
 have p6 := heap_cell (i := 6) HX.out rfl
 have q6 := heap_cell (i := 6) HY.out rfl
 have p7 := heap_cell (i := 7) HX.out rfl
 have q7 := heap_cell (i := 7) HY.out rfl
 clear h1 h2 h3 k1 k2 k3 g1 j1 ha hb
 rw [hc1]
 go_wp2_with fail
 go_loopw [5] (fun i wr => ∃ k n : Nat, i = .int .i64 k ∧ k ≤ m.rows.length ∧ wr = W.drewN n) (fun i _ => m.rows.length - (intOf i).toNat)
 case atStart => exact ⟨0, 0, rfl, Nat.zero_le _, rfl⟩
 case round =>
  obtain ⟨k, n, rfl, hk, rfl⟩ := hrel
  by_cases hlt : k < m.rows.length
  ·obtain ⟨x, hx⟩ : ∃ x, m.rows[k]? = some x := ⟨_, List.getElem?_eq_getElem hlt⟩
   obtain ⟨g, o, c, rfl, rfl, hc⟩ := G2.out.at' hx
   obtain ⟨g', o', c', rfl, rfl, hc'⟩ := K2.out.at' hx
   have a0 := hc 0 _ rfl
   have a1 := hc 1 _ rfl
   have a2 := hc 2 _ rfl
   have a3 := hc 3 _ rfl
   have b0 := hc' 0 _ rfl
   have b1 := hc' 1 _ rfl
   have b2 := hc' 2 _ rfl
   have b3 := hc' 3 _ rfl
   have k3 : (k : Int) < m.rows.length := by omega
   clear hx hc hc'
   rw [Nat.add_zero] at a0 b0
   go_wp2_with fail
   go_quiet (fail)
   go_wp2_with fail
   go_roundw
   case rel => exact ⟨k + 1, _, by go_num, by omega, rfl⟩
   case measure => simp [intOf]; omega
  ·have k3 : ¬ (k : Int) < m.rows.length := by omega
   go_wp2_with fail
   go_loopw [6] (fun i wr => ∃ k n : Nat, i = .int .i64 k ∧ k ≤ m.frames.length ∧ wr = W.drewN n) (fun i _ => m.frames.length - (intOf i).toNat)
   case atStart => exact ⟨0, n, rfl, Nat.zero_le _, rfl⟩
   case round =>
    obtain ⟨j, q, rfl, hj, rfl⟩ := hrel
    by_cases hlt2 : j < m.frames.length
    ·obtain ⟨x, hx⟩ : ∃ x, m.frames[j]? = some x := ⟨_, List.getElem?_eq_getElem hlt2⟩
     obtain ⟨g, o, c, rfl, ⟨u1, u2, rfl, U1, U2⟩, hc⟩ := G3.out.at' hx
     obtain ⟨g', o', c', rfl, ⟨v1, v2, rfl, V1, V2⟩, hc'⟩ := K3.out.at' hx
     have a0 := hc 0 _ rfl
     have a1 := hc 1 _ rfl
     have a2 := hc 2 _ rfl
     have b0 := hc' 0 _ rfl
     have b1 := hc' 1 _ rfl
     have b2 := hc' 2 _ rfl
     have k4 : (j : Int) < m.frames.length := by omega
     have HU1 := lhid U1
     have HU2 := lhid U2
     have HV1 := lhid V1
     have HV2 := lhid V2
     obtain ⟨s1, t1, rfl⟩ := U1.shape
     obtain ⟨s2, t2, rfl⟩ := U2.shape
     obtain ⟨s3, t3, rfl⟩ := V1.shape
     obtain ⟨s4, t4, rfl⟩ := V2.shape
     clear hx hc hc' U1 U2 V1 V2
     rw [Nat.add_zero] at a0 b0
     go_wp2_with fail
     go_quiet (first | (with_reducible refine quiet_sum (sameL_any x.locals _ _ _ (lhid (rdL_drewN HU1.out _)) (lhid (rdL_drewN HV1.out _)))) | (with_reducible refine quiet_sum (sameL_any x.stack _ _ _ (lhid (rdL_drewN HU2.out _)) (lhid (rdL_drewN HV2.out _)))))
     go_wp2_with fail
     go_roundw
     case rel => exact ⟨j + 1, _, by go_num, by omega, rfl⟩
     case measure => simp [intOf]; omega
    ·have k4 : ¬ (j : Int) < m.frames.length := by omega
     go_wp2_with fail
     go_ret
     exact ⟨rfl, Below.drewN' HB.out _⟩
set_option maxHeartbeats 8000000 in
set_option maxRecDepth 100000 in
theorem scls_any (c : ClI) (va vb : Value) (w : World) (ha : Hid (ClIV w c va)) (hb : Hid (ClIV w c vb)) :
  Calls Tryz.prog 14 #[va, vb] w fun e w' => e = .returned (.bool true) ∧ Below w.heap.size w w' := by
 obtain ⟨a1, a2, a3, a4, rfl, h1, h2, h3, h4⟩ := ha.out
 obtain ⟨b1, b2, b3, b4, rfl, k1, k2, k3, k4⟩ := hb.out
 obtain ⟨A3, c3, rfl⟩ := h3.shape
 obtain ⟨A4, c4, rfl⟩ := h4.shape
 obtain ⟨B3, d3, rfl⟩ := k3.shape
 obtain ⟨B4, d4, rfl⟩ := k4.shape
 obtain ⟨A1, c1, rfl⟩ := h1.shape
 obtain ⟨A2, c2, rfl⟩ := h2.shape
 obtain ⟨B1, d1, rfl⟩ := k1.shape
 obtain ⟨B2, d2, rfl⟩ := k2.shape
 have l3 := h3.len
 have l4 := h4.len
 have HX := lhid (new_one w (.cells #[.int .i64 c.flags, .string (tx c.name), .string (tx c.super), .slice A1 c.ifaces.length c1, .slice A2 c.pool.length c2, .slice A3 c.fields.length c3, .slice A4 c.methods.length c4] 27) (.cells #[.int .i64 c.flags, .string (tx c.name), .string (tx c.super), .slice B1 c.ifaces.length d1, .slice B2 c.pool.length d2, .slice B3 c.fields.length d3, .slice B4 c.methods.length d4] 27))
 have HY := lhid (new_two w (.cells #[.int .i64 c.flags, .string (tx c.name), .string (tx c.super), .slice A1 c.ifaces.length c1, .slice A2 c.pool.length c2, .slice A3 c.fields.length c3, .slice A4 c.methods.length c4] 27) (.cells #[.int .i64 c.flags, .string (tx c.name), .string (tx c.super), .slice B1 c.ifaces.length d1, .slice B2 c.pool.length d2, .slice B3 c.fields.length d3, .slice B4 c.methods.length d4] 27))
 have HB := lhid (((Below.refl w.heap.size w).alloc (Nat.le_refl _) (.cells #[.int .i64 c.flags, .string (tx c.name), .string (tx c.super), .slice A1 c.ifaces.length c1, .slice A2 c.pool.length c2, .slice A3 c.fields.length c3, .slice A4 c.methods.length c4] 27)).alloc (by simp) (.cells #[.int .i64 c.flags, .string (tx c.name), .string (tx c.super), .slice B1 c.ifaces.length d1, .slice B2 c.pool.length d2, .slice B3 c.fields.length d3, .slice B4 c.methods.length d4] 27))
 have G1 := lhid (h1.below kept_st HB.out)
 have K1 := lhid (k1.below kept_st HB.out)
 have G2 := lhid (h2.below kept_co HB.out)
 have K2 := lhid (k2.below kept_co HB.out)
 have G3 := lhid (h3.below kept_fl HB.out)
 have K3 := lhid (k3.below kept_fl HB.out)
 have G4 := lhid (h4.below kept_me HB.out)
 have K4 := lhid (k4.below kept_me HB.out)
 clear h1 h2 h3 h4 k1 k2 k3 k4 ha hb
 go_enter Tryz.func14, Tryz.ntmps14
 go_wp2_with fail
 generalize (w.alloc (.cells #[.int .i64 c.flags, .string (tx c.name), .string (tx c.super), .slice A1 c.ifaces.length c1, .slice A2 c.pool.length c2, .slice A3 c.fields.length c3, .slice A4 c.methods.length c4] 27)).alloc (.cells #[.int .i64 c.flags, .string (tx c.name), .string (tx c.super), .slice B1 c.ifaces.length d1, .slice B2 c.pool.length d2, .slice B3 c.fields.length d3, .slice B4 c.methods.length d4] 27) = W at *
 have p0 := heap_cell (i := 0) HX.out rfl
 have q0 := heap_cell (i := 0) HY.out rfl
 have p1 := heap_cell (i := 1) HX.out rfl
 have q1 := heap_cell (i := 1) HY.out rfl
 have p2 := heap_cell (i := 2) HX.out rfl
 have q2 := heap_cell (i := 2) HY.out rfl
 have p3 := heap_cell (i := 3) HX.out rfl
 have q3 := heap_cell (i := 3) HY.out rfl
 have p4 := heap_cell (i := 4) HX.out rfl
 have q4 := heap_cell (i := 4) HY.out rfl
 have p5 := heap_cell (i := 5) HX.out rfl
 have q5 := heap_cell (i := 5) HY.out rfl
 have p6 := heap_cell (i := 6) HX.out rfl
 have q6 := heap_cell (i := 6) HY.out rfl
 with_reducible refine (sameL_any c.ifaces _ _ _ G1 K1).mono ?_
 rintro e w1 ⟨rfl, n, rfl⟩
 go_wp2_with fail
 have hxl := heap_lt HX.out
 have hyl := heap_lt HY.out
 with_reducible refine (sameC_any c.pool c.pool _ _ _ (lhid (rdC_drewN G2.out n)) (lhid (rdC_drewN K2.out n))).mono ?_
 rintro e w2 ⟨⟨r, rfl, hr⟩, hb⟩
 obtain rfl : r = true := hr.2 rfl
 have hb' : Below W.heap.size W w2 := ⟨hb.os, hb.tape, hb.output, hb.size, hb.block⟩
 have HX2 : Hid (w2.heap[w.heap.size]? = some (.cells #[.int .i64 c.flags, .string (tx c.name), .string (tx c.super), .slice A1 c.ifaces.length c1, .slice A2 c.pool.length c2, .slice A3 c.fields.length c3, .slice A4 c.methods.length c4] 27)) := lhid ((hb'.block _ hxl).trans HX.out)
 have HY2 : Hid (w2.heap[w.heap.size + 1]? = some (.cells #[.int .i64 c.flags, .string (tx c.name), .string (tx c.super), .slice B1 c.ifaces.length d1, .slice B2 c.pool.length d2, .slice B3 c.fields.length d3, .slice B4 c.methods.length d4] 27)) := lhid ((hb'.block _ hyl).trans HY.out)
 have HB2 := lhid (HB.out.trans (below_le hb' HB.out.size))
 have M3 := lhid (G3.out.below kept_fl hb')
 have N3 := lhid (K3.out.below kept_fl hb')
 have M4 := lhid (G4.out.below kept_me hb')
 have N4 := lhid (K4.out.below kept_me hb')
 clear hb hb' hr p0 q0 p1 q1 p2 q2 p3 q3 p4 q4 p5 q5 p6 q6 hxl hyl G1 K1 G2 K2 G3 K3 G4 K4 HX HY HB
 have p0 := heap_cell (i := 0) HX2.out rfl
 have q0 := heap_cell (i := 0) HY2.out rfl
 have p1 := heap_cell (i := 1) HX2.out rfl
 have q1 := heap_cell (i := 1) HY2.out rfl
 have p2 := heap_cell (i := 2) HX2.out rfl
 have q2 := heap_cell (i := 2) HY2.out rfl
 have p3 := heap_cell (i := 3) HX2.out rfl
 have q3 := heap_cell (i := 3) HY2.out rfl
 have p4 := heap_cell (i := 4) HX2.out rfl
 have q4 := heap_cell (i := 4) HY2.out rfl
 have p5 := heap_cell (i := 5) HX2.out rfl
 have q5 := heap_cell (i := 5) HY2.out rfl
 have p6 := heap_cell (i := 6) HX2.out rfl
 have q6 := heap_cell (i := 6) HY2.out rfl
 go_wp2_with fail
 go_loopw [5] (fun i wr => ∃ k n : Nat, i = .int .i64 k ∧ k ≤ c.fields.length ∧ wr = w2.drewN n) (fun i _ => c.fields.length - (intOf i).toNat)
 case atStart => exact ⟨0, 0, rfl, Nat.zero_le _, rfl⟩
 case round =>
  obtain ⟨k, n, rfl, hk, rfl⟩ := hrel
  by_cases hlt : k < c.fields.length
  ·obtain ⟨x, hx⟩ : ∃ x, c.fields[k]? = some x := ⟨_, List.getElem?_eq_getElem hlt⟩
   obtain ⟨g, o, cc, rfl, rfl, hc⟩ := M3.out.at' hx
   obtain ⟨g', o', cc', rfl, rfl, hc'⟩ := N3.out.at' hx
   have a0 := hc 0 _ rfl
   have a1 := hc 1 _ rfl
   have a2 := hc 2 _ rfl
   have b0 := hc' 0 _ rfl
   have b1 := hc' 1 _ rfl
   have b2 := hc' 2 _ rfl
   have k3 : (k : Int) < c.fields.length := by omega
   clear hx hc hc'
   rw [Nat.add_zero] at a0 b0
   go_wp2_with fail
   go_quiet (fail)
   go_wp2_with fail
   go_roundw
   case rel => exact ⟨k + 1, _, by go_num, by omega, rfl⟩
   case measure => simp [intOf]; omega
  ·have k3 : ¬ (k : Int) < c.fields.length := by omega
   go_wp2_with fail
   clear p0 q0 p1 q1 p2 q2 p3 q3 p4 q4 p5 q5 p6 q6
   go_loopw [6] (fun i wr => ∃ k : Nat, i = .int .i64 k ∧ k ≤ c.methods.length ∧ Hid (Below w2.heap.size w2 wr)) (fun i _ => c.methods.length - (intOf i).toNat)
   case atStart => exact ⟨0, rfl, Nat.zero_le _, lhid (Below.drewN' (Below.refl _ _) _)⟩
   case round =>
    obtain ⟨j, rfl, hj, HBr⟩ := hrel
    have HXr : Hid (wr.heap[w.heap.size]? = some (.cells #[.int .i64 c.flags, .string (tx c.name), .string (tx c.super), .slice A1 c.ifaces.length c1, .slice A2 c.pool.length c2, .slice A3 c.fields.length c3, .slice A4 c.methods.length c4] 27)) := lhid ((HBr.out.block _ (heap_lt HX2.out)).trans HX2.out)
    have HYr : Hid (wr.heap[w.heap.size + 1]? = some (.cells #[.int .i64 c.flags, .string (tx c.name), .string (tx c.super), .slice B1 c.ifaces.length d1, .slice B2 c.pool.length d2, .slice B3 c.fields.length d3, .slice B4 c.methods.length d4] 27)) := lhid ((HBr.out.block _ (heap_lt HY2.out)).trans HY2.out)
    have p6 := heap_cell (i := 6) HXr.out rfl
    have q6 := heap_cell (i := 6) HYr.out rfl
    by_cases hlt2 : j < c.methods.length
    ·obtain ⟨x, hx⟩ : ∃ x, c.methods[j]? = some x := ⟨_, List.getElem?_eq_getElem hlt2⟩
     obtain ⟨g, o, cc, rfl, E1, hc⟩ := (M4.out.below kept_me HBr.out).at' hx
     obtain ⟨g', o', cc', rfl, E2, hc'⟩ := (N4.out.below kept_me HBr.out).at' hx
     have F1 := lhid E1
     have F2 := lhid E2
     obtain ⟨u1, u2, u3, rfl, _⟩ := E1
     obtain ⟨v1, v2, v3, rfl, _⟩ := E2
     have a0 := hc 0 _ rfl
     have b0 := hc' 0 _ rfl
     have a1 := hc 1 _ rfl
     have b1 := hc' 1 _ rfl
     have a2 := hc 2 _ rfl
     have b2 := hc' 2 _ rfl
     have a3 := hc 3 _ rfl
     have b3 := hc' 3 _ rfl
     have a4 := hc 4 _ rfl
     have b4 := hc' 4 _ rfl
     have a5 := hc 5 _ rfl
     have b5 := hc' 5 _ rfl
     have a6 := hc 6 _ rfl
     have b6 := hc' 6 _ rfl
     have a7 := hc 7 _ rfl
     have b7 := hc' 7 _ rfl
     have k4 : (j : Int) < c.methods.length := by omega
     clear hx hc hc'
     rw [Nat.add_zero] at a0 b0
     have hS : ∀ w' : World, Below wr.heap.size wr w' → (w'.cell? ⟨w.heap.size, 6, none⟩ = some (.slice (some ⟨g, o, none⟩) c.methods.length c4) ∧ w'.cell? ⟨w.heap.size + 1, 6, none⟩ = some (.slice (some ⟨g', o', none⟩) c.methods.length d4) ∧ w'.cell? ⟨g, o + j * 8, none⟩ = some (.int .i64 x.flags) ∧ w'.cell? ⟨g', o' + j * 8, none⟩ = some (.int .i64 x.flags) ∧ w'.cell? ⟨g, o + j * 8 + 1, none⟩ = some (.string (tx x.name)) ∧ w'.cell? ⟨g', o' + j * 8 + 1, none⟩ = some (.string (tx x.name)) ∧ w'.cell? ⟨g, o + j * 8 + 2, none⟩ = some (.string (tx x.desc)) ∧ w'.cell? ⟨g', o' + j * 8 + 2, none⟩ = some (.string (tx x.desc)) ∧ w'.cell? ⟨g, o + j * 8 + 3, none⟩ = some (.int .i64 x.stack) ∧ w'.cell? ⟨g', o' + j * 8 + 3, none⟩ = some (.int .i64 x.stack) ∧ w'.cell? ⟨g, o + j * 8 + 4, none⟩ = some (.int .i64 x.locals) ∧ w'.cell? ⟨g', o' + j * 8 + 4, none⟩ = some (.int .i64 x.locals) ∧ w'.cell? ⟨g, o + j * 8 + 5, none⟩ = some (u1) ∧ w'.cell? ⟨g', o' + j * 8 + 5, none⟩ = some (v1) ∧ w'.cell? ⟨g, o + j * 8 + 6, none⟩ = some (u2) ∧ w'.cell? ⟨g', o' + j * 8 + 6, none⟩ = some (v2) ∧ w'.cell? ⟨g, o + j * 8 + 7, none⟩ = some (u3) ∧ w'.cell? ⟨g', o' + j * 8 + 7, none⟩ = some (v3)) := fun w' hb => ⟨(hb.cell (p := ⟨w.heap.size, 6, none⟩) (heap_lt HXr.out)).trans p6, (hb.cell (p := ⟨w.heap.size + 1, 6, none⟩) (heap_lt HYr.out)).trans q6, (hb.cell (p := ⟨g, o + j * 8, none⟩) (cell_lt a0)).trans a0, (hb.cell (p := ⟨g', o' + j * 8, none⟩) (cell_lt b0)).trans b0, (hb.cell (p := ⟨g, o + j * 8 + 1, none⟩) (cell_lt a1)).trans a1, (hb.cell (p := ⟨g', o' + j * 8 + 1, none⟩) (cell_lt b1)).trans b1, (hb.cell (p := ⟨g, o + j * 8 + 2, none⟩) (cell_lt a2)).trans a2, (hb.cell (p := ⟨g', o' + j * 8 + 2, none⟩) (cell_lt b2)).trans b2, (hb.cell (p := ⟨g, o + j * 8 + 3, none⟩) (cell_lt a3)).trans a3, (hb.cell (p := ⟨g', o' + j * 8 + 3, none⟩) (cell_lt b3)).trans b3, (hb.cell (p := ⟨g, o + j * 8 + 4, none⟩) (cell_lt a4)).trans a4, (hb.cell (p := ⟨g', o' + j * 8 + 4, none⟩) (cell_lt b4)).trans b4, (hb.cell (p := ⟨g, o + j * 8 + 5, none⟩) (cell_lt a5)).trans a5, (hb.cell (p := ⟨g', o' + j * 8 + 5, none⟩) (cell_lt b5)).trans b5, (hb.cell (p := ⟨g, o + j * 8 + 6, none⟩) (cell_lt a6)).trans a6, (hb.cell (p := ⟨g', o' + j * 8 + 6, none⟩) (cell_lt b6)).trans b6, (hb.cell (p := ⟨g, o + j * 8 + 7, none⟩) (cell_lt a7)).trans a7, (hb.cell (p := ⟨g', o' + j * 8 + 7, none⟩) (cell_lt b7)).trans b7⟩
     have hSH := lhid hS
     clear hS
     have G1 := lhid (kept_me wr wr.drew _ _ (Below.drew (Below.refl wr.heap.size wr)) F1.out)
     have G2 := lhid (kept_me wr wr.drew _ _ (Below.drew (Below.refl wr.heap.size wr)) F2.out)
     go_upto_region 11 with fail
     go_region_held3 (fun w' => w'.cell? ⟨w.heap.size, 6, none⟩ = some (.slice (some ⟨g, o, none⟩) c.methods.length c4) ∧ w'.cell? ⟨w.heap.size + 1, 6, none⟩ = some (.slice (some ⟨g', o', none⟩) c.methods.length d4) ∧ w'.cell? ⟨g, o + j * 8, none⟩ = some (.int .i64 x.flags) ∧ w'.cell? ⟨g', o' + j * 8, none⟩ = some (.int .i64 x.flags) ∧ w'.cell? ⟨g, o + j * 8 + 1, none⟩ = some (.string (tx x.name)) ∧ w'.cell? ⟨g', o' + j * 8 + 1, none⟩ = some (.string (tx x.name)) ∧ w'.cell? ⟨g, o + j * 8 + 2, none⟩ = some (.string (tx x.desc)) ∧ w'.cell? ⟨g', o' + j * 8 + 2, none⟩ = some (.string (tx x.desc)) ∧ w'.cell? ⟨g, o + j * 8 + 3, none⟩ = some (.int .i64 x.stack) ∧ w'.cell? ⟨g', o' + j * 8 + 3, none⟩ = some (.int .i64 x.stack) ∧ w'.cell? ⟨g, o + j * 8 + 4, none⟩ = some (.int .i64 x.locals) ∧ w'.cell? ⟨g', o' + j * 8 + 4, none⟩ = some (.int .i64 x.locals) ∧ w'.cell? ⟨g, o + j * 8 + 5, none⟩ = some (u1) ∧ w'.cell? ⟨g', o' + j * 8 + 5, none⟩ = some (v1) ∧ w'.cell? ⟨g, o + j * 8 + 6, none⟩ = some (u2) ∧ w'.cell? ⟨g', o' + j * 8 + 6, none⟩ = some (v2) ∧ w'.cell? ⟨g, o + j * 8 + 7, none⟩ = some (u3) ∧ w'.cell? ⟨g', o' + j * 8 + 7, none⟩ = some (v3)) (first | exact hSH.out _ (Below.drew (Below.refl _ _)) | exact hSH.out _ hb5 | exact hSH.out _ (Below.drew hb5)) (first
      | ((with_reducible refine (smet_any x _ _ _ G1 G2).mono ?_); rintro e w5 ⟨rfl, hb5'⟩; have hb5 : Below wr.heap.size wr w5 := ⟨hb5'.os, hb5'.tape, hb5'.output, hb5'.size, hb5'.block⟩))
     go_wp2_with fail
     go_roundw
     case rel => exact ⟨j + 1, by go_num, by omega, lhid (HBr.out.trans (below_le hb5 HBr.out.size))⟩
     case measure => simp [intOf]; omega
    ·have k4 : ¬ (j : Int) < c.methods.length := by omega
     go_wp2_with fail
     go_ret
     exact ⟨rfl, HB2.out.trans (below_le HBr.out HB2.out.size)⟩
end Go.Proofs.YtgihfcimngogfaaGreat
