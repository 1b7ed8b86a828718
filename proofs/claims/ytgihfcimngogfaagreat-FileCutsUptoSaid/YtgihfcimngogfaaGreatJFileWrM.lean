/- The document's writer, weakly: a method. Written by gen_wrb.py. -/
import Derived.Test.YtgihfcimngogfaaGreatM14
import Derived.Deep.AppendLies
import Derived.Deep.RegionLaw
import Derived.Deep.Cut
import Derived.Deep.CutRange
namespace Go.Proofs.YtgihfcimngogfaaGreat
open Go.RowKit Go
set_option linter.unusedVariables false
def wF (f : FrI) : Nat := 4 + 3 * f.locals.length + 3 * f.stack.length
def wFs (l : List FrI) : Nat := (l.map wF).sum
def wB (m : MeI) : Nat := 16 + m.code.length + 8 * m.rows.length + wFs m.frames
theorem wFs_take {l : List FrI} {k : Nat} {x : FrI} (h : l[k]? = some x) : wFs (l.take (k + 1)) = wFs (l.take k) + wF x := by
 unfold wFs
 rw [List.take_add_one, h]
 simp
theorem wFs_le {l : List FrI} (k : Nat) : wFs (l.take k) ≤ wFs l := by
 have h : wFs l = wFs (l.take k) + wFs (l.drop k) := by
  unfold wFs
  rw [← List.sum_append, ← List.map_append, List.take_append_drop]
 omega
structure MeB (m : MeI) : Prop where
 code : m.code.length ≤ 1000000000
 rows : m.rows.length ≤ 100000000
 frames : m.frames.length ≤ 100000000
 each : ∀ f ∈ m.frames, (f.locals.length ≤ 100000000 ∧ ∀ t ∈ f.locals, t.length ≤ 1000000000) ∧ f.stack.length ≤ 100000000 ∧ ∀ t ∈ f.stack, t.length ≤ 1000000000
theorem run_append_none_cap {w : World} (base : Nat) (ty : TypeId) (i : TypeInfo) (hi : Tryz.prog.info? 5 = some i) (v : Value) (n : Nat) (xs : List Value) (hown : w.ownsRow base 5 1 v n xs) (cap : Nat) :
  (Builtin.append_ #[28, 28] ty #[v, .slice none 0 cap]).run Tryz.prog w = .ok v w := by
 rcases hown.2 with ⟨rfl, rfl⟩ | ⟨g, c, cur, rfl, _, _, hnc, _⟩
 ·simp [Builtin.append_, run_underlying Tryz.underlying28, sizeOf, typeInfo, hi, Builtin.lenOf, Builtin.firstCells]
 ·simp [Builtin.append_, run_underlying Tryz.underlying28, sizeOf, typeInfo, hi, Builtin.lenOf, Builtin.firstCells, hnc, storeCells]
set_option maxRecDepth 100000 in
theorem step_append_by {ops : Array Oper} {o : Oper} {a : Act} {w : World} {K : Act → World → Prop} {Q : Exit → Act → World → Prop} {FF : Prop} (hgd : o.guard = none) (s x : Operand)
  (ho : o.op = .call { callee := .builtin .append, args := #[s, x], argTypes := #[28, 28] })
  (base : Nat) (i : TypeInfo) (hi : Tryz.prog.info? 5 = some i) (hz : i.zero = some (.int .u8 0)) (hsize : i.size = 1) (hby : i.bytes = 1)
  (v : Value) (n : Nat) (xs : List Value) (hs : a.eval s = v) (hown : w.ownsRow base 5 1 v n xs)
  (v2 : Value) (l2 : Bs) (hx : a.eval x = v2) (h2 : RdL 1 ByIE w v2 l2)
  (hb : n + l2.length ≤ 8589934592) (hbase : base ≤ w.heap.size)
  (h : ∀ v' w', w'.ownsRow base 5 1 v' (n + l2.length) (xs ++ byV l2) → w.grownBy w' v.ownBlock → K (a.put o.dst v') w') :
  if Region.wanted o (yielded ops a.tmps) = true then Oper.wp Tryz.prog o a w K Q else FF := by
 have hw : Region.wanted o (yielded ops a.tmps) = true := by simp [Region.wanted, hgd]
 rw [if_pos hw]
 obtain ⟨A, cap, rfl⟩ := h2.shape
 cases A with
 | none =>
  have hl : l2 = [] := by
   cases l2 with
   | nil => rfl
   | cons b r =>
    obtain ⟨g, o', c, hA, _⟩ := h2.at' (i := 0) (a := b) rfl
    cases hA
  subst hl
  have hrun := run_append_none_cap (w := w) base o.type i hi v n xs hown cap
  unfold Oper.wp
  simp [execOp, ho, resolve, invoke, builtin, hs, hx, hrun, Result.andThen]
  exact h v w (by simpa [byV] using hown) ⟨rfl, rfl, rfl, Nat.le_refl _, fun _ _ _ => rfl⟩
 | some ad =>
  refine wp_append_own w s x 28 ho base 5 i (.int .u8 0) 1 1 Tryz.underlying28 hi hz hsize hby rfl (by omega) v n xs hs hown ad l2.length cap (byV l2) hx (by simp [byV]) (fun j u hj => ?_) (fun u hu => ?_) (by unfold maxLen; omega) (by omega) hbase (fun v' w' r1 r2 _ => h v' w' r1 r2)
  ·have hjl : j < l2.length := by
    have := (List.getElem?_eq_some_iff.1 hj).1
    simpa [byV] using this
   obtain ⟨g, o', c, hA, hE, hc⟩ := h2.at' (i := j) (a := l2[j]) (List.getElem?_eq_getElem hjl)
   injection hA with hA
   subst hA
   have := hc 0 (.int .u8 (l2[j].toNat : Int)) (by rw [show c = _ from hE]; rfl)
   rw [Nat.mul_one] at this
   have hu : u = .int .u8 (l2[j].toNat : Int) := by
    rw [byV, List.getElem?_map, List.getElem?_eq_getElem hjl] at hj
    injection hj with hj
    exact hj.symm
   rw [hu]
   by_cases hj0 : j = 0
   ·subst hj0
    simpa [Addr.add] using this
   ·simpa [Addr.add, hj0] using this
  ·obtain ⟨b, _, rfl⟩ := List.mem_map.1 hu
   rfl
set_option maxHeartbeats 32000000 in
set_option maxRecDepth 100000 in
theorem body_s (w0 : World) (M : Nat) (pv : Value) (L : List CoI) (m : MeI) (a b d : Value) (n : Nat) (w : World) (h : Hid (WoS w0.heap.size M pv n w)) (hp : Hid (RdL 5 CoIE w0 pv L)) (hb : Hid (Below w0.heap.size w0 w)) (hBM : Hid (w0.heap.size ≤ M)) (ha : Hid (RdL 1 ByIE w0 a m.code)) (hr : Hid (RdL 4 RwIE w0 b m.rows)) (hf : Hid (RdL 3 FrIE w0 d m.frames)) (hn : Hid (n + wB m ≤ 1000000000)) (hM : Hid (MeB m)) :
    Calls Tryz.prog 26 #[.pointer (some ⟨M, 0, none⟩), .agg #[.int .i64 m.flags, .string (tx m.name), .string (tx m.desc), .int .i64 m.stack, .int .i64 m.locals, a, b, d]] w fun e w' => e = .returned (.tuple #[]) ∧ WoS w0.heap.size M pv (n + wB m) w' ∧ Below w0.heap.size w w' ∧ Stay tW w w' := by
  obtain ⟨xa, ca, rfl⟩ := ha.out.shape
  obtain ⟨xb, cb, rfl⟩ := hr.out.shape
  obtain ⟨xd, cd, rfl⟩ := hf.out.shape
  have hs0 := hb.out.size
  have hMc := hM.out.code
  have hMr := hM.out.rows
  have hMf := hM.out.frames
  have hn' := hn.out
  have hwb : wB m = 16 + m.code.length + 8 * m.rows.length + wFs m.frames := rfl
  have HWB := lhid hwb
  rw [hwb] at hn'
  clear hwb
  have HB0 : Hid (Below w0.heap.size w (w.alloc (.cells #[.int .i64 m.flags, .string (tx m.name), .string (tx m.desc), .int .i64 m.stack, .int .i64 m.locals, .slice xa m.code.length ca, .slice xb m.rows.length cb, .slice xd m.frames.length cd] 62))) := lhid ((Below.refl _ w).alloc hs0 _)
  have HW0 := lhid (h.out.below ((Below.refl w.heap.size w).alloc (Nat.le_refl _) (.cells #[.int .i64 m.flags, .string (tx m.name), .string (tx m.desc), .int .i64 m.stack, .int .i64 m.locals, .slice xa m.code.length ca, .slice xb m.rows.length cb, .slice xd m.frames.length cd] 62)))
  have HX0 := lhid (heap_alloc_new w (.cells #[.int .i64 m.flags, .string (tx m.name), .string (tx m.desc), .int .i64 m.stack, .int .i64 m.locals, .slice xa m.code.length ca, .slice xb m.rows.length cb, .slice xd m.frames.length cd] 62))
  have HS0 := lhid ((Stay.refl tW w).alloc (.cells #[.int .i64 m.flags, .string (tx m.name), .string (tx m.desc), .int .i64 m.stack, .int .i64 m.locals, .slice xa m.code.length ca, .slice xb m.rows.length cb, .slice xd m.frames.length cd] 62))
  have HZ0 : Hid (w0.heap.size ≤ (w.alloc (.cells #[.int .i64 m.flags, .string (tx m.name), .string (tx m.desc), .int .i64 m.stack, .int .i64 m.locals, .slice xa m.code.length ca, .slice xb m.rows.length cb, .slice xd m.frames.length cd] 62)).heap.size) := lhid (Nat.le_trans hs0 HB0.out.size)
  obtain ⟨i0, hi0, hz0, hz1, hz2⟩ := info_parts infoU8
  go_enter Tryz.func26, Tryz.ntmps26
  go_wp2_with fail
  generalize w.alloc (.cells #[.int .i64 m.flags, .string (tx m.name), .string (tx m.desc), .int .i64 m.stack, .int .i64 m.locals, .slice xa m.code.length ca, .slice xb m.rows.length cb, .slice xd m.frames.length cd] 62) = wa0 at *
  have x0 := heap_cell (i := 0) HX0.out rfl
  go_wp2_with fail
  with_reducible refine (num_s w0.heap.size M pv 2 (n) 2 m.flags wa0 HW0 (lhid rfl) (by omega) HZ0 hBM (lhid (by omega))).mono ?_
  clear x0
  rintro e wa1 ⟨rfl, h1, b1, s1⟩
  have HW1 := lhid h1
  have HB1 := lhid (HB0.out.trans b1)
  have HS1 := lhid (HS0.out.trans s1)
  have HX1 := lhid (s1 _ _ _ _ (by simp) HX0.out)
  have HZ1 := lhid (Nat.le_trans hs0 HB1.out.size)
  clear h1 b1 s1
  have x1 := heap_cell (i := 1) HX1.out rfl
  go_wp2_with fail
  with_reducible refine (find_s w0.heap.size M pv L 1 m.name (n + 2) wa1 HW1 (lhid (hp.out.below kept_co (hb.out.trans HB1.out))) HZ1 hBM).mono ?_
  clear x1
  rintro e wa2 ⟨⟨z1, rfl⟩, h1, b1, s1⟩
  have HW2 := lhid h1
  have HB2 := lhid (HB1.out.trans b1)
  have HS2 := lhid (HS1.out.trans s1)
  have HX2 := lhid (s1 _ _ _ _ (by simp) HX1.out)
  have HZ2 := lhid (Nat.le_trans hs0 HB2.out.size)
  clear h1 b1 s1
  go_wp2_with fail
  with_reducible refine (num_s w0.heap.size M pv 2 (n + 2) 2 z1 wa2 HW2 (lhid rfl) (by omega) HZ2 hBM (lhid (by omega))).mono ?_
  rintro e wa3 ⟨rfl, h1, b1, s1⟩
  have HW3 := lhid h1
  have HB3 := lhid (HB2.out.trans b1)
  have HS3 := lhid (HS2.out.trans s1)
  have HX3 := lhid (s1 _ _ _ _ (by simp) HX2.out)
  have HZ3 := lhid (Nat.le_trans hs0 HB3.out.size)
  clear h1 b1 s1
  have x2 := heap_cell (i := 2) HX3.out rfl
  go_wp2_with fail
  with_reducible refine (find_s w0.heap.size M pv L 1 m.desc (n + 2 + 2) wa3 HW3 (lhid (hp.out.below kept_co (hb.out.trans HB3.out))) HZ3 hBM).mono ?_
  clear x2
  rintro e wa4 ⟨⟨z3, rfl⟩, h1, b1, s1⟩
  have HW4 := lhid h1
  have HB4 := lhid (HB3.out.trans b1)
  have HS4 := lhid (HS3.out.trans s1)
  have HX4 := lhid (s1 _ _ _ _ (by simp) HX3.out)
  have HZ4 := lhid (Nat.le_trans hs0 HB4.out.size)
  clear h1 b1 s1
  go_wp2_with fail
  with_reducible refine (num_s w0.heap.size M pv 2 (n + 2 + 2) 2 z3 wa4 HW4 (lhid rfl) (by omega) HZ4 hBM (lhid (by omega))).mono ?_
  rintro e wa5 ⟨rfl, h1, b1, s1⟩
  have HW5 := lhid h1
  have HB5 := lhid (HB4.out.trans b1)
  have HS5 := lhid (HS4.out.trans s1)
  have HX5 := lhid (s1 _ _ _ _ (by simp) HX4.out)
  have HZ5 := lhid (Nat.le_trans hs0 HB5.out.size)
  clear h1 b1 s1
  have x0 := heap_cell (i := 0) HX5.out rfl
  obtain ⟨q, hq⟩ : ∃ q, (bits .and .i64 m.flags 1024 == 0) = q := ⟨_, rfl⟩
  have hq2 : (bits .and .i64 m.flags 1024 != 0) = !q := by rw [bne, hq]
  go_upto_if 26 with fail
  cases q with
  | false =>
    go_wp2_with fail
    refine bodyPost_ret (v := .tuple #[]) (by simp [results, Tryz.results26]) rfl ?_
    exact ⟨rfl, HW5.out.le (by rw [HWB.out]; omega), HB5.out, HS5.out⟩
  | true =>
  clear x0
  have x0 := heap_cell (i := 0) HX5.out rfl
  have x3 := heap_cell (i := 3) HX5.out rfl
  go_wp2_with fail
  clear hq
  with_reducible refine (num_s w0.heap.size M pv 2 (n + 2 + 2 + 2) 2 m.stack wa5 HW5 (lhid rfl) (by omega) HZ5 hBM (lhid (by omega))).mono ?_
  clear x0 x3
  rintro e wa6 ⟨rfl, h1, b1, s1⟩
  have HW6 := lhid h1
  have HB6 := lhid (HB5.out.trans b1)
  have HS6 := lhid (HS5.out.trans s1)
  have HX6 := lhid (s1 _ _ _ _ (by simp) HX5.out)
  have HZ6 := lhid (Nat.le_trans hs0 HB6.out.size)
  clear h1 b1 s1
  have x4 := heap_cell (i := 4) HX6.out rfl
  go_wp2_with fail
  with_reducible refine (num_s w0.heap.size M pv 2 (n + 2 + 2 + 2 + 2) 2 m.locals wa6 HW6 (lhid rfl) (by omega) HZ6 hBM (lhid (by omega))).mono ?_
  clear x4
  rintro e wa7 ⟨rfl, h1, b1, s1⟩
  have HW7 := lhid h1
  have HB7 := lhid (HB6.out.trans b1)
  have HS7 := lhid (HS6.out.trans s1)
  have HX7 := lhid (s1 _ _ _ _ (by simp) HX6.out)
  have HZ7 := lhid (Nat.le_trans hs0 HB7.out.size)
  clear h1 b1 s1
  have x5 := heap_cell (i := 5) HX7.out rfl
  go_wp2_with fail
  with_reducible refine (num_s w0.heap.size M pv 2 (n + 2 + 2 + 2 + 2 + 2) 2 _ wa7 HW7 (lhid rfl) (by omega) HZ7 hBM (lhid (by omega))).mono ?_
  clear x5
  rintro e wa8 ⟨rfl, h1, b1, s1⟩
  have HW8 := lhid h1
  have HB8 := lhid (HB7.out.trans b1)
  have HS8 := lhid (HS7.out.trans s1)
  have HX8 := lhid (s1 _ _ _ _ (by simp) HX7.out)
  have HZ8 := lhid (Nat.le_trans hs0 HB8.out.size)
  clear h1 b1 s1
  obtain ⟨o, ho, hol⟩ := HW8.out
  obtain ⟨v, hm0, hw⟩ := ho
  have hol' : o.1.length ≤ 1000000000 := by omega
  have hra := ha.out.below kept_by (hb.out.trans HB8.out)
  have HRA := lhid hra
  have x5 := heap_cell (i := 5) HX8.out rfl
  have m0 := heap_cell (i := 0) hm0 rfl
  have mz := heap_thaw hm0 0
  have HM0 := lhid hm0
  have HOW := lhid hw
  have HWd : Hid (wa8.drew.ownsRow w0.heap.size 5 1 v o.1.length (byV o.1)) := lhid (own_far HOW.out (w' := wa8.drew) fun _ _ => rfl)
  have HMd : Hid (wa8.drew.heap[M]? = some (.cells #[v, pv, .bool o.2] 52 (0, 0))) := lhid HM0.out
  have HOL := lhid hol
  obtain ⟨A2, c2, rfl⟩ := own_shape hw
  clear hra hm0 hw hol
  go_upto_region 8 with fail
  go_cut [] from 40 (fun wx => Hid (WoS w0.heap.size M pv (n + 2 + 2 + 2 + 2 + 2 + 2 + m.code.length) wx) ∧ Hid (Below w0.heap.size wa8 wx) ∧ Hid (Stay tW wa8 wx))
  case first =>
    go_region_law (refine step_append_by rfl (.tmp 44) (.tmp 46) rfl w0.heap.size i0 hi0 hz0 hz1 hz2 (.slice A2 o.1.length c2) o.1.length (byV o.1) rfl HWd.out (.slice xa m.code.length ca) m.code rfl (HRA.out.below kept_by (Below.refl _ _).drew) (by omega) HZ8.out ?_
                   intro v' w3 hown hgrow
                   have hM3 := (grown_stay (Ts := [52]) hgrow HWd.out (by decide)) M _ _ _ (by simp) HMd.out
                   have q3 := heap_cell (i := 0) hM3 rfl
                   have z3 := heap_thaw hM3 0
                   obtain ⟨A3, c3, rfl⟩ := own_shape hown)
    all_goals
      have HS3 := lhid ((Stay.refl tW wa8).drew.trans (grown_stay hgrow HWd.out (by decide)))
      have HB3 := lhid ((Below.refl w0.heap.size wa8).drew.trans (grownBelow hgrow (own_lt HWd.out) HZ8.out))
      go_wp2_with fail
      go_meet
      refine ⟨lhid ⟨(o.1 ++ m.code, o.2), ?_, ?_⟩, lhid ?_, lhid ?_⟩
      · exact ⟨.slice A3 (o.1.length + m.code.length) c3, heap_set hM3 _, by
          show _ ∧ _
          have h9 := own_stay hown ((Stay.refl [5] w3).set (p := ⟨M, 0, none⟩) hM3 (by decide) (.slice A3 (o.1.length + m.code.length) c3)) (by simp)
          have e1 : (o.1 ++ m.code).length = o.1.length + m.code.length := List.length_append
          have e2 := byV_app o.1 m.code
          show World.ownsRow _ _ _ _ _ (o.1 ++ m.code).length (byV (o.1 ++ m.code))
          rw [e1, e2]
          exact h9⟩
      · show (o.1 ++ m.code).length ≤ _
        rw [List.length_append]
        have := HOL.out
        omega
      · exact HB3.out.setCell (p := ⟨M, 0, none⟩) hBM.out _
      · exact HS3.out.set (p := ⟨M, 0, none⟩) hM3 (by decide) _
  case rest =>
    obtain ⟨HWC, HBC, HSC⟩ := hcut
    obtain ⟨wa9, hq⟩ : ∃ x, x = wc := ⟨_, rfl⟩
    subst hq
    have HW9 := lhid (HWC.out.le (show _ ≤ n + 12 + m.code.length by omega))
    have HB9 := lhid (HB8.out.trans HBC.out)
    have HS9 := lhid (HS8.out.trans HSC.out)
    have HX9 := lhid (HSC.out _ _ _ _ (by simp) HX8.out)
    have HZ9 := lhid (Nat.le_trans hs0 HB9.out.size)
    clear HWC HBC HSC x5 m0 mz
    have x6 := heap_cell (i := 6) HX9.out rfl
    go_wp2_with fail
    with_reducible refine (num_s w0.heap.size M pv 2 (n + 12 + m.code.length) 2 _ wa9 HW9 (lhid rfl) (by omega) HZ9 hBM (lhid (by omega))).mono ?_
    clear x6
    rintro e wa10 ⟨rfl, h1, b1, s1⟩
    have HW10 := lhid h1
    have HB10 := lhid (HB9.out.trans b1)
    have HS10 := lhid (HS9.out.trans s1)
    have HX10 := lhid (s1 _ _ _ _ (by simp) HX9.out)
    have HZ10 := lhid (Nat.le_trans hs0 HB10.out.size)
    clear h1 b1 s1
    have x6 := heap_cell (i := 6) HX10.out rfl
    go_wp2_with fail
    clear x6
    go_loopw [4] (fun i wr => ∃ k : Nat, i = .int .i64 k ∧ k ≤ m.rows.length ∧ Hid (WoS w0.heap.size M pv (n + 14 + m.code.length + 8 * k) wr) ∧ Hid (Below w0.heap.size w wr) ∧ Hid (Stay tW w wr) ∧ Hid (wr.heap[w.heap.size]? = some (.cells #[.int .i64 m.flags, .string (tx m.name), .string (tx m.desc), .int .i64 m.stack, .int .i64 m.locals, .slice xa m.code.length ca, .slice xb m.rows.length cb, .slice xd m.frames.length cd] 62 (0, 0)))) (fun i _ => m.rows.length - (intOf i).toNat)
    case atStart => exact ⟨0, rfl, Nat.zero_le _, lhid (HW10.out.le (by omega)), HB10, HS10, HX10⟩
    case round =>
      obtain ⟨k, rfl, hk, HW11, HB11, HS11, HX11⟩ := hrel
      obtain ⟨wa11, hq⟩ : ∃ x, x = wr := ⟨_, rfl⟩
      subst hq
      have HZ11 := lhid (Nat.le_trans hs0 HB11.out.size)
      have x6 := heap_cell (i := 6) HX11.out rfl
      by_cases hlt : k < m.rows.length
      · obtain ⟨x, hx⟩ : ∃ x, m.rows[k]? = some x := ⟨_, List.getElem?_eq_getElem hlt⟩
        obtain ⟨gr, orr, cc, rfl, rfl, hc⟩ := (hr.out.below kept_rw (hb.out.trans HB11.out)).at' hx
        have r0 : wa11.cell? ⟨gr, orr + k * 4, none⟩ = some (.int .i64 x.fr) := hc 0 _ rfl
        have r1 : wa11.cell? ⟨gr, orr + k * 4 + 1, none⟩ = some (.int .i64 x.too) := hc 1 _ rfl
        have r2 : wa11.cell? ⟨gr, orr + k * 4 + 2, none⟩ = some (.int .i64 x.at_) := hc 2 _ rfl
        have r3 : wa11.cell? ⟨gr, orr + k * 4 + 3, none⟩ = some (.string (tx x.cls)) := hc 3 _ rfl
        have k3 : (k : Int) < m.rows.length := by omega
        clear hx hc
        have HA := lhid ((Below.refl w0.heap.size wa11).alloc HZ11.out (.cells #[.int .i64 x.fr, .int .i64 x.too, .int .i64 x.at_, .string (tx x.cls)] 88))
        have HR12 := lhid (heap_alloc_new wa11 (.cells #[.int .i64 x.fr, .int .i64 x.too, .int .i64 x.at_, .string (tx x.cls)] 88))
        have HW12 := lhid (HW11.out.below ((Below.refl wa11.heap.size wa11).alloc (Nat.le_refl _) (.cells #[.int .i64 x.fr, .int .i64 x.too, .int .i64 x.at_, .string (tx x.cls)] 88)))
        have HSA := lhid ((Stay.refl tW wa11).alloc (.cells #[.int .i64 x.fr, .int .i64 x.too, .int .i64 x.at_, .string (tx x.cls)] 88))
        have HB12 := lhid (HB11.out.trans HA.out)
        have HS12 := lhid (HS11.out.trans HSA.out)
        have HX12 := lhid (HSA.out _ _ _ _ (by simp) HX11.out)
        have HZ12 := lhid (Nat.le_trans hs0 HB12.out.size)
        clear HA HSA
        go_wp2_with fail
        clear r0 r1 r2 r3 x6
        obtain ⟨rb, hrb⟩ : ∃ rb, wa11.heap.size = rb := ⟨_, rfl⟩
        generalize wa11.alloc (.cells #[.int .i64 x.fr, .int .i64 x.too, .int .i64 x.at_, .string (tx x.cls)] 88) = wa12 at *
        rw [hrb]
        rw [hrb] at HR12
        clear hrb
        with_reducible refine (num_s w0.heap.size M pv 2 (n + 14 + m.code.length + 8 * k) 2 x.fr wa12 HW12 (lhid rfl) (by omega) HZ12 hBM (lhid (by omega))).mono ?_
        rintro e wa13 ⟨rfl, h1, b1, s1⟩
        have HW13 := lhid h1
        have HB13 := lhid (HB12.out.trans b1)
        have HS13 := lhid (HS12.out.trans s1)
        have HX13 := lhid (s1 _ _ _ _ (by simp) HX12.out)
        have HZ13 := lhid (Nat.le_trans hs0 HB13.out.size)
        have HR13 := lhid (s1 _ _ _ _ (by simp) HR12.out)
        clear h1 b1 s1
        have x1 := heap_cell (i := 1) HR13.out rfl
        go_wp2_with fail
        with_reducible refine (num_s w0.heap.size M pv 2 (n + 14 + m.code.length + 8 * k + 2) 2 x.too wa13 HW13 (lhid rfl) (by omega) HZ13 hBM (lhid (by omega))).mono ?_
        clear x1
        rintro e wa14 ⟨rfl, h1, b1, s1⟩
        have HW14 := lhid h1
        have HB14 := lhid (HB13.out.trans b1)
        have HS14 := lhid (HS13.out.trans s1)
        have HX14 := lhid (s1 _ _ _ _ (by simp) HX13.out)
        have HZ14 := lhid (Nat.le_trans hs0 HB14.out.size)
        have HR14 := lhid (s1 _ _ _ _ (by simp) HR13.out)
        clear h1 b1 s1
        have x2 := heap_cell (i := 2) HR14.out rfl
        go_wp2_with fail
        with_reducible refine (num_s w0.heap.size M pv 2 (n + 14 + m.code.length + 8 * k + 2 + 2) 2 x.at_ wa14 HW14 (lhid rfl) (by omega) HZ14 hBM (lhid (by omega))).mono ?_
        clear x2
        rintro e wa15 ⟨rfl, h1, b1, s1⟩
        have HW15 := lhid h1
        have HB15 := lhid (HB14.out.trans b1)
        have HS15 := lhid (HS14.out.trans s1)
        have HX15 := lhid (s1 _ _ _ _ (by simp) HX14.out)
        have HZ15 := lhid (Nat.le_trans hs0 HB15.out.size)
        have HR15 := lhid (s1 _ _ _ _ (by simp) HR14.out)
        clear h1 b1 s1
        have x3 := heap_cell (i := 3) HR15.out rfl
        obtain ⟨e0, he0⟩ : ∃ e0, ((tx x.cls).toList == []) = e0 := ⟨_, rfl⟩
        have he1 : (tx x.cls).toList.isEmpty = e0 := by rw [← he0, Bool.eq_iff_iff]; simp
        cases e0 with
        | true =>
          go_wp2_with fail
          with_reducible refine (num_s w0.heap.size M pv 2 (n + 14 + m.code.length + 8 * k + 2 + 2 + 2) 2 0 wa15 HW15 (lhid rfl) (by omega) HZ15 hBM (lhid (by omega))).mono ?_
          clear x3
          rintro e wa16 ⟨rfl, h1, b1, s1⟩
          have HW16 := lhid h1
          have HB16 := lhid (HB15.out.trans b1)
          have HS16 := lhid (HS15.out.trans s1)
          have HX16 := lhid (s1 _ _ _ _ (by simp) HX15.out)
          have HZ16 := lhid (Nat.le_trans hs0 HB16.out.size)
          have HR16 := lhid (s1 _ _ _ _ (by simp) HR15.out)
          clear h1 b1 s1
          go_wp2_with fail
          go_roundw
          case rel => first | exact ⟨k + 1, by go_num, by omega, lhid (HW16.out.le (by omega)), HB16, HS16, HX16⟩ | ((repeat apply Exists.intro); exact ⟨⟨k + 1, by go_num, by omega, lhid (HW16.out.le (by omega)), HB16, HS16, HX16⟩, rfl⟩)
          case measure => simp [intOf]; omega
        | false =>
          go_wp2_with fail
          with_reducible refine (find_s w0.heap.size M pv L 7 x.cls (n + 14 + m.code.length + 8 * k + 2 + 2 + 2) wa15 HW15 (lhid (hp.out.below kept_co (hb.out.trans HB15.out))) HZ15 hBM).mono ?_
          clear x3
          rintro e wa16 ⟨⟨z15, rfl⟩, h1, b1, s1⟩
          have HW16 := lhid h1
          have HB16 := lhid (HB15.out.trans b1)
          have HS16 := lhid (HS15.out.trans s1)
          have HX16 := lhid (s1 _ _ _ _ (by simp) HX15.out)
          have HZ16 := lhid (Nat.le_trans hs0 HB16.out.size)
          have HR16 := lhid (s1 _ _ _ _ (by simp) HR15.out)
          clear h1 b1 s1
          go_wp2_with fail
          with_reducible refine (num_s w0.heap.size M pv 2 (n + 14 + m.code.length + 8 * k + 2 + 2 + 2) 2 z15 wa16 HW16 (lhid rfl) (by omega) HZ16 hBM (lhid (by omega))).mono ?_
          rintro e wa17 ⟨rfl, h1, b1, s1⟩
          have HW17 := lhid h1
          have HB17 := lhid (HB16.out.trans b1)
          have HS17 := lhid (HS16.out.trans s1)
          have HX17 := lhid (s1 _ _ _ _ (by simp) HX16.out)
          have HZ17 := lhid (Nat.le_trans hs0 HB17.out.size)
          have HR17 := lhid (s1 _ _ _ _ (by simp) HR16.out)
          clear h1 b1 s1
          go_wp2_with fail
          go_roundw
          case rel => first | exact ⟨k + 1, by go_num, by omega, lhid (HW17.out.le (by omega)), HB17, HS17, HX17⟩ | ((repeat apply Exists.intro); exact ⟨⟨k + 1, by go_num, by omega, lhid (HW17.out.le (by omega)), HB17, HS17, HX17⟩, rfl⟩)
          case measure => simp [intOf]; omega
      · have k3 : ¬ (k : Int) < m.rows.length := by omega
        have hke : k = m.rows.length := by omega
        have hw := HW11.out
        rw [hke] at hw
        have HW31 := lhid hw
        clear hke hw
        have x7 := heap_cell (i := 7) HX11.out rfl
        go_wp2_with fail
        have HB31 := HB11
        have HS31 := HS11
        have HX31 := HX11
        have HZ31 := HZ11
        obtain ⟨wa31, hq⟩ : ∃ x, x = wa11 := ⟨_, rfl⟩
        subst hq
        clear x6
        with_reducible refine (num_s w0.heap.size M pv 2 (n + 14 + m.code.length + 8 * m.rows.length) 2 _ wa31 HW31 (lhid rfl) (by omega) HZ31 hBM (lhid (by omega))).mono ?_
        clear x7
        rintro e wa32 ⟨rfl, h1, b1, s1⟩
        have HW32 := lhid h1
        have HB32 := lhid (HB31.out.trans b1)
        have HS32 := lhid (HS31.out.trans s1)
        have HX32 := lhid (s1 _ _ _ _ (by simp) HX31.out)
        have HZ32 := lhid (Nat.le_trans hs0 HB32.out.size)
        clear h1 b1 s1
        have x7 := heap_cell (i := 7) HX32.out rfl
        go_wp2_with fail
        clear x7
        go_loopw [6] (fun i wr => ∃ k : Nat, i = .int .i64 k ∧ k ≤ m.frames.length ∧ Hid (WoS w0.heap.size M pv (n + 16 + m.code.length + 8 * m.rows.length + wFs (m.frames.take k)) wr) ∧ Hid (Below w0.heap.size w wr) ∧ Hid (Stay tW w wr) ∧ Hid (wr.heap[w.heap.size]? = some (.cells #[.int .i64 m.flags, .string (tx m.name), .string (tx m.desc), .int .i64 m.stack, .int .i64 m.locals, .slice xa m.code.length ca, .slice xb m.rows.length cb, .slice xd m.frames.length cd] 62 (0, 0)))) (fun i _ => m.frames.length - (intOf i).toNat)
        case atStart => exact ⟨0, rfl, Nat.zero_le _, lhid (HW32.out.le (by omega)), HB32, HS32, HX32⟩
        case round =>
          clear hk hlt k3
          obtain ⟨k, rfl, hk, HW33, HB33, HS33, HX33⟩ := hrel
          obtain ⟨wa33, hq⟩ : ∃ x, x = wr := ⟨_, rfl⟩
          subst hq
          have HZ33 := lhid (Nat.le_trans hs0 HB33.out.size)
          have x7 := heap_cell (i := 7) HX33.out rfl
          by_cases hlt : k < m.frames.length
          · obtain ⟨x, hx⟩ : ∃ x, m.frames[k]? = some x := ⟨_, List.getElem?_eq_getElem hlt⟩
            have hle := wFs_le (l := m.frames) (k + 1)
            have htk := wFs_take hx
            have HTK := lhid htk
            rw [htk] at hle
            unfold wF at hle
            obtain ⟨⟨hl1, hl2⟩, hl3, hl4⟩ := hM.out.each x (List.mem_of_getElem? hx)
            obtain ⟨gr, orr, cc, rfl, hE, hc⟩ := hf.out.at' hx
            obtain ⟨va, vb, rfl, hra, hrb⟩ := hE
            have HRA := lhid hra
            have HRB := lhid hrb
            obtain ⟨A1, c1, rfl⟩ := hra.shape
            obtain ⟨B1, d1, rfl⟩ := hrb.shape
            have h0 : w0.cell? ⟨gr, orr + k * 3, none⟩ = some (.int .i64 x.pc) := hc 0 _ rfl
            have h1 : w0.cell? ⟨gr, orr + k * 3 + 1, none⟩ = some (.slice A1 x.locals.length c1) := hc 1 _ rfl
            have h2 : w0.cell? ⟨gr, orr + k * 3 + 2, none⟩ = some (.slice B1 x.stack.length d1) := hc 2 _ rfl
            have H0c := lhid h0
            have H1c := lhid h1
            have H2c := lhid h2
            have HL2 := lhid hl2
            have HL4 := lhid hl4
            have r0 := ((hb.out.trans HB33.out).cell (p := ⟨gr, orr + k * 3, none⟩) (cell_lt H0c.out)).trans H0c.out
            have k3 : (k : Int) < m.frames.length := by omega
            obtain ⟨NN, hNN⟩ : ∃ NN, wFs (m.frames.take k) = NN := ⟨_, rfl⟩
            have HNN := lhid hNN
            rw [hNN] at HW33 hle
            clear hx hc htk hra hrb h0 h1 h2 hl2 hl4 hNN
            go_wp2_with fail
            clear r0 x7
            with_reducible refine (num_s w0.heap.size M pv 2 (n + 16 + m.code.length + 8 * m.rows.length + NN) 2 x.pc wa33 HW33 (lhid rfl) (by omega) HZ33 hBM (lhid (by omega))).mono ?_
            rintro e wa34 ⟨rfl, h1, b1, s1⟩
            have HW34 := lhid h1
            have HB34 := lhid (HB33.out.trans b1)
            have HS34 := lhid (HS33.out.trans s1)
            have HX34 := lhid (s1 _ _ _ _ (by simp) HX33.out)
            have HZ34 := lhid (Nat.le_trans hs0 HB34.out.size)
            clear h1 b1 s1
            have r1 := ((hb.out.trans HB34.out).cell (p := ⟨gr, orr + k * 3 + 1, none⟩) (cell_lt H1c.out)).trans H1c.out
            have x7 := heap_cell (i := 7) HX34.out rfl
            go_wp2_with fail
            clear r1 x7
            with_reducible refine (types_s w0 M pv L x.locals (.slice A1 x.locals.length c1) (n + 16 + m.code.length + 8 * m.rows.length + NN + 2) wa34 HW34 hp HRA (lhid (hb.out.trans HB34.out)) hBM (lhid (by omega)) (lhid (by omega)) HL2).mono ?_
            rintro e wa35 ⟨rfl, h1, b1, s1⟩
            have HW35 := lhid h1
            have HB35 := lhid (HB34.out.trans b1)
            have HS35 := lhid (HS34.out.trans s1)
            have HX35 := lhid (s1 _ _ _ _ (by simp) HX34.out)
            have HZ35 := lhid (Nat.le_trans hs0 HB35.out.size)
            clear h1 b1 s1
            have r2 := ((hb.out.trans HB35.out).cell (p := ⟨gr, orr + k * 3 + 2, none⟩) (cell_lt H2c.out)).trans H2c.out
            have x7 := heap_cell (i := 7) HX35.out rfl
            go_wp2_with fail
            clear r2 x7
            with_reducible refine (types_s w0 M pv L x.stack (.slice B1 x.stack.length d1) (n + 16 + m.code.length + 8 * m.rows.length + NN + 2 + 1 + 3 * x.locals.length) wa35 HW35 hp HRB (lhid (hb.out.trans HB35.out)) hBM (lhid (by omega)) (lhid (by omega)) HL4).mono ?_
            rintro e wa36 ⟨rfl, h1, b1, s1⟩
            have HW36 := lhid h1
            have HB36 := lhid (HB35.out.trans b1)
            have HS36 := lhid (HS35.out.trans s1)
            have HX36 := lhid (s1 _ _ _ _ (by simp) HX35.out)
            have HZ36 := lhid (Nat.le_trans hs0 HB36.out.size)
            clear h1 b1 s1
            go_wp2_with fail
            go_roundw
            case rel => first | exact ⟨k + 1, by go_num, by omega, lhid (HW36.out.le (by rw [HTK.out, HNN.out]; unfold wF; omega)), HB36, HS36, HX36⟩ | ((repeat apply Exists.intro); exact ⟨⟨k + 1, by go_num, by omega, lhid (HW36.out.le (by rw [HTK.out, HNN.out]; unfold wF; omega)), HB36, HS36, HX36⟩, rfl⟩)
            case measure => simp [intOf]; omega
          · have k3 : ¬ (k : Int) < m.frames.length := by omega
            have hke : k = m.frames.length := by omega
            have hw := HW33.out
            rw [hke, List.take_length] at hw
            have HWE := lhid hw
            clear hke hw
            go_wp2_with fail
            go_end0
            exact ⟨rfl, HWE.out.le (by rw [HWB.out]; omega), HB33.out, HS33.out⟩
end Go.Proofs.YtgihfcimngogfaaGreat
