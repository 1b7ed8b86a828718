/- The walk of CheckCuts. -/
import Derived.Test.YtpdnonlelocfbaaGreatDoorJChkAt
import Derived.Test.YtpdnonlelocfbaaGreatDoorJChkCut
import Derived.Test.YtpdnonlelocfbaaGreatDoorJChkStates
namespace Go.Proofs.YtpdnonlelocfbaaGreatDoor
open Go.RowKit Go Go.Maps
set_option linter.unusedVariables false
/-- The most that a stack holds. -/
def mostOf (sl : List Sta) : Nat := sl.foldl (fun a x => max a x.2.length) 0
theorem most_ge : ∀ (sl : List Sta) (a : Nat), a ≤ sl.foldl (fun a x => max a x.2.length) a ∧ ∀ x ∈ sl, x.2.length ≤ sl.foldl (fun a x => max a x.2.length) a
  | [], a => ⟨Nat.le_refl _, fun x hx => by cases hx⟩
  | y :: r, a => by
    obtain ⟨h1, h2⟩ := most_ge r (max a y.2.length)
    have h3 := Nat.le_max_left a y.2.length
    have h4 := Nat.le_max_right a y.2.length
    refine ⟨Nat.le_trans h3 h1, fun x hx => ?_⟩
    rcases List.mem_cons.1 hx with rfl | hx
    · exact Nat.le_trans h4 h1
    · exact h2 x hx
theorem most_in : ∀ (sl : List Sta) (a : Nat), sl.foldl (fun a x => max a x.2.length) a = a ∨ ∃ x ∈ sl, sl.foldl (fun a x => max a x.2.length) a = x.2.length
  | [], a => .inl rfl
  | y :: r, a => by
    rcases most_in r (max a y.2.length) with h | ⟨x, hx, h⟩
    · by_cases hc : a ≤ y.2.length
      · exact .inr ⟨y, by simp, by rw [List.foldl_cons, h, Nat.max_eq_right hc]⟩
      · exact .inl (by rw [List.foldl_cons, h, Nat.max_eq_left (by omega)])
    · exact .inr ⟨x, by simp [hx], h⟩
theorem most_step {sl : List Sta} {j : Nat} {x : Sta} (h : sl[j]? = some x) : mostOf (sl.take (j + 1)) = max (mostOf (sl.take j)) x.2.length := by
  rw [List.take_add_one, h]
  unfold mostOf
  rw [List.foldl_append]
  rfl
set_option maxHeartbeats 32000000 in
set_option maxRecDepth 100000 in
theorem CheckCuts_walk (v : Value) (l : List ClI) (n : Int) (m : MeI) (ms : List Value) (w : World) (h : Hid (RdX Tru 7 (ClE Tru) w v l)) (hq : ∀ c ∈ l, ClQ c) (hn : I6 n) (hM : Hid (MeE Tru w m ms)) (hMQ : MeQ m) (hcap : ∀ A n cap, ms[5]? = some (.slice A n cap) → n ≤ cap ∧ cap ≤ maxLen) :
    Calls Tryz.prog 4 #[v, .int .i64 n, .agg ms.toArray] w fun e w' => e = .returned (.bool true) ∧ Below w.heap.size w w' := by
  obtain ⟨A, cap, rfl⟩ := h.out.shape
  obtain ⟨b5, b6, b7, rfl, s5, s6, s7⟩ := hM.out
  obtain ⟨B5, e5, rfl⟩ := s5.shape
  obtain ⟨B6, e6, rfl⟩ := s6.shape
  obtain ⟨B7, e7, rfl⟩ := s7.shape
  have hlen := h.out.len
  have HNB := lhid (h.out.mono (Q := fun g => g ≠ w.heap.size) (E' := ClE fun g => g ≠ w.heap.size) (clE_mono fun g _ hl => by omega) (fun g _ hl => by omega) cl_ne)
  have HQ := lhid hq
  have HMQ := lhid hMQ
  have HCAP := lhid hcap
  have HN := lhid hn
  have hb0 : Below w.heap.size w (w.alloc (.cells #[.int .i64 m.flags, .string (tx m.name), .string (tx m.desc), .int .i64 m.stack, .int .i64 m.locals, .slice B5 m.code.length e5, .slice B6 m.rows.length e6, .slice B7 m.frames.length e7] 27)) := (Below.refl _ _).alloc (Nat.le_refl _) _
  have hz0 := heap_alloc_new w (.cells #[.int .i64 m.flags, .string (tx m.name), .string (tx m.desc), .int .i64 m.stack, .int .i64 m.locals, .slice B5 m.code.length e5, .slice B6 m.rows.length e6, .slice B7 m.frames.length e7] 27)
  obtain ⟨W, hW⟩ : ∃ x, w.alloc (.cells #[.int .i64 m.flags, .string (tx m.name), .string (tx m.desc), .int .i64 m.stack, .int .i64 m.locals, .slice B5 m.code.length e5, .slice B6 m.rows.length e6, .slice B7 m.frames.length e7] 27) = x := ⟨_, rfl⟩
  rw [hW] at hb0 hz0
  have HW := lhid hW
  have HB0 := lhid hb0
  have HZ0 := lhid hz0
  clear hW hb0 hz0 s5 s6 s7 hq hMQ hcap hn
  show Calls _ _ #[.slice A l.length cap, .int .i64 n, .agg #[.int .i64 m.flags, .string (tx m.name), .string (tx m.desc), .int .i64 m.stack, .int .i64 m.locals, .slice B5 m.code.length e5, .slice B6 m.rows.length e6, .slice B7 m.frames.length e7]] _ _
  go_enter Tryz.func4, Tryz.ntmps4
  go_upto_region 1 with fail
  rw [HW.out]
  go_wp2_with fail
  with_reducible refine (holds8 _).mono ?_
  rintro e w1 ⟨rfl, hb1⟩
  have HB1 := lhid (HB0.out.trans (Below.less hb1 HB0.out.size))
  have HZ1 := lhid ((hb1.block _ (heap_lt HZ0.out)).trans HZ0.out)
  clear hb1
  have z0 := heap_cell (i := 0) HZ1.out rfl
  have z1 := heap_cell (i := 1) HZ1.out rfl
  have z2 := heap_cell (i := 2) HZ1.out rfl
  have z3 := heap_cell (i := 3) HZ1.out rfl
  have z4 := heap_cell (i := 4) HZ1.out rfl
  have z5 := heap_cell (i := 5) HZ1.out rfl
  have z6 := heap_cell (i := 6) HZ1.out rfl
  have z7 := heap_cell (i := 7) HZ1.out rfl
  by_cases hl0 : l.length = 0
  · have d0 : ((l.length : Int) == 0) = true := by rw [hl0]; rfl
    clear hl0
    go_wp2_with fail
    go_ret
    exact ⟨rfl, HB1.out⟩
  have d0 : ((l.length : Int) == 0) = false := by rw [beq_eq_false_iff_ne]; omega
  have hlz : ¬ (l.length : Int) = 0 := by omega
  obtain ⟨k, hk, hkl, hk1, hk2⟩ := turn_at n l.length (by omega)
  have H1 := lhid (h.out.below (keptX_cl Tru) HB1.out)
  have HM1 := lhid (keptX_me Tru _ _ _ _ (fun g _ hl => HB1.out.block g hl) hM.out)
  have HF1 : Hid (RdX Tru 3 (FrE Tru) w1 (.slice B7 m.frames.length e7) m.frames) := lhid (by
    obtain ⟨_, _, _, he, _, _, s7⟩ := HM1.out
    injection he with _ he; injection he with _ he; injection he with _ he; injection he with _ he; injection he with _ he; injection he with _ he; injection he with _ he; injection he with he _
    rw [he]
    exact s7)
  clear hl0
  go_wp2_with fail
  with_reducible refine (light8 Tru (.slice A l.length cap) l _ H1 HF1).mono ?_
  rintro e w2 ⟨r, rfl, hb2⟩
  have HB2 := lhid (HB1.out.trans (Below.less hb2 HB1.out.size))
  have H2 := lhid (H1.out.below (keptX_cl Tru) hb2)
  have HM2 := lhid (keptX_me Tru _ _ _ _ (fun g _ hl => hb2.block g hl) HM1.out)
  have HZ2 := lhid ((hb2.block _ (heap_lt HZ1.out)).trans HZ1.out)
  clear hb2 z0 z1 z2 z3 z4 z5 z6 z7
  cases r with
  | false =>
    go_wp2_with fail
    go_ret
    exact ⟨rfl, HB2.out⟩
  | true =>
  have z6 := heap_cell (i := 6) HZ2.out rfl
  have z7 := heap_cell (i := 7) HZ2.out rfl
  obtain ⟨dF, hdF⟩ : ∃ d, decide (0 < m.frames.length) = d := ⟨_, rfl⟩
  obtain ⟨dR, hdR⟩ : ∃ d, decide (0 < m.rows.length) = d := ⟨_, rfl⟩
  cases dF with
  | true =>
    go_wp2_with fail
    go_ret
    exact ⟨rfl, HB2.out⟩
  | false =>
  cases dR with
  | true =>
    go_wp2_with fail
    go_ret
    exact ⟨rfl, HB2.out⟩
  | false =>
  have HFR : Hid (m.frames = []) := lhid (List.length_eq_zero_iff.1 (by have := of_decide_eq_false hdF; omega))
  have HRW : Hid (m.rows = []) := lhid (List.length_eq_zero_iff.1 (by have := of_decide_eq_false hdR; omega))
  go_wp2_with fail
  clear z6 z7 hdF hdR
  with_reducible refine (new_any Tru (.slice A l.length cap) l _ H2 (lhid (short_q HQ.out))).mono ?_
  rintro e w3 ⟨hb3, x, hx, hcase⟩
  have HB3 := lhid (HB2.out.trans (Below.less hb3 HB2.out.size))
  have H3 := lhid (H2.out.below (keptX_cl Tru) hb3)
  have HM3 := lhid (keptX_me Tru _ _ _ _ (fun g _ hl => hb3.block g hl) HM2.out)
  have HZ3 := lhid ((hb3.block _ (heap_lt HZ2.out)).trans HZ2.out)
  have HX := lhid hx
  clear hb3 hx
  rcases hcase with ⟨hx0, rfl⟩ | ⟨rfl, tb, rfl, hT⟩
  · go_wp2_with fail
    go_ret
    exact ⟨rfl, HB3.out⟩
  have HT := lhid hT
  clear hT
  obtain ⟨X, hXk⟩ : ∃ c, l[k]? = some c := ⟨_, List.getElem?_eq_getElem hkl⟩
  have hXm := List.mem_of_getElem? hXk
  obtain ⟨ga, oa, cs, rfl, _, hE, hc⟩ := (HNB.out.below (keptX_cl _) HB3.out).at' hXk
  obtain ⟨x3, x4, x5, x6, rfl, r3, r4, r5, r6⟩ := hE
  obtain ⟨A3, d3, rfl⟩ := r3.shape
  obtain ⟨A4, d4, rfl⟩ := r4.shape
  obtain ⟨A5, d5, rfl⟩ := r5.shape
  obtain ⟨A6, d6, rfl⟩ := r6.shape
  have hEX : ClE (fun g => g ≠ w.heap.size) w3 X [.int .i64 X.flags, .string (tx X.name), .string (tx X.super), .slice A3 X.ifaces.length d3, .slice A4 X.pool.length d4, .slice A5 X.fields.length d5, .slice A6 X.methods.length d6] := ⟨_, _, _, _, rfl, r3, r4, r5, r6⟩
  have HEX := lhid hEX
  have c0 : w3.cell? ⟨ga, oa + k * 7, none⟩ = some (.int .i64 X.flags) := hc 0 _ rfl
  have c1 : w3.cell? ⟨ga, oa + k * 7 + 1, none⟩ = some (.string (tx X.name)) := hc 1 _ rfl
  have c2 : w3.cell? ⟨ga, oa + k * 7 + 2, none⟩ = some (.string (tx X.super)) := hc 2 _ rfl
  have c3 : w3.cell? ⟨ga, oa + k * 7 + 3, none⟩ = some (.slice A3 X.ifaces.length d3) := hc 3 _ rfl
  have c4 : w3.cell? ⟨ga, oa + k * 7 + 4, none⟩ = some (.slice A4 X.pool.length d4) := hc 4 _ rfl
  have c5 : w3.cell? ⟨ga, oa + k * 7 + 5, none⟩ = some (.slice A5 X.fields.length d5) := hc 5 _ rfl
  have c6 : w3.cell? ⟨ga, oa + k * 7 + 6, none⟩ = some (.slice A6 X.methods.length d6) := hc 6 _ rfl
  have HXM := lhid hXm
  have hw1 : wrap64 (n.tmod l.length) = n.tmod l.length := IntWalk.wrap64_in _ (by omega)
  have hw2 : wrap64 (n.tmod l.length + l.length) = n.tmod l.length + l.length := IntWalk.wrap64_in _ (by omega)
  have k3 : (k : Int) < l.length := by omega
  have HKK := lhid (And.intro hkl (And.intro hk1 hk2))
  have hbc : Below w3.heap.size w3 (w3.alloc (.cells #[.int .i64 X.flags, .string (tx X.name), .string (tx X.super), .slice A3 X.ifaces.length d3, .slice A4 X.pool.length d4, .slice A5 X.fields.length d5, .slice A6 X.methods.length d6] 39)) := (Below.refl _ _).alloc (Nat.le_refl _) _
  have hcx := heap_alloc_new w3 (.cells #[.int .i64 X.flags, .string (tx X.name), .string (tx X.super), .slice A3 X.ifaces.length d3, .slice A4 X.pool.length d4, .slice A5 X.fields.length d5, .slice A6 X.methods.length d6] 39)
  have hszc : (w3.alloc (.cells #[.int .i64 X.flags, .string (tx X.name), .string (tx X.super), .slice A3 X.ifaces.length d3, .slice A4 X.pool.length d4, .slice A5 X.fields.length d5, .slice A6 X.methods.length d6] 39)).heap.size = w3.heap.size + 1 := by simp
  have HBC := lhid hbc
  have HCX := lhid hcx
  have HSZC := lhid hszc
  clear hXk hXm hc r3 r4 r5 r6 hEX hkl hk1 hk2 hbc hcx hszc
  go_upto_region 8 with fail
  go_upto_region 9 with fail
  obtain ⟨W4, hW4⟩ : ∃ x, w3.alloc (.cells #[.int .i64 X.flags, .string (tx X.name), .string (tx X.super), .slice A3 X.ifaces.length d3, .slice A4 X.pool.length d4, .slice A5 X.fields.length d5, .slice A6 X.methods.length d6] 39) = x := ⟨_, rfl⟩
  rw [hW4] at HBC HCX HSZC ⊢
  have HB4 := lhid (HB3.out.trans (Below.less HBC.out HB3.out.size))
  have HZ4 := lhid ((HBC.out.block _ (heap_lt HZ3.out)).trans HZ3.out)
  have HT4 := lhid (HT.out.below HBC.out)
  have HM4 := lhid (keptX_me Tru _ _ _ _ (fun g _ hl => HBC.out.block g hl) HM3.out)
  have HE4 := lhid (keptX_cl _ _ _ _ _ (fun g _ hl => HBC.out.block g hl) HEX.out)
  have z0 := heap_cell (i := 0) HZ4.out rfl
  have z1 := heap_cell (i := 1) HZ4.out rfl
  have z2 := heap_cell (i := 2) HZ4.out rfl
  have z3 := heap_cell (i := 3) HZ4.out rfl
  have z4 := heap_cell (i := 4) HZ4.out rfl
  have z5 := heap_cell (i := 5) HZ4.out rfl
  have z6 := heap_cell (i := 6) HZ4.out rfl
  have z7 := heap_cell (i := 7) HZ4.out rfl
  have y0 := heap_cell (i := 0) HCX.out rfl
  have y1 := heap_cell (i := 1) HCX.out rfl
  have y2 := heap_cell (i := 2) HCX.out rfl
  have y3 := heap_cell (i := 3) HCX.out rfl
  have y4 := heap_cell (i := 4) HCX.out rfl
  have y5 := heap_cell (i := 5) HCX.out rfl
  have y6 := heap_cell (i := 6) HCX.out rfl
  clear hW4 c0 c1 c2 c3 c4 c5 c6 hw1 hw2 k3
  obtain ⟨hmis, hnod⟩ : l.any misB = false ∧ (names (ownL ++ l)).Nodup := ⟨(newE_zero HX.out).2.1, (newE_zero HX.out).2.2.1⟩
  have HFND : Hid (∃ c, findC (ownL ++ l) X.name = some c) := lhid (names_find (List.mem_map.2 ⟨X, List.mem_append_right _ HXM.out, rfl⟩))
  have HLOK : Hid (LOK (ownL ++ l)) := lhid (lok_of HX.out (short_q HQ.out) (fun c hc f hf => by
    have := ((HQ.out c hc).2.2.2.2.2.1.1 f hf).2.2
    unfold T20 at this
    omega))
  have HMIS := lhid hmis
  have HAT : Hid (At l X [.int .i64 X.flags, .string (tx X.name), .string (tx X.super), .slice A3 X.ifaces.length d3, .slice A4 X.pool.length d4, .slice A5 X.fields.length d5, .slice A6 X.methods.length d6] w.heap.size w3.heap.size w2.heap.size tb W4 m [.int .i64 m.flags, .string (tx m.name), .string (tx m.desc), .int .i64 m.stack, .int .i64 m.locals, .slice B5 m.code.length e5, .slice B6 m.rows.length e6, .slice B7 m.frames.length e7]) :=
    lhid ⟨HZ4.out, HCX.out, HT4.out, keptX_me _ _ _ _ _ (fun g _ hl => HB4.out.block g hl) (meE_mono (Q := fun g => g ≠ w.heap.size) (fun g _ hl => by omega) _ _ hM.out), HE4.out, heap_lt HZ2.out, by have := heap_lt HZ3.out; omega⟩
  have HXQ := lhid (HQ.out X HXM.out)
  obtain ⟨mt, hmt⟩ : ∃ x, metR (ownL ++ l) X m = x := ⟨_, rfl⟩
  have HMT := lhid hmt
  have HCALL := lhid (HAT.out.call HLOK.out hmis (meS_q HMQ.out) HCAP.out HXQ.out HFND.out hmt)
  clear hmt hmis hnod
  go_wp2_with fail
  with_reducible refine HCALL.out.mono ?_
  rintro e w5 ⟨hb5, hm5⟩
  have HB5 := lhid (HB4.out.trans (Below.less hb5 HB4.out.size))
  have HAT5 := lhid (HAT.out.below hb5)
  clear hb5 z0 z1 z2 z3 z4 z5 z6 z7 y0 y1 y2 y3 y4 y5 y6 HCALL
  cases mt with
  | er v0 =>
    obtain rfl := hm5
    have hv0 : v0 ≠ 0 := metC_er HMT.out
    have d1 : (v0 != 0) = true := by rw [bne_iff_ne]; exact hv0
    clear hv0
    go_wp2_with fail
    go_ret
    exact ⟨rfl, HB5.out⟩
  | ok sl =>
    obtain ⟨st, D, rfl, hst⟩ := hm5
    have hSL := stL_of HMIS.out HFND.out HMT.out
    have HSL := lhid hSL
    have HST := lhid hst
    obtain ⟨x0, hx0⟩ : ∃ x, sl[0]? = some x := ⟨_, List.getElem?_eq_getElem (List.length_pos_iff.2 hSL.ne)⟩
    obtain ⟨g, cp, _, _, _, _, rfl, _⟩ := sts_at hst hx0
    have hslp := List.length_pos_iff.2 hSL.ne
    have hslm : sl.length ≤ maxLen := by
      obtain ⟨_, _, hrow, _⟩ := hst.it
      exact own_max hrow
    unfold maxLen at hslm
    clear hx0 hst hSL
    go_wp2_with fail
    go_loopw [11, 74] (fun a i wr => ∃ jj : Nat, a = .int .i64 (mostOf (sl.take jj) : Nat) ∧ i = .int .i64 jj ∧ jj ≤ sl.length ∧ Hid (Below w5.heap.size w5 wr)) (fun _ i _ => sl.length - (intOf i).toNat)
    case atStart => exact ⟨0, rfl, rfl, Nat.zero_le _, lhid (Below.refl _ _)⟩
    case round =>
      obtain ⟨jj, rfl, rfl, hjj, HB⟩ := hrel
      have hbs := HB.out.size
      have HBW := lhid (HB5.out.trans (Below.less HB.out HB5.out.size))
      by_cases hlt : jj < sl.length
      · obtain ⟨x, hx⟩ : ∃ x, sl[jj]? = some x := ⟨_, List.getElem?_eq_getElem hlt⟩
        obtain ⟨g', cp', P1, f1, P2, f2, hst2, c0, c1, hl1, hl2⟩ := sts_at (HST.out.kept (w' := wr) fun g _ hs => HB.out.block g hs) hx
        injection hst2 with hst2
        injection hst2 with hst2
        injection hst2 with hst2 _ _
        subst hst2
        have hxm := List.mem_of_getElem? hx
        have hk4 : (jj : Int) < sl.length := by omega
        have hbx : Below wr.heap.size wr (wr.alloc (.cells #[.slice P1 x.1.length f1, .slice P2 x.2.length f2] 44)) := (Below.refl _ _).alloc (Nat.le_refl _) _
        have hzx := heap_alloc_new wr (.cells #[.slice P1 x.1.length f1, .slice P2 x.2.length f2] 44)
        have HBX := lhid hbx
        have HZX := lhid hzx
        have HSTEP := lhid (most_step hx)
        clear hx hxm hl1 hl2 hbx hzx
        go_upto_region 16 with fail
        obtain ⟨W6, hW6⟩ : ∃ y, wr.alloc (.cells #[.slice P1 x.1.length f1, .slice P2 x.2.length f2] 44) = y := ⟨_, rfl⟩
        rw [hW6] at HBX HZX ⊢
        have b1 := heap_cell (i := 1) HZX.out rfl
        have HBN := lhid (HB.out.trans (Below.less HBX.out hbs))
        clear hW6 c0 c1
        go_wp2_with fail
        exact ⟨⟨jj + 1, by rw [HSTEP.out]; congr 1; omega, by go_num, by omega, HBN⟩, by simp [intOf]; omega⟩
      · have hk4 : ¬ (jj : Int) < sl.length := by omega
        have hjl : jj = sl.length := by omega
        have hmm := most_ge sl 0
        have hmi := most_in sl 0
        rw [hjl, List.take_length]
        obtain ⟨M, hM'⟩ : ∃ M, mostOf sl = M := ⟨_, rfl⟩
        unfold mostOf at hM'
        rw [hM'] at hmm hmi
        unfold mostOf
        rw [hM']
        have HMM := lhid hmm.2
        have HMI := lhid hmi
        have hM20 : M ≤ 20 := by
          rcases hmi with h | ⟨x, hx, h⟩
          · omega
          · have := (HSL.out.small x hx).2
            omega
        have hwM : wrap64 ((M : Int) - 1) = (M : Int) - 1 := IntWalk.wrap64_in _ (by omega)
        rw [hjl] at hk4
        have HAT6 := lhid (HAT5.out.below HB.out)
        have z3 := heap_cell (i := 3) HAT6.out.box rfl
        have y3 := heap_thaw HAT6.out.box 3
        clear hjl hmm hmi hM' hjj
        go_upto_region 19 with fail
        have hat7 : At l X [.int .i64 X.flags, .string (tx X.name), .string (tx X.super), .slice A3 X.ifaces.length d3, .slice A4 X.pool.length d4, .slice A5 X.fields.length d5, .slice A6 X.methods.length d6] w.heap.size w3.heap.size w2.heap.size tb (wr.setCell ⟨w.heap.size, 3, none⟩ (.int .i64 ((M : Int) - 1))) { m with stack := (M : Int) - 1 } [.int .i64 m.flags, .string (tx m.name), .string (tx m.desc), .int .i64 ((M : Int) - 1), .int .i64 m.locals, .slice B5 m.code.length e5, .slice B6 m.rows.length e6, .slice B7 m.frames.length e7] := HAT6.out.put rfl (meE_stack HAT6.out.meth _)
        have hsz7 : (wr.setCell ⟨w.heap.size, 3, none⟩ (.int .i64 ((M : Int) - 1))).heap.size = wr.heap.size := by simp [World.setCell]
        have hb7 : Below w.heap.size w (wr.setCell ⟨w.heap.size, 3, none⟩ (.int .i64 ((M : Int) - 1))) := HBW.out.setCell (p := ⟨w.heap.size, 3, none⟩) (Nat.le_refl _) _
        generalize wr.setCell ⟨w.heap.size, 3, none⟩ (.int .i64 ((M : Int) - 1)) = W7 at hat7 hsz7 hb7 ⊢
        have HAT7 := lhid hat7
        have HB7 := lhid hb7
        clear hat7 hb7 z3 y3 hwM
        obtain ⟨r8, hr8⟩ : ∃ x, metR (ownL ++ l) X { m with stack := (M : Int) - 1 } = x := ⟨_, rfl⟩
        have HC8 := lhid (HAT7.out.call HLOK.out HMIS.out (show MeS { m with stack := (M : Int) - 1 } from ⟨show I6 ((M : Int) - 1) from ⟨by omega, by omega⟩, (meS_q HMQ.out).locals, (meS_q HMQ.out).desc, (meS_q HMQ.out).rows, (meS_q HMQ.out).frames⟩) (fun A n cap h => HCAP.out A n cap h) HXQ.out HFND.out hr8)
        have hr61 : 0 < M → r8 = .er 61 := fun h0 => by
          have := cut_less HFR.out HRW.out HMT.out (r := M - 1) (by omega) (by
            rcases HMI.out with h | ⟨x, hx, h⟩
            · omega
            · exact ⟨x, hx, by omega⟩)
          rw [← hr8, ← this]
          rw [show ((M - 1 : Nat) : Int) = (M : Int) - 1 by omega]
        have HR61 := lhid hr61
        have z0 := heap_cell (i := 0) HAT7.out.box rfl
        have z1 := heap_cell (i := 1) HAT7.out.box rfl
        have z2 := heap_cell (i := 2) HAT7.out.box rfl
        have z3 := heap_cell (i := 3) HAT7.out.box rfl
        have z4 := heap_cell (i := 4) HAT7.out.box rfl
        have z5 := heap_cell (i := 5) HAT7.out.box rfl
        have z6 := heap_cell (i := 6) HAT7.out.box rfl
        have z7 := heap_cell (i := 7) HAT7.out.box rfl
        have y0 := heap_cell (i := 0) HAT7.out.cls rfl
        have y1 := heap_cell (i := 1) HAT7.out.cls rfl
        have y2 := heap_cell (i := 2) HAT7.out.cls rfl
        have y3 := heap_cell (i := 3) HAT7.out.cls rfl
        have y4 := heap_cell (i := 4) HAT7.out.cls rfl
        have y5 := heap_cell (i := 5) HAT7.out.cls rfl
        have y6 := heap_cell (i := 6) HAT7.out.cls rfl
        clear hr8 hr61
        go_wp2_with fail
        with_reducible refine HC8.out.mono ?_
        rintro e w8 ⟨hb8, hm8⟩
        obtain ⟨st8, v8, rfl, hv8⟩ : ∃ st8 v8, e = .returned (.tuple #[st8, .int .i64 v8]) ∧ (0 < M → v8 = 61) := by
          cases r8 with
          | er v => exact ⟨_, _, hm8, fun h0 => by have := HR61.out h0; injection this⟩
          | ok sl8 =>
            obtain ⟨st8, _, rfl, _⟩ := hm8
            exact ⟨_, _, rfl, fun h0 => by have := HR61.out h0; cases this⟩
        have HAT8 := lhid (HAT7.out.below hb8)
        have HB8 := lhid (HB7.out.trans (Below.less hb8 HB7.out.size))
        clear hb8 hm8 z0 z1 z2 z3 z4 z5 z6 z7 y0 y1 y2 y3 y4 y5 y6
        have z3 := heap_cell (i := 3) HAT8.out.box rfl
        have y3 := heap_thaw HAT8.out.box 3
        go_upto_region 20 with fail
        go_cut [99] from 94 to 99 (fun t wx => t = .bool false ∧ wx = w8)
        case first =>
          obtain ⟨dM, hdM⟩ : ∃ d, decide (0 < M) = d := ⟨_, rfl⟩
          cases dM with
          | true =>
            obtain rfl := hv8 (of_decide_eq_true hdM)
            clear hv8
            go_wp2_with fail
            go_meet
            exact ⟨rfl, rfl⟩
          | false =>
            clear hv8
            go_wp2_with fail
            go_meet
            exact ⟨rfl, rfl⟩
        case rest =>
        obtain ⟨rfl, rfl⟩ := hcut
        clear hv8
        go_upto_region 23 with fail
        have hat9 : At l X [.int .i64 X.flags, .string (tx X.name), .string (tx X.super), .slice A3 X.ifaces.length d3, .slice A4 X.pool.length d4, .slice A5 X.fields.length d5, .slice A6 X.methods.length d6] w.heap.size w3.heap.size w2.heap.size tb (wc.setCell ⟨w.heap.size, 3, none⟩ (.int .i64 (M : Int))) { m with stack := (M : Int) } [.int .i64 m.flags, .string (tx m.name), .string (tx m.desc), .int .i64 (M : Int), .int .i64 m.locals, .slice B5 m.code.length e5, .slice B6 m.rows.length e6, .slice B7 m.frames.length e7] := HAT8.out.put rfl (meE_stack HAT8.out.meth _)
        have hsz9 : (wc.setCell ⟨w.heap.size, 3, none⟩ (.int .i64 (M : Int))).heap.size = wc.heap.size := by simp [World.setCell]
        have hb9 : Below w.heap.size w (wc.setCell ⟨w.heap.size, 3, none⟩ (.int .i64 (M : Int))) := HB8.out.setCell (p := ⟨w.heap.size, 3, none⟩) (Nat.le_refl _) _
        generalize wc.setCell ⟨w.heap.size, 3, none⟩ (.int .i64 (M : Int)) = W9 at hat9 hsz9 hb9 ⊢
        have HAT9 := lhid hat9
        have HB9 := lhid hb9
        clear hat9 hb9 z3 y3
        have hr10 : metR (ownL ++ l) X { m with stack := (M : Int) } = .ok sl := cut_same HFR.out HRW.out HMT.out hM20 HMM.out
        have HR10 := lhid hr10
        have HC10 := lhid (HAT9.out.call HLOK.out HMIS.out (show MeS { m with stack := (M : Int) } from ⟨show I6 (M : Int) from ⟨by omega, by omega⟩, (meS_q HMQ.out).locals, (meS_q HMQ.out).desc, (meS_q HMQ.out).rows, (meS_q HMQ.out).frames⟩) (fun A n cap h => HCAP.out A n cap h) HXQ.out HFND.out hr10)
        have z0 := heap_cell (i := 0) HAT9.out.box rfl
        have z1 := heap_cell (i := 1) HAT9.out.box rfl
        have z2 := heap_cell (i := 2) HAT9.out.box rfl
        have z3 := heap_cell (i := 3) HAT9.out.box rfl
        have z4 := heap_cell (i := 4) HAT9.out.box rfl
        have z5 := heap_cell (i := 5) HAT9.out.box rfl
        have z6 := heap_cell (i := 6) HAT9.out.box rfl
        have z7 := heap_cell (i := 7) HAT9.out.box rfl
        have y0 := heap_cell (i := 0) HAT9.out.cls rfl
        have y1 := heap_cell (i := 1) HAT9.out.cls rfl
        have y2 := heap_cell (i := 2) HAT9.out.cls rfl
        have y3 := heap_cell (i := 3) HAT9.out.cls rfl
        have y4 := heap_cell (i := 4) HAT9.out.cls rfl
        have y5 := heap_cell (i := 5) HAT9.out.cls rfl
        have y6 := heap_cell (i := 6) HAT9.out.cls rfl
        clear hr10
        go_wp2_with fail
        with_reducible refine HC10.out.mono ?_
        rintro e w10 ⟨hb10, hm10⟩
        obtain ⟨st10, D10, rfl, hst10⟩ := hm10
        obtain ⟨x1, hx1⟩ : ∃ x, sl[0]? = some x := ⟨_, List.getElem?_eq_getElem hslp⟩
        obtain ⟨g10, cp10, _, _, _, _, rfl, _⟩ := sts_at hst10 hx1
        have HAT10 := lhid (HAT9.out.below hb10)
        have HB10 := lhid (HB9.out.trans (Below.less hb10 HB9.out.size))
        have dM : (M : Int) ≤ 20 := by omega
        clear hb10 hst10 hx1 z0 z1 z2 z3 z4 z5 z6 z7 y0 y1 y2 y3 y4 y5 y6
        go_upto_region 26 with fail
        have z5 := heap_cell (i := 5) HAT10.out.box rfl
        have y5 := heap_thaw HAT10.out.box 5
        have hcd : RdX (fun g => g ≠ w.heap.size) 1 ByE w10 (.slice B5 m.code.length e5) m.code := by
          obtain ⟨a, b, d, he, q, _⟩ := HAT10.out.meth
          injection he with _ he; injection he with _ he; injection he with _ he; injection he with _ he; injection he with _ he; injection he with he _
          rw [he]
          exact q
        obtain ⟨hce, hcm⟩ := HCAP.out _ _ _ rfl
        have HCD := lhid hcd
        clear hcd
        go_cut [] from 122 to 133 (fun wx => ∃ gX cX, Hid (At l X [.int .i64 X.flags, .string (tx X.name), .string (tx X.super), .slice A3 X.ifaces.length d3, .slice A4 X.pool.length d4, .slice A5 X.fields.length d5, .slice A6 X.methods.length d6] w.heap.size w3.heap.size w2.heap.size tb wx { m with stack := (M : Int), code := m.code ++ [0] } [.int .i64 m.flags, .string (tx m.name), .string (tx m.desc), .int .i64 (M : Int), .int .i64 m.locals, .slice (some ⟨gX, 0, none⟩) (m.code.length + 1) cX, .slice B6 m.rows.length e6, .slice B7 m.frames.length e7]) ∧ Hid (m.code.length + 1 ≤ cX ∧ cX ≤ maxLen) ∧ Hid (Below w.heap.size w wx))
        case first =>
          have hbd : Below w10.heap.size w10 (w10.alloc (.cells #[.int .u8 0] 5)) := (Below.refl _ _).alloc (Nat.le_refl _) _
          have RDA : Hid (RdX Tru 1 ByE (w10.alloc (.cells #[.int .u8 0] 5)) (.slice B5 m.code.length m.code.length) m.code) := lhid (((rdX_cap HCD.out).below (keptX_by _) hbd).any fun _ _ => trivial)
          have hz11 := heap_cell (i := 0) (heap_alloc_new w10 (.cells #[.int .u8 0] 5)) rfl
          have hl20 : m.code.length ≤ 1048576 := HMQ.out.2.2.2.2.2.1
          have HZ11 := lhid hz11
          have HBD := lhid hbd
          have HATD := lhid (HAT10.out.below hbd)
          have z5t : ∀ w11, Below (w10.alloc (.cells #[.int .u8 0] 5)).heap.size (w10.alloc (.cells #[.int .u8 0] 5)) w11 → w11.cell? ⟨w.heap.size, 5, none⟩ = some (.slice B5 m.code.length e5) := fun w11 hb => heap_cell (HATD.out.below hb).box rfl
          have y5t : ∀ w11, Below (w10.alloc (.cells #[.int .u8 0] 5)).heap.size (w10.alloc (.cells #[.int .u8 0] 5)) w11 → w11.frozen? ⟨w.heap.size, 5, none⟩ = false := fun w11 hb => heap_thaw (HATD.out.below hb).box 5
          have hS0 : w.heap.size < w10.heap.size := heap_lt HAT10.out.box
          have join11 : ∀ {b cp11 : Nat} {w11 : World}, (w10.alloc (.cells #[.int .u8 0] 5)).heap.size = b → Below (w10.alloc (.cells #[.int .u8 0] 5)).heap.size (w10.alloc (.cells #[.int .u8 0] 5)) w11 → RdX (fun k => k = (w10.alloc (.cells #[.int .u8 0] 5)).heap.size) 1 ByE w11 (.slice (some ⟨(w10.alloc (.cells #[.int .u8 0] 5)).heap.size, 0, none⟩) (m.code ++ [0]).length cp11) (m.code ++ [0]) → m.code.length + 1 ≤ cp11 → cp11 ≤ maxLen →
              ∃ gX cX, Hid (At l X [.int .i64 X.flags, .string (tx X.name), .string (tx X.super), .slice A3 X.ifaces.length d3, .slice A4 X.pool.length d4, .slice A5 X.fields.length d5, .slice A6 X.methods.length d6] w.heap.size w3.heap.size w2.heap.size tb (w11.setCell ⟨w.heap.size, 5, none⟩ (.slice (some ⟨b, 0, none⟩) (m.code.length + 1) cp11)) { m with stack := (M : Int), code := m.code ++ [0] } [.int .i64 m.flags, .string (tx m.name), .string (tx m.desc), .int .i64 (M : Int), .int .i64 m.locals, .slice (some ⟨gX, 0, none⟩) (m.code.length + 1) cX, .slice B6 m.rows.length e6, .slice B7 m.frames.length e7]) ∧ Hid (m.code.length + 1 ≤ cX ∧ cX ≤ maxLen) ∧ Hid (Below w.heap.size w (w11.setCell ⟨w.heap.size, 5, none⟩ (.slice (some ⟨b, 0, none⟩) (m.code.length + 1) cp11))) := fun {b cp11 w11} hbe hb11 hr11 hc1 hc2 => by
            subst hbe
            have ha := HATD.out.below hb11
            have hz1 : (w10.alloc (.cells #[.int .u8 0] 5)).heap.size = w10.heap.size + 1 := by simp
            refine ⟨(w10.alloc (.cells #[.int .u8 0] 5)).heap.size, cp11, lhid (ha.put rfl (meE_code ha.meth (v := .slice (some ⟨(w10.alloc (.cells #[.int .u8 0] 5)).heap.size, 0, none⟩) (m.code.length + 1) cp11) (by rw [show m.code.length + 1 = (m.code ++ [(0 : UInt8)]).length by simp]; exact hr11.any fun g hg => by omega))), lhid ⟨hc1, hc2⟩, lhid (Below.setCell (p := ⟨w.heap.size, 5, none⟩) (HB10.out.trans (Below.less (HBD.out.trans (Below.less hb11 HBD.out.size)) HB10.out.size)) (Nat.le_refl _) _)⟩
          have Z5T := lhid z5t
          have Y5T := lhid y5t
          clear HCD hz11 hbd z5t y5t
          cases B5 with
          | none =>
            go_wp2_with (at_builtin; refine wpList_app_full (A := none) (L := m.code) rfl (.tmp 130) (.tmp 131) rfl rfl rfl RDA.out hl20 HZ11.out ?_; intro cp11 w11 hb11 hr11 hc1 hc2; have z5b := Z5T.out w11 hb11; have y5b := Y5T.out w11 hb11)
            go_meet
            exact join11 (by simp) hb11 hr11 hc1 hc2
          | some ad =>
            go_wp2_with (at_builtin; refine wpList_app_full (A := some ad) (L := m.code) rfl (.tmp 130) (.tmp 131) rfl rfl rfl RDA.out hl20 HZ11.out ?_; intro cp11 w11 hb11 hr11 hc1 hc2; have z5b := Z5T.out w11 hb11; have y5b := Y5T.out w11 hb11)
            go_meet
            exact join11 (by simp) hb11 hr11 hc1 hc2
        case rest =>
          obtain ⟨gX, cX, HAT12, HCX12, HB12⟩ := hcut
          have hr13 : metR (ownL ++ l) X { m with stack := (M : Int), code := m.code ++ [0] } = .er 60 ∨ metR (ownL ++ l) X { m with stack := (M : Int), code := m.code ++ [0] } = .er 2 := cut_behind (m := { m with stack := (M : Int) }) HFR.out HRW.out HR10.out
          obtain ⟨v13, hv13, hq13⟩ : ∃ v, metR (ownL ++ l) X { m with stack := (M : Int), code := m.code ++ [0] } = .er v ∧ (v = 60 ∨ v = 2) := by
            rcases hr13 with h | h
            · exact ⟨_, h, .inl rfl⟩
            · exact ⟨_, h, .inr rfl⟩
          have HC13 := lhid (HAT12.out.call HLOK.out HMIS.out (show MeS { m with stack := (M : Int), code := m.code ++ [0] } from ⟨show I6 (M : Int) from ⟨by omega, by omega⟩, (meS_q HMQ.out).locals, (meS_q HMQ.out).desc, (meS_q HMQ.out).rows, (meS_q HMQ.out).frames⟩) (fun A n cap h => by
            injection h with h
            injection h with h1 h2 h3
            subst h2
            subst h3
            have := HCX12.out
            exact ⟨this.1, this.2⟩) HXQ.out HFND.out hv13)
          have HQ13 := lhid hq13
          have z0 := heap_cell (i := 0) HAT12.out.box rfl
          have z1 := heap_cell (i := 1) HAT12.out.box rfl
          have z2 := heap_cell (i := 2) HAT12.out.box rfl
          have z3 := heap_cell (i := 3) HAT12.out.box rfl
          have z4 := heap_cell (i := 4) HAT12.out.box rfl
          have z5 := heap_cell (i := 5) HAT12.out.box rfl
          have z6 := heap_cell (i := 6) HAT12.out.box rfl
          have z7 := heap_cell (i := 7) HAT12.out.box rfl
          have y0 := heap_cell (i := 0) HAT12.out.cls rfl
          have y1 := heap_cell (i := 1) HAT12.out.cls rfl
          have y2 := heap_cell (i := 2) HAT12.out.cls rfl
          have y3 := heap_cell (i := 3) HAT12.out.cls rfl
          have y4 := heap_cell (i := 4) HAT12.out.cls rfl
          have y5 := heap_cell (i := 5) HAT12.out.cls rfl
          have y6 := heap_cell (i := 6) HAT12.out.cls rfl
          clear hr13 hv13 hq13
          go_wp2_with fail
          with_reducible refine HC13.out.mono ?_
          rintro e w14 ⟨hb14, rfl⟩
          have HB14 := lhid (HB12.out.trans (Below.less hb14 HB12.out.size))
          clear hb14 z0 z1 z2 z3 z4 z5 z6 z7 y0 y1 y2 y3 y4 y5 y6
          rcases HQ13.out with rfl | rfl
          · go_wp2_with fail
            go_ret
            exact ⟨rfl, HB14.out⟩
          · go_wp2_with fail
            go_ret
            exact ⟨rfl, HB14.out⟩
end Go.Proofs.YtpdnonlelocfbaaGreatDoor
