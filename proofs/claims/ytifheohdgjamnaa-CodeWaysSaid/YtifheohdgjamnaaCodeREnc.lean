/- Contract of the document's Encode. Written by gen_code.py. -/
import Derived.Test.YtifheohdgjamnaaCodeEncode
import Derived.Test.YtifheohdgjamnaaCodeRDec
namespace Go.Proofs.Ytifheohdgjamnaa
open Go.RowKit Go
set_option linter.unusedVariables false

theorem rsame_y (v u : Value) (l m : List Cop) (w : World) (h1 : Hid (RdO w v l)) (h2 : Hid (RdO w u m)) (h : Hid (l = m)) :
    Calls Try.prog 11 #[v, u] w fun e w' => e = .returned (.bool true) ∧ Below w.heap.size w w' := by
  refine (rsame_any v u l m w h1 h2).mono ?_
  rintro e w' ⟨⟨r, rfl, hr⟩, hb⟩
  rw [hr.2 h.out]
  exact ⟨rfl, hb⟩
theorem rsame_n (v u : Value) (l m : List Cop) (w : World) (h1 : Hid (RdO w v l)) (h2 : Hid (RdO w u m)) (h : Hid (l ≠ m)) :
    Calls Try.prog 11 #[v, u] w fun e w' => e = .returned (.bool false) ∧ Below w.heap.size w w' := by
  refine (rsame_any v u l m w h1 h2).mono ?_
  rintro e w' ⟨⟨r, rfl, hr⟩, hb⟩
  cases r
  · exact ⟨rfl, hb⟩
  · exact absurd (hr.1 rfl) h.out
theorem own_as {w : World} {B : Nat} {A : Option Addr} {c n : Nat} {l : Bs} {xs : List Value} (h : w.ownsRow B 5 1 (.slice A n c) n xs) (hn : n = l.length) (hx : xs = l.flatMap bytE) : OwB w B (.slice A l.length c) l := by
  subst hn hx
  exact h
theorem laidD_row {x : Cop} {r : Nat} (h : rowN x.code = r) : laidD x = by8 x.code :: laidS r x := by unfold laidD; rw [h]
set_option maxHeartbeats 16000000 in
set_option maxRecDepth 100000 in
theorem rencode_any (l : List Cop) (v : Value) (w : World) (h : Hid (RdO w v l)) :
    Calls Try.prog 13 #[v] w (EOut (encR l) w) := by
  obtain ⟨A0, cA, rfl⟩ := h.out.shape
  have hl := h.out.len
  obtain ⟨i0, hi0, hz0, hz1, hz2⟩ := info_parts infoBy
  go_enter Try.func13, Try.ntmps13
  go_wp2_with fail
  go_loopw [4, 5] (fun b i wr => ∃ (Bt : Bs) (A : Option Addr) (c k : Nat), b = .slice A Bt.length c ∧ i = .int .i64 k ∧ k ≤ l.length ∧ Hid ((l.take k).flatMap laidD = Bt) ∧ Bt.length ≤ 4003 ∧ Hid (OwB wr w.heap.size (.slice A Bt.length c) Bt) ∧ Hid (Below w.heap.size w wr)) (fun _ i _ => l.length - (intOf i).toNat)
  case atStart => exact ⟨[], none, 0, 0, rfl, rfl, Nat.zero_le _, lhid (by simp), Nat.zero_le _, lhid (World.ownsRow_nil _ _ _ _), lhid (Below.refl _ _)⟩
  case round =>
    obtain ⟨Bt, A, c, k, rfl, rfl, hk, HBt, hbl, HO, HB⟩ := hrel
    by_cases hlt : k < l.length
    · have k3 : (k : Int) < l.length := by omega
      by_cases h4 : 4000 < Bt.length
      · have k4 : ¬ (Bt.length : Int) ≤ 4000 := by omega
        have HE := lhid (encR_long (l := l) (k := k) (.inr rfl) (by rw [HBt.out]; exact h4))
        have HV := lhid (bts_own HO.out (by omega))
        have HD := lhid (decR_long Bt h4)
        clear h4 HBt
        go_wp2_with fail
        with_reducible refine (rdecode_any Bt _ _ HV).mono ?_
        rw [HD.out]
        rintro e w2 ⟨⟨v2, rfl, hv2⟩, hb2⟩
        have HB2 := lhid (HB.out.trans (hb2.mono HB.out.size))
        clear hb2 hv2
        go_wp2_with fail
        go_ret2
        exact eout_no HE.out HB2.out
      · have k4 : (Bt.length : Int) ≤ 4000 := by omega
        obtain ⟨x, hx⟩ : ∃ x, l[k]? = some x := ⟨_, List.getElem?_eq_getElem hlt⟩
        have HX := lhid hx
        obtain ⟨g, o, rfl, hc⟩ := (h.out.below HB.out).at' hx
        obtain ⟨c0, c1, c2, c3⟩ := cell4 hc
        have HB2 := lhid (show (l.take (k + 1)).flatMap laidD = Bt ++ laidD x by rw [flat_on HX.out, HBt.out])
        have hxl := laidD_len x
        have hgl : g < wr.heap.size := cell_lt c0
        have hle := rowN_le x.code
        obtain ⟨r, hr⟩ : ∃ r, rowN x.code = r := ⟨_, rfl⟩
        have HW := lhid hr
        have HLD := lhid (laidD_row hr)
        have hlt2 : ∀ q, (Value.slice A Bt.length c).ownBlock = some q → q < wr.heap.size := fun q hq => (HO.out.lt q hq).2
        have HLT := lhid hlt2
        clear hx hc h4 hlt2
        rw [hr] at hle
        clear hr
        rcases row_ways hle with rfl | rfl | rfl | rfl | rfl | rfl | rfl | rfl
        · clear hle
          go_wp2_with fail
          with_reducible refine (rrow_r _ 0 _ HW).mono ?_
          rintro e w2 ⟨rfl, hb2⟩
          have HBX : w2.heap[wr.heap.size]? = some (.cells #[.int .i64 x.pc, .int .i64 x.code, .int .i64 x.a, .int .i64 x.b] 38 (0, 0)) := (hb2.block _ (by simp)).trans (heap_alloc_new wr _)
          have hb3 := ((Below.refl wr.heap.size wr).alloc (Nat.le_refl _) (.cells #[.int .i64 x.pc, .int .i64 x.code, .int .i64 x.a, .int .i64 x.b] 38)).trans (hb2.mono (by simp))
          have HO2 := lhid (own_below HO.out hb3)
          have HB3 := lhid (HB.out.trans (hb3.mono HB.out.size))
          have hbs := HB3.out.size
          have p0 := heap_cell (i := 0) HBX rfl
          have p1 := heap_cell (i := 1) HBX rfl
          have p2 := heap_cell (i := 2) HBX rfl
          have p3 := heap_cell (i := 3) HBX rfl
          have hbz : wr.heap.size < w2.heap.size := heap_lt HBX
          have HBXh := lhid HBX
          clear hb2 hb3 HBX
          go_wp2_with (at_builtin; refine wpList_append_own _ rfl (.tmp 29) (.tmp 33) 22 rfl w.heap.size 5 i0 (.int .u8 0) 1 1 Try.underlying22 hi0 hz0 hz1 hz2 rfl (by decide) (.slice A (Bt.length) c) (Bt.length) (Bt.flatMap bytE) rfl (HO2.out.alloc _) ⟨w2.heap.size, 0, none⟩ 1 1 [.int .u8 (x.code % 256)] rfl rfl ?a1 ?a2 ?a3 ?a4 ?a5 ?_)
          case a1 => exact new_cells' w2 [.int .u8 (x.code % 256)] _ _ (by simp)
          case a2 => intro u hu; simp at hu; subst hu; simp [Value.oneCell']
          case a3 => unfold maxLen; omega
          case a4 => omega
          case a5 => simp; omega
          intro v' w4 hown hgrow _
          obtain ⟨A', c', rfl⟩ := own_shape hown
          have HO4 := lhid hown
          have hge := own_lt (HO2.out.alloc (.cells #[.int .u8 (x.code % 256)] 5))
          have HB4 := lhid ((HB3.out.alloc hbs (.cells #[.int .u8 (x.code % 256)] 5)).grown hgrow (by simp; omega) hge)
          have hbs4 := HB4.out.size
          have HBX4 : w4.heap[wr.heap.size]? = some (.cells #[.int .i64 x.pc, .int .i64 x.code, .int .i64 x.a, .int .i64 x.b] 38 (0, 0)) := (hgrow.block _ (by simp; omega) (fun e => by have := HLT.out _ e.symm; omega)).trans ((heap_alloc_old _ _ hbz).trans HBXh.out)
          clear p0 p1 p2 p3
          have p0 := heap_cell (i := 0) HBX4 rfl
          have p2 := heap_cell (i := 2) HBX4 rfl
          have p3 := heap_cell (i := 3) HBX4 rfl
          have hbz4 : wr.heap.size < w4.heap.size := heap_lt HBX4
          clear hown hgrow hge HBX4
          have HO6 := lhid (own_as (l := Bt ++ laidD x) HO4.out (by rw [HLD.out]; simp [laidS]) (by rw [HLD.out]; simp [laidS, bytE, by8_val]))
          go_wp2
          go_roundw
          case rel =>
            refine ⟨Bt ++ laidD x, A', c', k + 1, by rw [HLD.out]; simp [laidS], by go_num, by omega, HB2, by simp; omega, HO6, HB4⟩
          case measure => simp [intOf]; omega
        · clear hle
          go_wp2_with fail
          with_reducible refine (rrow_r _ 1 _ HW).mono ?_
          rintro e w2 ⟨rfl, hb2⟩
          have HBX : w2.heap[wr.heap.size]? = some (.cells #[.int .i64 x.pc, .int .i64 x.code, .int .i64 x.a, .int .i64 x.b] 38 (0, 0)) := (hb2.block _ (by simp)).trans (heap_alloc_new wr _)
          have hb3 := ((Below.refl wr.heap.size wr).alloc (Nat.le_refl _) (.cells #[.int .i64 x.pc, .int .i64 x.code, .int .i64 x.a, .int .i64 x.b] 38)).trans (hb2.mono (by simp))
          have HO2 := lhid (own_below HO.out hb3)
          have HB3 := lhid (HB.out.trans (hb3.mono HB.out.size))
          have hbs := HB3.out.size
          have p0 := heap_cell (i := 0) HBX rfl
          have p1 := heap_cell (i := 1) HBX rfl
          have p2 := heap_cell (i := 2) HBX rfl
          have p3 := heap_cell (i := 3) HBX rfl
          have hbz : wr.heap.size < w2.heap.size := heap_lt HBX
          have HBXh := lhid HBX
          clear hb2 hb3 HBX
          go_wp2_with (at_builtin; refine wpList_append_own _ rfl (.tmp 29) (.tmp 33) 22 rfl w.heap.size 5 i0 (.int .u8 0) 1 1 Try.underlying22 hi0 hz0 hz1 hz2 rfl (by decide) (.slice A (Bt.length) c) (Bt.length) (Bt.flatMap bytE) rfl (HO2.out.alloc _) ⟨w2.heap.size, 0, none⟩ 1 1 [.int .u8 (x.code % 256)] rfl rfl ?a1 ?a2 ?a3 ?a4 ?a5 ?_)
          case a1 => exact new_cells' w2 [.int .u8 (x.code % 256)] _ _ (by simp)
          case a2 => intro u hu; simp at hu; subst hu; simp [Value.oneCell']
          case a3 => unfold maxLen; omega
          case a4 => omega
          case a5 => simp; omega
          intro v' w4 hown hgrow _
          obtain ⟨A', c', rfl⟩ := own_shape hown
          have HO4 := lhid hown
          have hge := own_lt (HO2.out.alloc (.cells #[.int .u8 (x.code % 256)] 5))
          have HB4 := lhid ((HB3.out.alloc hbs (.cells #[.int .u8 (x.code % 256)] 5)).grown hgrow (by simp; omega) hge)
          have hbs4 := HB4.out.size
          have HBX4 : w4.heap[wr.heap.size]? = some (.cells #[.int .i64 x.pc, .int .i64 x.code, .int .i64 x.a, .int .i64 x.b] 38 (0, 0)) := (hgrow.block _ (by simp; omega) (fun e => by have := HLT.out _ e.symm; omega)).trans ((heap_alloc_old _ _ hbz).trans HBXh.out)
          clear p0 p1 p2 p3
          have p0 := heap_cell (i := 0) HBX4 rfl
          have p2 := heap_cell (i := 2) HBX4 rfl
          have p3 := heap_cell (i := 3) HBX4 rfl
          have hbz4 : wr.heap.size < w4.heap.size := heap_lt HBX4
          clear hown hgrow hge HBX4
          have HO6 := lhid (own_as (l := Bt ++ laidD x) HO4.out (by rw [HLD.out]; simp [laidS]) (by rw [HLD.out]; simp [laidS, bytE, by8_val]))
          go_wp2
          go_roundw
          case rel =>
            refine ⟨Bt ++ laidD x, A', c', k + 1, by rw [HLD.out]; simp [laidS], by go_num, by omega, HB2, by simp; omega, HO6, HB4⟩
          case measure => simp [intOf]; omega
        · clear hle
          go_wp2_with fail
          with_reducible refine (rrow_r _ 2 _ HW).mono ?_
          rintro e w2 ⟨rfl, hb2⟩
          have HBX : w2.heap[wr.heap.size]? = some (.cells #[.int .i64 x.pc, .int .i64 x.code, .int .i64 x.a, .int .i64 x.b] 38 (0, 0)) := (hb2.block _ (by simp)).trans (heap_alloc_new wr _)
          have hb3 := ((Below.refl wr.heap.size wr).alloc (Nat.le_refl _) (.cells #[.int .i64 x.pc, .int .i64 x.code, .int .i64 x.a, .int .i64 x.b] 38)).trans (hb2.mono (by simp))
          have HO2 := lhid (own_below HO.out hb3)
          have HB3 := lhid (HB.out.trans (hb3.mono HB.out.size))
          have hbs := HB3.out.size
          have p0 := heap_cell (i := 0) HBX rfl
          have p1 := heap_cell (i := 1) HBX rfl
          have p2 := heap_cell (i := 2) HBX rfl
          have p3 := heap_cell (i := 3) HBX rfl
          have hbz : wr.heap.size < w2.heap.size := heap_lt HBX
          have HBXh := lhid HBX
          clear hb2 hb3 HBX
          go_wp2_with (at_builtin; refine wpList_append_own _ rfl (.tmp 29) (.tmp 33) 22 rfl w.heap.size 5 i0 (.int .u8 0) 1 1 Try.underlying22 hi0 hz0 hz1 hz2 rfl (by decide) (.slice A (Bt.length) c) (Bt.length) (Bt.flatMap bytE) rfl (HO2.out.alloc _) ⟨w2.heap.size, 0, none⟩ 1 1 [.int .u8 (x.code % 256)] rfl rfl ?a1 ?a2 ?a3 ?a4 ?a5 ?_)
          case a1 => exact new_cells' w2 [.int .u8 (x.code % 256)] _ _ (by simp)
          case a2 => intro u hu; simp at hu; subst hu; simp [Value.oneCell']
          case a3 => unfold maxLen; omega
          case a4 => omega
          case a5 => simp; omega
          intro v' w4 hown hgrow _
          obtain ⟨A', c', rfl⟩ := own_shape hown
          have HO4 := lhid hown
          have hge := own_lt (HO2.out.alloc (.cells #[.int .u8 (x.code % 256)] 5))
          have HB4 := lhid ((HB3.out.alloc hbs (.cells #[.int .u8 (x.code % 256)] 5)).grown hgrow (by simp; omega) hge)
          have hbs4 := HB4.out.size
          have HBX4 : w4.heap[wr.heap.size]? = some (.cells #[.int .i64 x.pc, .int .i64 x.code, .int .i64 x.a, .int .i64 x.b] 38 (0, 0)) := (hgrow.block _ (by simp; omega) (fun e => by have := HLT.out _ e.symm; omega)).trans ((heap_alloc_old _ _ hbz).trans HBXh.out)
          clear p0 p1 p2 p3
          have p0 := heap_cell (i := 0) HBX4 rfl
          have p2 := heap_cell (i := 2) HBX4 rfl
          have p3 := heap_cell (i := 3) HBX4 rfl
          have hbz4 : wr.heap.size < w4.heap.size := heap_lt HBX4
          clear hown hgrow hge HBX4
          go_wp2_with (at_builtin; refine wpList_append_own _ rfl (.tmp 50) (.tmp 53) 22 rfl w.heap.size 5 i0 (.int .u8 0) 1 1 Try.underlying22 hi0 hz0 hz1 hz2 rfl (by decide) (.slice A' (Bt.length + 1) c') (Bt.length + 1) (Bt.flatMap bytE ++ [.int .u8 (x.code % 256)]) rfl (HO4.out.alloc _) ⟨w4.heap.size, 0, none⟩ 1 1 [.int .u8 (x.a % 256)] rfl rfl ?b1 ?b2 ?b3 ?b4 ?b5 ?_)
          case b1 => exact new_cells' w4 [.int .u8 (x.a % 256)] _ _ (by simp)
          case b2 => intro u hu; simp at hu; subst hu; simp [Value.oneCell']
          case b3 => unfold maxLen; omega
          case b4 => omega
          case b5 => simp; omega
          intro v' w6 hown hgrow _
          obtain ⟨A2, c2', rfl⟩ := own_shape hown
          have HO6 := lhid (own_as (l := Bt ++ laidD x) hown (by rw [HLD.out]; simp [laidS]) (by rw [HLD.out]; simp [laidS, bytE, by8_val]))
          have hge := own_lt (HO4.out.alloc (.cells #[.int .u8 (x.a % 256)] 5))
          have HB6 := lhid ((HB4.out.alloc hbs4 (.cells #[.int .u8 (x.a % 256)] 5)).grown hgrow (by simp; omega) hge)
          clear hown hgrow hge
          go_wp2
          go_roundw
          case rel =>
            refine ⟨Bt ++ laidD x, A2, c2', k + 1, by rw [HLD.out]; simp [laidS], by go_num, by omega, HB2, by simp; omega, HO6, HB6⟩
          case measure => simp [intOf]; omega
        · clear hle
          go_wp2_with fail
          with_reducible refine (rrow_r _ 3 _ HW).mono ?_
          rintro e w2 ⟨rfl, hb2⟩
          have HBX : w2.heap[wr.heap.size]? = some (.cells #[.int .i64 x.pc, .int .i64 x.code, .int .i64 x.a, .int .i64 x.b] 38 (0, 0)) := (hb2.block _ (by simp)).trans (heap_alloc_new wr _)
          have hb3 := ((Below.refl wr.heap.size wr).alloc (Nat.le_refl _) (.cells #[.int .i64 x.pc, .int .i64 x.code, .int .i64 x.a, .int .i64 x.b] 38)).trans (hb2.mono (by simp))
          have HO2 := lhid (own_below HO.out hb3)
          have HB3 := lhid (HB.out.trans (hb3.mono HB.out.size))
          have hbs := HB3.out.size
          have p0 := heap_cell (i := 0) HBX rfl
          have p1 := heap_cell (i := 1) HBX rfl
          have p2 := heap_cell (i := 2) HBX rfl
          have p3 := heap_cell (i := 3) HBX rfl
          have hbz : wr.heap.size < w2.heap.size := heap_lt HBX
          have HBXh := lhid HBX
          clear hb2 hb3 HBX
          go_wp2_with (at_builtin; refine wpList_append_own _ rfl (.tmp 29) (.tmp 33) 22 rfl w.heap.size 5 i0 (.int .u8 0) 1 1 Try.underlying22 hi0 hz0 hz1 hz2 rfl (by decide) (.slice A (Bt.length) c) (Bt.length) (Bt.flatMap bytE) rfl (HO2.out.alloc _) ⟨w2.heap.size, 0, none⟩ 1 1 [.int .u8 (x.code % 256)] rfl rfl ?a1 ?a2 ?a3 ?a4 ?a5 ?_)
          case a1 => exact new_cells' w2 [.int .u8 (x.code % 256)] _ _ (by simp)
          case a2 => intro u hu; simp at hu; subst hu; simp [Value.oneCell']
          case a3 => unfold maxLen; omega
          case a4 => omega
          case a5 => simp; omega
          intro v' w4 hown hgrow _
          obtain ⟨A', c', rfl⟩ := own_shape hown
          have HO4 := lhid hown
          have hge := own_lt (HO2.out.alloc (.cells #[.int .u8 (x.code % 256)] 5))
          have HB4 := lhid ((HB3.out.alloc hbs (.cells #[.int .u8 (x.code % 256)] 5)).grown hgrow (by simp; omega) hge)
          have hbs4 := HB4.out.size
          have HBX4 : w4.heap[wr.heap.size]? = some (.cells #[.int .i64 x.pc, .int .i64 x.code, .int .i64 x.a, .int .i64 x.b] 38 (0, 0)) := (hgrow.block _ (by simp; omega) (fun e => by have := HLT.out _ e.symm; omega)).trans ((heap_alloc_old _ _ hbz).trans HBXh.out)
          clear p0 p1 p2 p3
          have p0 := heap_cell (i := 0) HBX4 rfl
          have p2 := heap_cell (i := 2) HBX4 rfl
          have p3 := heap_cell (i := 3) HBX4 rfl
          have hbz4 : wr.heap.size < w4.heap.size := heap_lt HBX4
          clear hown hgrow hge HBX4
          go_wp2_with (at_builtin; refine wpList_append_own _ rfl (.tmp 50) (.tmp 53) 22 rfl w.heap.size 5 i0 (.int .u8 0) 1 1 Try.underlying22 hi0 hz0 hz1 hz2 rfl (by decide) (.slice A' (Bt.length + 1) c') (Bt.length + 1) (Bt.flatMap bytE ++ [.int .u8 (x.code % 256)]) rfl (HO4.out.alloc _) ⟨w4.heap.size, 0, none⟩ 1 1 [.int .u8 (x.a % 256)] rfl rfl ?b1 ?b2 ?b3 ?b4 ?b5 ?_)
          case b1 => exact new_cells' w4 [.int .u8 (x.a % 256)] _ _ (by simp)
          case b2 => intro u hu; simp at hu; subst hu; simp [Value.oneCell']
          case b3 => unfold maxLen; omega
          case b4 => omega
          case b5 => simp; omega
          intro v' w6 hown hgrow _
          obtain ⟨A2, c2', rfl⟩ := own_shape hown
          have HO6 := lhid (own_as (l := Bt ++ laidD x) hown (by rw [HLD.out]; simp [laidS]) (by rw [HLD.out]; simp [laidS, bytE, by8_val]))
          have hge := own_lt (HO4.out.alloc (.cells #[.int .u8 (x.a % 256)] 5))
          have HB6 := lhid ((HB4.out.alloc hbs4 (.cells #[.int .u8 (x.a % 256)] 5)).grown hgrow (by simp; omega) hge)
          clear hown hgrow hge
          go_wp2
          go_roundw
          case rel =>
            refine ⟨Bt ++ laidD x, A2, c2', k + 1, by rw [HLD.out]; simp [laidS], by go_num, by omega, HB2, by simp; omega, HO6, HB6⟩
          case measure => simp [intOf]; omega
        · clear hle
          go_wp2_with fail
          with_reducible refine (rrow_r _ 4 _ HW).mono ?_
          rintro e w2 ⟨rfl, hb2⟩
          have HBX : w2.heap[wr.heap.size]? = some (.cells #[.int .i64 x.pc, .int .i64 x.code, .int .i64 x.a, .int .i64 x.b] 38 (0, 0)) := (hb2.block _ (by simp)).trans (heap_alloc_new wr _)
          have hb3 := ((Below.refl wr.heap.size wr).alloc (Nat.le_refl _) (.cells #[.int .i64 x.pc, .int .i64 x.code, .int .i64 x.a, .int .i64 x.b] 38)).trans (hb2.mono (by simp))
          have HO2 := lhid (own_below HO.out hb3)
          have HB3 := lhid (HB.out.trans (hb3.mono HB.out.size))
          have hbs := HB3.out.size
          have p0 := heap_cell (i := 0) HBX rfl
          have p1 := heap_cell (i := 1) HBX rfl
          have p2 := heap_cell (i := 2) HBX rfl
          have p3 := heap_cell (i := 3) HBX rfl
          have hbz : wr.heap.size < w2.heap.size := heap_lt HBX
          have HBXh := lhid HBX
          clear hb2 hb3 HBX
          go_wp2_with (at_builtin; refine wpList_append_own _ rfl (.tmp 29) (.tmp 33) 22 rfl w.heap.size 5 i0 (.int .u8 0) 1 1 Try.underlying22 hi0 hz0 hz1 hz2 rfl (by decide) (.slice A (Bt.length) c) (Bt.length) (Bt.flatMap bytE) rfl (HO2.out.alloc _) ⟨w2.heap.size, 0, none⟩ 1 1 [.int .u8 (x.code % 256)] rfl rfl ?a1 ?a2 ?a3 ?a4 ?a5 ?_)
          case a1 => exact new_cells' w2 [.int .u8 (x.code % 256)] _ _ (by simp)
          case a2 => intro u hu; simp at hu; subst hu; simp [Value.oneCell']
          case a3 => unfold maxLen; omega
          case a4 => omega
          case a5 => simp; omega
          intro v' w4 hown hgrow _
          obtain ⟨A', c', rfl⟩ := own_shape hown
          have HO4 := lhid hown
          have hge := own_lt (HO2.out.alloc (.cells #[.int .u8 (x.code % 256)] 5))
          have HB4 := lhid ((HB3.out.alloc hbs (.cells #[.int .u8 (x.code % 256)] 5)).grown hgrow (by simp; omega) hge)
          have hbs4 := HB4.out.size
          have HBX4 : w4.heap[wr.heap.size]? = some (.cells #[.int .i64 x.pc, .int .i64 x.code, .int .i64 x.a, .int .i64 x.b] 38 (0, 0)) := (hgrow.block _ (by simp; omega) (fun e => by have := HLT.out _ e.symm; omega)).trans ((heap_alloc_old _ _ hbz).trans HBXh.out)
          clear p0 p1 p2 p3
          have p0 := heap_cell (i := 0) HBX4 rfl
          have p2 := heap_cell (i := 2) HBX4 rfl
          have p3 := heap_cell (i := 3) HBX4 rfl
          have hbz4 : wr.heap.size < w4.heap.size := heap_lt HBX4
          clear hown hgrow hge HBX4
          go_wp2_with (at_builtin; refine wpList_append_own _ rfl (.tmp 61) (.tmp 67) 22 rfl w.heap.size 5 i0 (.int .u8 0) 1 1 Try.underlying22 hi0 hz0 hz1 hz2 rfl (by decide) (.slice A' (Bt.length + 1) c') (Bt.length + 1) (Bt.flatMap bytE ++ [.int .u8 (x.code % 256)]) rfl (HO4.out.alloc _) ⟨w4.heap.size, 0, none⟩ 2 2 [.int .u8 (x.a / 256 % 256), .int .u8 (x.a % 256)] rfl rfl ?b1 ?b2 ?b3 ?b4 ?b5 ?_)
          case b1 => exact new_cells' w4 [.int .u8 (x.a / 256 % 256), .int .u8 (x.a % 256)] _ _ (by simp)
          case b2 => intro u hu; simp at hu; rcases hu with rfl | rfl <;> simp [Value.oneCell']
          case b3 => unfold maxLen; omega
          case b4 => omega
          case b5 => simp; omega
          intro v' w6 hown hgrow _
          obtain ⟨A2, c2', rfl⟩ := own_shape hown
          have HO6 := lhid (own_as (l := Bt ++ laidD x) hown (by rw [HLD.out]; simp [laidS]) (by rw [HLD.out]; simp [laidS, bytE, by8_val]))
          have hge := own_lt (HO4.out.alloc (.cells #[.int .u8 (x.a / 256 % 256), .int .u8 (x.a % 256)] 5))
          have HB6 := lhid ((HB4.out.alloc hbs4 (.cells #[.int .u8 (x.a / 256 % 256), .int .u8 (x.a % 256)] 5)).grown hgrow (by simp; omega) hge)
          clear hown hgrow hge
          go_wp2
          go_roundw
          case rel =>
            refine ⟨Bt ++ laidD x, A2, c2', k + 1, by rw [HLD.out]; simp [laidS], by go_num, by omega, HB2, by simp; omega, HO6, HB6⟩
          case measure => simp [intOf]; omega
        · clear hle
          go_wp2_with fail
          with_reducible refine (rrow_r _ 5 _ HW).mono ?_
          rintro e w2 ⟨rfl, hb2⟩
          have HBX : w2.heap[wr.heap.size]? = some (.cells #[.int .i64 x.pc, .int .i64 x.code, .int .i64 x.a, .int .i64 x.b] 38 (0, 0)) := (hb2.block _ (by simp)).trans (heap_alloc_new wr _)
          have hb3 := ((Below.refl wr.heap.size wr).alloc (Nat.le_refl _) (.cells #[.int .i64 x.pc, .int .i64 x.code, .int .i64 x.a, .int .i64 x.b] 38)).trans (hb2.mono (by simp))
          have HO2 := lhid (own_below HO.out hb3)
          have HB3 := lhid (HB.out.trans (hb3.mono HB.out.size))
          have hbs := HB3.out.size
          have p0 := heap_cell (i := 0) HBX rfl
          have p1 := heap_cell (i := 1) HBX rfl
          have p2 := heap_cell (i := 2) HBX rfl
          have p3 := heap_cell (i := 3) HBX rfl
          have hbz : wr.heap.size < w2.heap.size := heap_lt HBX
          have HBXh := lhid HBX
          clear hb2 hb3 HBX
          go_wp2_with (at_builtin; refine wpList_append_own _ rfl (.tmp 29) (.tmp 33) 22 rfl w.heap.size 5 i0 (.int .u8 0) 1 1 Try.underlying22 hi0 hz0 hz1 hz2 rfl (by decide) (.slice A (Bt.length) c) (Bt.length) (Bt.flatMap bytE) rfl (HO2.out.alloc _) ⟨w2.heap.size, 0, none⟩ 1 1 [.int .u8 (x.code % 256)] rfl rfl ?a1 ?a2 ?a3 ?a4 ?a5 ?_)
          case a1 => exact new_cells' w2 [.int .u8 (x.code % 256)] _ _ (by simp)
          case a2 => intro u hu; simp at hu; subst hu; simp [Value.oneCell']
          case a3 => unfold maxLen; omega
          case a4 => omega
          case a5 => simp; omega
          intro v' w4 hown hgrow _
          obtain ⟨A', c', rfl⟩ := own_shape hown
          have HO4 := lhid hown
          have hge := own_lt (HO2.out.alloc (.cells #[.int .u8 (x.code % 256)] 5))
          have HB4 := lhid ((HB3.out.alloc hbs (.cells #[.int .u8 (x.code % 256)] 5)).grown hgrow (by simp; omega) hge)
          have hbs4 := HB4.out.size
          have HBX4 : w4.heap[wr.heap.size]? = some (.cells #[.int .i64 x.pc, .int .i64 x.code, .int .i64 x.a, .int .i64 x.b] 38 (0, 0)) := (hgrow.block _ (by simp; omega) (fun e => by have := HLT.out _ e.symm; omega)).trans ((heap_alloc_old _ _ hbz).trans HBXh.out)
          clear p0 p1 p2 p3
          have p0 := heap_cell (i := 0) HBX4 rfl
          have p2 := heap_cell (i := 2) HBX4 rfl
          have p3 := heap_cell (i := 3) HBX4 rfl
          have hbz4 : wr.heap.size < w4.heap.size := heap_lt HBX4
          clear hown hgrow hge HBX4
          go_wp2_with (at_builtin; refine wpList_append_own _ rfl (.tmp 61) (.tmp 67) 22 rfl w.heap.size 5 i0 (.int .u8 0) 1 1 Try.underlying22 hi0 hz0 hz1 hz2 rfl (by decide) (.slice A' (Bt.length + 1) c') (Bt.length + 1) (Bt.flatMap bytE ++ [.int .u8 (x.code % 256)]) rfl (HO4.out.alloc _) ⟨w4.heap.size, 0, none⟩ 2 2 [.int .u8 (x.a / 256 % 256), .int .u8 (x.a % 256)] rfl rfl ?b1 ?b2 ?b3 ?b4 ?b5 ?_)
          case b1 => exact new_cells' w4 [.int .u8 (x.a / 256 % 256), .int .u8 (x.a % 256)] _ _ (by simp)
          case b2 => intro u hu; simp at hu; rcases hu with rfl | rfl <;> simp [Value.oneCell']
          case b3 => unfold maxLen; omega
          case b4 => omega
          case b5 => simp; omega
          intro v' w6 hown hgrow _
          obtain ⟨A2, c2', rfl⟩ := own_shape hown
          have HO6 := lhid (own_as (l := Bt ++ laidD x) hown (by rw [HLD.out]; simp [laidS]) (by rw [HLD.out]; simp [laidS, bytE, by8_val]))
          have hge := own_lt (HO4.out.alloc (.cells #[.int .u8 (x.a / 256 % 256), .int .u8 (x.a % 256)] 5))
          have HB6 := lhid ((HB4.out.alloc hbs4 (.cells #[.int .u8 (x.a / 256 % 256), .int .u8 (x.a % 256)] 5)).grown hgrow (by simp; omega) hge)
          clear hown hgrow hge
          go_wp2
          go_roundw
          case rel =>
            refine ⟨Bt ++ laidD x, A2, c2', k + 1, by rw [HLD.out]; simp [laidS], by go_num, by omega, HB2, by simp; omega, HO6, HB6⟩
          case measure => simp [intOf]; omega
        · clear hle
          go_wp2_with fail
          with_reducible refine (rrow_r _ 6 _ HW).mono ?_
          rintro e w2 ⟨rfl, hb2⟩
          have HBX : w2.heap[wr.heap.size]? = some (.cells #[.int .i64 x.pc, .int .i64 x.code, .int .i64 x.a, .int .i64 x.b] 38 (0, 0)) := (hb2.block _ (by simp)).trans (heap_alloc_new wr _)
          have hb3 := ((Below.refl wr.heap.size wr).alloc (Nat.le_refl _) (.cells #[.int .i64 x.pc, .int .i64 x.code, .int .i64 x.a, .int .i64 x.b] 38)).trans (hb2.mono (by simp))
          have HO2 := lhid (own_below HO.out hb3)
          have HB3 := lhid (HB.out.trans (hb3.mono HB.out.size))
          have hbs := HB3.out.size
          have p0 := heap_cell (i := 0) HBX rfl
          have p1 := heap_cell (i := 1) HBX rfl
          have p2 := heap_cell (i := 2) HBX rfl
          have p3 := heap_cell (i := 3) HBX rfl
          have hbz : wr.heap.size < w2.heap.size := heap_lt HBX
          have HBXh := lhid HBX
          clear hb2 hb3 HBX
          go_wp2_with (at_builtin; refine wpList_append_own _ rfl (.tmp 29) (.tmp 33) 22 rfl w.heap.size 5 i0 (.int .u8 0) 1 1 Try.underlying22 hi0 hz0 hz1 hz2 rfl (by decide) (.slice A (Bt.length) c) (Bt.length) (Bt.flatMap bytE) rfl (HO2.out.alloc _) ⟨w2.heap.size, 0, none⟩ 1 1 [.int .u8 (x.code % 256)] rfl rfl ?a1 ?a2 ?a3 ?a4 ?a5 ?_)
          case a1 => exact new_cells' w2 [.int .u8 (x.code % 256)] _ _ (by simp)
          case a2 => intro u hu; simp at hu; subst hu; simp [Value.oneCell']
          case a3 => unfold maxLen; omega
          case a4 => omega
          case a5 => simp; omega
          intro v' w4 hown hgrow _
          obtain ⟨A', c', rfl⟩ := own_shape hown
          have HO4 := lhid hown
          have hge := own_lt (HO2.out.alloc (.cells #[.int .u8 (x.code % 256)] 5))
          have HB4 := lhid ((HB3.out.alloc hbs (.cells #[.int .u8 (x.code % 256)] 5)).grown hgrow (by simp; omega) hge)
          have hbs4 := HB4.out.size
          have HBX4 : w4.heap[wr.heap.size]? = some (.cells #[.int .i64 x.pc, .int .i64 x.code, .int .i64 x.a, .int .i64 x.b] 38 (0, 0)) := (hgrow.block _ (by simp; omega) (fun e => by have := HLT.out _ e.symm; omega)).trans ((heap_alloc_old _ _ hbz).trans HBXh.out)
          clear p0 p1 p2 p3
          have p0 := heap_cell (i := 0) HBX4 rfl
          have p2 := heap_cell (i := 2) HBX4 rfl
          have p3 := heap_cell (i := 3) HBX4 rfl
          have hbz4 : wr.heap.size < w4.heap.size := heap_lt HBX4
          clear hown hgrow hge HBX4
          go_wp2_with (at_builtin; refine wpList_append_own _ rfl (.tmp 61) (.tmp 67) 22 rfl w.heap.size 5 i0 (.int .u8 0) 1 1 Try.underlying22 hi0 hz0 hz1 hz2 rfl (by decide) (.slice A' (Bt.length + 1) c') (Bt.length + 1) (Bt.flatMap bytE ++ [.int .u8 (x.code % 256)]) rfl (HO4.out.alloc _) ⟨w4.heap.size, 0, none⟩ 2 2 [.int .u8 ((wrap64 (x.a - x.pc)) / 256 % 256), .int .u8 ((wrap64 (x.a - x.pc)) % 256)] rfl rfl ?b1 ?b2 ?b3 ?b4 ?b5 ?_)
          case b1 => exact new_cells' w4 [.int .u8 ((wrap64 (x.a - x.pc)) / 256 % 256), .int .u8 ((wrap64 (x.a - x.pc)) % 256)] _ _ (by simp)
          case b2 => intro u hu; simp at hu; rcases hu with rfl | rfl <;> simp [Value.oneCell']
          case b3 => unfold maxLen; omega
          case b4 => omega
          case b5 => simp; omega
          intro v' w6 hown hgrow _
          obtain ⟨A2, c2', rfl⟩ := own_shape hown
          have HO6 := lhid (own_as (l := Bt ++ laidD x) hown (by rw [HLD.out]; simp [laidS]) (by rw [HLD.out]; simp [laidS, bytE, by8_val]))
          have hge := own_lt (HO4.out.alloc (.cells #[.int .u8 ((wrap64 (x.a - x.pc)) / 256 % 256), .int .u8 ((wrap64 (x.a - x.pc)) % 256)] 5))
          have HB6 := lhid ((HB4.out.alloc hbs4 (.cells #[.int .u8 ((wrap64 (x.a - x.pc)) / 256 % 256), .int .u8 ((wrap64 (x.a - x.pc)) % 256)] 5)).grown hgrow (by simp; omega) hge)
          clear hown hgrow hge
          go_wp2
          go_roundw
          case rel =>
            refine ⟨Bt ++ laidD x, A2, c2', k + 1, by rw [HLD.out]; simp [laidS], by go_num, by omega, HB2, by simp; omega, HO6, HB6⟩
          case measure => simp [intOf]; omega
        · clear hle
          go_wp2_with fail
          with_reducible refine (rrow_r _ 7 _ HW).mono ?_
          rintro e w2 ⟨rfl, hb2⟩
          have HBX : w2.heap[wr.heap.size]? = some (.cells #[.int .i64 x.pc, .int .i64 x.code, .int .i64 x.a, .int .i64 x.b] 38 (0, 0)) := (hb2.block _ (by simp)).trans (heap_alloc_new wr _)
          have hb3 := ((Below.refl wr.heap.size wr).alloc (Nat.le_refl _) (.cells #[.int .i64 x.pc, .int .i64 x.code, .int .i64 x.a, .int .i64 x.b] 38)).trans (hb2.mono (by simp))
          have HO2 := lhid (own_below HO.out hb3)
          have HB3 := lhid (HB.out.trans (hb3.mono HB.out.size))
          have hbs := HB3.out.size
          have p0 := heap_cell (i := 0) HBX rfl
          have p1 := heap_cell (i := 1) HBX rfl
          have p2 := heap_cell (i := 2) HBX rfl
          have p3 := heap_cell (i := 3) HBX rfl
          have hbz : wr.heap.size < w2.heap.size := heap_lt HBX
          have HBXh := lhid HBX
          clear hb2 hb3 HBX
          go_wp2_with (at_builtin; refine wpList_append_own _ rfl (.tmp 29) (.tmp 33) 22 rfl w.heap.size 5 i0 (.int .u8 0) 1 1 Try.underlying22 hi0 hz0 hz1 hz2 rfl (by decide) (.slice A (Bt.length) c) (Bt.length) (Bt.flatMap bytE) rfl (HO2.out.alloc _) ⟨w2.heap.size, 0, none⟩ 1 1 [.int .u8 (x.code % 256)] rfl rfl ?a1 ?a2 ?a3 ?a4 ?a5 ?_)
          case a1 => exact new_cells' w2 [.int .u8 (x.code % 256)] _ _ (by simp)
          case a2 => intro u hu; simp at hu; subst hu; simp [Value.oneCell']
          case a3 => unfold maxLen; omega
          case a4 => omega
          case a5 => simp; omega
          intro v' w4 hown hgrow _
          obtain ⟨A', c', rfl⟩ := own_shape hown
          have HO4 := lhid hown
          have hge := own_lt (HO2.out.alloc (.cells #[.int .u8 (x.code % 256)] 5))
          have HB4 := lhid ((HB3.out.alloc hbs (.cells #[.int .u8 (x.code % 256)] 5)).grown hgrow (by simp; omega) hge)
          have hbs4 := HB4.out.size
          have HBX4 : w4.heap[wr.heap.size]? = some (.cells #[.int .i64 x.pc, .int .i64 x.code, .int .i64 x.a, .int .i64 x.b] 38 (0, 0)) := (hgrow.block _ (by simp; omega) (fun e => by have := HLT.out _ e.symm; omega)).trans ((heap_alloc_old _ _ hbz).trans HBXh.out)
          clear p0 p1 p2 p3
          have p0 := heap_cell (i := 0) HBX4 rfl
          have p2 := heap_cell (i := 2) HBX4 rfl
          have p3 := heap_cell (i := 3) HBX4 rfl
          have hbz4 : wr.heap.size < w4.heap.size := heap_lt HBX4
          clear hown hgrow hge HBX4
          go_wp2_with (at_builtin; refine wpList_append_own _ rfl (.tmp 71) (.tmp 77) 22 rfl w.heap.size 5 i0 (.int .u8 0) 1 1 Try.underlying22 hi0 hz0 hz1 hz2 rfl (by decide) (.slice A' (Bt.length + 1) c') (Bt.length + 1) (Bt.flatMap bytE ++ [.int .u8 (x.code % 256)]) rfl (HO4.out.alloc _) ⟨w4.heap.size, 0, none⟩ 2 2 [.int .u8 (x.a % 256), .int .u8 (x.b % 256)] rfl rfl ?b1 ?b2 ?b3 ?b4 ?b5 ?_)
          case b1 => exact new_cells' w4 [.int .u8 (x.a % 256), .int .u8 (x.b % 256)] _ _ (by simp)
          case b2 => intro u hu; simp at hu; rcases hu with rfl | rfl <;> simp [Value.oneCell']
          case b3 => unfold maxLen; omega
          case b4 => omega
          case b5 => simp; omega
          intro v' w6 hown hgrow _
          obtain ⟨A2, c2', rfl⟩ := own_shape hown
          have HO6 := lhid (own_as (l := Bt ++ laidD x) hown (by rw [HLD.out]; simp [laidS]) (by rw [HLD.out]; simp [laidS, bytE, by8_val]))
          have hge := own_lt (HO4.out.alloc (.cells #[.int .u8 (x.a % 256), .int .u8 (x.b % 256)] 5))
          have HB6 := lhid ((HB4.out.alloc hbs4 (.cells #[.int .u8 (x.a % 256), .int .u8 (x.b % 256)] 5)).grown hgrow (by simp; omega) hge)
          clear hown hgrow hge
          go_wp2
          go_roundw
          case rel =>
            refine ⟨Bt ++ laidD x, A2, c2', k + 1, by rw [HLD.out]; simp [laidS], by go_num, by omega, HB2, by simp; omega, HO6, HB6⟩
          case measure => simp [intOf]; omega
    · have k3 : ¬ (k : Int) < l.length := by omega
      have hbt := HBt.out
      rw [List.take_of_length_le (by omega)] at hbt
      have HBT := lhid hbt
      have HV := lhid (bts_own HO.out (by omega))
      obtain ⟨e0, D, hd⟩ : ∃ e0 D, decR Bt = (e0, D) := ⟨_, _, rfl⟩
      have HD := lhid hd
      clear hbt hd HBt
      go_wp2_with fail
      with_reducible refine (rdecode_any Bt _ _ HV).mono ?_
      rw [HD.out]
      rintro e w2 ⟨⟨v2, rfl, hv2⟩, hb2⟩
      have HV2 := lhid hv2
      have HB2 := lhid (HB.out.trans (hb2.mono HB.out.size))
      have HA2 := lhid ((h.out.below HB.out).below hb2)
      have HBS := lhid (HV.out.below hb2)
      clear hb2 hv2
      by_cases he : e0 = 0
      · have q0 : ((e0 : Int) == 0) = true := by rw [beq_iff_eq]; exact he
        have q1 : ((e0 : Int) != 0) = false := by rw [bne, q0]; rfl
        have HE0 := lhid he
        clear he
        by_cases hs : D = l
        · have HS := lhid hs
          have HE := lhid (encR_ok (L := Bt) (l := l) (by rw [HD.out, HE0.out, HS.out]))
          clear hs
          go_wp2_with fail
          with_reducible refine (rsame_y _ _ D l _ HV2 HA2 HS).mono ?_
          rintro e w3 ⟨rfl, hb3⟩
          have HB4 := lhid (HB2.out.trans (hb3.mono HB2.out.size))
          have HBS2 := lhid (HBS.out.below hb3)
          clear hb3
          go_wp2_with fail
          go_ret2
          exact eout_ok HE.out HBS2.out HB4.out
        · have HS : Hid (D ≠ l) := lhid hs
          have HE := lhid (encR_other (l := l) (.inr rfl) (by rw [HBT.out, HD.out]; intro e; injection e with _ e2; exact HS.out e2))
          clear hs
          go_wp2_with fail
          with_reducible refine (rsame_n _ _ D l _ HV2 HA2 HS).mono ?_
          rintro e w3 ⟨rfl, hb3⟩
          have HB4 := lhid (HB2.out.trans (hb3.mono HB2.out.size))
          clear hb3
          go_wp2_with fail
          go_ret2
          exact eout_no HE.out HB4.out
      · have q0 : ((e0 : Int) == 0) = false := by rw [beq_eq_false_iff_ne]; exact he
        have q1 : ((e0 : Int) != 0) = true := by rw [bne, q0]; rfl
        have HNE := lhid he
        have HE := lhid (encR_other (l := l) (.inr rfl) (by rw [HBT.out, HD.out]; intro e; injection e with e1 _; exact HNE.out e1))
        clear he
        go_wp2_with fail
        go_ret2
        exact eout_no HE.out HB2.out
end Go.Proofs.Ytifheohdgjamnaa
