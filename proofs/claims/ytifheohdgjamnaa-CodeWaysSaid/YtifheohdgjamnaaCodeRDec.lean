/- Contract of the document's Decode. Written by gen_code.py. -/
import Derived.Test.YtifheohdgjamnaaCodeDecode
namespace Go.Proofs.Ytifheohdgjamnaa
open Go.RowKit Go
set_option linter.unusedVariables false

theorem own_setN {w w' : World} {B' e size n b : Nat} {v : Value} {xs : List Value} (h : w.ownsRow B' e size v n xs) (h' : w'.ownsRow B' e size v n xs) (hb : w.heap.size ≤ b) (i : Nat) (u : Value) : (w'.setCell ⟨b, i, none⟩ u).ownsRow B' e size v n xs :=
  own_of h' fun g hg => Below.heap_setCell _ _ _ _ (by have := (h.lt g hg).2; show g ≠ b; omega)
theorem Marks.setN {w : World} {g n b : Nat} {P : Nat → Prop} (h : Marks w g n P) (hb : g < b) (i : Nat) (u : Value) : Marks (w.setCell ⟨b, i, none⟩ u) g n P := h.of (Below.heap_setCell _ _ _ _ (by show g ≠ b; omega))
theorem begun_snoc (L : Bs) (k : Nat) (D : List Cop) (i : Nat) : Begun (D ++ [opAt L k]) i ↔ Begun D i ∨ i = k := by
  have := begun_on (D := D ++ [opAt L k]) (k := D.length) (p := k) (x := opAt L k) (by simp) rfl i
  rw [List.take_of_length_le (by simp), List.take_left] at this
  exact this
theorem new_cells' (w : World) (l : List Value) (T : TypeId) (g : Nat) (hg : w.heap.size = g) : ∀ (j : Nat) (u : Value), l[j]? = some u → (w.alloc (.cells l.toArray T)).cell? ((⟨g, 0, none⟩ : Addr).add j) = some u := by
  subst hg
  exact new_cells w l T
theorem rsize_r (c : Int) (n : Nat) (w : World) (h : Hid (szN c = n)) :
    Calls Try.prog 15 #[.int .i64 c] w fun e w' => e = .returned (.int .i64 n) ∧ Below w.heap.size w w' := by
  have := rsize_any c w
  rwa [h.out] at this
theorem rleads_b (c : Int) (b : Bool) (w : World) (h : Hid (decide (rowN c = 6) = b)) :
    Calls Try.prog 17 #[.int .i64 c] w fun e w' => e = .returned (.bool b) ∧ w = w' := by
  have := rleads_r c w
  rwa [h.out] at this
set_option maxHeartbeats 1000000 in
set_option maxRecDepth 100000 in
theorem sign8_any (x : Nat) (w : World) (hx : x < 256) :
    Calls Try.prog 23 #[.int .i64 x, .int .i64 1] w fun e w' => e = .returned (.int .i64 (sg8 x)) ∧ w = w' := by
  unfold sg8
  by_cases h : 128 ≤ x
  · have h2 : (128 : Int) ≤ x := by omega
    rw [if_pos h]
    go_enter Try.func23, Try.ntmps23
    go_wp2_with fail
    go_ret
    exact ⟨rfl, rfl⟩
  · have h2 : ¬ (128 : Int) ≤ x := by omega
    rw [if_neg h]
    go_enter Try.func23, Try.ntmps23
    go_wp2_with fail
    go_ret
    exact ⟨rfl, rfl⟩
set_option maxHeartbeats 1000000 in
set_option maxRecDepth 100000 in
theorem sign16_any (x : Nat) (w : World) (hx : x < 65536) :
    Calls Try.prog 23 #[.int .i64 x, .int .i64 2] w fun e w' => e = .returned (.int .i64 (sg16 x)) ∧ w = w' := by
  unfold sg16
  by_cases h : 32768 ≤ x
  · have h2 : (32768 : Int) ≤ x := by omega
    rw [if_pos h]
    go_enter Try.func23, Try.ntmps23
    go_wp2_with fail
    go_ret
    exact ⟨rfl, rfl⟩
  · have h2 : ¬ (32768 : Int) ≤ x := by omega
    rw [if_neg h]
    go_enter Try.func23, Try.ntmps23
    go_wp2_with fail
    go_ret
    exact ⟨rfl, rfl⟩
set_option maxHeartbeats 16000000 in
set_option maxRecDepth 100000 in
theorem rdecode_any (L : Bs) (v : Value) (w : World) (h : Hid (Bts w v L)) :
    Calls Try.prog 10 #[v] w (DOut (decR L) w) := by
  obtain ⟨hr, A0, cap, rfl, hcap, hmax⟩ := h.out
  have hlen := hr.len
  have HR := lhid hr
  clear hr h
  by_cases h0 : L.length = 0
  · have e0 : ((L.length : Int) == 0) = true := by rw [beq_iff_eq]; omega
    have HD := lhid (decR_nil L h0)
    clear h0
    go_enter Try.func10, Try.ntmps10
    go_wp2_with fail
    go_ret2
    exact dout_no HD.out (Below.refl _ _)
  have e0 : ((L.length : Int) == 0) = false := by rw [beq_eq_false_iff_ne]; omega
  by_cases h4 : 4000 < L.length
  · have e4 : (4000 : Int) < L.length := by omega
    have HD := lhid (decR_long L h4)
    clear h0 h4
    go_enter Try.func10, Try.ntmps10
    go_wp2_with fail
    go_ret2
    exact dout_no HD.out (Below.refl _ _)
  have e4 : ¬ (4000 : Int) < L.length := by omega
  have HN := lhid h0
  have h4' : L.length ≤ 4000 := by omega
  obtain ⟨i0, hi0, hz0, hz1, hz2⟩ := info_parts infoOp
  have hmake := make_bools L.length h4'
  clear h0 h4
  go_enter Try.func10, Try.ntmps10
  go_wp2_with fail
  clear hmake
  go_loopw [4, 6] (fun v i wr => ∃ (D : List Cop) (A : Option Addr) (c k : Nat), v = .slice A D.length c ∧ i = .int .i64 k ∧ k ≤ L.length ∧ Hid (At L k D) ∧ Hid (OwO wr (w.heap.size + 1) (.slice A D.length c) D) ∧ Hid (Marks wr w.heap.size L.length (Begun D)) ∧ Hid (Below w.heap.size w wr)) (fun _ i _ => L.length - (intOf i).toNat)
  case atStart => exact ⟨[], none, 0, 0, rfl, rfl, Nat.zero_le _, lhid (At.start L), lhid (World.ownsRow_nil _ _ _ _), lhid (Marks.made w _ _ rfl _ (by intro i; unfold Begun; simp) _ rfl), lhid ((Below.refl _ _).alloc (Nat.le_refl _) _)⟩
  case round =>
    obtain ⟨D, A, c, k, rfl, rfl, hk, HA, HO, HM, HB⟩ := hrel
    by_cases hlt : k < L.length
    · have k3 : (k : Int) < L.length := by omega
      obtain ⟨g, o, rfl, hc⟩ := byt_of (HR.out.below HB.out) hlt
      have c0 : wr.cell? ⟨g, o + k, none⟩ = some (.int .u8 (bN L k)) := hc 0 (by omega)
      obtain ⟨n, hn⟩ : ∃ n, szN (bN L k) = n := ⟨_, rfl⟩
      have HS := lhid hn
      have HC := lhid hc
      have hgl : g < wr.heap.size := cell_lt c0
      clear hc
      by_cases hn0 : n = 0
      · have q0 : ((n : Int) == 0) = true := by rw [beq_iff_eq]; omega
        have HD := lhid (decR_none L HN.out h4' (HA.out.fail hlt (.inl (by rw [HS.out]; exact hn0))))
        clear hn0 hn
        have x0 := wr_b L k
        go_wp2_with fail
        with_reducible refine (rsize_r _ n _ HS).mono ?_
        rintro e w2 ⟨rfl, hb2⟩
        have HB2 := lhid (HB.out.trans (hb2.mono HB.out.size))
        clear hb2
        go_wp2_with fail
        go_ret2
        exact dout_no HD.out HB2.out
      have q0 : ((n : Int) == 0) = false := by rw [beq_eq_false_iff_ne]; omega
      by_cases hfit : k + n ≤ L.length
      case neg =>
        have q1 : (L.length : Int) < k + n := by omega
        have HD := lhid (decR_none L HN.out h4' (HA.out.fail hlt (.inr (by rw [HS.out]; omega))))
        have hn3 : n ≤ 3 := by rw [← hn]; exact szN_le _
        clear hn
        have x0 := wr_b L k
        go_wp2_with fail
        with_reducible refine (rsize_r _ n _ HS).mono ?_
        rintro e w2 ⟨rfl, hb2⟩
        have HB2 := lhid (HB.out.trans (hb2.mono HB.out.size))
        clear hb2
        go_wp2_with fail
        go_ret2
        exact dout_no HD.out HB2.out
      have HA2 := lhid (HA.out.step hlt (by rw [HS.out]; exact hn0) (by rw [HS.out]; exact hfit))
      rw [HS.out] at HA2
      have q1 : ¬ (L.length : Int) < k + n := by omega
      have hle := rowN_le (bN L k)
      obtain ⟨r, hr⟩ : ∃ r, rowN (bN L k) = r := ⟨_, rfl⟩
      have HW := lhid hr
      have hDl := HA.out.len
      have hx : opAt L k = ⟨k, bN L k, opA r (bN L (k + 1)) (two L k) k, opB r (bN L (k + 2))⟩ := by unfold opAt; rw [hr]
      have HX := lhid hx
      unfold szN at hn
      rw [hr] at hn hle
      clear hr hx
      rcases row_ways hle with rfl | rfl | rfl | rfl | rfl | rfl | rfl | rfl
      · exact absurd hn.symm hn0
      · obtain rfl : n = 1 := hn.symm
        clear hn hle hn0 q0
        have x0 := wr_b L k
        go_wp2_with fail
        with_reducible refine (rsize_r _ 1 _ HS).mono ?_
        rintro e w2 ⟨rfl, hb2⟩
        have HO2 := lhid (own_below HO.out hb2)
        have HM2 := lhid (HM.out.below hb2)
        have HB2 := lhid (HB.out.trans (hb2.mono HB.out.size))
        have hz2' := hb2.size
        have hg2 : g < w2.heap.size := by omega
        have hg3 : ¬ g = w2.heap.size := by omega
        clear hb2
        go_wp2_with fail
        with_reducible refine (rrow_r _ 1 _ HW).mono ?_
        rintro e w3 ⟨rfl, hb3⟩
        have HBX : w3.heap[w2.heap.size]? = some (.cells #[.int .i64 k, .int .i64 (bN L k), .int .i64 0, .int .i64 0] 38 (0, 0)) := (hb3.block _ (by simp)).trans (heap_alloc_new w2 _)
        have hb23 := ((Below.refl w2.heap.size w2).alloc (Nat.le_refl _) _).trans (hb3.mono (by simp))
        have HO3 := lhid (own_below HO2.out hb23)
        have HM3 := lhid (HM2.out.below hb23)
        have HB3 := lhid (HB2.out.trans (hb23.mono HB2.out.size))
        have hz3 := hb23.size
        have hz1w := HB2.out.size
        have p0 := heap_cell (i := 0) HBX rfl
        have p1 := heap_cell (i := 1) HBX rfl
        have p2 := heap_cell (i := 2) HBX rfl
        have p3 := heap_cell (i := 3) HBX rfl
        have z2 := heap_thaw HBX
        have hbz : w2.heap.size < w3.heap.size := heap_lt HBX
        have HBXh := lhid HBX
        obtain ⟨bb, b0, _⟩ := HM3.out.cell hlt
        have b1 := HM3.out.fz
        have b2 := HM3.out.lt
        have b5 := HM2.out.lt
        have b3 : ¬ w.heap.size = w2.heap.size := by omega
        have b4 : ¬ w2.heap.size = w.heap.size := by omega
        clear HBX hb3 hb23
        have HO4 := lhid (own_set HO3.out (by omega : w.heap.size < w.heap.size + 1) k (.bool true))
        have HM4 := lhid (HM3.out.set hlt (begun_snoc L k D))
        have HB4 := lhid (HB3.out.setCell (p := ⟨w.heap.size, k, none⟩) (Nat.le_refl _) (.bool true))
        go_wp2_with (at_builtin; refine wpList_append_own _ rfl (.tmp 103) (.tmp 105) 24 rfl (w.heap.size + 1) 38 i0 (.agg #[.int .i64 0, .int .i64 0, .int .i64 0, .int .i64 0]) 4 32 Try.underlying24 hi0 hz0 hz1 hz2 rfl (by decide) (.slice A D.length c) D.length (D.flatMap copE) rfl (HO4.out.alloc _) ⟨w3.heap.size, 0, none⟩ 1 1 [.int .i64 k, .int .i64 (bN L k), .int .i64 0, .int .i64 0] rfl rfl ?c1 ?c2 ?c3 ?c4 ?c5 ?_)
        case c1 => exact new_cells' (w3.setCell ⟨w.heap.size, k, none⟩ (.bool true)) [.int .i64 k, .int .i64 (bN L k), .int .i64 0, .int .i64 0] _ _ (by simp)
        case c2 => intro u hu; simp at hu; rcases hu with rfl | rfl | rfl | rfl <;> simp [Value.oneCell']
        case c3 => unfold maxLen; omega
        case c4 => omega
        case c5 => simp; omega
        intro v' w6 hown hgrow _
        obtain ⟨A', c', rfl⟩ := own_shape hown
        have HO5 := lhid hown
        have hge := own_lt (HO4.out.alloc (.cells #[.int .i64 k, .int .i64 (bN L k), .int .i64 0, .int .i64 0] 38))
        have HM5 := lhid (Marks.grown (HM4.out.below ((Below.refl _ _).alloc (Nat.le_refl _) (.cells #[.int .i64 k, .int .i64 (bN L k), .int .i64 0, .int .i64 0] 38))) hgrow (fun q hq => by have := hge q hq; omega))
        have HB5 := lhid ((HB4.out.alloc HB4.out.size (.cells #[.int .i64 k, .int .i64 (bN L k), .int .i64 0, .int .i64 0] 38)).grown hgrow (by have := HB4.out.size; simp; omega) (fun q hq => by have := hge q hq; omega))
        clear hown hgrow hge
        go_wp2
        go_roundw
        case rel =>
          refine ⟨D ++ [opAt L k], A', c', k + 1, by simp, by go_num, hfit, HA2, lhid (own_snoc (x := opAt L k) (by rw [HX.out]; exact HO5.out)), HM5, HB5⟩
        case measure => simp [intOf]; omega
      · obtain rfl : n = 2 := hn.symm
        clear hn hle hn0 q0
        have x0 := wr_b L k
        have c1 : wr.cell? ⟨g, o + (k + 1), none⟩ = some (.int .u8 (bN L (k + 1))) := HC.out 1 (by omega)
        have y1 := bN_lt L (k + 1)
        have k4 : (k : Int) + 1 < L.length := by omega
        go_wp2_with fail
        with_reducible refine (rsize_r _ 2 _ HS).mono ?_
        rintro e w2 ⟨rfl, hb2⟩
        have d1 := (hb2.cell (p := ⟨g, o + (k + 1), none⟩) hgl).trans c1
        have HO2 := lhid (own_below HO.out hb2)
        have HM2 := lhid (HM.out.below hb2)
        have HB2 := lhid (HB.out.trans (hb2.mono HB.out.size))
        have hz2' := hb2.size
        have hg2 : g < w2.heap.size := by omega
        have hg3 : ¬ g = w2.heap.size := by omega
        clear hb2
        go_wp2_with fail
        with_reducible refine (rrow_r _ 2 _ HW).mono ?_
        rintro e w3 ⟨rfl, hb3⟩
        have HBX : w3.heap[w2.heap.size]? = some (.cells #[.int .i64 k, .int .i64 (bN L k), .int .i64 0, .int .i64 0] 38 (0, 0)) := (hb3.block _ (by simp)).trans (heap_alloc_new w2 _)
        have hb23 := ((Below.refl w2.heap.size w2).alloc (Nat.le_refl _) _).trans (hb3.mono (by simp))
        have HO3 := lhid (own_below HO2.out hb23)
        have HM3 := lhid (HM2.out.below hb23)
        have HB3 := lhid (HB2.out.trans (hb23.mono HB2.out.size))
        have hz3 := hb23.size
        have hz1w := HB2.out.size
        have p0 := heap_cell (i := 0) HBX rfl
        have p1 := heap_cell (i := 1) HBX rfl
        have p2 := heap_cell (i := 2) HBX rfl
        have p3 := heap_cell (i := 3) HBX rfl
        have z2 := heap_thaw HBX
        have hbz : w2.heap.size < w3.heap.size := heap_lt HBX
        have HBXh := lhid HBX
        obtain ⟨bb, b0, _⟩ := HM3.out.cell hlt
        have b1 := HM3.out.fz
        have b2 := HM3.out.lt
        have b5 := HM2.out.lt
        have b3 : ¬ w.heap.size = w2.heap.size := by omega
        have b4 : ¬ w2.heap.size = w.heap.size := by omega
        clear HBX hb3 hb23
        have HO4 := lhid (own_set (own_setN HO.out HO3.out hz2' 2 (.int .i64 (bN L (k + 1)))) (by omega : w.heap.size < w.heap.size + 1) k (.bool true))
        have HM4 := lhid ((HM3.out.setN (b := w2.heap.size) b5 2 (.int .i64 (bN L (k + 1)))).set hlt (begun_snoc L k D))
        have HB4 := lhid ((HB3.out.setCell (p := ⟨w2.heap.size, 2, none⟩) hz1w (.int .i64 (bN L (k + 1)))).setCell (p := ⟨w.heap.size, k, none⟩) (Nat.le_refl _) (.bool true))
        go_wp2_with (at_builtin; refine wpList_append_own _ rfl (.tmp 103) (.tmp 105) 24 rfl (w.heap.size + 1) 38 i0 (.agg #[.int .i64 0, .int .i64 0, .int .i64 0, .int .i64 0]) 4 32 Try.underlying24 hi0 hz0 hz1 hz2 rfl (by decide) (.slice A D.length c) D.length (D.flatMap copE) rfl (HO4.out.alloc _) ⟨w3.heap.size, 0, none⟩ 1 1 [.int .i64 k, .int .i64 (bN L k), .int .i64 (bN L (k + 1)), .int .i64 0] rfl rfl ?c1 ?c2 ?c3 ?c4 ?c5 ?_)
        case c1 => exact new_cells' ((w3.setCell ⟨w2.heap.size, 2, none⟩ (.int .i64 (bN L (k + 1)))).setCell ⟨w.heap.size, k, none⟩ (.bool true)) [.int .i64 k, .int .i64 (bN L k), .int .i64 (bN L (k + 1)), .int .i64 0] _ _ (by simp)
        case c2 => intro u hu; simp at hu; rcases hu with rfl | rfl | rfl | rfl <;> simp [Value.oneCell']
        case c3 => unfold maxLen; omega
        case c4 => omega
        case c5 => simp; omega
        intro v' w6 hown hgrow _
        obtain ⟨A', c', rfl⟩ := own_shape hown
        have HO5 := lhid hown
        have hge := own_lt (HO4.out.alloc (.cells #[.int .i64 k, .int .i64 (bN L k), .int .i64 (bN L (k + 1)), .int .i64 0] 38))
        have HM5 := lhid (Marks.grown (HM4.out.below ((Below.refl _ _).alloc (Nat.le_refl _) (.cells #[.int .i64 k, .int .i64 (bN L k), .int .i64 (bN L (k + 1)), .int .i64 0] 38))) hgrow (fun q hq => by have := hge q hq; omega))
        have HB5 := lhid ((HB4.out.alloc HB4.out.size (.cells #[.int .i64 k, .int .i64 (bN L k), .int .i64 (bN L (k + 1)), .int .i64 0] 38)).grown hgrow (by have := HB4.out.size; simp; omega) (fun q hq => by have := hge q hq; omega))
        clear hown hgrow hge
        go_wp2
        go_roundw
        case rel =>
          refine ⟨D ++ [opAt L k], A', c', k + 2, by simp, by go_num, hfit, HA2, lhid (own_snoc (x := opAt L k) (by rw [HX.out]; exact HO5.out)), HM5, HB5⟩
        case measure => simp [intOf]; omega
      · obtain rfl : n = 2 := hn.symm
        clear hn hle hn0 q0
        have x0 := wr_b L k
        have c1 : wr.cell? ⟨g, o + (k + 1), none⟩ = some (.int .u8 (bN L (k + 1))) := HC.out 1 (by omega)
        have y1 := bN_lt L (k + 1)
        have k4 : (k : Int) + 1 < L.length := by omega
        go_wp2_with fail
        with_reducible refine (rsize_r _ 2 _ HS).mono ?_
        rintro e w2 ⟨rfl, hb2⟩
        have d1 := (hb2.cell (p := ⟨g, o + (k + 1), none⟩) hgl).trans c1
        have HO2 := lhid (own_below HO.out hb2)
        have HM2 := lhid (HM.out.below hb2)
        have HB2 := lhid (HB.out.trans (hb2.mono HB.out.size))
        have hz2' := hb2.size
        have hg2 : g < w2.heap.size := by omega
        have hg3 : ¬ g = w2.heap.size := by omega
        clear hb2
        go_wp2_with fail
        with_reducible refine (rrow_r _ 3 _ HW).mono ?_
        rintro e w3 ⟨rfl, hb3⟩
        have HBX : w3.heap[w2.heap.size]? = some (.cells #[.int .i64 k, .int .i64 (bN L k), .int .i64 0, .int .i64 0] 38 (0, 0)) := (hb3.block _ (by simp)).trans (heap_alloc_new w2 _)
        have hb23 := ((Below.refl w2.heap.size w2).alloc (Nat.le_refl _) _).trans (hb3.mono (by simp))
        have HO3 := lhid (own_below HO2.out hb23)
        have HM3 := lhid (HM2.out.below hb23)
        have HB3 := lhid (HB2.out.trans (hb23.mono HB2.out.size))
        have hz3 := hb23.size
        have hz1w := HB2.out.size
        have p0 := heap_cell (i := 0) HBX rfl
        have p1 := heap_cell (i := 1) HBX rfl
        have p2 := heap_cell (i := 2) HBX rfl
        have p3 := heap_cell (i := 3) HBX rfl
        have z2 := heap_thaw HBX
        have hbz : w2.heap.size < w3.heap.size := heap_lt HBX
        have HBXh := lhid HBX
        obtain ⟨bb, b0, _⟩ := HM3.out.cell hlt
        have b1 := HM3.out.fz
        have b2 := HM3.out.lt
        have b5 := HM2.out.lt
        have b3 : ¬ w.heap.size = w2.heap.size := by omega
        have b4 : ¬ w2.heap.size = w.heap.size := by omega
        clear HBX hb3 hb23
        go_wp2_with fail
        with_reducible refine (sign8_any _ _ y1).mono ?_
        rintro e w5 ⟨rfl, rfl⟩
        have HO4 := lhid (own_set (own_setN HO.out HO3.out hz2' 2 (.int .i64 (sg8 (bN L (k + 1))))) (by omega : w.heap.size < w.heap.size + 1) k (.bool true))
        have HM4 := lhid ((HM3.out.setN (b := w2.heap.size) b5 2 (.int .i64 (sg8 (bN L (k + 1))))).set hlt (begun_snoc L k D))
        have HB4 := lhid ((HB3.out.setCell (p := ⟨w2.heap.size, 2, none⟩) hz1w (.int .i64 (sg8 (bN L (k + 1))))).setCell (p := ⟨w.heap.size, k, none⟩) (Nat.le_refl _) (.bool true))
        go_wp2_with (at_builtin; refine wpList_append_own _ rfl (.tmp 103) (.tmp 105) 24 rfl (w.heap.size + 1) 38 i0 (.agg #[.int .i64 0, .int .i64 0, .int .i64 0, .int .i64 0]) 4 32 Try.underlying24 hi0 hz0 hz1 hz2 rfl (by decide) (.slice A D.length c) D.length (D.flatMap copE) rfl (HO4.out.alloc _) ⟨w3.heap.size, 0, none⟩ 1 1 [.int .i64 k, .int .i64 (bN L k), .int .i64 (sg8 (bN L (k + 1))), .int .i64 0] rfl rfl ?c1 ?c2 ?c3 ?c4 ?c5 ?_)
        case c1 => exact new_cells' ((w3.setCell ⟨w2.heap.size, 2, none⟩ (.int .i64 (sg8 (bN L (k + 1))))).setCell ⟨w.heap.size, k, none⟩ (.bool true)) [.int .i64 k, .int .i64 (bN L k), .int .i64 (sg8 (bN L (k + 1))), .int .i64 0] _ _ (by simp)
        case c2 => intro u hu; simp at hu; rcases hu with rfl | rfl | rfl | rfl <;> simp [Value.oneCell']
        case c3 => unfold maxLen; omega
        case c4 => omega
        case c5 => simp; omega
        intro v' w6 hown hgrow _
        obtain ⟨A', c', rfl⟩ := own_shape hown
        have HO5 := lhid hown
        have hge := own_lt (HO4.out.alloc (.cells #[.int .i64 k, .int .i64 (bN L k), .int .i64 (sg8 (bN L (k + 1))), .int .i64 0] 38))
        have HM5 := lhid (Marks.grown (HM4.out.below ((Below.refl _ _).alloc (Nat.le_refl _) (.cells #[.int .i64 k, .int .i64 (bN L k), .int .i64 (sg8 (bN L (k + 1))), .int .i64 0] 38))) hgrow (fun q hq => by have := hge q hq; omega))
        have HB5 := lhid ((HB4.out.alloc HB4.out.size (.cells #[.int .i64 k, .int .i64 (bN L k), .int .i64 (sg8 (bN L (k + 1))), .int .i64 0] 38)).grown hgrow (by have := HB4.out.size; simp; omega) (fun q hq => by have := hge q hq; omega))
        clear hown hgrow hge
        go_wp2
        go_roundw
        case rel =>
          refine ⟨D ++ [opAt L k], A', c', k + 2, by simp, by go_num, hfit, HA2, lhid (own_snoc (x := opAt L k) (by rw [HX.out]; exact HO5.out)), HM5, HB5⟩
        case measure => simp [intOf]; omega
      · obtain rfl : n = 3 := hn.symm
        clear hn hle hn0 q0
        have x0 := wr_b L k
        have c1 : wr.cell? ⟨g, o + (k + 1), none⟩ = some (.int .u8 (bN L (k + 1))) := HC.out 1 (by omega)
        have y1 := bN_lt L (k + 1)
        have k4 : (k : Int) + 1 < L.length := by omega
        have c2 : wr.cell? ⟨g, o + (k + 2), none⟩ = some (.int .u8 (bN L (k + 2))) := HC.out 2 (by omega)
        have y2 := bN_lt L (k + 2)
        have k5 : (k : Int) + 2 < L.length := by omega
        go_wp2_with fail
        with_reducible refine (rsize_r _ 3 _ HS).mono ?_
        rintro e w2 ⟨rfl, hb2⟩
        have d1 := (hb2.cell (p := ⟨g, o + (k + 1), none⟩) hgl).trans c1
        have d2 := (hb2.cell (p := ⟨g, o + (k + 2), none⟩) hgl).trans c2
        have HO2 := lhid (own_below HO.out hb2)
        have HM2 := lhid (HM.out.below hb2)
        have HB2 := lhid (HB.out.trans (hb2.mono HB.out.size))
        have hz2' := hb2.size
        have hg2 : g < w2.heap.size := by omega
        have hg3 : ¬ g = w2.heap.size := by omega
        clear hb2
        go_wp2_with fail
        with_reducible refine (rrow_r _ 4 _ HW).mono ?_
        rintro e w3 ⟨rfl, hb3⟩
        have HBX : w3.heap[w2.heap.size]? = some (.cells #[.int .i64 k, .int .i64 (bN L k), .int .i64 0, .int .i64 0] 38 (0, 0)) := (hb3.block _ (by simp)).trans (heap_alloc_new w2 _)
        have hb23 := ((Below.refl w2.heap.size w2).alloc (Nat.le_refl _) _).trans (hb3.mono (by simp))
        have HO3 := lhid (own_below HO2.out hb23)
        have HM3 := lhid (HM2.out.below hb23)
        have HB3 := lhid (HB2.out.trans (hb23.mono HB2.out.size))
        have hz3 := hb23.size
        have hz1w := HB2.out.size
        have p0 := heap_cell (i := 0) HBX rfl
        have p1 := heap_cell (i := 1) HBX rfl
        have p2 := heap_cell (i := 2) HBX rfl
        have p3 := heap_cell (i := 3) HBX rfl
        have z2 := heap_thaw HBX
        have hbz : w2.heap.size < w3.heap.size := heap_lt HBX
        have HBXh := lhid HBX
        obtain ⟨bb, b0, _⟩ := HM3.out.cell hlt
        have b1 := HM3.out.fz
        have b2 := HM3.out.lt
        have b5 := HM2.out.lt
        have b3 : ¬ w.heap.size = w2.heap.size := by omega
        have b4 : ¬ w2.heap.size = w.heap.size := by omega
        clear HBX hb3 hb23
        have ht : (256 : Int) * bN L (k + 1) + bN L (k + 2) = (two L k : Int) := by unfold two; omega
        go_wp2_with fail
        with_reducible refine (sign16_any _ _ (two_lt L k)).mono ?_
        rintro e w5 ⟨rfl, rfl⟩
        have HO4 := lhid (own_set (own_setN HO.out HO3.out hz2' 2 (.int .i64 (sg16 (two L k)))) (by omega : w.heap.size < w.heap.size + 1) k (.bool true))
        have HM4 := lhid ((HM3.out.setN (b := w2.heap.size) b5 2 (.int .i64 (sg16 (two L k)))).set hlt (begun_snoc L k D))
        have HB4 := lhid ((HB3.out.setCell (p := ⟨w2.heap.size, 2, none⟩) hz1w (.int .i64 (sg16 (two L k)))).setCell (p := ⟨w.heap.size, k, none⟩) (Nat.le_refl _) (.bool true))
        go_wp2_with (at_builtin; refine wpList_append_own _ rfl (.tmp 103) (.tmp 105) 24 rfl (w.heap.size + 1) 38 i0 (.agg #[.int .i64 0, .int .i64 0, .int .i64 0, .int .i64 0]) 4 32 Try.underlying24 hi0 hz0 hz1 hz2 rfl (by decide) (.slice A D.length c) D.length (D.flatMap copE) rfl (HO4.out.alloc _) ⟨w3.heap.size, 0, none⟩ 1 1 [.int .i64 k, .int .i64 (bN L k), .int .i64 (sg16 (two L k)), .int .i64 0] rfl rfl ?c1 ?c2 ?c3 ?c4 ?c5 ?_)
        case c1 => exact new_cells' ((w3.setCell ⟨w2.heap.size, 2, none⟩ (.int .i64 (sg16 (two L k)))).setCell ⟨w.heap.size, k, none⟩ (.bool true)) [.int .i64 k, .int .i64 (bN L k), .int .i64 (sg16 (two L k)), .int .i64 0] _ _ (by simp)
        case c2 => intro u hu; simp at hu; rcases hu with rfl | rfl | rfl | rfl <;> simp [Value.oneCell']
        case c3 => unfold maxLen; omega
        case c4 => omega
        case c5 => simp; omega
        intro v' w6 hown hgrow _
        obtain ⟨A', c', rfl⟩ := own_shape hown
        have HO5 := lhid hown
        have hge := own_lt (HO4.out.alloc (.cells #[.int .i64 k, .int .i64 (bN L k), .int .i64 (sg16 (two L k)), .int .i64 0] 38))
        have HM5 := lhid (Marks.grown (HM4.out.below ((Below.refl _ _).alloc (Nat.le_refl _) (.cells #[.int .i64 k, .int .i64 (bN L k), .int .i64 (sg16 (two L k)), .int .i64 0] 38))) hgrow (fun q hq => by have := hge q hq; omega))
        have HB5 := lhid ((HB4.out.alloc HB4.out.size (.cells #[.int .i64 k, .int .i64 (bN L k), .int .i64 (sg16 (two L k)), .int .i64 0] 38)).grown hgrow (by have := HB4.out.size; simp; omega) (fun q hq => by have := hge q hq; omega))
        clear hown hgrow hge
        go_wp2
        go_roundw
        case rel =>
          refine ⟨D ++ [opAt L k], A', c', k + 3, by simp, by go_num, hfit, HA2, lhid (own_snoc (x := opAt L k) (by rw [HX.out]; exact HO5.out)), HM5, HB5⟩
        case measure => simp [intOf]; omega
      · obtain rfl : n = 3 := hn.symm
        clear hn hle hn0 q0
        have x0 := wr_b L k
        have c1 : wr.cell? ⟨g, o + (k + 1), none⟩ = some (.int .u8 (bN L (k + 1))) := HC.out 1 (by omega)
        have y1 := bN_lt L (k + 1)
        have k4 : (k : Int) + 1 < L.length := by omega
        have c2 : wr.cell? ⟨g, o + (k + 2), none⟩ = some (.int .u8 (bN L (k + 2))) := HC.out 2 (by omega)
        have y2 := bN_lt L (k + 2)
        have k5 : (k : Int) + 2 < L.length := by omega
        go_wp2_with fail
        with_reducible refine (rsize_r _ 3 _ HS).mono ?_
        rintro e w2 ⟨rfl, hb2⟩
        have d1 := (hb2.cell (p := ⟨g, o + (k + 1), none⟩) hgl).trans c1
        have d2 := (hb2.cell (p := ⟨g, o + (k + 2), none⟩) hgl).trans c2
        have HO2 := lhid (own_below HO.out hb2)
        have HM2 := lhid (HM.out.below hb2)
        have HB2 := lhid (HB.out.trans (hb2.mono HB.out.size))
        have hz2' := hb2.size
        have hg2 : g < w2.heap.size := by omega
        have hg3 : ¬ g = w2.heap.size := by omega
        clear hb2
        go_wp2_with fail
        with_reducible refine (rrow_r _ 5 _ HW).mono ?_
        rintro e w3 ⟨rfl, hb3⟩
        have HBX : w3.heap[w2.heap.size]? = some (.cells #[.int .i64 k, .int .i64 (bN L k), .int .i64 0, .int .i64 0] 38 (0, 0)) := (hb3.block _ (by simp)).trans (heap_alloc_new w2 _)
        have hb23 := ((Below.refl w2.heap.size w2).alloc (Nat.le_refl _) _).trans (hb3.mono (by simp))
        have HO3 := lhid (own_below HO2.out hb23)
        have HM3 := lhid (HM2.out.below hb23)
        have HB3 := lhid (HB2.out.trans (hb23.mono HB2.out.size))
        have hz3 := hb23.size
        have hz1w := HB2.out.size
        have p0 := heap_cell (i := 0) HBX rfl
        have p1 := heap_cell (i := 1) HBX rfl
        have p2 := heap_cell (i := 2) HBX rfl
        have p3 := heap_cell (i := 3) HBX rfl
        have z2 := heap_thaw HBX
        have hbz : w2.heap.size < w3.heap.size := heap_lt HBX
        have HBXh := lhid HBX
        obtain ⟨bb, b0, _⟩ := HM3.out.cell hlt
        have b1 := HM3.out.fz
        have b2 := HM3.out.lt
        have b5 := HM2.out.lt
        have b3 : ¬ w.heap.size = w2.heap.size := by omega
        have b4 : ¬ w2.heap.size = w.heap.size := by omega
        clear HBX hb3 hb23
        have ht : (256 : Int) * bN L (k + 1) + bN L (k + 2) = (two L k : Int) := by unfold two; omega
        have HO4 := lhid (own_set (own_setN HO.out HO3.out hz2' 2 (.int .i64 (two L k))) (by omega : w.heap.size < w.heap.size + 1) k (.bool true))
        have HM4 := lhid ((HM3.out.setN (b := w2.heap.size) b5 2 (.int .i64 (two L k))).set hlt (begun_snoc L k D))
        have HB4 := lhid ((HB3.out.setCell (p := ⟨w2.heap.size, 2, none⟩) hz1w (.int .i64 (two L k))).setCell (p := ⟨w.heap.size, k, none⟩) (Nat.le_refl _) (.bool true))
        go_wp2_with (at_builtin; refine wpList_append_own _ rfl (.tmp 103) (.tmp 105) 24 rfl (w.heap.size + 1) 38 i0 (.agg #[.int .i64 0, .int .i64 0, .int .i64 0, .int .i64 0]) 4 32 Try.underlying24 hi0 hz0 hz1 hz2 rfl (by decide) (.slice A D.length c) D.length (D.flatMap copE) rfl (HO4.out.alloc _) ⟨w3.heap.size, 0, none⟩ 1 1 [.int .i64 k, .int .i64 (bN L k), .int .i64 (two L k), .int .i64 0] rfl rfl ?c1 ?c2 ?c3 ?c4 ?c5 ?_)
        case c1 => exact new_cells' ((w3.setCell ⟨w2.heap.size, 2, none⟩ (.int .i64 (two L k))).setCell ⟨w.heap.size, k, none⟩ (.bool true)) [.int .i64 k, .int .i64 (bN L k), .int .i64 (two L k), .int .i64 0] _ _ (by simp)
        case c2 => intro u hu; simp at hu; rcases hu with rfl | rfl | rfl | rfl <;> simp [Value.oneCell']
        case c3 => unfold maxLen; omega
        case c4 => omega
        case c5 => simp; omega
        intro v' w6 hown hgrow _
        obtain ⟨A', c', rfl⟩ := own_shape hown
        have HO5 := lhid hown
        have hge := own_lt (HO4.out.alloc (.cells #[.int .i64 k, .int .i64 (bN L k), .int .i64 (two L k), .int .i64 0] 38))
        have HM5 := lhid (Marks.grown (HM4.out.below ((Below.refl _ _).alloc (Nat.le_refl _) (.cells #[.int .i64 k, .int .i64 (bN L k), .int .i64 (two L k), .int .i64 0] 38))) hgrow (fun q hq => by have := hge q hq; omega))
        have HB5 := lhid ((HB4.out.alloc HB4.out.size (.cells #[.int .i64 k, .int .i64 (bN L k), .int .i64 (two L k), .int .i64 0] 38)).grown hgrow (by have := HB4.out.size; simp; omega) (fun q hq => by have := hge q hq; omega))
        clear hown hgrow hge
        go_wp2
        go_roundw
        case rel =>
          refine ⟨D ++ [opAt L k], A', c', k + 3, by simp, by go_num, hfit, HA2, lhid (own_snoc (x := opAt L k) (by rw [HX.out]; exact HO5.out)), HM5, HB5⟩
        case measure => simp [intOf]; omega
      · obtain rfl : n = 3 := hn.symm
        clear hn hle hn0 q0
        have x0 := wr_b L k
        have c1 : wr.cell? ⟨g, o + (k + 1), none⟩ = some (.int .u8 (bN L (k + 1))) := HC.out 1 (by omega)
        have y1 := bN_lt L (k + 1)
        have k4 : (k : Int) + 1 < L.length := by omega
        have c2 : wr.cell? ⟨g, o + (k + 2), none⟩ = some (.int .u8 (bN L (k + 2))) := HC.out 2 (by omega)
        have y2 := bN_lt L (k + 2)
        have k5 : (k : Int) + 2 < L.length := by omega
        go_wp2_with fail
        with_reducible refine (rsize_r _ 3 _ HS).mono ?_
        rintro e w2 ⟨rfl, hb2⟩
        have d1 := (hb2.cell (p := ⟨g, o + (k + 1), none⟩) hgl).trans c1
        have d2 := (hb2.cell (p := ⟨g, o + (k + 2), none⟩) hgl).trans c2
        have HO2 := lhid (own_below HO.out hb2)
        have HM2 := lhid (HM.out.below hb2)
        have HB2 := lhid (HB.out.trans (hb2.mono HB.out.size))
        have hz2' := hb2.size
        have hg2 : g < w2.heap.size := by omega
        have hg3 : ¬ g = w2.heap.size := by omega
        clear hb2
        go_wp2_with fail
        with_reducible refine (rrow_r _ 6 _ HW).mono ?_
        rintro e w3 ⟨rfl, hb3⟩
        have HBX : w3.heap[w2.heap.size]? = some (.cells #[.int .i64 k, .int .i64 (bN L k), .int .i64 0, .int .i64 0] 38 (0, 0)) := (hb3.block _ (by simp)).trans (heap_alloc_new w2 _)
        have hb23 := ((Below.refl w2.heap.size w2).alloc (Nat.le_refl _) _).trans (hb3.mono (by simp))
        have HO3 := lhid (own_below HO2.out hb23)
        have HM3 := lhid (HM2.out.below hb23)
        have HB3 := lhid (HB2.out.trans (hb23.mono HB2.out.size))
        have hz3 := hb23.size
        have hz1w := HB2.out.size
        have p0 := heap_cell (i := 0) HBX rfl
        have p1 := heap_cell (i := 1) HBX rfl
        have p2 := heap_cell (i := 2) HBX rfl
        have p3 := heap_cell (i := 3) HBX rfl
        have z2 := heap_thaw HBX
        have hbz : w2.heap.size < w3.heap.size := heap_lt HBX
        have HBXh := lhid HBX
        obtain ⟨bb, b0, _⟩ := HM3.out.cell hlt
        have b1 := HM3.out.fz
        have b2 := HM3.out.lt
        have b5 := HM2.out.lt
        have b3 : ¬ w.heap.size = w2.heap.size := by omega
        have b4 : ¬ w2.heap.size = w.heap.size := by omega
        clear HBX hb3 hb23
        have ht : (256 : Int) * bN L (k + 1) + bN L (k + 2) = (two L k : Int) := by unfold two; omega
        have s1 := (sg16_in (two_lt L k)).1
        have s2 := (sg16_in (two_lt L k)).2
        go_wp2_with fail
        with_reducible refine (sign16_any _ _ (two_lt L k)).mono ?_
        rintro e w5 ⟨rfl, rfl⟩
        have HO4 := lhid (own_set (own_setN HO.out HO3.out hz2' 2 (.int .i64 ((k : Int) + sg16 (two L k)))) (by omega : w.heap.size < w.heap.size + 1) k (.bool true))
        have HM4 := lhid ((HM3.out.setN (b := w2.heap.size) b5 2 (.int .i64 ((k : Int) + sg16 (two L k)))).set hlt (begun_snoc L k D))
        have HB4 := lhid ((HB3.out.setCell (p := ⟨w2.heap.size, 2, none⟩) hz1w (.int .i64 ((k : Int) + sg16 (two L k)))).setCell (p := ⟨w.heap.size, k, none⟩) (Nat.le_refl _) (.bool true))
        go_wp2_with (at_builtin; refine wpList_append_own _ rfl (.tmp 103) (.tmp 105) 24 rfl (w.heap.size + 1) 38 i0 (.agg #[.int .i64 0, .int .i64 0, .int .i64 0, .int .i64 0]) 4 32 Try.underlying24 hi0 hz0 hz1 hz2 rfl (by decide) (.slice A D.length c) D.length (D.flatMap copE) rfl (HO4.out.alloc _) ⟨w3.heap.size, 0, none⟩ 1 1 [.int .i64 k, .int .i64 (bN L k), .int .i64 ((k : Int) + sg16 (two L k)), .int .i64 0] rfl rfl ?c1 ?c2 ?c3 ?c4 ?c5 ?_)
        case c1 => exact new_cells' ((w3.setCell ⟨w2.heap.size, 2, none⟩ (.int .i64 ((k : Int) + sg16 (two L k)))).setCell ⟨w.heap.size, k, none⟩ (.bool true)) [.int .i64 k, .int .i64 (bN L k), .int .i64 ((k : Int) + sg16 (two L k)), .int .i64 0] _ _ (by simp)
        case c2 => intro u hu; simp at hu; rcases hu with rfl | rfl | rfl | rfl <;> simp [Value.oneCell']
        case c3 => unfold maxLen; omega
        case c4 => omega
        case c5 => simp; omega
        intro v' w6 hown hgrow _
        obtain ⟨A', c', rfl⟩ := own_shape hown
        have HO5 := lhid hown
        have hge := own_lt (HO4.out.alloc (.cells #[.int .i64 k, .int .i64 (bN L k), .int .i64 ((k : Int) + sg16 (two L k)), .int .i64 0] 38))
        have HM5 := lhid (Marks.grown (HM4.out.below ((Below.refl _ _).alloc (Nat.le_refl _) (.cells #[.int .i64 k, .int .i64 (bN L k), .int .i64 ((k : Int) + sg16 (two L k)), .int .i64 0] 38))) hgrow (fun q hq => by have := hge q hq; omega))
        have HB5 := lhid ((HB4.out.alloc HB4.out.size (.cells #[.int .i64 k, .int .i64 (bN L k), .int .i64 ((k : Int) + sg16 (two L k)), .int .i64 0] 38)).grown hgrow (by have := HB4.out.size; simp; omega) (fun q hq => by have := hge q hq; omega))
        clear hown hgrow hge
        go_wp2
        go_roundw
        case rel =>
          refine ⟨D ++ [opAt L k], A', c', k + 3, by simp, by go_num, hfit, HA2, lhid (own_snoc (x := opAt L k) (by rw [HX.out]; exact HO5.out)), HM5, HB5⟩
        case measure => simp [intOf]; omega
      · obtain rfl : n = 3 := hn.symm
        clear hn hle hn0 q0
        have x0 := wr_b L k
        have c1 : wr.cell? ⟨g, o + (k + 1), none⟩ = some (.int .u8 (bN L (k + 1))) := HC.out 1 (by omega)
        have y1 := bN_lt L (k + 1)
        have k4 : (k : Int) + 1 < L.length := by omega
        have c2 : wr.cell? ⟨g, o + (k + 2), none⟩ = some (.int .u8 (bN L (k + 2))) := HC.out 2 (by omega)
        have y2 := bN_lt L (k + 2)
        have k5 : (k : Int) + 2 < L.length := by omega
        go_wp2_with fail
        with_reducible refine (rsize_r _ 3 _ HS).mono ?_
        rintro e w2 ⟨rfl, hb2⟩
        have d1 := (hb2.cell (p := ⟨g, o + (k + 1), none⟩) hgl).trans c1
        have d2 := (hb2.cell (p := ⟨g, o + (k + 2), none⟩) hgl).trans c2
        have HO2 := lhid (own_below HO.out hb2)
        have HM2 := lhid (HM.out.below hb2)
        have HB2 := lhid (HB.out.trans (hb2.mono HB.out.size))
        have hz2' := hb2.size
        have hg2 : g < w2.heap.size := by omega
        have hg3 : ¬ g = w2.heap.size := by omega
        clear hb2
        go_wp2_with fail
        with_reducible refine (rrow_r _ 7 _ HW).mono ?_
        rintro e w3 ⟨rfl, hb3⟩
        have HBX : w3.heap[w2.heap.size]? = some (.cells #[.int .i64 k, .int .i64 (bN L k), .int .i64 0, .int .i64 0] 38 (0, 0)) := (hb3.block _ (by simp)).trans (heap_alloc_new w2 _)
        have hb23 := ((Below.refl w2.heap.size w2).alloc (Nat.le_refl _) _).trans (hb3.mono (by simp))
        have HO3 := lhid (own_below HO2.out hb23)
        have HM3 := lhid (HM2.out.below hb23)
        have HB3 := lhid (HB2.out.trans (hb23.mono HB2.out.size))
        have hz3 := hb23.size
        have hz1w := HB2.out.size
        have p0 := heap_cell (i := 0) HBX rfl
        have p1 := heap_cell (i := 1) HBX rfl
        have p2 := heap_cell (i := 2) HBX rfl
        have p3 := heap_cell (i := 3) HBX rfl
        have z2 := heap_thaw HBX
        have hbz : w2.heap.size < w3.heap.size := heap_lt HBX
        have HBXh := lhid HBX
        obtain ⟨bb, b0, _⟩ := HM3.out.cell hlt
        have b1 := HM3.out.fz
        have b2 := HM3.out.lt
        have b5 := HM2.out.lt
        have b3 : ¬ w.heap.size = w2.heap.size := by omega
        have b4 : ¬ w2.heap.size = w.heap.size := by omega
        clear HBX hb3 hb23
        have ht : (256 : Int) * bN L (k + 1) + bN L (k + 2) = (two L k : Int) := by unfold two; omega
        have hm : (two L k : Int) % 256 = bN L (k + 2) := by unfold two; omega
        go_wp2_with fail
        with_reducible refine (sign8_any _ _ y2).mono ?_
        rintro e w5 ⟨rfl, rfl⟩
        have HO4 := lhid (own_set (own_setN HO.out (own_setN HO.out HO3.out hz2' 2 (.int .i64 (bN L (k + 1)))) hz2' 3 (.int .i64 (sg8 (bN L (k + 2))))) (by omega : w.heap.size < w.heap.size + 1) k (.bool true))
        have HM4 := lhid (((HM3.out.setN (b := w2.heap.size) b5 2 (.int .i64 (bN L (k + 1)))).setN (b := w2.heap.size) b5 3 (.int .i64 (sg8 (bN L (k + 2))))).set hlt (begun_snoc L k D))
        have HB4 := lhid (((HB3.out.setCell (p := ⟨w2.heap.size, 2, none⟩) hz1w (.int .i64 (bN L (k + 1)))).setCell (p := ⟨w2.heap.size, 3, none⟩) hz1w (.int .i64 (sg8 (bN L (k + 2))))).setCell (p := ⟨w.heap.size, k, none⟩) (Nat.le_refl _) (.bool true))
        go_wp2_with (at_builtin; refine wpList_append_own _ rfl (.tmp 103) (.tmp 105) 24 rfl (w.heap.size + 1) 38 i0 (.agg #[.int .i64 0, .int .i64 0, .int .i64 0, .int .i64 0]) 4 32 Try.underlying24 hi0 hz0 hz1 hz2 rfl (by decide) (.slice A D.length c) D.length (D.flatMap copE) rfl (HO4.out.alloc _) ⟨w3.heap.size, 0, none⟩ 1 1 [.int .i64 k, .int .i64 (bN L k), .int .i64 (bN L (k + 1)), .int .i64 (sg8 (bN L (k + 2)))] rfl rfl ?c1 ?c2 ?c3 ?c4 ?c5 ?_)
        case c1 => exact new_cells' (((w3.setCell ⟨w2.heap.size, 2, none⟩ (.int .i64 (bN L (k + 1)))).setCell ⟨w2.heap.size, 3, none⟩ (.int .i64 (sg8 (bN L (k + 2))))).setCell ⟨w.heap.size, k, none⟩ (.bool true)) [.int .i64 k, .int .i64 (bN L k), .int .i64 (bN L (k + 1)), .int .i64 (sg8 (bN L (k + 2)))] _ _ (by simp)
        case c2 => intro u hu; simp at hu; rcases hu with rfl | rfl | rfl | rfl <;> simp [Value.oneCell']
        case c3 => unfold maxLen; omega
        case c4 => omega
        case c5 => simp; omega
        intro v' w6 hown hgrow _
        obtain ⟨A', c', rfl⟩ := own_shape hown
        have HO5 := lhid hown
        have hge := own_lt (HO4.out.alloc (.cells #[.int .i64 k, .int .i64 (bN L k), .int .i64 (bN L (k + 1)), .int .i64 (sg8 (bN L (k + 2)))] 38))
        have HM5 := lhid (Marks.grown (HM4.out.below ((Below.refl _ _).alloc (Nat.le_refl _) (.cells #[.int .i64 k, .int .i64 (bN L k), .int .i64 (bN L (k + 1)), .int .i64 (sg8 (bN L (k + 2)))] 38))) hgrow (fun q hq => by have := hge q hq; omega))
        have HB5 := lhid ((HB4.out.alloc HB4.out.size (.cells #[.int .i64 k, .int .i64 (bN L k), .int .i64 (bN L (k + 1)), .int .i64 (sg8 (bN L (k + 2)))] 38)).grown hgrow (by have := HB4.out.size; simp; omega) (fun q hq => by have := hge q hq; omega))
        clear hown hgrow hge
        go_wp2
        go_roundw
        case rel =>
          refine ⟨D ++ [opAt L k], A', c', k + 3, by simp, by go_num, hfit, HA2, lhid (own_snoc (x := opAt L k) (by rw [HX.out]; exact HO5.out)), HM5, HB5⟩
        case measure => simp [intOf]; omega
    · have hkl : k = L.length := by omega
      have k3 : ¬ (k : Int) < L.length := by omega
      have HA' := HA.out
      rw [hkl] at HA'
      have HRUN := lhid HA'.done
      have HPC := lhid HA'.pc
      have HRD := lhid (rdl_own copE_len HO.out (by have := HA.out.len; omega))
      have hDl := HA.out.len
      clear HA' hkl HO
      go_wp2_with fail
      go_loopw [12] (fun i wq => ∃ (j : Nat), i = .int .i64 j ∧ j ≤ D.length ∧ Hid (∀ x ∈ D.take j, Led1 D L.length x) ∧ wq = wr) (fun i _ => D.length - (intOf i).toNat)
      case atStart => exact ⟨0, rfl, Nat.zero_le _, lhid (by simp), rfl⟩
      case round =>
        obtain ⟨j, rfl, hj, HE, rfl⟩ := hrel
        by_cases hjl : j < D.length
        · obtain ⟨x, hx⟩ : ∃ x, D[j]? = some x := ⟨_, List.getElem?_eq_getElem hjl⟩
          have HX := lhid hx
          obtain ⟨g, o, rfl, hc⟩ := HRD.out.at' hx
          obtain ⟨c0, c1, c2, c3⟩ := cell4 hc
          have k4 : (j : Int) < D.length := by omega
          have HI : Hid (x ∈ D) := lhid (List.mem_of_getElem? hx)
          clear hx hc
          by_cases hr : rowN x.code = 6
          · have HR6 : Hid (decide (rowN x.code = 6) = true) := lhid (decide_eq_true hr)
            have HL : Hid (Lead x) := lhid hr
            clear hr
            by_cases ha : x.a < 0
            · have HD := lhid (decR_astray L D HN.out h4' HRUN.out fun e => by have := e x HI.out HL.out; omega)
              go_wp2_with fail
              with_reducible refine (rleads_b _ _ _ HR6).mono ?_
              rintro e w2 ⟨rfl, rfl⟩
              go_wp2_with fail
              go_ret2
              exact dout_no HD.out HB.out
            · by_cases ha2 : x.a < L.length
              · obtain ⟨p, hp2⟩ : ∃ p : Nat, x.a = p := ⟨x.a.toNat, by omega⟩
                have hpn : p < L.length := by omega
                obtain ⟨bb, b0, hbb⟩ := HM.out.cell hpn
                have HBB := lhid hbb
                have HP := lhid hp2
                have ha3 : ¬ (L.length : Int) ≤ x.a := by omega
                have k5 : (p : Int) < L.length := by omega
                rw [hp2] at c2 ha ha2 ha3
                clear hp2 hbb
                cases bb
                · have HD := lhid (decR_astray L D HN.out h4' HRUN.out fun e => by
                    obtain ⟨_, _, y, hy, e2⟩ := e x HI.out HL.out
                    have := HBB.out.2 ⟨y, hy, by rw [e2, HP.out]⟩
                    simp at this)
                  go_wp2_with fail
                  with_reducible refine (rleads_b _ _ _ HR6).mono ?_
                  rintro e w2 ⟨rfl, rfl⟩
                  go_wp2_with fail
                  go_ret2
                  exact dout_no HD.out HB.out
                · have HE2 := lhid (led_on HX.out HE.out (show Led1 D L.length x from fun _ => ⟨by rw [HP.out]; omega, by rw [HP.out]; omega, by
                    obtain ⟨y, hy, e2⟩ := HBB.out.1 rfl
                    exact ⟨y, hy, by rw [e2, HP.out]⟩⟩))
                  go_wp2_with fail
                  with_reducible refine (rleads_b _ _ _ HR6).mono ?_
                  rintro e w2 ⟨rfl, rfl⟩
                  go_wp2_with fail
                  go_roundw
                  case rel => exact ⟨j + 1, by go_num, by omega, HE2, trivial⟩
                  case measure => simp [intOf]; omega
              · have HD := lhid (decR_astray L D HN.out h4' HRUN.out fun e => by have := e x HI.out HL.out; omega)
                have ha3 : (L.length : Int) ≤ x.a := by omega
                go_wp2_with fail
                with_reducible refine (rleads_b _ _ _ HR6).mono ?_
                rintro e w2 ⟨rfl, rfl⟩
                go_wp2_with fail
                go_ret2
                exact dout_no HD.out HB.out
          · have HR6 : Hid (decide (rowN x.code = 6) = false) := lhid (decide_eq_false hr)
            have HE2 := lhid (led_on HX.out HE.out (show Led1 D L.length x from fun hl => absurd hl hr))
            clear hr
            go_wp2_with fail
            with_reducible refine (rleads_b _ _ _ HR6).mono ?_
            rintro e w2 ⟨rfl, rfl⟩
            go_wp2_with fail
            go_roundw
            case rel => exact ⟨j + 1, by go_num, by omega, HE2, trivial⟩
            case measure => simp [intOf]; omega
        · have k4 : ¬ (j : Int) < D.length := by omega
          have he := HE.out
          rw [List.take_of_length_le (by omega)] at he
          have HD := lhid (decR_led L D HN.out h4' HRUN.out he)
          clear he HE
          go_wp2_with fail
          go_ret2
          exact dout_ok HD.out HRD.out HB.out
end Go.Proofs.Ytifheohdgjamnaa
