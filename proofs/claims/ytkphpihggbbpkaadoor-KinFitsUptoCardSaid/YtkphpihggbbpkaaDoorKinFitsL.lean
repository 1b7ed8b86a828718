/- The walk of KinFits. -/
import Derived.Test.YtkphpihggbbpkaaDoorKinKnown
import Derived.Test.YtkphpihggbbpkaaDoorKinHolds2
import Derived.Test.YtkphpihggbbpkaaDoorKinLight
import Derived.Test.YtkphpihggbbpkaaDoorKinOpenA
import Derived.Test.YtkphpihggbbpkaaDoorKinShort
import Derived.Deep.Cut
import Derived.BigQuiet
namespace Go.Proofs.YtkphpihggbbpkaaDoor
open Go.RowKit Go Go.Maps
set_option linter.unusedVariables false

theorem tx_cons (a : UInt8) (x : Bs) : (⟨#[a]⟩ ++ tx x : ByteArray) = tx (a :: x) := by
  have h : (⟨#[a]⟩ ++ tx x : ByteArray).data.toList = (tx (a :: x)).data.toList := by
    rw [tx_list, ByteArray.data_append, Array.toList_append, tx_list]
    rfl
  have := tx_self (⟨#[a]⟩ ++ tx x)
  rw [h, tx_list] at this
  exact this.symm
theorem cell3 {W : World} {g : Nat} {s0 s1 s2 : Bs} {t : TypeId} (h : W.heap[g]? = some (.cells #[.string (tx s0), .string (tx s1), .string (tx s2)] t (0, 0))) (h0 : s0.length ≤ 1048576) (h1 : s1.length ≤ 1048576) (h2 : s2.length ≤ 1048576) (i : Nat) (hi : i < 3) : ∃ x : Bs, W.cell? ⟨g, i, none⟩ = some (.string (tx x)) ∧ x.length ≤ 1048576 := by
  match i, hi with
  | 0, _ => exact ⟨s0, heap_cell (i := 0) h rfl, h0⟩
  | 1, _ => exact ⟨s1, heap_cell (i := 1) h rfl, h1⟩
  | 2, _ => exact ⟨s2, heap_cell (i := 2) h rfl, h2⟩
theorem dec_iff (p : Prop) : ∃ r : Bool, Tells r p := by
  rcases Classical.em p with h | h
  · exact ⟨true, ⟨by simp [h]⟩⟩
  · exact ⟨false, ⟨by simp [h]⟩⟩
theorem k78 : (⟨#[78]⟩ : ByteArray) = tx [78] := rfl
theorem k0 : (⟨#[]⟩ : ByteArray) = tx [] := rfl
theorem kob : (⟨#[76, 79, 98, 106, 101, 99, 116, 59]⟩ : ByteArray) = tx (ofL nObject) := rfl
theorem kar : (⟨#[91, 76, 79, 98, 106, 101, 99, 116, 59]⟩ : ByteArray) = tx (91 :: ofL nObject) := rfl
set_option maxHeartbeats 32000000 in
set_option maxRecDepth 100000 in
theorem KinFits_walk (P : Nat → Prop) (v : Value) (l : List ClI) (q1 q2 a c b : Bs) (w : World) (h : Hid (RdX P 7 (ClE P) w v l)) (hSh : Hid (Short l)) (ha : a.length ≤ 1048576) (hb : b.length ≤ 1048576) (hc : c.length ≤ 1048576) :
    Calls Tryd.prog 3 #[v, .agg #[.string (tx q1), .string (tx q2), .string (tx c), .string (tx a), .string (tx b)]] w fun e w' => e = .returned (.bool true) ∧ Below w.heap.size w w' := by
  obtain ⟨A, cap, rfl⟩ := h.out.shape
  have H0 := lhid (h.out.below (keptX_cl P) ((Below.refl w.heap.size w).alloc (Nat.le_refl _) (.cells #[.string (tx q1), .string (tx q2), .string (tx c), .string (tx a), .string (tx b)] 24)))
  have HX0 := lhid (heap_alloc_new w (.cells #[.string (tx q1), .string (tx q2), .string (tx c), .string (tx a), .string (tx b)] 24))
  have HB0 := lhid ((Below.refl w.heap.size w).alloc (Nat.le_refl _) (.cells #[.string (tx q1), .string (tx q2), .string (tx c), .string (tx a), .string (tx b)] 24))
  go_enter Tryd.func3, Tryd.ntmps3
  go_upto_region 1 with fail
  generalize w.alloc (.cells #[.string (tx q1), .string (tx q2), .string (tx c), .string (tx a), .string (tx b)] 24) = w0 at *
  have x2 := heap_cell (i := 2) HX0.out rfl
  have x3 := heap_cell (i := 3) HX0.out rfl
  have x4 := heap_cell (i := 4) HX0.out rfl
  have hw0 := HB0.out.size
  go_quiet (fail)
  clear x2 x3 x4
  go_wp2_with fail
  with_reducible refine (holds_any _).mono ?_
  rintro e w1 ⟨rfl, hb1⟩
  have hb1' : Below w0.heap.size w0 w1 := (Below.drewN' (Below.refl w0.heap.size w0) _).trans hb1
  have HB1 := lhid (HB0.out.trans (Below.less hb1' hw0))
  have H1 := lhid (H0.out.below (keptX_cl P) hb1')
  clear hb1'
  clear hb1
  go_wp2_with fail
  with_reducible refine (new_any P (.slice A l.length cap) l _ H1 hSh).mono ?_
  rintro e w2 ⟨hb2, x, hx, hcase⟩
  have HB2 := lhid (HB1.out.trans (Below.less hb2 HB1.out.size))
  have H2 := lhid (H1.out.below (keptX_cl P) hb2)
  have hw2 := HB2.out.size
  have HX := lhid hx
  clear hb2 hx
  rcases hcase with ⟨hx0, rfl⟩ | ⟨rfl, tb, rfl, hT⟩
  · go_wp2_with fail
    go_ret
    exact ⟨by rfl, HB2.out⟩
  have HT := lhid hT
  have HF := lhid (newE_zero HX.out)
  clear hT
  go_wp2_with fail
  with_reducible refine (light_any P (.slice A l.length cap) l _ H2).mono ?_
  rintro e w3 ⟨r, rfl, hb3⟩
  have HB3 := lhid (HB2.out.trans (Below.less hb3 hw2))
  have HT3 := lhid (HT.out.below hb3)
  have hw3 := HB3.out.size
  clear hb3
  cases r with
  | false =>
    go_wp2_with fail
    go_ret
    exact ⟨by rfl, HB3.out⟩
  | true =>
  have HCL := lhid (closed_all HF.out.2.1 HF.out.2.2.2.1)
  have HRO := lhid (rooted_all HF.out.2.2.2.1)
  have HON := lhid (obj_nxt HCL.out)
  obtain ⟨L, hL⟩ : ∃ L, ownL ++ l = L := ⟨_, rfl⟩
  have HNC : Hid (∀ s ∈ names L, ¬ Circ L s) := lhid (by rw [← hL]; exact HF.out.2.2.2.2)
  rw [hL] at HCL HRO HON HT3
  clear hL
  have s1 : (tx a).size ≤ 1048576 := by rw [tx_size]; exact ha
  have s2 : (tx b).size ≤ 1048576 := by rw [tx_size]; exact hb
  have s3 : (tx c).size ≤ 1048576 := by rw [tx_size]; exact hc
  go_upto_region 7 with fail
  any_goals first
    | (go_ret; exact ⟨by rfl, HB3.out⟩)
    | skip
  go_cut [64] from 44 (fun t wx => t = .bool false ∧ Hid (Below w3.heap.size w3 wx))
  case first =>
    obtain ⟨r1, R1⟩ := dec_iff (FitsP L a b)
    obtain ⟨r2, R2⟩ := dec_iff (FitsP L b c)
    go_wp2_with fail
    with_reducible refine (fits_r _ tb L a b _ _ r1 w3 HT3 rfl rfl R1 (by omega) (by omega)).mono ?_
    rintro e w4 ⟨rfl, hb4⟩
    have HB4 := lhid hb4
    have HT4 := lhid (HT3.out.below hb4)
    clear hb4
    cases r1 with
    | false =>
      go_wp2_with fail
      go_meet
      exact ⟨rfl, HB4⟩
    | true =>
      go_wp2_with fail
      with_reducible refine (fits_r _ tb L b c _ _ r2 w4 HT4 rfl rfl R2 (by omega) (by omega)).mono ?_
      rintro e w5 ⟨rfl, hb5⟩
      have HB5 := lhid (HB4.out.trans (Below.less hb5 HB4.out.size))
      have HT5 := lhid (HT4.out.below hb5)
      clear hb5
      cases r2 with
      | false =>
        go_wp2_with fail
        go_meet
        exact ⟨rfl, HB5⟩
      | true =>
        by_cases hbn : b = []
        · have e1 : (tx b).toList = [] := by rw [tx_toL]; exact hbn
          have e2 : (tx b).toList.isEmpty = true := by rw [e1]; rfl
          clear hbn
          go_wp2_with fail
          go_meet
          exact ⟨rfl, HB5⟩
        · have e1 : ¬ (tx b).toList = [] := by rw [tx_toL]; exact hbn
          have e2 : (tx b).toList.isEmpty = false := by rw [List.isEmpty_eq_false_iff]; exact e1
          have R3 : Tells true (FitsP L a c) := ⟨⟨fun _ => fits_trans HCL.out HON.out (R1.iff.1 rfl) (R2.iff.1 rfl) hbn, fun _ => rfl⟩⟩
          clear hbn
          go_wp2_with fail
          with_reducible refine (fits_r _ tb L a c _ _ true w5 HT5 rfl rfl R3 (by omega) (by omega)).mono ?_
          rintro e w6 ⟨rfl, hb6⟩
          have HB6 := lhid (HB5.out.trans (Below.less hb6 HB5.out.size))
          clear hb6 e1 e2
          go_wp2_with fail
          go_meet
          exact ⟨rfl, HB6⟩
  case rest =>
    obtain ⟨rfl, HBC⟩ := hcut
    have HBc := lhid (HB3.out.trans (Below.less HBC.out hw3))
    have hwc := HBc.out.size
    have HTc := lhid (HT3.out.below HBC.out)
    have HXS := lhid (heap_alloc_new wc (.cells #[.string (tx a), .string (tx b), .string (tx c)] 9))
    have HBS := lhid (HBc.out.alloc hwc (.cells #[.string (tx a), .string (tx b), .string (tx c)] 9))
    have HTS := lhid (HTc.out.below ((Below.refl wc.heap.size wc).alloc (Nat.le_refl _) (.cells #[.string (tx a), .string (tx b), .string (tx c)] 9)))
    go_wp2_with fail
    generalize wc.alloc (.cells #[.string (tx a), .string (tx b), .string (tx c)] 9) = ws at *
    have hws := HBS.out.size
    go_loopw [70] (fun i wr => ∃ k : Nat, i = .int .i64 k ∧ k ≤ 3 ∧ Hid (Below ws.heap.size ws wr)) (fun i _ => 3 - (intOf i).toNat)
    case atStart => exact ⟨0, rfl, Nat.zero_le _, lhid (Below.refl _ _)⟩
    case round =>
      obtain ⟨k, rfl, hk, HBk⟩ := hrel
      have hbk := HBk.out.size
      by_cases hlt : k < 3
      · obtain ⟨x, c0, hxl⟩ := cell3 ((HBk.out.block _ (heap_lt HXS.out)).trans HXS.out) ha hb hc k hlt
        have k4 : (k : Int) < 3 := by omega
        have HTr := lhid (HTS.out.below HBk.out)
        go_wp2_with fail
        with_reducible refine (known_any _ tb L x wr HTr (by unfold maxLen; omega)).mono ?_
        rintro e w5 ⟨r, rfl, hkf, hb5⟩
        have HB5 := lhid (HBk.out.trans (Below.less hb5 hbk))
        have HT5 := lhid (HTr.out.below hb5)
        have hw5 := HB5.out.size
        clear hb5 c0
        cases r with
        | false =>
          clear hkf
          go_wp2_with fail
          go_roundw
          case rel => exact ⟨k + 1, by go_num, by omega, HB5⟩
          case measure => simp [intOf]; omega
        | true =>
          have HK := lhid (hkf rfl)
          clear hkf
          obtain ⟨ch, xr, rfl⟩ : ∃ ch xr, x = ch :: xr := by
            cases x with
            | nil => exact absurd rfl HK.out.1
            | cons a b => exact ⟨_, _, rfl⟩
          have hlen : xr.length ≤ 1048576 := by simp at hxl; omega
          have hx0 : 0 < (tx (ch :: xr)).size := by rw [tx_size]; simp
          have hx9 : ¬ 9223372036854775807 < (⟨#[91]⟩ : ByteArray).size + (tx (ch :: xr)).size := by rw [tx_size]; show ¬ _ < 1 + _; omega
          have hix : (tx (ch :: xr))[0]'hx0 = ch := rfl
          clear hxl
          have hrf : refB (ch :: xr) = (((ch.toNat : Int) == 76) || ((ch.toNat : Int) == 91)) := by
            unfold refB
            have h1 := u8_eq ch 76 (by omega)
            have h2 := u8_eq ch 91 (by omega)
            show ((ch == 76) || (ch == 91)) = _
            rw [show (76 : UInt8) = Nat.toUInt8 76 from rfl, show (91 : UInt8) = Nat.toUInt8 91 from rfl, h1, h2]
            rfl
          by_cases hb1 : (ch.toNat : Int) = 76
          · have e1 : ((ch.toNat : Int) == 76) = true := by simpa using hb1
            rw [e1, Bool.true_or] at hrf
            clear hb1
            have HRF := lhid hrf
            clear hrf
            have T0 : Tells true (FitsP L (ch :: xr) (ch :: xr)) := ⟨⟨fun _ => .inr (.inl rfl), fun _ => rfl⟩⟩
            have T1 : Tells true (FitsP L (ch :: xr) []) := ⟨⟨fun _ => .inl rfl, fun _ => rfl⟩⟩
            have T2 : Tells true (FitsP L [78] (ch :: xr)) := ⟨by rw [known_3 HK.out, HRF.out]⟩
            have T3 : Tells true (FitsP L (ch :: xr) (ofL nObject)) := ⟨by rw [known_4 HCL.out HRO.out HNC.out HK.out, HRF.out]⟩
            have T4 : Tells false (FitsP L [] (ch :: xr)) := ⟨⟨fun e => (by cases e), fun e => absurd e (known_5 HCL.out HK.out)⟩⟩
            have T5 : Tells true (FitsP L (91 :: ch :: xr) (91 :: ofL nObject)) := ⟨by rw [known_6 HCL.out HRO.out HNC.out HK.out, HRF.out]⟩
            go_wp2_with fail
            with_reducible refine (fits_r _ tb L (ch :: xr) (ch :: xr) (tx (ch :: xr)) (tx (ch :: xr)) true w5 HT5 rfl rfl T0 (by simp <;> omega) (by first | decide | (simp <;> omega))).mono ?_
            rintro e v0 ⟨rfl, hc0⟩
            have HB0x := lhid (HB5.out.trans (Below.less hc0 HB5.out.size))
            have HT0x := lhid (HT5.out.below hc0)
            clear hc0
            go_wp2_with fail
            with_reducible refine (fits_r _ tb L (ch :: xr) [] (tx (ch :: xr)) ⟨#[]⟩ true v0 HT0x rfl k0 T1 (by simp <;> omega) (by first | decide | (simp <;> omega))).mono ?_
            rintro e v1 ⟨rfl, hc1⟩
            have HB1x := lhid (HB0x.out.trans (Below.less hc1 HB0x.out.size))
            have HT1x := lhid (HT0x.out.below hc1)
            clear hc1
            go_wp2_with fail
            with_reducible refine (fits_r _ tb L [78] (ch :: xr) ⟨#[78]⟩ (tx (ch :: xr)) true v1 HT1x k78 rfl T2 (by simp <;> omega) (by first | decide | (simp <;> omega))).mono ?_
            rintro e v2 ⟨rfl, hc2⟩
            have HB2x := lhid (HB1x.out.trans (Below.less hc2 HB1x.out.size))
            have HT2x := lhid (HT1x.out.below hc2)
            clear hc2
            go_wp2_with fail
            with_reducible refine (fits_r _ tb L (ch :: xr) (ofL nObject) (tx (ch :: xr)) ⟨#[76, 79, 98, 106, 101, 99, 116, 59]⟩ true v2 HT2x rfl kob T3 (by simp <;> omega) (by first | decide | (simp <;> omega))).mono ?_
            rintro e v3 ⟨rfl, hc3⟩
            have HB3x := lhid (HB2x.out.trans (Below.less hc3 HB2x.out.size))
            have HT3x := lhid (HT2x.out.below hc3)
            clear hc3
            go_wp2_with fail
            with_reducible refine (fits_r _ tb L [] (ch :: xr) ⟨#[]⟩ (tx (ch :: xr)) false v3 HT3x k0 rfl T4 (by simp <;> omega) (by first | decide | (simp <;> omega))).mono ?_
            rintro e v4 ⟨rfl, hc4⟩
            have HB4x := lhid (HB3x.out.trans (Below.less hc4 HB3x.out.size))
            have HT4x := lhid (HT3x.out.below hc4)
            clear hc4
            go_wp2_with fail
            with_reducible refine (fits_r _ tb L (91 :: ch :: xr) (91 :: ofL nObject) _ ⟨#[91, 76, 79, 98, 106, 101, 99, 116, 59]⟩ true v4 HT4x (tx_cons 91 (ch :: xr)) kar T5 (by simp <;> omega) (by first | decide | (simp <;> omega))).mono ?_
            rintro e v5 ⟨rfl, hc5⟩
            have HB5x := lhid (HB4x.out.trans (Below.less hc5 HB4x.out.size))
            have HT5x := lhid (HT4x.out.below hc5)
            clear hc5
            go_wp2_with fail
            go_roundw
            case rel => exact ⟨k + 1, by go_num, by omega, HB5x⟩
            case measure => simp [intOf]; omega
          · have e1 : ((ch.toNat : Int) == 76) = false := by simpa using hb1
            by_cases hb2 : (ch.toNat : Int) = 91
            · have e2 : ((ch.toNat : Int) == 91) = true := by simpa using hb2
              rw [e1, e2, Bool.or_true] at hrf
              clear hb1 hb2
              have HRF := lhid hrf
              clear hrf
              have T0 : Tells true (FitsP L (ch :: xr) (ch :: xr)) := ⟨⟨fun _ => .inr (.inl rfl), fun _ => rfl⟩⟩
              have T1 : Tells true (FitsP L (ch :: xr) []) := ⟨⟨fun _ => .inl rfl, fun _ => rfl⟩⟩
              have T2 : Tells true (FitsP L [78] (ch :: xr)) := ⟨by rw [known_3 HK.out, HRF.out]⟩
              have T3 : Tells true (FitsP L (ch :: xr) (ofL nObject)) := ⟨by rw [known_4 HCL.out HRO.out HNC.out HK.out, HRF.out]⟩
              have T4 : Tells false (FitsP L [] (ch :: xr)) := ⟨⟨fun e => (by cases e), fun e => absurd e (known_5 HCL.out HK.out)⟩⟩
              have T5 : Tells true (FitsP L (91 :: ch :: xr) (91 :: ofL nObject)) := ⟨by rw [known_6 HCL.out HRO.out HNC.out HK.out, HRF.out]⟩
              go_wp2_with fail
              with_reducible refine (fits_r _ tb L (ch :: xr) (ch :: xr) (tx (ch :: xr)) (tx (ch :: xr)) true w5 HT5 rfl rfl T0 (by simp <;> omega) (by first | decide | (simp <;> omega))).mono ?_
              rintro e v0 ⟨rfl, hc0⟩
              have HB0x := lhid (HB5.out.trans (Below.less hc0 HB5.out.size))
              have HT0x := lhid (HT5.out.below hc0)
              clear hc0
              go_wp2_with fail
              with_reducible refine (fits_r _ tb L (ch :: xr) [] (tx (ch :: xr)) ⟨#[]⟩ true v0 HT0x rfl k0 T1 (by simp <;> omega) (by first | decide | (simp <;> omega))).mono ?_
              rintro e v1 ⟨rfl, hc1⟩
              have HB1x := lhid (HB0x.out.trans (Below.less hc1 HB0x.out.size))
              have HT1x := lhid (HT0x.out.below hc1)
              clear hc1
              go_wp2_with fail
              with_reducible refine (fits_r _ tb L [78] (ch :: xr) ⟨#[78]⟩ (tx (ch :: xr)) true v1 HT1x k78 rfl T2 (by simp <;> omega) (by first | decide | (simp <;> omega))).mono ?_
              rintro e v2 ⟨rfl, hc2⟩
              have HB2x := lhid (HB1x.out.trans (Below.less hc2 HB1x.out.size))
              have HT2x := lhid (HT1x.out.below hc2)
              clear hc2
              go_wp2_with fail
              with_reducible refine (fits_r _ tb L (ch :: xr) (ofL nObject) (tx (ch :: xr)) ⟨#[76, 79, 98, 106, 101, 99, 116, 59]⟩ true v2 HT2x rfl kob T3 (by simp <;> omega) (by first | decide | (simp <;> omega))).mono ?_
              rintro e v3 ⟨rfl, hc3⟩
              have HB3x := lhid (HB2x.out.trans (Below.less hc3 HB2x.out.size))
              have HT3x := lhid (HT2x.out.below hc3)
              clear hc3
              go_wp2_with fail
              with_reducible refine (fits_r _ tb L [] (ch :: xr) ⟨#[]⟩ (tx (ch :: xr)) false v3 HT3x k0 rfl T4 (by simp <;> omega) (by first | decide | (simp <;> omega))).mono ?_
              rintro e v4 ⟨rfl, hc4⟩
              have HB4x := lhid (HB3x.out.trans (Below.less hc4 HB3x.out.size))
              have HT4x := lhid (HT3x.out.below hc4)
              clear hc4
              go_wp2_with fail
              with_reducible refine (fits_r _ tb L (91 :: ch :: xr) (91 :: ofL nObject) _ ⟨#[91, 76, 79, 98, 106, 101, 99, 116, 59]⟩ true v4 HT4x (tx_cons 91 (ch :: xr)) kar T5 (by simp <;> omega) (by first | decide | (simp <;> omega))).mono ?_
              rintro e v5 ⟨rfl, hc5⟩
              have HB5x := lhid (HB4x.out.trans (Below.less hc5 HB4x.out.size))
              have HT5x := lhid (HT4x.out.below hc5)
              clear hc5
              go_wp2_with fail
              go_roundw
              case rel => exact ⟨k + 1, by go_num, by omega, HB5x⟩
              case measure => simp [intOf]; omega
            · have e2 : ((ch.toNat : Int) == 91) = false := by simpa using hb2
              rw [e1, e2, Bool.or_false] at hrf
              clear hb1 hb2
              have HRF := lhid hrf
              clear hrf
              have T0 : Tells true (FitsP L (ch :: xr) (ch :: xr)) := ⟨⟨fun _ => .inr (.inl rfl), fun _ => rfl⟩⟩
              have T1 : Tells true (FitsP L (ch :: xr) []) := ⟨⟨fun _ => .inl rfl, fun _ => rfl⟩⟩
              have T2 : Tells false (FitsP L [78] (ch :: xr)) := ⟨by rw [known_3 HK.out, HRF.out]⟩
              have T3 : Tells false (FitsP L (ch :: xr) (ofL nObject)) := ⟨by rw [known_4 HCL.out HRO.out HNC.out HK.out, HRF.out]⟩
              have T4 : Tells false (FitsP L [] (ch :: xr)) := ⟨⟨fun e => (by cases e), fun e => absurd e (known_5 HCL.out HK.out)⟩⟩
              have T5 : Tells false (FitsP L (91 :: ch :: xr) (91 :: ofL nObject)) := ⟨by rw [known_6 HCL.out HRO.out HNC.out HK.out, HRF.out]⟩
              go_wp2_with fail
              with_reducible refine (fits_r _ tb L (ch :: xr) (ch :: xr) (tx (ch :: xr)) (tx (ch :: xr)) true w5 HT5 rfl rfl T0 (by simp <;> omega) (by first | decide | (simp <;> omega))).mono ?_
              rintro e v0 ⟨rfl, hc0⟩
              have HB0x := lhid (HB5.out.trans (Below.less hc0 HB5.out.size))
              have HT0x := lhid (HT5.out.below hc0)
              clear hc0
              go_wp2_with fail
              with_reducible refine (fits_r _ tb L (ch :: xr) [] (tx (ch :: xr)) ⟨#[]⟩ true v0 HT0x rfl k0 T1 (by simp <;> omega) (by first | decide | (simp <;> omega))).mono ?_
              rintro e v1 ⟨rfl, hc1⟩
              have HB1x := lhid (HB0x.out.trans (Below.less hc1 HB0x.out.size))
              have HT1x := lhid (HT0x.out.below hc1)
              clear hc1
              go_wp2_with fail
              with_reducible refine (fits_r _ tb L [78] (ch :: xr) ⟨#[78]⟩ (tx (ch :: xr)) false v1 HT1x k78 rfl T2 (by simp <;> omega) (by first | decide | (simp <;> omega))).mono ?_
              rintro e v2 ⟨rfl, hc2⟩
              have HB2x := lhid (HB1x.out.trans (Below.less hc2 HB1x.out.size))
              have HT2x := lhid (HT1x.out.below hc2)
              clear hc2
              go_wp2_with fail
              with_reducible refine (fits_r _ tb L (ch :: xr) (ofL nObject) (tx (ch :: xr)) ⟨#[76, 79, 98, 106, 101, 99, 116, 59]⟩ false v2 HT2x rfl kob T3 (by simp <;> omega) (by first | decide | (simp <;> omega))).mono ?_
              rintro e v3 ⟨rfl, hc3⟩
              have HB3x := lhid (HB2x.out.trans (Below.less hc3 HB2x.out.size))
              have HT3x := lhid (HT2x.out.below hc3)
              clear hc3
              go_wp2_with fail
              with_reducible refine (fits_r _ tb L [] (ch :: xr) ⟨#[]⟩ (tx (ch :: xr)) false v3 HT3x k0 rfl T4 (by simp <;> omega) (by first | decide | (simp <;> omega))).mono ?_
              rintro e v4 ⟨rfl, hc4⟩
              have HB4x := lhid (HB3x.out.trans (Below.less hc4 HB3x.out.size))
              have HT4x := lhid (HT3x.out.below hc4)
              clear hc4
              go_wp2_with fail
              with_reducible refine (fits_r _ tb L (91 :: ch :: xr) (91 :: ofL nObject) _ ⟨#[91, 76, 79, 98, 106, 101, 99, 116, 59]⟩ false v4 HT4x (tx_cons 91 (ch :: xr)) kar T5 (by simp <;> omega) (by first | decide | (simp <;> omega))).mono ?_
              rintro e v5 ⟨rfl, hc5⟩
              have HB5x := lhid (HB4x.out.trans (Below.less hc5 HB4x.out.size))
              have HT5x := lhid (HT4x.out.below hc5)
              clear hc5
              go_wp2_with fail
              go_roundw
              case rel => exact ⟨k + 1, by go_num, by omega, HB5x⟩
              case measure => simp [intOf]; omega
      · have k4 : ¬ (k : Int) < 3 := by omega
        go_wp2_with fail
        go_ret
        exact ⟨by rfl, HBS.out.trans (Below.less HBk.out hws)⟩
theorem KinFits_call (v : Value) (l : List ClI) (y : List Value) (x : AskI) (w : World) (h : RdX Tru 7 (ClE Tru) w v l) (hq : ∀ c ∈ l, ClQ c) (hE : AskE w x y) (hA : AskQ x) :
    Calls Tryd.prog 3 #[v, .agg y.toArray] w fun e w' => e = .returned (.bool true) ∧ Below w.heap.size w w' := by
  unfold AskE at hE
  subst hE
  obtain ⟨_, _, h3, h4, h5⟩ := hA
  exact KinFits_walk Tru v l x.cls x.name x.typ x.desc x.want w (lhid h) (lhid (short_q hq)) h4 h5 h3
end Go.Proofs.YtkphpihggbbpkaaDoor
