/- Contract of the document's Method: for all texts it answers what metB says, in new memory. -/
import Derived.Test.YtogbieehpppnaaaDescCall
namespace Go.Proofs.Ytogbieehpppnaaa
open Go.RowKit Go
set_option linter.unusedVariables false

set_option maxHeartbeats 4000000 in
set_option maxRecDepth 100000 in
theorem refMethod_head (s : ByteArray) (w : World) (hs : s.size ≤ maxLen) (h : s.data.toList.head? ≠ some 40) :
    Calls Try.prog 36 #[.string s] w fun e w' => MetOut w.heap.size none w e w' := by
  by_cases h0 : s.toList = []
  · go_enter Try.func36, Try.ntmps36
    go_wp2_with (fail)
    go_ret3
    exact ⟨Below.refl _ _, rfl⟩
  · have h0' : s.toList.isEmpty = false := by simpa using h0
    have hp : 0 < s.size := by
      rcases Nat.eq_zero_or_pos s.size with e | e
      · exact absurd ((empty_iff s).2 e) h0
      · exact e
    have h3 : (s[0] == 40) = false := by
      rw [head_at s hp] at h
      rw [beq_eq_false_iff_ne]
      intro e
      exact h (by rw [e])
    have f3 : ((s[0].toNat : Int) == 40) = _ := u8_lit s[0] 40 (by omega) _ h3
    have f4 : ((s[0].toNat : Int) != 40) = _ := u8_ne s[0] 40 (by omega) _ h3
    clear h3 h
    go_enter Try.func36, Try.ntmps36
    go_wp2_with (fail)
    go_ret3
    exact ⟨Below.refl _ _, rfl⟩

set_option maxHeartbeats 16000000 in
set_option maxRecDepth 100000 in
theorem refMethod_main (s : ByteArray) (w : World) (hs : s.size ≤ 281474976710656) (h : s.data.toList.head? = some 40) :
    Calls Try.prog 36 #[.string s] w fun e w' => MetOut w.heap.size (metB s.data.toList) w e w' := by
  obtain ⟨i0, hi0, hz0, hz1, hz2⟩ := info_parts info9
  have hp : 0 < s.size := by have := size_pos_of_head h; rwa [size_len] at this
  have h0' : s.toList.isEmpty = false := by
    have : s.toList ≠ [] := fun e => by have := (empty_iff s).1 e; omega
    simpa using this
  have h0 : s.toList ≠ [] := by simpa using h0'
  have h3 : (s[0] == 40) = true := by
    have h' := h
    rw [head_at s hp] at h'
    injection h' with e
    rw [e]
    rfl
  have f3 : ((s[0].toNat : Int) == 40) = _ := u8_lit s[0] 40 (by omega) _ h3
  have f4 : ((s[0].toNat : Int) != 40) = _ := u8_ne s[0] 40 (by omega) _ h3
  have c1 : (1 : Int) ≤ ↑s.size := by omega
  have H := Lib.hid h
  have HS := Lib.hid hs
  clear h3 h hs
  go_enter Try.func36, Try.ntmps36
  go_wp2_with (fail)
  go_loopw [0, 5, 6] (fun t v _ wr => ∃ (rest : ByteArray) (acc : List Bs) (A : Option Addr) (c : Nat), t = .string rest ∧ v = .slice A acc.length c ∧ rest.size ≤ s.size ∧ acc.length ≤ 20 ∧ Hid (parm (s.data.toList.drop 1) [] = parm rest.data.toList acc) ∧ Hid (wr.ownsRow w.heap.size 9 1 (.slice A acc.length c) acc.length (acc.map strV)) ∧ Hid (Below w.heap.size w wr)) (fun t _ _ _ => strLen t)
  case atStart => exact ⟨_, [], none, 0, rfl, rfl, by rw [extract_size _ _ _ (Nat.le_refl _)]; omega, by simp, Lib.hid (by rw [extract_tail]), Lib.hid (World.ownsRow_nil _ _ _ _), Lib.hid (Below.refl _ _)⟩
  case round =>
    obtain ⟨rest, acc, A, c, rfl, rfl, hle, hacc, HP, HO, HW⟩ := hrel
    clear h0 h0' f3 f4 c1
    have HRS : Hid (rest.size ≤ maxLen) := Lib.hid (by have := HS.out; unfold maxLen; omega)
    have HRT : Hid (rest.size ≤ 281474976710656) := Lib.hid (Nat.le_trans hle HS.out)
    by_cases hz : rest.size = 0
    · have e1 : rest.toList = [] := (empty_iff rest).2 hz
      have e2 : rest.toList.isEmpty = true := by rw [e1]; rfl
      have e3 : (!rest.toList.isEmpty) = false := by rw [e1]; rfl
      have HE : Hid (metB s.data.toList = none) := Lib.hid (by
        apply metB_none
        rw [HP.out, ← Lib.toList_data, e1]
        exact parm_no (by simp) (.inl rfl))
      have HZ := Lib.hid hz
      clear hz
      go_wp2_with (fail)
      go_ret3
      rw [HE.out]
      exact ⟨HW.out, rfl⟩
    have e1 : rest.toList ≠ [] := fun e => hz ((empty_iff rest).1 e)
    have e2 : rest.toList.isEmpty = false := by simpa using e1
    have hpos : 0 < rest.size := by omega
    have k1 : (1 : Int) ≤ ↑rest.size := by omega
    have HH := Lib.hid (head_at rest hpos)
    clear hz
    cases h41 : (rest[0] == 41)
    case true =>
      have H41 : Hid (rest.data.toList.head? = some 41) := Lib.hid (by rw [HH.out, beq_iff_eq.1 h41])
      have f3 : ((rest[0].toNat : Int) == 41) = _ := u8_lit rest[0] 41 (by omega) _ h41
      have f4 : ((rest[0].toNat : Int) != 41) = _ := u8_ne rest[0] 41 (by omega) _ h41
      have HPE : Hid (parm (s.data.toList.drop 1) [] = some (acc, rest.data.toList.drop 1)) := Lib.hid (by rw [HP.out, parm_end acc H41.out])
      have HX : Hid ((rest.extract 1 rest.size).size ≤ maxLen) := Lib.hid (by rw [extract_size _ _ _ (Nat.le_refl _)]; have := HRS.out; omega)
      clear h41
      have hcons : rest.data.toList = 41 :: rest.data.toList.drop 1 := by
        have := H41.out
        cases hl : rest.data.toList with
        | nil => rw [hl] at this; simp at this
        | cons a q => rw [hl] at this; simp at this; rw [this]; rfl
      have HC := Lib.hid hcons
      clear hcons
      by_cases hV : rest.data.toList.drop 1 = [86]
      · have g1 : (rest.toList == [41, 86]) = true := by rw [Lib.toList_data, HC.out, hV]; rfl
        have g2 : (rest.toList != [41, 86]) = false := by rw [bne, g1]; rfl
        have HM := Lib.hid (metB_some H.out HPE.out (.inl hV))
        clear hV
        go_wp2_with (fail)
        go_quiet (fail)
        go_wp2
        go_ret3
        rw [HM.out]
        exact ⟨below_drewN HW.out _, _, by rw [mk_tail]; rfl, HO.out⟩
      · have g1 : (rest.toList == [41, 86]) = false := by
          rw [Lib.toList_data, HC.out, beq_eq_false_iff_ne]
          intro e
          injection e with _ e
          exact hV e
        have g2 : (rest.toList != [41, 86]) = true := by rw [bne, g1]; rfl
        cases hT : typeB (rest.data.toList.drop 1)
        · have HT : Hid (typeB (rest.extract 1 rest.size).data.toList = false) := Lib.hid (by rw [extract_tail]; exact hT)
          have HM := Lib.hid (metB_bad HPE.out hV hT)
          clear hV hT
          go_wp2_with (first | (go_at_call 27; (with_reducible refine (refType_r _ _ _ HX HT).mono ?_); rintro e w' ⟨rfl, rfl⟩))
          go_ret3
          rw [HM.out]
          exact ⟨HW.out, rfl⟩
        · have HT : Hid (typeB (rest.extract 1 rest.size).data.toList = true) := Lib.hid (by rw [extract_tail]; exact hT)
          have HM := Lib.hid (metB_some H.out HPE.out (.inr hT))
          clear hV hT
          go_wp2_with (first | (go_at_call 27; (with_reducible refine (refType_r _ _ _ HX HT).mono ?_); rintro e w' ⟨rfl, rfl⟩))
          go_quiet (fail)
          go_wp2
          go_ret3
          rw [HM.out]
          exact ⟨below_drewN HW.out _, _, by rw [mk_tail]; rfl, HO.out⟩
    case false =>
      have HN : Hid (rest.data.toList.head? ≠ some 41) := Lib.hid (by rw [HH.out]; intro e; injection e with e; rw [e] at h41; simp at h41)
      have f3 : ((rest[0].toNat : Int) == 41) = _ := u8_lit rest[0] 41 (by omega) _ h41
      have f4 : ((rest[0].toNat : Int) != 41) = _ := u8_ne rest[0] 41 (by omega) _ h41
      clear h41
      obtain ⟨k, hk⟩ : ∃ k, tlen rest.data.toList = k := ⟨_, rfl⟩
      have hkl := tlen_le rest.data.toList
      rw [hk, size_len] at hkl
      have HK := Lib.hid hk
      clear hk
      obtain ⟨wo, hwo⟩ : ∃ wo : World, wo = wr := ⟨_, rfl⟩
      subst hwo
      by_cases h0 : k = 0
      · have HM := Lib.hid (metB_none (HP.out.trans (parm_no HN.out (.inl (HK.out.trans h0)))))
        go_wp2_with (fail)
        go_loop [6] (fun n => ∃ j : Nat, n = .int .i64 j ∧ 1 ≤ j ∧ j ≤ rest.size + 1) (fun n => rest.size + 1 - (intOf n).toNat)
        case atStart => exact ⟨1, rfl, by omega, by omega⟩
        case round =>
          obtain ⟨j, rfl, hj1, hj2⟩ := hrel
          by_cases hj : j ≤ rest.size
          · have b3 : (↑j : Int) ≤ 281474976710657 := by have := HRT.out; omega
            have b1 : (0 : Int) ≤ ↑j := by omega
            have b2 : (↑j : Int) ≤ ↑rest.size := by omega
            have HX : Hid ((rest.extract 0 j).size ≤ maxLen) := Lib.hid (by rw [extract_size _ _ _ hj]; have := HRS.out; omega)
            have HT : Hid (typeB (rest.extract 0 j).data.toList = false) := Lib.hid (by
              rw [extract_head, type_take _ _ (by rw [size_len]; exact hj), HK.out]
              simp [h0])
            go_wp2_with (first | (go_at_call 27; (with_reducible refine (refType_r _ _ _ HX HT).mono ?_); rintro e w' ⟨rfl, rfl⟩))
            go_round
            case rel => exact ⟨j + 1, by go_num, by omega, by omega⟩
            case measure => simp [intOf]; omega
          · have hd : decide (j ≤ rest.size) = false := by simpa using hj
            have hd2 : rest.size < j := by omega
            go_wp2_with (fail)
            go_ret3
            rw [HM.out]
            exact ⟨HW.out, rfl⟩
      · by_cases h20 : acc.length = 20
        · have HM := Lib.hid (metB_none (HP.out.trans (parm_no HN.out (.inr h20))))
          have g20 : ((acc.length : Int) == 20) = true := by rw [h20]; rfl
          clear h20
          go_wp2_with (fail)
          go_loop [6] (fun n => ∃ j : Nat, n = .int .i64 j ∧ 1 ≤ j ∧ j ≤ k) (fun n => k - (intOf n).toNat)
          case atStart => exact ⟨1, rfl, by omega, by omega⟩
          case round =>
            obtain ⟨j, rfl, hj1, hj2⟩ := hrel
            have b1 : (0 : Int) ≤ ↑j := by omega
            have b2 : (↑j : Int) ≤ ↑rest.size := by omega
            have HX : Hid ((rest.extract 0 j).size ≤ maxLen) := Lib.hid (by rw [extract_size _ _ _ (by omega)]; have := HRS.out; omega)
            by_cases hj : j = k
            · have HT : Hid (typeB (rest.extract 0 j).data.toList = true) := Lib.hid (by
                rw [extract_head, type_take _ _ (by rw [size_len]; omega), HK.out]
                simp [h0, hj])
              have HJ := Lib.hid hj
              clear hj
              go_wp2_with (first | (go_at_call 27; (with_reducible refine (refType_r _ _ _ HX HT).mono ?_); rintro e w' ⟨rfl, rfl⟩))
              go_ret3
              rw [HM.out]
              exact ⟨HW.out, rfl⟩
            · have b3 : (↑j : Int) ≤ 281474976710657 := by have := HRT.out; omega
              have HT : Hid (typeB (rest.extract 0 j).data.toList = false) := Lib.hid (by
                rw [extract_head, type_take _ _ (by rw [size_len]; omega), HK.out]
                simp [hj])
              go_wp2_with (first | (go_at_call 27; (with_reducible refine (refType_r _ _ _ HX HT).mono ?_); rintro e w' ⟨rfl, rfl⟩))
              go_round
              case rel => exact ⟨j + 1, by go_num, by omega, by omega⟩
              case measure => simp [intOf]; omega
        · have HE := parm_on (acc := acc) HN.out (by rw [HK.out]; exact h0) h20
          rw [HK.out] at HE
          have HE' := Lib.hid (HP.out.trans HE)
          clear HE
          have g20 : ((acc.length : Int) == 20) = false := by rw [beq_eq_false_iff_ne]; omega
          have hbw : w.heap.size ≤ wo.heap.size := HW.out.size
          go_wp2_with (fail)
          go_loop [6] (fun n => ∃ j : Nat, n = .int .i64 j ∧ 1 ≤ j ∧ j ≤ k) (fun n => k - (intOf n).toNat)
          case atStart => exact ⟨1, rfl, by omega, by omega⟩
          case round =>
            obtain ⟨j, rfl, hj1, hj2⟩ := hrel
            have b1 : (0 : Int) ≤ ↑j := by omega
            have b2 : (↑j : Int) ≤ ↑rest.size := by omega
            have HX : Hid ((rest.extract 0 j).size ≤ maxLen) := Lib.hid (by rw [extract_size _ _ _ (by omega)]; have := HRS.out; omega)
            by_cases hj : j = k
            · have HT : Hid (typeB (rest.extract 0 j).data.toList = true) := Lib.hid (by
                rw [extract_head, type_take _ _ (by rw [size_len]; omega), HK.out]
                simp [h0, hj])
              have HJ := Lib.hid hj
              clear hj
              go_wp2_with (first | (go_at_call 27; (with_reducible refine (refType_r _ _ _ HX HT).mono ?_); rintro e w' ⟨rfl, rfl⟩) | (at_builtin; refine wpList_append_own _ rfl (.tmp 45) (.tmp 49) 44 rfl w.heap.size 9 i0 (.string ⟨#[]⟩) 1 16 Try.underlying44 hi0 hz0 hz1 hz2 rfl (by decide) (.slice A acc.length c) acc.length (acc.map strV) rfl (HO.out.alloc _) ⟨wo.heap.size, 0, none⟩ 1 1 [.string (rest.extract 0 j)] rfl rfl ?c1 ?c2 ?c3 ?c4 ?c5 ?_))
              case c1 => exact one_cell _ _ _
              case c2 => intro u hu; simp at hu; subst hu; rfl
              case c3 => unfold maxLen; omega
              case c4 => omega
              case c5 => simp; omega
              intro v' w1 hown1 hgrow _
              obtain ⟨A', c', rfl⟩ := own_form hown1
              have HO1 := Lib.hid hown1
              have HG := Lib.hid hgrow
              clear hown1 hgrow
              go_wp2
              go_roundw
              case rel => exact ⟨_, acc ++ [rest.data.toList.take j], A', c', rfl, by simp, by rw [extract_size _ _ _ (Nat.le_refl _)]; omega, by simp; omega, Lib.hid (by rw [extract_tail]; rw [HJ.out]; exact HE'.out), Lib.hid (by simpa [strV, ← mk_front] using HO1.out), Lib.hid ((HW.out.alloc hbw _).grown HG.out (by simp; omega) (own_block_ge HO.out))⟩
              case measure => simp [strLen]; omega
            · have b3 : (↑j : Int) ≤ 281474976710657 := by have := HRT.out; omega
              have HT : Hid (typeB (rest.extract 0 j).data.toList = false) := Lib.hid (by
                rw [extract_head, type_take _ _ (by rw [size_len]; omega), HK.out]
                simp [hj])
              go_wp2_with (first | (go_at_call 27; (with_reducible refine (refType_r _ _ _ HX HT).mono ?_); rintro e w' ⟨rfl, rfl⟩))
              go_round
              case rel => exact ⟨j + 1, by go_num, by omega, by omega⟩
              case measure => simp [intOf]; omega
theorem refMethod_any (s : ByteArray) (w : World) (hs : s.size ≤ 281474976710656) :
    Calls Try.prog 36 #[.string s] w fun e w' => MetOut w.heap.size (metB s.data.toList) w e w' := by
  by_cases h : s.data.toList.head? = some 40
  · exact refMethod_main s w hs h
  · rw [metB_head h]
    exact refMethod_head s w (by unfold maxLen; omega) h
end Go.Proofs.Ytogbieehpppnaaa
