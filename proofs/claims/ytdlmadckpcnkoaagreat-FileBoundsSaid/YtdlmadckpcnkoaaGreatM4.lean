/- Texts of this claim, joined: DescElem, DescCall, RefMethod, DescOf, SameS. -/
import Derived.Test.YtdlmadckpcnkoaaGreatJDescMethod
import Derived.Test.YtdlmadckpcnkoaaGreatJRefType
/- Contract of desc.Element, and small words on bytes. -/
namespace Go.Proofs.YtdlmadckpcnkoaaGreat
open Go.RowKit Go
set_option linter.unusedVariables false

def elemL (l : Bs) : Bs := if l.head? = some 91 then l.drop 1 else []
theorem ret_str {a b : ByteArray} (h : a = b) : Ending.returned (.string a) = .returned (.string b) := by rw [h]
theorem beq_tests (s : ByteArray) (c : UInt8) (r : Bool) (h : (s.data.toList == [c]) = r) : (s.toList == [c]) = r := by rw [Lib.toList_data]; exact h
set_option maxHeartbeats 1000000 in
theorem element_any (s : ByteArray) (w : World) :
    Calls Tryz.prog 141 #[.string s] w fun e w' => e = .returned (.string (mk (elemL s.data.toList))) ∧ w = w' := by
  cases hA : (s.data.toList.head? == some 91)
  · have HA := Lib.hid hA
    go_enter Tryz.func141, Tryz.ntmps141
    go_wp2_with (go_at_call 82; (with_reducible refine (cutPrefix_no _ 91 _ HA).mono ?_); rintro e w' ⟨rfl, rfl⟩)
    go_ret
    refine ⟨ret_str ?_, rfl⟩
    unfold elemL
    rw [if_neg (by simpa using HA.out)]
  · have HA := Lib.hid hA
    go_enter Tryz.func141, Tryz.ntmps141
    go_wp2_with (go_at_call 82; (with_reducible refine (cutPrefix_yes _ 91 _ HA).mono ?_); rintro e w' ⟨rfl, rfl⟩)
    go_ret
    refine ⟨ret_str ?_, rfl⟩
    unfold elemL
    rw [if_pos (by simpa using HA.out), mk_tail]
theorem head_at (s : ByteArray) (h : 0 < s.size) : s.data.toList.head? = some s[0] := by
  rw [List.head?_eq_getElem?, List.getElem?_eq_getElem (by simpa using h)]
  rfl
theorem last_at (s : ByteArray) (h : 1 < s.size) : (s.data.toList.drop 1).getLast? = some s[s.size - 1] := by
  rw [List.getLast?_eq_getElem?, List.getElem?_drop, List.length_drop, size_len, show 1 + (s.size - 1 - 1) = s.size - 1 by omega, List.getElem?_eq_getElem (by simpa using (by omega : s.size - 1 < s.size))]
  rfl
theorem u8_ne (c : UInt8) (n : Nat) (h : n < 256) (r : Bool) (hr : (c == n.toUInt8) = r) : ((c.toNat : Int) != (n : Int)) = !r := by
  rw [bne, u8_lit c n h r hr]
end Go.Proofs.YtdlmadckpcnkoaaGreat
/- The contracts of package desc in the form in which callers meet them. -/
namespace Go.Proofs.YtdlmadckpcnkoaaGreat
open Go.RowKit Go
set_option linter.unusedVariables false

theorem own_cell {w : World} {B e n : Nat} {v : Value} {xs : List Value} (h : w.ownsRow B e 1 v n xs) (hn : 0 < n) : ∃ g cap, v = .slice (some ⟨g, 0, none⟩) n cap ∧ B ≤ g ∧ g < w.heap.size ∧ ∀ (j : Nat) u, xs[j]? = some u → w.cell? ⟨g, j, none⟩ = some u := by
  rcases h.2 with ⟨_, rfl⟩ | ⟨g, cap, cur, rfl, hb, _⟩
  · omega
  have hlt := (h.lt g rfl).2
  refine ⟨g, cap, rfl, hb, hlt, fun j u hu => ?_⟩
  have hl : j < n * 1 := by
    have := h.1
    have := (List.getElem?_eq_some_iff.1 hu).1
    omega
  rw [h.cellAt j hl, hu]
theorem method_r (s : ByteArray) (r : Option (List Bs × Bs)) (w : World) (h : Hid (metB s.data.toList = r)) (hs : Hid (s.size ≤ maxLen)) :
    Calls Tryz.prog 20 #[.string s] w fun e w' => MetOut w.heap.size r w e w' := by
  rw [← h.out]
  exact method_any s w hs.out
theorem bool_self (b : Bool) : (b == b) = true := by cases b <;> rfl
theorem refType_r (s : ByteArray) (r : Bool) (w : World) (hs : Hid (s.size ≤ maxLen)) (h : Hid (typeB s.data.toList = r)) :
    Calls Tryz.prog 77 #[.string s] w fun e w' => e = .returned (.bool r) ∧ w = w' := by
  rw [← h.out]
  exact refType_any s w hs.out
end Go.Proofs.YtdlmadckpcnkoaaGreat
/- Contract of the document's Method: for all texts it answers what metB says, in new memory. -/
namespace Go.Proofs.YtdlmadckpcnkoaaGreat
open Go.RowKit Go
set_option linter.unusedVariables false

set_option maxHeartbeats 4000000 in
set_option maxRecDepth 100000 in
theorem refMethod_head (s : ByteArray) (w : World) (hs : s.size ≤ maxLen) (h : s.data.toList.head? ≠ some 40) :
    Calls Tryz.prog 76 #[.string s] w fun e w' => MetOut w.heap.size none w e w' := by
  by_cases h0 : s.toList = []
  · go_enter Tryz.func76, Tryz.ntmps76
    go_wp2_with (fail)
    go_ret3
    exact ⟨Below.refl _ _, rfl⟩
  · have h0' : s.toList.isEmpty = false := by simpa using h0
    have hp : 0 < s.size := by
      rcases Nat.eq_zero_or_pos s.size with e | e
      · exact absurd ((empty_iff s).2 e) h0
      · exact e
    have h3 : (s[0] == 40) = false := by
      rw [head_at s hp] at h
      rw [beq_eq_false_iff_ne]
      intro e
      exact h (by rw [e])
    have f3 : ((s[0].toNat : Int) == 40) = _ := u8_lit s[0] 40 (by omega) _ h3
    have f4 : ((s[0].toNat : Int) != 40) = _ := u8_ne s[0] 40 (by omega) _ h3
    clear h3 h
    go_enter Tryz.func76, Tryz.ntmps76
    go_wp2_with (fail)
    go_ret3
    exact ⟨Below.refl _ _, rfl⟩

set_option maxHeartbeats 16000000 in
set_option maxRecDepth 100000 in
theorem refMethod_main (s : ByteArray) (w : World) (hs : s.size ≤ 281474976710656) (h : s.data.toList.head? = some 40) :
    Calls Tryz.prog 76 #[.string s] w fun e w' => MetOut w.heap.size (metB s.data.toList) w e w' := by
  obtain ⟨i0, hi0, hz0, hz1, hz2⟩ := info_parts info9
  have hp : 0 < s.size := by have := size_pos_of_head h; rwa [size_len] at this
  have h0' : s.toList.isEmpty = false := by
    have : s.toList ≠ [] := fun e => by have := (empty_iff s).1 e; omega
    simpa using this
  have h0 : s.toList ≠ [] := by simpa using h0'
  have h3 : (s[0] == 40) = true := by
    have h' := h
    rw [head_at s hp] at h'
    injection h' with e
    rw [e]
    rfl
  have f3 : ((s[0].toNat : Int) == 40) = _ := u8_lit s[0] 40 (by omega) _ h3
  have f4 : ((s[0].toNat : Int) != 40) = _ := u8_ne s[0] 40 (by omega) _ h3
  have c1 : (1 : Int) ≤ ↑s.size := by omega
  have H := Lib.hid h
  have HS := Lib.hid hs
  clear h3 h hs
  go_enter Tryz.func76, Tryz.ntmps76
  go_wp2_with (fail)
  go_loopw [0, 5, 6] (fun t v _ wr => ∃ (rest : ByteArray) (acc : List Bs) (A : Option Addr) (c : Nat), t = .string rest ∧ v = .slice A acc.length c ∧ rest.size ≤ s.size ∧ acc.length ≤ 20 ∧ Hid (parm (s.data.toList.drop 1) [] = parm rest.data.toList acc) ∧ Hid (wr.ownsRow w.heap.size 9 1 (.slice A acc.length c) acc.length (acc.map strV)) ∧ Hid (Below w.heap.size w wr)) (fun t _ _ _ => strLen t)
  case atStart => exact ⟨_, [], none, 0, rfl, rfl, by rw [extract_size _ _ _ (Nat.le_refl _)]; omega, by simp, Lib.hid (by rw [extract_tail]), Lib.hid (World.ownsRow_nil _ _ _ _), Lib.hid (Below.refl _ _)⟩
  case round =>
    obtain ⟨rest, acc, A, c, rfl, rfl, hle, hacc, HP, HO, HW⟩ := hrel
    clear h0 h0' f3 f4 c1
    have HRS : Hid (rest.size ≤ maxLen) := Lib.hid (by have := HS.out; unfold maxLen; omega)
    have HRT : Hid (rest.size ≤ 281474976710656) := Lib.hid (Nat.le_trans hle HS.out)
    by_cases hz : rest.size = 0
    · have e1 : rest.toList = [] := (empty_iff rest).2 hz
      have e2 : rest.toList.isEmpty = true := by rw [e1]; rfl
      have e3 : (!rest.toList.isEmpty) = false := by rw [e1]; rfl
      have HE : Hid (metB s.data.toList = none) := Lib.hid (by
        apply metB_none
        rw [HP.out, ← Lib.toList_data, e1]
        exact parm_no (by simp) (.inl rfl))
      have HZ := Lib.hid hz
      clear hz
      go_wp2_with (fail)
      go_ret3
      rw [HE.out]
      exact ⟨HW.out, rfl⟩
    have e1 : rest.toList ≠ [] := fun e => hz ((empty_iff rest).1 e)
    have e2 : rest.toList.isEmpty = false := by simpa using e1
    have hpos : 0 < rest.size := by omega
    have k1 : (1 : Int) ≤ ↑rest.size := by omega
    have HH := Lib.hid (head_at rest hpos)
    clear hz
    cases h41 : (rest[0] == 41)
    case true =>
      have H41 : Hid (rest.data.toList.head? = some 41) := Lib.hid (by rw [HH.out, beq_iff_eq.1 h41])
      have f3 : ((rest[0].toNat : Int) == 41) = _ := u8_lit rest[0] 41 (by omega) _ h41
      have f4 : ((rest[0].toNat : Int) != 41) = _ := u8_ne rest[0] 41 (by omega) _ h41
      have HPE : Hid (parm (s.data.toList.drop 1) [] = some (acc, rest.data.toList.drop 1)) := Lib.hid (by rw [HP.out, parm_end acc H41.out])
      have HX : Hid ((rest.extract 1 rest.size).size ≤ maxLen) := Lib.hid (by rw [extract_size _ _ _ (Nat.le_refl _)]; have := HRS.out; omega)
      clear h41
      have hcons : rest.data.toList = 41 :: rest.data.toList.drop 1 := by
        have := H41.out
        cases hl : rest.data.toList with
        | nil => rw [hl] at this; simp at this
        | cons a q => rw [hl] at this; simp at this; rw [this]; rfl
      have HC := Lib.hid hcons
      clear hcons
      by_cases hV : rest.data.toList.drop 1 = [86]
      · have g1 : (rest.toList == [41, 86]) = true := by rw [Lib.toList_data, HC.out, hV]; rfl
        have g2 : (rest.toList != [41, 86]) = false := by rw [bne, g1]; rfl
        have HM := Lib.hid (metB_some H.out HPE.out (.inl hV))
        clear hV
        go_wp2_with (fail)
        go_quiet (fail)
        go_wp2
        go_ret3
        rw [HM.out]
        exact ⟨below_drewN HW.out _, _, by rw [mk_tail]; rfl, HO.out⟩
      · have g1 : (rest.toList == [41, 86]) = false := by
          rw [Lib.toList_data, HC.out, beq_eq_false_iff_ne]
          intro e
          injection e with _ e
          exact hV e
        have g2 : (rest.toList != [41, 86]) = true := by rw [bne, g1]; rfl
        cases hT : typeB (rest.data.toList.drop 1)
        · have HT : Hid (typeB (rest.extract 1 rest.size).data.toList = false) := Lib.hid (by rw [extract_tail]; exact hT)
          have HM := Lib.hid (metB_bad HPE.out hV hT)
          clear hV hT
          go_wp2_with (first | (go_at_call 77; (with_reducible refine (refType_r _ _ _ HX HT).mono ?_); rintro e w' ⟨rfl, rfl⟩))
          go_ret3
          rw [HM.out]
          exact ⟨HW.out, rfl⟩
        · have HT : Hid (typeB (rest.extract 1 rest.size).data.toList = true) := Lib.hid (by rw [extract_tail]; exact hT)
          have HM := Lib.hid (metB_some H.out HPE.out (.inr hT))
          clear hV hT
          go_wp2_with (first | (go_at_call 77; (with_reducible refine (refType_r _ _ _ HX HT).mono ?_); rintro e w' ⟨rfl, rfl⟩))
          go_quiet (fail)
          go_wp2
          go_ret3
          rw [HM.out]
          exact ⟨below_drewN HW.out _, _, by rw [mk_tail]; rfl, HO.out⟩
    case false =>
      have HN : Hid (rest.data.toList.head? ≠ some 41) := Lib.hid (by rw [HH.out]; intro e; injection e with e; rw [e] at h41; simp at h41)
      have f3 : ((rest[0].toNat : Int) == 41) = _ := u8_lit rest[0] 41 (by omega) _ h41
      have f4 : ((rest[0].toNat : Int) != 41) = _ := u8_ne rest[0] 41 (by omega) _ h41
      clear h41
      obtain ⟨k, hk⟩ : ∃ k, tlen rest.data.toList = k := ⟨_, rfl⟩
      have hkl := tlen_le rest.data.toList
      rw [hk, size_len] at hkl
      have HK := Lib.hid hk
      clear hk
      obtain ⟨wo, hwo⟩ : ∃ wo : World, wo = wr := ⟨_, rfl⟩
      subst hwo
      by_cases h0 : k = 0
      · have HM := Lib.hid (metB_none (HP.out.trans (parm_no HN.out (.inl (HK.out.trans h0)))))
        go_wp2_with (fail)
        go_loop [6] (fun n => ∃ j : Nat, n = .int .i64 j ∧ 1 ≤ j ∧ j ≤ rest.size + 1) (fun n => rest.size + 1 - (intOf n).toNat)
        case atStart => exact ⟨1, rfl, by omega, by omega⟩
        case round =>
          obtain ⟨j, rfl, hj1, hj2⟩ := hrel
          by_cases hj : j ≤ rest.size
          · have b3 : (↑j : Int) ≤ 281474976710657 := by have := HRT.out; omega
            have b1 : (0 : Int) ≤ ↑j := by omega
            have b2 : (↑j : Int) ≤ ↑rest.size := by omega
            have HX : Hid ((rest.extract 0 j).size ≤ maxLen) := Lib.hid (by rw [extract_size _ _ _ hj]; have := HRS.out; omega)
            have HT : Hid (typeB (rest.extract 0 j).data.toList = false) := Lib.hid (by
              rw [extract_head, type_take _ _ (by rw [size_len]; exact hj), HK.out]
              simp [h0])
            go_wp2_with (first | (go_at_call 77; (with_reducible refine (refType_r _ _ _ HX HT).mono ?_); rintro e w' ⟨rfl, rfl⟩))
            go_round
            case rel => exact ⟨j + 1, by go_num, by omega, by omega⟩
            case measure => simp [intOf]; omega
          · have hd : decide (j ≤ rest.size) = false := by simpa using hj
            have hd2 : rest.size < j := by omega
            go_wp2_with (fail)
            go_ret3
            rw [HM.out]
            exact ⟨HW.out, rfl⟩
      · by_cases h20 : acc.length = 20
        · have HM := Lib.hid (metB_none (HP.out.trans (parm_no HN.out (.inr h20))))
          have g20 : ((acc.length : Int) == 20) = true := by rw [h20]; rfl
          clear h20
          go_wp2_with (fail)
          go_loop [6] (fun n => ∃ j : Nat, n = .int .i64 j ∧ 1 ≤ j ∧ j ≤ k) (fun n => k - (intOf n).toNat)
          case atStart => exact ⟨1, rfl, by omega, by omega⟩
          case round =>
            obtain ⟨j, rfl, hj1, hj2⟩ := hrel
            have b1 : (0 : Int) ≤ ↑j := by omega
            have b2 : (↑j : Int) ≤ ↑rest.size := by omega
            have HX : Hid ((rest.extract 0 j).size ≤ maxLen) := Lib.hid (by rw [extract_size _ _ _ (by omega)]; have := HRS.out; omega)
            by_cases hj : j = k
            · have HT : Hid (typeB (rest.extract 0 j).data.toList = true) := Lib.hid (by
                rw [extract_head, type_take _ _ (by rw [size_len]; omega), HK.out]
                simp [h0, hj])
              have HJ := Lib.hid hj
              clear hj
              go_wp2_with (first | (go_at_call 77; (with_reducible refine (refType_r _ _ _ HX HT).mono ?_); rintro e w' ⟨rfl, rfl⟩))
              go_ret3
              rw [HM.out]
              exact ⟨HW.out, rfl⟩
            · have b3 : (↑j : Int) ≤ 281474976710657 := by have := HRT.out; omega
              have HT : Hid (typeB (rest.extract 0 j).data.toList = false) := Lib.hid (by
                rw [extract_head, type_take _ _ (by rw [size_len]; omega), HK.out]
                simp [hj])
              go_wp2_with (first | (go_at_call 77; (with_reducible refine (refType_r _ _ _ HX HT).mono ?_); rintro e w' ⟨rfl, rfl⟩))
              go_round
              case rel => exact ⟨j + 1, by go_num, by omega, by omega⟩
              case measure => simp [intOf]; omega
        · have HE := parm_on (acc := acc) HN.out (by rw [HK.out]; exact h0) h20
          rw [HK.out] at HE
          have HE' := Lib.hid (HP.out.trans HE)
          clear HE
          have g20 : ((acc.length : Int) == 20) = false := by rw [beq_eq_false_iff_ne]; omega
          have hbw : w.heap.size ≤ wo.heap.size := HW.out.size
          go_wp2_with (fail)
          go_loop [6] (fun n => ∃ j : Nat, n = .int .i64 j ∧ 1 ≤ j ∧ j ≤ k) (fun n => k - (intOf n).toNat)
          case atStart => exact ⟨1, rfl, by omega, by omega⟩
          case round =>
            obtain ⟨j, rfl, hj1, hj2⟩ := hrel
            have b1 : (0 : Int) ≤ ↑j := by omega
            have b2 : (↑j : Int) ≤ ↑rest.size := by omega
            have HX : Hid ((rest.extract 0 j).size ≤ maxLen) := Lib.hid (by rw [extract_size _ _ _ (by omega)]; have := HRS.out; omega)
            by_cases hj : j = k
            · have HT : Hid (typeB (rest.extract 0 j).data.toList = true) := Lib.hid (by
                rw [extract_head, type_take _ _ (by rw [size_len]; omega), HK.out]
                simp [h0, hj])
              have HJ := Lib.hid hj
              clear hj
              go_wp2_with (first | (go_at_call 77; (with_reducible refine (refType_r _ _ _ HX HT).mono ?_); rintro e w' ⟨rfl, rfl⟩) | (at_builtin; refine wpList_append_own _ rfl (.tmp 45) (.tmp 49) 24 rfl w.heap.size 9 i0 (.string ⟨#[]⟩) 1 16 Tryz.underlying24 hi0 hz0 hz1 hz2 rfl (by decide) (.slice A acc.length c) acc.length (acc.map strV) rfl (HO.out.alloc _) ⟨wo.heap.size, 0, none⟩ 1 1 [.string (rest.extract 0 j)] rfl rfl ?c1 ?c2 ?c3 ?c4 ?c5 ?_))
              case c1 => exact one_cell _ _ _
              case c2 => intro u hu; simp at hu; subst hu; rfl
              case c3 => unfold maxLen; omega
              case c4 => omega
              case c5 => simp; omega
              intro v' w1 hown1 hgrow _
              obtain ⟨A', c', rfl⟩ := own_form hown1
              have HO1 := Lib.hid hown1
              have HG := Lib.hid hgrow
              clear hown1 hgrow
              go_wp2
              go_roundw
              case rel => exact ⟨_, acc ++ [rest.data.toList.take j], A', c', rfl, by simp, by rw [extract_size _ _ _ (Nat.le_refl _)]; omega, by simp; omega, Lib.hid (by rw [extract_tail]; rw [HJ.out]; exact HE'.out), Lib.hid (by simpa [strV, ← mk_front] using HO1.out), Lib.hid ((HW.out.alloc hbw _).grown HG.out (by simp; omega) (own_block_ge HO.out))⟩
              case measure => simp [strLen]; omega
            · have b3 : (↑j : Int) ≤ 281474976710657 := by have := HRT.out; omega
              have HT : Hid (typeB (rest.extract 0 j).data.toList = false) := Lib.hid (by
                rw [extract_head, type_take _ _ (by rw [size_len]; omega), HK.out]
                simp [hj])
              go_wp2_with (first | (go_at_call 77; (with_reducible refine (refType_r _ _ _ HX HT).mono ?_); rintro e w' ⟨rfl, rfl⟩))
              go_round
              case rel => exact ⟨j + 1, by go_num, by omega, by omega⟩
              case measure => simp [intOf]; omega
theorem refMethod_any (s : ByteArray) (w : World) (hs : s.size ≤ 281474976710656) :
    Calls Tryz.prog 76 #[.string s] w fun e w' => MetOut w.heap.size (metB s.data.toList) w e w' := by
  by_cases h : s.data.toList.head? = some 40
  · exact refMethod_main s w hs h
  · rw [metB_head h]
    exact refMethod_head s w (by unfold maxLen; omega) h
end Go.Proofs.YtdlmadckpcnkoaaGreat
/- Contracts of desc.Of and the document's own. -/
namespace Go.Proofs.YtdlmadckpcnkoaaGreat
open Go.RowKit Go
set_option linter.unusedVariables false

theorem mk_app (a b : Bs) : mk a ++ mk b = mk (a ++ b) := by
  apply ByteArray.ext
  simp
theorem of_app (s : ByteArray) : (⟨#[76]⟩ ++ s ++ ⟨#[59]⟩ : ByteArray) = mk (76 :: s.data.toList ++ [59]) := by
  apply ByteArray.ext
  simp

set_option maxHeartbeats 1000000 in
theorem of_any (s : ByteArray) (w : World) (hs : s.size ≤ 281474976710656) :
    Calls Tryz.prog 156 #[.string s] w fun e w' => e = .returned (.string (mk (ofL s.data.toList))) ∧ w = w' := by
  have b1 : ¬ 9223372036854775807 < 1 + s.size := by omega
  have b2 : ¬ 9223372036854775807 < 1 + s.size + 1 := by omega
  cases hA : (s.data.toList.head? == some 91)
  all_goals
    have HA := Lib.hid hA
    clear hA
    go_enter Tryz.func156, Tryz.ntmps156
    go_wp2_with (go_at_call 83; (with_reducible refine (hasPrefix_one _ 91 _ HA _).mono ?_); rintro e w' ⟨rfl, rfl⟩)
    go_ret
    refine ⟨ret_str ?_, rfl⟩
    have h3 := HA.out
    simp only [beq_eq_false_iff_ne, beq_iff_eq] at h3
    unfold ofL
    first
    | (rw [if_pos h3])
    | (rw [if_neg h3]; exact of_app s)
set_option maxHeartbeats 1000000 in
theorem refOf_any (s : ByteArray) (w : World) (hs : s.size ≤ 281474976710656) :
    Calls Tryz.prog 131 #[.string s] w fun e w' => e = .returned (.string (mk (ofL s.data.toList))) ∧ w = w' := by
  have b1 : ¬ 9223372036854775807 < 1 + s.size := by omega
  have b2 : ¬ 9223372036854775807 < 1 + s.size + 1 := by omega
  cases hA : (s.data.toList.head? == some 91)
  all_goals
    have HA := Lib.hid hA
    clear hA
    go_enter Tryz.func131, Tryz.ntmps131
    go_wp2_with (go_at_call 83; (with_reducible refine (hasPrefix_one _ 91 _ HA _).mono ?_); rintro e w' ⟨rfl, rfl⟩)
    go_ret
    refine ⟨ret_str ?_, rfl⟩
    have h3 := HA.out
    simp only [beq_eq_false_iff_ne, beq_iff_eq] at h3
    unfold ofL
    first
    | (rw [if_pos h3])
    | (rw [if_neg h3]; exact of_app s)

end Go.Proofs.YtdlmadckpcnkoaaGreat
/- Contract of the document's Same, of slices of strings. -/
namespace Go.Proofs.YtdlmadckpcnkoaaGreat
open Go.RowKit Go
set_option linter.unusedVariables false

/-- the slice at A holds these strings -/
def rdS (w : World) (A : Option Addr) (ls : List ByteArray) : Prop :=
  ∀ k, k < ls.length → ∃ g o, A = some ⟨g, o, none⟩ ∧ w.cell? ⟨g, o + k, none⟩ = some (.string (ls.getD k ByteArray.empty))
theorem toList_inj {x y : ByteArray} (h : x.toList = y.toList) : x = y := by
  rw [Lib.toList_data, Lib.toList_data] at h
  rw [← Lib.mk_data x, ← Lib.mk_data y, h]
theorem take_next (ls ms : List ByteArray) (k : Nat) (hl : ls.length = ms.length) (hk : k < ls.length) (h : ls.take k = ms.take k) (he : ls.getD k ByteArray.empty = ms.getD k ByteArray.empty) : ls.take (k + 1) = ms.take (k + 1) := by
  have hm : k < ms.length := by omega
  rw [List.take_succ_eq_append_getElem hk, List.take_succ_eq_append_getElem hm, h]
  rw [List.getD_eq_getElem?_getD, List.getD_eq_getElem?_getD, List.getElem?_eq_getElem hk, List.getElem?_eq_getElem hm] at he
  have he' : ls[k] = ms[k] := he
  rw [he']
set_option maxHeartbeats 4000000 in
set_option maxRecDepth 100000 in
theorem same_any (A B : Option Addr) (ls ms : List ByteArray) (ca cb : Nat) (w : World) (ha : ls.length ≤ 281474976710656) (hb : ms.length ≤ 281474976710656) (HA : Hid (rdS w A ls)) (HB : Hid (rdS w B ms)) :
    Calls Tryz.prog 41 #[.slice A ls.length ca, .slice B ms.length cb] w fun e w' => e = .returned (.bool (decide (ls = ms))) ∧ ∃ n, w' = w.drewN n := by
  by_cases hl : ls.length = ms.length
  case neg =>
    have hne : decide (ls = ms) = false := by
      rw [decide_eq_false_iff_not]
      intro e
      exact hl (by rw [e])
    rw [hne]
    have e1 : ((ls.length : Int) == ms.length) = false := by rw [beq_eq_false_iff_ne]; omega
    have e2 : ((ls.length : Int) != ms.length) = true := by rw [bne, e1]; rfl
    clear hne
    go_enter Tryz.func41, Tryz.ntmps41
    go_wp2_with (fail)
    go_ret
    exact ⟨rfl, 0, rfl⟩
  have HL := Lib.hid hl
  have e1 : ((ls.length : Int) == ms.length) = true := by rw [beq_iff_eq]; omega
  have e2 : ((ls.length : Int) != ms.length) = false := by rw [bne, e1]; rfl
  clear hl
  go_enter Tryz.func41, Tryz.ntmps41
  go_wp2_with (fail)
  go_loopw [5] (fun i wr => ∃ k n : Nat, i = .int .i64 k ∧ k ≤ ls.length ∧ Hid (ls.take k = ms.take k) ∧ wr = w.drewN n) (fun i _ => ls.length - (intOf i).toNat)
  case atStart => exact ⟨0, 0, rfl, Nat.zero_le _, Lib.hid (by simp), rfl⟩
  case round =>
    obtain ⟨k, n, rfl, hk, HE, rfl⟩ := hrel
    by_cases hlt : k < ls.length
    · obtain ⟨g, o, rfl, hc⟩ := HA.out k hlt
      obtain ⟨g', o', rfl, hc'⟩ := HB.out k (by have := HL.out; omega)
      have k1 : (0 : Int) ≤ ↑k := by omega
      have k2 : (↑k : Int) < ↑ls.length := by omega
      have k3 : (↑k : Int) < ↑ms.length := by have := HL.out; omega
      have k4 : k < ms.length := by have := HL.out; omega
      generalize hx : ls.getD k ByteArray.empty = x at hc
      generalize hy : ms.getD k ByteArray.empty = y at hc'
      have HX := Lib.hid hx
      have HY := Lib.hid hy
      clear hx hy
      by_cases hxy : x = y
      · have g1 : (x.toList == y.toList) = true := by rw [hxy]; simp
        have g2 : (x.toList != y.toList) = false := by rw [bne, g1]; rfl
        have HXY := Lib.hid hxy
        clear hxy
        go_wp2_with (fail)
        go_quiet (fail)
        go_wp2
        go_roundw
        case rel => exact ⟨k + 1, _, by go_num, by omega, Lib.hid (take_next ls ms k HL.out hlt HE.out (by rw [HX.out, HY.out, HXY.out])), rfl⟩
        case measure => simp [intOf]; omega
      · have g1 : (x.toList == y.toList) = false := by rw [beq_eq_false_iff_ne]; exact fun e => hxy (toList_inj e)
        have g2 : (x.toList != y.toList) = true := by rw [bne, g1]; rfl
        have HXY := Lib.hid hxy
        clear hxy
        go_wp2_with (fail)
        go_quiet (fail)
        go_wp2
        go_ret
        refine ⟨ret_bool ?_, _, World.drewN_drewN _ _ _⟩
        symm
        rw [decide_eq_false_iff_not]
        intro e
        apply HXY.out
        rw [← HX.out, ← HY.out, e]
    · have hd : decide (k < ls.length) = false := by simpa using hlt
      go_wp2_with (fail)
      go_ret
      refine ⟨ret_bool ?_, _, rfl⟩
      symm
      rw [decide_eq_true_iff]
      have := HE.out
      rwa [List.take_of_length_le (by omega), List.take_of_length_le (by have := HL.out; omega)] at this

end Go.Proofs.YtdlmadckpcnkoaaGreat
