/- Texts of this claim, joined: RefType, DescElem, DescCall, RefMethod, PoolNamed, PoolResolve, PoolOf, PoolFill0, PoolFillT, PoolFillM. -/
import Derived.Test.YtgihfcimngogfaaGreatJDescType
import Derived.Deep.DeepCutAuto
import Derived.Tactics2
import Derived.Test.YtgihfcimngogfaaGreatJDescMethod
import Derived.Test.YtgihfcimngogfaaGreatM1
import Derived.Test.YtgihfcimngogfaaGreatM3
import Derived.Test.YtgihfcimngogfaaGreatM2
namespace Go.Proofs.YtgihfcimngogfaaGreat
open Go.RowKit Go
set_option linter.unusedVariables false
theorem brk_here (s : ByteArray) (k : Nat) (hb : k ≤ brk s.data.toList) (hstop : s.size ≤ k ∨ (∃ h : k < s.size, s[k] ≠ 91)) : brk s.data.toList = k := by
 rcases hstop with h | ⟨h, hne⟩
 ·have := brk_le s.data.toList
  rw [size_len] at this
  omega
 ·rcases Nat.lt_or_ge k (brk s.data.toList) with hlt | hge
  ·have := brk_at _ _ hlt
   rw [List.getElem?_eq_getElem (by simpa using h)] at this
   exact absurd (by injection this) hne
  ·omega
theorem u8_test (c : UInt8) (n : Nat) (h : n < 256) : ((c.toNat : Int) == (n : Int)) = (c == n.toUInt8) := by
 rw [u8_eq c n h, Bool.eq_iff_iff, beq_iff_eq, decide_eq_true_eq]
theorem type_eq (s d : ByteArray) (k : Nat) (hb : brk s.data.toList = k) (hd : d.data.toList = s.data.toList.drop k) : typeB s.data.toList = (decide (k ≤ 8) && plainB d.data.toList) := by
 unfold typeB
 rw [hb, hd]
theorem plain_long (d : ByteArray) (h2 : 2 < d.size) : plainB d.data.toList = (d[0] == 76 && d[d.size - 1] == 59 && nameB (d.extract 1 (d.size - 1)).data.toList false) := by
 have hx : (d.extract 1 (d.size - 1)).data.toList = (d.data.toList.drop 1).take (d.data.toList.length - 2) := by
  rw [Lib.extract_data, size_len]
  congr 1
 have h0 : d.data.toList.head? = some d[0] := by
  rw [List.head?_eq_getElem?, List.getElem?_eq_getElem (by simpa using (by omega : 0 < d.size))]
  rfl
 have h1 : d.data.toList.getLast? = some d[d.size - 1] := by
  rw [List.getLast?_eq_getElem?, size_len, List.getElem?_eq_getElem (by simpa using (by omega : d.size - 1 < d.size))]
  rfl
 have e1 : (d.data.toList == [73]) = false := by
  rw [beq_eq_false_iff_ne]; intro e; have := congrArg List.length e; rw [size_len] at this; simp at this; omega
 have e2 : (d.data.toList == [74]) = false := by
  rw [beq_eq_false_iff_ne]; intro e; have := congrArg List.length e; rw [size_len] at this; simp at this; omega
 unfold plainB
 rw [e1, e2, h0, h1, ← hx, size_len, decide_eq_true h2]
 simp
theorem plain_short (d : ByteArray) (h2 : ¬ 2 < d.size) : plainB d.data.toList = (d.toList == [73] || d.toList == [74]) := by
 unfold plainB
 rw [size_len, decide_eq_false h2, Lib.toList_data]
 simp
theorem list_one_false (d : ByteArray) (c : UInt8) (h : 2 < d.size) : (d.toList == [c]) = false := by
 rw [beq_eq_false_iff_ne]
 intro e
 have := congrArg List.length e
 rw [size_toList] at this
 simp at this
 omega
theorem u8_lit (c : UInt8) (n : Nat) (h : n < 256) (r : Bool) (hr : (c == n.toUInt8) = r) : ((c.toNat : Int) == (n : Int)) = r := by
 rw [u8_test c n h, hr]
theorem refName_r (s : ByteArray) (m r : Bool) (w : World) (h : Hid (nameB s.data.toList m = r)) (hs : Hid (s.size ≤ maxLen)) :
  Calls Tryz.prog 79 #[.string s, .bool m] w fun e w' => e = .returned (.bool r) ∧ w = w' := by
 rw [← h.out]
 exact refName_any s m w hs.out
theorem list_zero_false (d : ByteArray) (c : UInt8) (h : d.size = 0) : (d.toList == [c]) = false := by
 rw [beq_eq_false_iff_ne]
 intro e
 have := congrArg List.length e
 rw [size_toList] at this
 simp at this
 omega
set_option maxHeartbeats 16000000 in
set_option maxRecDepth 100000 in
theorem refType_any (s : ByteArray) (w : World) (hs : s.size ≤ maxLen) :
  Calls Tryz.prog 81 #[.string s] w fun e w' => e = .returned (.bool (typeB s.data.toList)) ∧ w = w' := by
 have hs' := hs
 unfold maxLen at hs'
 go_enter Tryz.func81, Tryz.ntmps81
 go_wp2_with (fail)
 go_loop [3] (fun n => ∃ k : Nat, k ≤ s.size ∧ k ≤ brk s.data.toList ∧ n = .int .i64 k) (fun n => s.size - (intOf n).toNat)
 case atStart => exact ⟨0, Nat.zero_le _, Nat.zero_le _, rfl⟩
 case round =>
  obtain ⟨k, hk, hbr, rfl⟩ := hrel
  have HS := Lib.hid hs
  have c1 : (0 : Int) ≤ ↑k := by omega
  have c2 : (↑k : Int) ≤ ↑s.size := by omega
  by_cases hlt : k < s.size
  ·by_cases he : s[k] = 91
   ·have HE := Lib.hid he
    have ht : ((s[k].toNat : Int) == 91) = true := by rw [he]; rfl
    clear he
    go_wp2_with (fail)
    go_round
    case rel => exact ⟨k + 1, by omega, brk_next s k hbr hlt HE.out, by go_num⟩
    case measure => simp [intOf]; omega
   ·have HB := Lib.hid (brk_here s k hbr (.inr ⟨hlt, he⟩))
    have hg : ((s[k].toNat : Int) == 91) = false := by
     rw [beq_eq_false_iff_ne]
     intro e
     exact he (UInt8.toNat_inj.1 (by simp; omega))
    clear he hs hs' hbr
    go_upto_region 4 with (fail)
    go_cut [0] (fun t wx => ∃ d : ByteArray, t = .string d ∧ Hid (d = s.extract k s.size) ∧ w = wx)
    case first =>
     go_wp2_with (fail)
     go_meet
     exact ⟨_, rfl, Lib.hid rfl, rfl⟩
    case rest =>
     clear hg
     obtain ⟨d, rfl, HD, rfl⟩ := hcut
     have HT := Lib.hid (type_eq s d k HB.out (by rw [HD.out]; exact extract_tail s k))
     have hds : d.size ≤ 9223372036854775807 := by
      have h1 := HS.out
      have h2 := extract_size s k s.size (Nat.le_refl _)
      unfold maxLen at h1
      rw [HD.out, h2]
      omega
     by_cases h8 : 8 < k
     ·go_wp2_with (fail)
      go_ret
      exact ⟨ret_bool (by rw [HT.out, decide_eq_false (by omega)]; rfl), rfl⟩
     by_cases h2 : 2 < d.size
     ·have e1 := list_one_false d 73 h2
      have e2 := list_one_false d 74 h2
      have HP := Lib.hid (plain_long d h2)
      have g0 : (0 : Int) ≤ ↑d.size - 1 := by omega
      have g1 : (1 : Int) ≤ ↑d.size - 1 := by omega
      have g2 : (↑d.size - 1 : Int) ≤ ↑d.size := by omega
      have g3 : (↑d.size - 1 : Int) < ↑d.size := by omega
      have g4 : ((d.size : Int) - 1).toNat = d.size - 1 := by omega
      have g5 : d.size - 1 < d.size := by omega
      have g6 : 0 < d.size := by omega
      have HX : Hid ((d.extract 1 (d.size - 1)).size ≤ maxLen) := Lib.hid (by rw [extract_size _ _ _ (by omega)]; unfold maxLen; omega)
      cases h3 : (d[0] == 76)
      ·have H3 := Lib.hid h3
       have f3 : ((d[0].toNat : Int) == 76) = _ := u8_lit d[0] 76 (by omega) _ h3
       clear h3
       go_wp2_with (fail)
       go_ret
       exact ⟨ret_bool (by rw [HT.out, HP.out, H3.out]; simp), rfl⟩
      have H3 := Lib.hid h3
      have f3 : ((d[0].toNat : Int) == 76) = _ := u8_lit d[0] 76 (by omega) _ h3
      clear h3
      cases h4 : (d[d.size - 1] == 59)
      ·have H4 := Lib.hid h4
       have f4 : ((d[d.size - 1].toNat : Int) == 59) = _ := u8_lit d[d.size - 1] 59 (by omega) _ h4
       clear h4
       go_wp2_with (fail)
       go_ret
       exact ⟨ret_bool (by rw [HT.out, HP.out, H4.out]; simp), rfl⟩
      have H4 := Lib.hid h4
      have f4 : ((d[d.size - 1].toNat : Int) == 59) = _ := u8_lit d[d.size - 1] 59 (by omega) _ h4
      clear h4
      cases h5 : nameB (d.extract 1 (d.size - 1)).data.toList false
      all_goals
       have H5 := Lib.hid h5
       clear h5
       go_wp2_with (first | (go_at_call 79; (with_reducible refine (refName_r _ _ _ _ H5 HX).mono ?_); rintro e w' ⟨rfl, rfl⟩))
       go_ret
       exact ⟨ret_bool (by rw [HT.out, decide_eq_true (by omega), HP.out, H3.out, H4.out, H5.out]; rfl), rfl⟩
     ·have HP := Lib.hid (plain_short d h2)
      cases h3 : (d.toList == [73])
      ·have H3 := Lib.hid h3
       cases h4 : (d.toList == [74])
       all_goals
        have H4 := Lib.hid h4
        go_wp2_with (fail)
        go_ret
        exact ⟨ret_bool (by rw [HT.out, decide_eq_true (by omega), HP.out, H3.out, H4.out]; rfl), rfl⟩
      ·have H3 := Lib.hid h3
       go_wp2_with (fail)
       go_ret
       exact ⟨ret_bool (by rw [HT.out, decide_eq_true (by omega), HP.out, H3.out]; rfl), rfl⟩
  ·have HB := Lib.hid (brk_here s k hbr (.inl (by omega)))
   have hg : decide (k < s.size) = false := by simpa using hlt
   clear hs hs' hbr
   have HK : Hid (s.size = k) := Lib.hid (by omega)
   go_upto_region 4 with (fail)
   go_cut [0] (fun t wx => ∃ d : ByteArray, t = .string d ∧ Hid (d = s.extract k s.size) ∧ w = wx)
   case first =>
    go_wp2_with (fail)
    go_meet
    exact ⟨_, rfl, Lib.hid rfl, rfl⟩
   case rest =>
    clear hg
    obtain ⟨d, rfl, HD, rfl⟩ := hcut
    have HT := Lib.hid (type_eq s d k HB.out (by rw [HD.out]; exact extract_tail s k))
    have hz : d.size = 0 := by rw [HD.out, extract_size s k s.size (Nat.le_refl _)]; omega
    have e1 := list_zero_false d 73 hz
    have e2 := list_zero_false d 74 hz
    have HP := Lib.hid (plain_short d (by omega))
    have H1 := Lib.hid e1
    have H2 := Lib.hid e2
    have hzz : decide (2 < (d.size : Int)) = false := by rw [hz]; rfl
    clear hz
    by_cases h8 : 8 < k
    ·go_wp2_with (fail)
     go_ret
     exact ⟨ret_bool (by rw [HT.out, decide_eq_false (by omega)]; rfl), rfl⟩
    ·go_wp2_with (fail)
     go_ret
     exact ⟨ret_bool (by rw [HT.out, HP.out, H1.out, H2.out]; simp), rfl⟩
end Go.Proofs.YtgihfcimngogfaaGreat
namespace Go.Proofs.YtgihfcimngogfaaGreat
open Go.RowKit Go
set_option linter.unusedVariables false
def elemL (l : Bs) : Bs := if l.head? = some 91 then l.drop 1 else []
theorem ret_str {a b : ByteArray} (h : a = b) : Ending.returned (.string a) = .returned (.string b) := by rw [h]
set_option maxHeartbeats 1000000 in
theorem element_any (s : ByteArray) (w : World) :
  Calls Tryz.prog 127 #[.string s] w fun e w' => e = .returned (.string (mk (elemL s.data.toList))) ∧ w = w' := by
 cases hA : (s.data.toList.head? == some 91)
 ·have HA := Lib.hid hA
  go_enter Tryz.func127, Tryz.ntmps127
  go_wp2_with (go_at_call 140; (with_reducible refine (cutPrefix_no _ 91 _ HA).mono ?_); rintro e w' ⟨rfl, rfl⟩)
  go_ret
  refine ⟨ret_str ?_, rfl⟩
  unfold elemL
  rw [if_neg (by simpa using HA.out)]
 ·have HA := Lib.hid hA
  go_enter Tryz.func127, Tryz.ntmps127
  go_wp2_with (go_at_call 140; (with_reducible refine (cutPrefix_yes _ 91 _ HA).mono ?_); rintro e w' ⟨rfl, rfl⟩)
  go_ret
  refine ⟨ret_str ?_, rfl⟩
  unfold elemL
  rw [if_pos (by simpa using HA.out), mk_tail]
theorem head_at (s : ByteArray) (h : 0 < s.size) : s.data.toList.head? = some s[0] := by
 rw [List.head?_eq_getElem?, List.getElem?_eq_getElem (by simpa using h)]
 rfl
theorem u8_ne (c : UInt8) (n : Nat) (h : n < 256) (r : Bool) (hr : (c == n.toUInt8) = r) : ((c.toNat : Int) != (n : Int)) = !r := by
 rw [bne, u8_lit c n h r hr]
end Go.Proofs.YtgihfcimngogfaaGreat
namespace Go.Proofs.YtgihfcimngogfaaGreat
open Go.RowKit Go
set_option linter.unusedVariables false
theorem method_r (s : ByteArray) (r : Option (List Bs × Bs)) (w : World) (h : Hid (metB s.data.toList = r)) (hs : Hid (s.size ≤ maxLen)) :
  Calls Tryz.prog 114 #[.string s] w fun e w' => MetOut w.heap.size r w e w' := by
 rw [← h.out]
 exact method_any s w hs.out
theorem refType_r (s : ByteArray) (r : Bool) (w : World) (hs : Hid (s.size ≤ maxLen)) (h : Hid (typeB s.data.toList = r)) :
  Calls Tryz.prog 81 #[.string s] w fun e w' => e = .returned (.bool r) ∧ w = w' := by
 rw [← h.out]
 exact refType_any s w hs.out
end Go.Proofs.YtgihfcimngogfaaGreat
namespace Go.Proofs.YtgihfcimngogfaaGreat
open Go.RowKit Go
set_option linter.unusedVariables false
set_option maxHeartbeats 4000000 in
set_option maxRecDepth 100000 in
theorem refMethod_head (s : ByteArray) (w : World) (hs : s.size ≤ maxLen) (h : s.data.toList.head? ≠ some 40) :
  Calls Tryz.prog 80 #[.string s] w fun e w' => MetOut w.heap.size none w e w' := by
 by_cases h0 : s.toList = []
 ·go_enter Tryz.func80, Tryz.ntmps80
  go_wp2_with (fail)
  go_ret3
  exact ⟨Below.refl _ _, rfl⟩
 ·have h0' : s.toList.isEmpty = false := by simpa using h0
  have hp : 0 < s.size := by
   rcases Nat.eq_zero_or_pos s.size with e | e
   ·exact absurd ((empty_iff s).2 e) h0
   ·exact e
  have h3 : (s[0] == 40) = false := by
   rw [head_at s hp] at h
   rw [beq_eq_false_iff_ne]
   intro e
   exact h (by rw [e])
  have f3 : ((s[0].toNat : Int) == 40) = _ := u8_lit s[0] 40 (by omega) _ h3
  have f4 : ((s[0].toNat : Int) != 40) = _ := u8_ne s[0] 40 (by omega) _ h3
  clear h3 h
  go_enter Tryz.func80, Tryz.ntmps80
  go_wp2_with (fail)
  go_ret3
  exact ⟨Below.refl _ _, rfl⟩
set_option maxHeartbeats 16000000 in
set_option maxRecDepth 100000 in
theorem refMethod_main (s : ByteArray) (w : World) (hs : s.size ≤ 281474976710656) (h : s.data.toList.head? = some 40) :
  Calls Tryz.prog 80 #[.string s] w fun e w' => MetOut w.heap.size (metB s.data.toList) w e w' := by
 obtain ⟨i0, hi0, hz0, hz1, hz2⟩ := info_parts info9
 have hp : 0 < s.size := by have := size_pos_of_head h; rwa [size_len] at this
 have h0' : s.toList.isEmpty = false := by
  have : s.toList ≠ [] := fun e => by have := (empty_iff s).1 e; omega
  simpa using this
 have h0 : s.toList ≠ [] := by simpa using h0'
 have h3 : (s[0] == 40) = true := by
  have h' := h
  rw [head_at s hp] at h'
  injection h' with e
  rw [e]
  rfl
 have f3 : ((s[0].toNat : Int) == 40) = _ := u8_lit s[0] 40 (by omega) _ h3
 have f4 : ((s[0].toNat : Int) != 40) = _ := u8_ne s[0] 40 (by omega) _ h3
 have c1 : (1 : Int) ≤ ↑s.size := by omega
 have H := Lib.hid h
 have HS := Lib.hid hs
 clear h3 h hs
 go_enter Tryz.func80, Tryz.ntmps80
 go_wp2_with (fail)
 go_loopw [0, 5, 6] (fun t v _ wr => ∃ (rest : ByteArray) (acc : List Bs) (A : Option Addr) (c : Nat), t = .string rest ∧ v = .slice A acc.length c ∧ rest.size ≤ s.size ∧ acc.length ≤ 20 ∧ Hid (parm (s.data.toList.drop 1) [] = parm rest.data.toList acc) ∧ Hid (wr.ownsRow w.heap.size 9 1 (.slice A acc.length c) acc.length (acc.map strV)) ∧ Hid (Below w.heap.size w wr)) (fun t _ _ _ => strLen t)
 case atStart => exact ⟨_, [], none, 0, rfl, rfl, by rw [extract_size _ _ _ (Nat.le_refl _)]; omega, by simp, Lib.hid (by rw [extract_tail]), Lib.hid (World.ownsRow_nil _ _ _ _), Lib.hid (Below.refl _ _)⟩
 case round =>
  obtain ⟨rest, acc, A, c, rfl, rfl, hle, hacc, HP, HO, HW⟩ := hrel
  clear h0 h0' f3 f4 c1
  have HRS : Hid (rest.size ≤ maxLen) := Lib.hid (by have := HS.out; unfold maxLen; omega)
  have HRT : Hid (rest.size ≤ 281474976710656) := Lib.hid (Nat.le_trans hle HS.out)
  by_cases hz : rest.size = 0
  ·have e1 : rest.toList = [] := (empty_iff rest).2 hz
   have e2 : rest.toList.isEmpty = true := by rw [e1]; rfl
   have e3 : (!rest.toList.isEmpty) = false := by rw [e1]; rfl
   have HE : Hid (metB s.data.toList = none) := Lib.hid (by
    apply metB_none
    rw [HP.out, ← Lib.toList_data, e1]
    exact parm_no (by simp) (.inl rfl))
   have HZ := Lib.hid hz
   clear hz
   go_wp2_with (fail)
   go_ret3
   rw [HE.out]
   exact ⟨HW.out, rfl⟩
  have e1 : rest.toList ≠ [] := fun e => hz ((empty_iff rest).1 e)
  have e2 : rest.toList.isEmpty = false := by simpa using e1
  have hpos : 0 < rest.size := by omega
  have k1 : (1 : Int) ≤ ↑rest.size := by omega
  have HH := Lib.hid (head_at rest hpos)
  clear hz
  cases h41 : (rest[0] == 41)
  case true =>
   have H41 : Hid (rest.data.toList.head? = some 41) := Lib.hid (by rw [HH.out, beq_iff_eq.1 h41])
   have f3 : ((rest[0].toNat : Int) == 41) = _ := u8_lit rest[0] 41 (by omega) _ h41
   have f4 : ((rest[0].toNat : Int) != 41) = _ := u8_ne rest[0] 41 (by omega) _ h41
   have HPE : Hid (parm (s.data.toList.drop 1) [] = some (acc, rest.data.toList.drop 1)) := Lib.hid (by rw [HP.out, parm_end acc H41.out])
   have HX : Hid ((rest.extract 1 rest.size).size ≤ maxLen) := Lib.hid (by rw [extract_size _ _ _ (Nat.le_refl _)]; have := HRS.out; omega)
   clear h41
   have hcons : rest.data.toList = 41 :: rest.data.toList.drop 1 := by
    have := H41.out
    cases hl : rest.data.toList with
    | nil => rw [hl] at this; simp at this
    | cons a q => rw [hl] at this; simp at this; rw [this]; rfl
   have HC := Lib.hid hcons
   clear hcons
   by_cases hV : rest.data.toList.drop 1 = [86]
   ·have g1 : (rest.toList == [41, 86]) = true := by rw [Lib.toList_data, HC.out, hV]; rfl
    have g2 : (rest.toList != [41, 86]) = false := by rw [bne, g1]; rfl
    have HM := Lib.hid (metB_some H.out HPE.out (.inl hV))
    clear hV
    go_wp2_with (fail)
    go_quiet (fail)
    go_wp2
    go_ret3
    rw [HM.out]
    exact ⟨below_drewN HW.out _, _, by rw [mk_tail]; rfl, HO.out⟩
   ·have g1 : (rest.toList == [41, 86]) = false := by
     rw [Lib.toList_data, HC.out, beq_eq_false_iff_ne]
     intro e
     injection e with _ e
     exact hV e
    have g2 : (rest.toList != [41, 86]) = true := by rw [bne, g1]; rfl
    cases hT : typeB (rest.data.toList.drop 1)
    ·have HT : Hid (typeB (rest.extract 1 rest.size).data.toList = false) := Lib.hid (by rw [extract_tail]; exact hT)
     have HM := Lib.hid (metB_bad HPE.out hV hT)
     clear hV hT
     go_wp2_with (first | (go_at_call 81; (with_reducible refine (refType_r _ _ _ HX HT).mono ?_); rintro e w' ⟨rfl, rfl⟩))
     go_ret3
     rw [HM.out]
     exact ⟨HW.out, rfl⟩
    ·have HT : Hid (typeB (rest.extract 1 rest.size).data.toList = true) := Lib.hid (by rw [extract_tail]; exact hT)
     have HM := Lib.hid (metB_some H.out HPE.out (.inr hT))
     clear hV hT
     go_wp2_with (first | (go_at_call 81; (with_reducible refine (refType_r _ _ _ HX HT).mono ?_); rintro e w' ⟨rfl, rfl⟩))
     go_quiet (fail)
     go_wp2
     go_ret3
     rw [HM.out]
     exact ⟨below_drewN HW.out _, _, by rw [mk_tail]; rfl, HO.out⟩
  case false =>
   have HN : Hid (rest.data.toList.head? ≠ some 41) := Lib.hid (by rw [HH.out]; intro e; injection e with e; rw [e] at h41; simp at h41)
   have f3 : ((rest[0].toNat : Int) == 41) = _ := u8_lit rest[0] 41 (by omega) _ h41
   have f4 : ((rest[0].toNat : Int) != 41) = _ := u8_ne rest[0] 41 (by omega) _ h41
   clear h41
   obtain ⟨k, hk⟩ : ∃ k, tlen rest.data.toList = k := ⟨_, rfl⟩
   have hkl := tlen_le rest.data.toList
   rw [hk, size_len] at hkl
   have HK := Lib.hid hk
   clear hk
   obtain ⟨wo, hwo⟩ : ∃ wo : World, wo = wr := ⟨_, rfl⟩
   subst hwo
   by_cases h0 : k = 0
   ·have HM := Lib.hid (metB_none (HP.out.trans (parm_no HN.out (.inl (HK.out.trans h0)))))
    go_wp2_with (fail)
    go_loop [6] (fun n => ∃ j : Nat, n = .int .i64 j ∧ 1 ≤ j ∧ j ≤ rest.size + 1) (fun n => rest.size + 1 - (intOf n).toNat)
    case atStart => exact ⟨1, rfl, by omega, by omega⟩
    case round =>
     obtain ⟨j, rfl, hj1, hj2⟩ := hrel
     by_cases hj : j ≤ rest.size
     ·have b3 : (↑j : Int) ≤ 281474976710657 := by have := HRT.out; omega
      have b1 : (0 : Int) ≤ ↑j := by omega
      have b2 : (↑j : Int) ≤ ↑rest.size := by omega
      have HX : Hid ((rest.extract 0 j).size ≤ maxLen) := Lib.hid (by rw [extract_size _ _ _ hj]; have := HRS.out; omega)
      have HT : Hid (typeB (rest.extract 0 j).data.toList = false) := Lib.hid (by
       rw [extract_head, type_take _ _ (by rw [size_len]; exact hj), HK.out]
       simp [h0])
      go_wp2_with (first | (go_at_call 81; (with_reducible refine (refType_r _ _ _ HX HT).mono ?_); rintro e w' ⟨rfl, rfl⟩))
      go_round
      case rel => exact ⟨j + 1, by go_num, by omega, by omega⟩
      case measure => simp [intOf]; omega
     ·have hd : decide (j ≤ rest.size) = false := by simpa using hj
      have hd2 : rest.size < j := by omega
      go_wp2_with (fail)
      go_ret3
      rw [HM.out]
      exact ⟨HW.out, rfl⟩
   ·by_cases h20 : acc.length = 20
    ·have HM := Lib.hid (metB_none (HP.out.trans (parm_no HN.out (.inr h20))))
     have g20 : ((acc.length : Int) == 20) = true := by rw [h20]; rfl
     clear h20
     go_wp2_with (fail)
     go_loop [6] (fun n => ∃ j : Nat, n = .int .i64 j ∧ 1 ≤ j ∧ j ≤ k) (fun n => k - (intOf n).toNat)
     case atStart => exact ⟨1, rfl, by omega, by omega⟩
     case round =>
      obtain ⟨j, rfl, hj1, hj2⟩ := hrel
      have b1 : (0 : Int) ≤ ↑j := by omega
      have b2 : (↑j : Int) ≤ ↑rest.size := by omega
      have HX : Hid ((rest.extract 0 j).size ≤ maxLen) := Lib.hid (by rw [extract_size _ _ _ (by omega)]; have := HRS.out; omega)
      by_cases hj : j = k
      ·have HT : Hid (typeB (rest.extract 0 j).data.toList = true) := Lib.hid (by
        rw [extract_head, type_take _ _ (by rw [size_len]; omega), HK.out]
        simp [h0, hj])
       have HJ := Lib.hid hj
       clear hj
       go_wp2_with (first | (go_at_call 81; (with_reducible refine (refType_r _ _ _ HX HT).mono ?_); rintro e w' ⟨rfl, rfl⟩))
       go_ret3
       rw [HM.out]
       exact ⟨HW.out, rfl⟩
      ·have b3 : (↑j : Int) ≤ 281474976710657 := by have := HRT.out; omega
       have HT : Hid (typeB (rest.extract 0 j).data.toList = false) := Lib.hid (by
        rw [extract_head, type_take _ _ (by rw [size_len]; omega), HK.out]
        simp [hj])
       go_wp2_with (first | (go_at_call 81; (with_reducible refine (refType_r _ _ _ HX HT).mono ?_); rintro e w' ⟨rfl, rfl⟩))
       go_round
       case rel => exact ⟨j + 1, by go_num, by omega, by omega⟩
       case measure => simp [intOf]; omega
    ·have HE := parm_on (acc := acc) HN.out (by rw [HK.out]; exact h0) h20
     rw [HK.out] at HE
     have HE' := Lib.hid (HP.out.trans HE)
     clear HE
     have g20 : ((acc.length : Int) == 20) = false := by rw [beq_eq_false_iff_ne]; omega
     have hbw : w.heap.size ≤ wo.heap.size := HW.out.size
     go_wp2_with (fail)
     go_loop [6] (fun n => ∃ j : Nat, n = .int .i64 j ∧ 1 ≤ j ∧ j ≤ k) (fun n => k - (intOf n).toNat)
     case atStart => exact ⟨1, rfl, by omega, by omega⟩
     case round =>
      obtain ⟨j, rfl, hj1, hj2⟩ := hrel
      have b1 : (0 : Int) ≤ ↑j := by omega
      have b2 : (↑j : Int) ≤ ↑rest.size := by omega
      have HX : Hid ((rest.extract 0 j).size ≤ maxLen) := Lib.hid (by rw [extract_size _ _ _ (by omega)]; have := HRS.out; omega)
      by_cases hj : j = k
      ·have HT : Hid (typeB (rest.extract 0 j).data.toList = true) := Lib.hid (by
        rw [extract_head, type_take _ _ (by rw [size_len]; omega), HK.out]
        simp [h0, hj])
       have HJ := Lib.hid hj
       clear hj
       go_wp2_with (first | (go_at_call 81; (with_reducible refine (refType_r _ _ _ HX HT).mono ?_); rintro e w' ⟨rfl, rfl⟩) | (at_builtin; refine wpList_append_own _ rfl (.tmp 45) (.tmp 49) 22 rfl w.heap.size 9 i0 (.string ⟨#[]⟩) 1 16 Tryz.underlying22 hi0 hz0 hz1 hz2 rfl (by decide) (.slice A acc.length c) acc.length (acc.map strV) rfl (HO.out.alloc _) ⟨wo.heap.size, 0, none⟩ 1 1 [.string (rest.extract 0 j)] rfl rfl ?c1 ?c2 ?c3 ?c4 ?c5 ?_))
       case c1 => exact one_cell _ _ _
       case c2 => intro u hu; simp at hu; subst hu; rfl
       case c3 => unfold maxLen; omega
       case c4 => omega
       case c5 => simp; omega
       intro v' w1 hown1 hgrow _
       obtain ⟨A', c', rfl⟩ := own_form hown1
       have HO1 := Lib.hid hown1
       have HG := Lib.hid hgrow
       clear hown1 hgrow
       go_wp2
       go_roundw
       case rel => exact ⟨_, acc ++ [rest.data.toList.take j], A', c', rfl, by simp, by rw [extract_size _ _ _ (Nat.le_refl _)]; omega, by simp; omega, Lib.hid (by rw [extract_tail]; rw [HJ.out]; exact HE'.out), Lib.hid (by simpa [strV, ← mk_front] using HO1.out), Lib.hid ((HW.out.alloc hbw _).grown HG.out (by simp; omega) (own_block_ge HO.out))⟩
       case measure => simp [strLen]; omega
      ·have b3 : (↑j : Int) ≤ 281474976710657 := by have := HRT.out; omega
       have HT : Hid (typeB (rest.extract 0 j).data.toList = false) := Lib.hid (by
        rw [extract_head, type_take _ _ (by rw [size_len]; omega), HK.out]
        simp [hj])
       go_wp2_with (first | (go_at_call 81; (with_reducible refine (refType_r _ _ _ HX HT).mono ?_); rintro e w' ⟨rfl, rfl⟩))
       go_round
       case rel => exact ⟨j + 1, by go_num, by omega, by omega⟩
       case measure => simp [intOf]; omega
theorem refMethod_any (s : ByteArray) (w : World) (hs : s.size ≤ 281474976710656) :
  Calls Tryz.prog 80 #[.string s] w fun e w' => MetOut w.heap.size (metB s.data.toList) w e w' := by
 by_cases h : s.data.toList.head? = some 40
 ·exact refMethod_main s w hs h
 ·rw [metB_head h]
  exact refMethod_head s w (by unfold maxLen; omega) h
end Go.Proofs.YtgihfcimngogfaaGreat
namespace Go.Proofs.YtgihfcimngogfaaGreat
open Go.RowKit Go
set_option linter.unusedVariables false
theorem element_r (s : ByteArray) (r : ByteArray) (w : World) (h : Hid (mk (elemL s.data.toList) = r)) :
  Calls Tryz.prog 127 #[.string s] w fun e w' => e = .returned (.string r) ∧ w = w' := by
 rw [← h.out]
 exact element_any s w
theorem named_name {l : Bs} (h : nameB l false = true) : namedB l = true := by unfold namedB; rw [h]; rfl
theorem named_rest {l : Bs} (h : nameB l false = false) : namedB l = (l.head? == some 91 && typeB l) := by unfold namedB; rw [h]; rfl
theorem type_bracket : typeB [91] = false := by decide
set_option maxHeartbeats 2000000 in
set_option maxRecDepth 100000 in
theorem named_any (s : ByteArray) (w : World) (hs : s.size ≤ maxLen) :
  Calls Tryz.prog 122 #[.string s] w fun e w' => e = .returned (.bool (namedB s.data.toList)) ∧ ∃ n, w' = w.drewN n := by
 have HS := lhid hs
 cases hN : nameB s.data.toList false
 case true =>
  have HN := lhid hN
  rw [named_name hN]
  clear hN hs
  go_enter Tryz.func122, Tryz.ntmps122
  go_wp2_with (go_at_call 112; (with_reducible refine (name_r _ false _ _ HN HS.out).mono ?_); rintro e w' ⟨rfl, rfl⟩)
  go_ret
  exact ⟨rfl, 0, rfl⟩
 have HN := lhid hN
 rw [named_rest hN]
 clear hN
 obtain ⟨r, hr⟩ : ∃ r, mk (elemL s.data.toList) = r := ⟨_, rfl⟩
 have HR := lhid hr
 by_cases he : elemL s.data.toList = []
 ·have hf : (s.data.toList.head? == some 91 && typeB s.data.toList) = false := by
   cases h91 : (s.data.toList.head? == some 91)
   ·rfl
   ·unfold elemL at he
    rw [if_pos (by simpa using h91)] at he
    cases hl : s.data.toList with
    | nil => rw [hl] at h91; simp at h91
    | cons c q =>
     rw [hl] at he h91
     simp at he h91
     subst he h91
     exact type_bracket
  rw [hf]
  have e1 : r.toList = [] := by rw [← hr, Lib.toList_data, mk_list, he]
  have e2 : r.toList.isEmpty = true := by rw [e1]; rfl
  have e3 : (!r.toList.isEmpty) = false := by rw [e1]; rfl
  clear hr he hf hs
  go_enter Tryz.func122, Tryz.ntmps122
  go_wp2_with (first | (go_at_call 112; (with_reducible refine (name_r _ false _ _ HN HS.out).mono ?_); rintro e w' ⟨rfl, rfl⟩) | (go_at_call 127; (with_reducible refine (element_r _ _ _ HR).mono ?_); rintro e w' ⟨rfl, rfl⟩))
  go_ret
  exact ⟨rfl, 0, rfl⟩
 ·have h91 : (s.data.toList.head? == some 91) = true := by
   cases h91 : (s.data.toList.head? == some 91)
   ·unfold elemL at he
    rw [if_neg (by simpa using h91)] at he
    exact absurd rfl he
   ·rfl
  rw [h91, Bool.true_and]
  have e1 : r.toList ≠ [] := by rw [← hr, Lib.toList_data, mk_list]; exact he
  have e2 : r.toList.isEmpty = false := by simpa using e1
  have e3 : (!r.toList.isEmpty) = true := by rw [e2]; rfl
  clear hr he h91 hs
  obtain ⟨b, hb⟩ : ∃ b, typeB s.data.toList = b := ⟨_, rfl⟩
  have HB := lhid hb
  rw [hb]
  clear hb
  go_enter Tryz.func122, Tryz.ntmps122
  go_wp2_with (first | (go_at_call 112; (with_reducible refine (name_r _ false _ _ HN HS.out).mono ?_); rintro e w' ⟨rfl, rfl⟩) | (go_at_call 127; (with_reducible refine (element_r _ _ _ HR).mono ?_); rintro e w' ⟨rfl, rfl⟩) | (go_at_call 113; (with_reducible refine (type_r _ _ _ HS HB).mono ?_); rintro e w' ⟨rfl, n, rfl⟩))
  go_ret
  exact ⟨rfl, n, rfl⟩
set_option maxHeartbeats 2000000 in
set_option maxRecDepth 100000 in
theorem refNamed_any (s : ByteArray) (w : World) (hs : s.size ≤ maxLen) :
  Calls Tryz.prog 100 #[.string s] w fun e w' => e = .returned (.bool (namedB s.data.toList)) ∧ w = w' := by
 have HS := lhid hs
 cases hN : nameB s.data.toList false
 case true =>
  have HN := lhid hN
  rw [named_name hN]
  clear hN hs
  go_enter Tryz.func100, Tryz.ntmps100
  go_wp2_with (go_at_call 79; (with_reducible refine (refName_r _ false _ _ HN HS).mono ?_); rintro e w' ⟨rfl, rfl⟩)
  go_ret
  exact ⟨rfl, rfl⟩
 have HN := lhid hN
 rw [named_rest hN]
 clear hN
 cases hT : typeB s.data.toList
 ·have HT := lhid hT
  rw [Bool.and_false]
  clear hT hs
  go_enter Tryz.func100, Tryz.ntmps100
  go_wp2_with (first | (go_at_call 79; (with_reducible refine (refName_r _ false _ _ HN HS).mono ?_); rintro e w' ⟨rfl, rfl⟩) | (go_at_call 81; (with_reducible refine (refType_r _ _ _ HS HT).mono ?_); rintro e w' ⟨rfl, rfl⟩))
  go_ret
  exact ⟨rfl, rfl⟩
 ·have HT := lhid hT
  have hp : 0 < s.size := by
   rcases Nat.eq_zero_or_pos s.size with h0 | h0
   ·have : s.data.toList = [] := by rw [← List.length_eq_zero_iff, size_len]; exact h0
    rw [this] at hT
    exact absurd hT (by decide)
   ·exact h0
  rw [Bool.and_true, head_at s hp]
  clear hT hs
  obtain ⟨b, hb⟩ : ∃ b, (s[0] == 91) = b := ⟨_, rfl⟩
  have hb' : (some s[0] == some (91 : UInt8)) = b := by rw [← hb]; rfl
  rw [hb']
  have f3 : ((s[0].toNat : Int) == 91) = _ := u8_lit s[0] 91 (by omega) _ hb
  have f4 : ((s[0].toNat : Int) != 91) = _ := u8_ne s[0] 91 (by omega) _ hb
  clear hb hb'
  go_enter Tryz.func100, Tryz.ntmps100
  go_wp2_with (first | (go_at_call 79; (with_reducible refine (refName_r _ false _ _ HN HS).mono ?_); rintro e w' ⟨rfl, rfl⟩) | (go_at_call 81; (with_reducible refine (refType_r _ _ _ HS HT).mono ?_); rintro e w' ⟨rfl, rfl⟩))
  go_ret
  exact ⟨rfl, rfl⟩
theorem method_err (s : ByteArray) (b : Bool) (w : World) (hs : Hid (s.size ≤ maxLen)) (h : Hid ((metB s.data.toList).isSome = b)) :
  Calls Tryz.prog 114 #[.string s] w fun e w' => (∃ u t, e = .returned (.tuple #[u, t, .int .i64 (if b then 0 else 21)])) ∧ Below w.heap.size w w' := by
 refine (method_any s w hs.out).mono ?_
 rintro e w' ⟨hb, hm⟩
 have hh := h.out
 cases hr : metB s.data.toList with
 | none =>
  rw [hr] at hm hh
  simp at hh
  subst hh
  exact ⟨⟨_, _, hm⟩, hb⟩
 | some p =>
  obtain ⟨ps, rest⟩ := p
  rw [hr] at hm hh
  simp at hh
  subst hh
  obtain ⟨v, he, _⟩ := hm
  exact ⟨⟨_, _, he⟩, hb⟩
theorem refMethod_err (s : ByteArray) (b : Bool) (w : World) (hs : Hid (s.size ≤ maxLen)) (h : Hid ((metB s.data.toList).isSome = b)) (hz : Hid (s.size ≤ 281474976710656)) :
  Calls Tryz.prog 80 #[.string s] w fun e w' => (∃ u t, e = .returned (.tuple #[u, t, .int .i64 (if b then 0 else 21)])) ∧ Below w.heap.size w w' := by
 refine (refMethod_any s w hz.out).mono ?_
 rintro e w' ⟨hb, hm⟩
 have hh := h.out
 cases hr : metB s.data.toList with
 | none =>
  rw [hr] at hm hh
  simp at hh
  subst hh
  exact ⟨⟨_, _, hm⟩, hb⟩
 | some p =>
  obtain ⟨ps, rest⟩ := p
  rw [hr] at hm hh
  simp at hh
  subst hh
  obtain ⟨v, he, _⟩ := hm
  exact ⟨⟨_, _, he⟩, hb⟩
set_option maxHeartbeats 2000000 in
set_option maxRecDepth 100000 in
theorem describes_any (s : ByteArray) (m b : Bool) (w : World) (hs : Hid (s.size ≤ maxLen)) (h : Hid (descB s.data.toList m = b)) :
  Calls Tryz.prog 124 #[.string s, .bool m] w fun e w' => e = .returned (.bool b) ∧ Below w.heap.size w w' := by
 cases m
 ·have HT : Hid (typeB s.data.toList = b) := h
  go_enter Tryz.func124, Tryz.ntmps124
  go_wp2_with (go_at_call 113; (with_reducible refine (type_r _ _ _ hs HT).mono ?_); rintro e w' ⟨rfl, n, rfl⟩)
  go_ret
  exact ⟨rfl, below_drewN (Below.refl _ _) n⟩
 ·have HT : Hid ((metB s.data.toList).isSome = b) := h
  cases b
  all_goals
   go_enter Tryz.func124, Tryz.ntmps124
   go_wp2_with fail
   with_reducible refine (method_err _ _ _ hs HT).mono ?_
   rintro e w1 ⟨⟨u, t, rfl⟩, hb⟩
   have HB := lhid hb
   clear hb
   go_wp2_with fail
   go_ret
   exact ⟨rfl, HB.out⟩
end Go.Proofs.YtgihfcimngogfaaGreat
namespace Go.Proofs.YtgihfcimngogfaaGreat
open Go.RowKit Go
set_option linter.unusedVariables false
def ConAt (w : World) (C T : Nat) (x : Con) : Prop := w.heap[C]? = some (.cells (conV x).toArray T (0, 0))
theorem ConAt.cell {w : World} {C T : Nat} {x : Con} (h : ConAt w C T x) {i : Nat} {v : Value} (hv : (conV x)[i]? = some v) : w.cell? ⟨C, i, none⟩ = some v := heap_cell h (by simpa using hv)
theorem ConAt.thaw {w : World} {C T : Nat} {x : Con} (h : ConAt w C T x) : ∀ i, w.frozen? ⟨C, i, none⟩ = false := fun i => heap_thaw h i
theorem ConAt.cells {w : World} {C T : Nat} {x : Con} (h : ConAt w C T x) :
  w.cell? ⟨C, 0, none⟩ = some (.int .i64 x.kind) ∧ w.cell? ⟨C, 1, none⟩ = some (.int .i64 x.num) ∧ w.cell? ⟨C, 2, none⟩ = some (.string (tx x.text)) ∧ w.cell? ⟨C, 3, none⟩ = some (.string (tx x.name)) ∧ w.cell? ⟨C, 4, none⟩ = some (.string (tx x.desc)) :=
 ⟨h.cell rfl, h.cell rfl, h.cell rfl, h.cell rfl, h.cell rfl⟩
def ResOut (p : Nat × Con) (w : World) (e : Ending) (w' : World) : Prop :=
 e = .returned (.tuple #[.agg #[.int .i64 p.2.kind, .int .i64 p.2.num, .string (tx p.2.text), .string (tx p.2.name), .string (tx p.2.desc)], .int .i64 p.1]) ∧ Below w.heap.size w w'
theorem new_one (w : World) (o o' : Obj) : ((w.alloc o).alloc o').heap[w.heap.size]? = some o := by
 rw [Below.heap_alloc _ _ _ (by simp)]
 exact heap_alloc_new _ _
theorem EntAt.below {w w' : World} {B C T : Nat} {x : Ent} (h : EntAt w C T x) (hb : Below B w w') (hB : C < B) : EntAt w' C T x := (hb.block C hB).trans h
theorem ConAt.below {w w' : World} {B C T : Nat} {x : Con} (h : ConAt w C T x) (hb : Below B w w') (hB : C < B) : ConAt w' C T x := (hb.block C hB).trans h
def ShortL (l : List Ent) : Prop := ∀ x, x ∈ l → x.text.length < 65536
theorem short_text {l : List Ent} (h : ShortL l) {i : Nat} {t : Bs} (ht : textAt l i = some t) : (tx t).size ≤ maxLen := by
 unfold textAt at ht
 obtain ⟨x, h1, h2⟩ := Option.map_eq_some_iff.1 ht
 have h3 := h x (List.mem_of_getElem? (entAt_some h1).1)
 rw [tx_size, ← h2]
 unfold maxLen
 omega
theorem short_class {l : List Ent} (h : ShortL l) {i : Nat} {t : Bs} (ht : classAt l i = some t) : (tx t).size ≤ maxLen := by
 unfold classAt at ht
 obtain ⟨x, h1, h2⟩ := Option.bind_eq_some_iff.1 ht
 exact short_text h h2
theorem named_r (l : Bs) (b : Bool) (w : World) (hs : Hid ((tx l).size ≤ maxLen)) (h : Hid (namedB l = b)) :
  Calls Tryz.prog 122 #[.string (tx l)] w fun e w' => e = .returned (.bool b) ∧ ∃ n, w' = w.drewN n := by
 have := named_any (tx l) w hs.out
 rw [tx_list, h.out] at this
 exact this
theorem name_t (l : Bs) (m b : Bool) (w : World) (hs : Hid ((tx l).size ≤ maxLen)) (h : Hid (nameB l m = b)) :
  Calls Tryz.prog 112 #[.string (tx l), .bool m] w fun e w' => e = .returned (.bool b) ∧ w = w' := by
 have := name_any (tx l) m w hs.out
 rw [tx_list, h.out] at this
 exact this
theorem describes_t (l : Bs) (m b : Bool) (w : World) (hs : Hid ((tx l).size ≤ maxLen)) (h : Hid (descB l m = b)) :
  Calls Tryz.prog 124 #[.string (tx l), .bool m] w fun e w' => e = .returned (.bool b) ∧ Below w.heap.size w w' :=
 describes_any (tx l) m b w hs (lhid (by rw [tx_list]; exact h.out))
set_option maxHeartbeats 4000000 in
set_option maxRecDepth 100000 in
theorem resolveText_any (g : Nat) (l : List Ent) (n : Nat) (x : Ent) (w : World) (h : RowsAt w g 144 8 (l.map entV)) (hn : Hid (l.length = n)) (hs : Hid (ShortL l)) (hk : x.kind = 7 ∨ x.kind = 8) :
  Calls Tryz.prog 106 #[.slice (some ⟨g, 0, none⟩) n n, .agg #[.int .i64 x.kind, .int .i64 x.num, .string (tx x.text), .string ⟨#[]⟩, .string ⟨#[]⟩, .int .i64 x.a, .int .i64 x.b, .int .i64 x.d]] w (ResOut (resText l x) w) := by
 have HH := lhid h
 have hsz := h.lt
 clear h
 cases ht : textAt l x.a with
 | none =>
  have HT := lhid ht
  have HP : Hid (resText l x = (12, Con.zero)) := lhid (by unfold resText; rw [ht])
  clear ht
  go_enter Tryz.func106, Tryz.ntmps106
  go_wp2_with fail
  with_reducible refine (textAt_no g l n x.a _ (lhid ((HH.out.alloc _).alloc _)) hn HT).mono ?_
  rintro e w1 ⟨rfl, hb⟩
  have HB := lhid hb
  have HC := lhid (ConAt.below (x := Con.zero) (new_two w _ _) hb (by simp))
  obtain ⟨p0, p1, p2, p3, p4⟩ := HC.out.cells
  have fp := HC.out.thaw
  clear hb
  go_wp2_with fail
  refine bodyPost_ret (v := .tuple #[.agg #[.int .i64 0, .int .i64 0, .string ⟨#[]⟩, .string ⟨#[]⟩, .string ⟨#[]⟩], .int .i64 12]) (by simp [results, Tryz.results106, go_sem, p0, p1, p2, p3, p4]) rfl ?_
  rw [HP.out]
  refine ⟨rfl, ?_⟩
  repeat (refine Below.setCell ?_ (by simp) _)
  exact (((Below.refl _ _).alloc (Nat.le_refl _) _).alloc (by simp) _).trans (HB.out.mono (by simp; omega))
 | some t =>
  have HT := lhid ht
  have HS := lhid (short_text hs.out ht)
  have HPX : Hid (resText l x = if x.kind = 7 ∧ namedB t = false then (20, Con.zero) else (0, ⟨x.kind, x.num, t, [], []⟩)) := lhid (by unfold resText; rw [ht])
  clear ht
  rcases hk with hk | hk
  ·cases hnm : namedB t
   ·have HP : Hid (resText l x = (20, Con.zero)) := lhid (by rw [HPX.out, if_pos ⟨hk, hnm⟩])
    have HNM := lhid hnm
    have HK := lhid hk
    rw [hk]
    clear hk hnm HPX
    go_enter Tryz.func106, Tryz.ntmps106
    go_wp2_with fail
    with_reducible refine (textAt_yes g l n x.a t _ (lhid ((HH.out.alloc _).alloc _)) hn HT).mono ?_
    rintro e w1 ⟨rfl, hb⟩
    have HB := lhid hb
    have HC := lhid (ConAt.below (x := Con.zero) (new_two w _ _) hb (by simp))
    have HE := lhid (EntAt.below (x := ⟨7, x.num, x.text, x.a, x.b, x.d⟩) (new_one w _ _) hb (by simp; omega))
    obtain ⟨a0, a1, a2, a3, a4, a5, a6, a7⟩ := HE.out.cells
    obtain ⟨p0, p1, p2, p3, p4⟩ := HC.out.cells
    have fp := HC.out.thaw
    clear hb
    go_wp2_with (go_at_call 122; (with_reducible refine (named_r t false _ HS HNM).mono ?_); rintro e w' ⟨rfl, q, rfl⟩)
    refine bodyPost_ret (v := .tuple #[.agg #[.int .i64 0, .int .i64 0, .string ⟨#[]⟩, .string ⟨#[]⟩, .string ⟨#[]⟩], .int .i64 20]) (by simp [results, Tryz.results106, go_sem, p0, p1, p2, p3, p4]) rfl ?_
    rw [HP.out]
    refine ⟨rfl, ?_⟩
    repeat (refine Below.setCell ?_ (by simp) _)
    exact below_drewN ((((Below.refl _ _).alloc (Nat.le_refl _) _).alloc (by simp) _).trans (HB.out.mono (by simp; omega))) q
   ·have HP : Hid (resText l x = (0, ⟨7, x.num, t, [], []⟩)) := lhid (by rw [HPX.out, if_neg (by rw [hnm]; simp), hk])
    have HNM := lhid hnm
    have HK := lhid hk
    rw [hk]
    clear hk hnm HPX
    go_enter Tryz.func106, Tryz.ntmps106
    go_wp2_with fail
    with_reducible refine (textAt_yes g l n x.a t _ (lhid ((HH.out.alloc _).alloc _)) hn HT).mono ?_
    rintro e w1 ⟨rfl, hb⟩
    have HB := lhid hb
    have HC := lhid (ConAt.below (x := Con.zero) (new_two w _ _) hb (by simp))
    have HE := lhid (EntAt.below (x := ⟨7, x.num, x.text, x.a, x.b, x.d⟩) (new_one w _ _) hb (by simp; omega))
    obtain ⟨a0, a1, a2, a3, a4, a5, a6, a7⟩ := HE.out.cells
    have fa := HE.out.thaw
    obtain ⟨p0, p1, p2, p3, p4⟩ := HC.out.cells
    have fp := HC.out.thaw
    clear hb
    go_wp2_with (go_at_call 122; (with_reducible refine (named_r t true _ HS HNM).mono ?_); rintro e w' ⟨rfl, q, rfl⟩)
    refine bodyPost_ret (v := .tuple #[.agg #[.int .i64 7, .int .i64 x.num, .string (tx t), .string ⟨#[]⟩, .string ⟨#[]⟩], .int .i64 0]) (by simp [results, Tryz.results106, go_sem, p0, p1, p2, p3, p4]) rfl ?_
    rw [HP.out]
    refine ⟨rfl, ?_⟩
    repeat (refine Below.setCell ?_ (by simp) _)
    exact below_drewN ((((Below.refl _ _).alloc (Nat.le_refl _) _).alloc (by simp) _).trans (HB.out.mono (by simp; omega))) q
  ·have HP : Hid (resText l x = (0, ⟨8, x.num, t, [], []⟩)) := lhid (by rw [HPX.out, if_neg (by rw [hk]; simp), hk])
   have HK := lhid hk
   rw [hk]
   clear hk HPX
   go_enter Tryz.func106, Tryz.ntmps106
   go_wp2_with fail
   with_reducible refine (textAt_yes g l n x.a t _ (lhid ((HH.out.alloc _).alloc _)) hn HT).mono ?_
   rintro e w1 ⟨rfl, hb⟩
   have HB := lhid hb
   have HC := lhid (ConAt.below (x := Con.zero) (new_two w _ _) hb (by simp))
   have HE := lhid (EntAt.below (x := ⟨8, x.num, x.text, x.a, x.b, x.d⟩) (new_one w _ _) hb (by simp; omega))
   obtain ⟨a0, a1, a2, a3, a4, a5, a6, a7⟩ := HE.out.cells
   have fa := HE.out.thaw
   obtain ⟨p0, p1, p2, p3, p4⟩ := HC.out.cells
   have fp := HC.out.thaw
   clear hb
   go_wp2_with fail
   refine bodyPost_ret (v := .tuple #[.agg #[.int .i64 8, .int .i64 x.num, .string (tx t), .string ⟨#[]⟩, .string ⟨#[]⟩], .int .i64 0]) (by simp [results, Tryz.results106, go_sem, p0, p1, p2, p3, p4]) rfl ?_
   rw [HP.out]
   refine ⟨rfl, ?_⟩
   repeat (refine Below.setCell ?_ (by simp) _)
   exact ((((Below.refl _ _).alloc (Nat.le_refl _) _).alloc (by simp) _).trans (HB.out.mono (by simp; omega)))
end Go.Proofs.YtgihfcimngogfaaGreat
namespace Go.Proofs.YtgihfcimngogfaaGreat
open Go.RowKit Go
set_option linter.unusedVariables false
def ZeroL (l : List Ent) : Prop := ∀ x, l[0]? = some x → x.kind = 0
theorem zero_none {l : List Ent} (h : ZeroL l) (k : Nat) (hk : k ≠ 0) : entAt l 0 k = none := by
 unfold entAt
 cases hl : l[0]? with
 | none => rfl
 | some x =>
  simp only
  rw [if_neg (by rw [h x hl]; omega)]
set_option maxHeartbeats 4000000 in
set_option maxRecDepth 100000 in
theorem of_no (g : Nat) (l : List Ent) (n i k : Nat) (kk : Int) (w : World) (h : RowsAt w g 130 8 (l.map entV)) (hn : Hid (l.length = n)) (hk : Hid (kk = k)) (hat : Hid (entAt l i k = none)) :
  Calls Tryz.prog 99 #[.slice (some ⟨g, 0, none⟩) n n, .int .i64 i, .int .i64 kk] w fun e w' => e = .returned (.tuple #[.agg #[.int .i64 0, .int .i64 0, .string ⟨#[]⟩, .string ⟨#[]⟩, .string ⟨#[]⟩, .int .i64 0, .int .i64 0, .int .i64 0], .bool false]) ∧ Below w.heap.size w w' := by
 by_cases hi : (i : Int) < 1
 ·clear h
  go_enter Tryz.func99, Tryz.ntmps99
  go_wp2_with fail
  refine bodyPost_ret (v := .tuple #[.agg #[.int .i64 0, .int .i64 0, .string ⟨#[]⟩, .string ⟨#[]⟩, .string ⟨#[]⟩, .int .i64 0, .int .i64 0, .int .i64 0], .bool false]) (by simp [results, Tryz.results99, go_sem]) rfl ⟨rfl, ?_⟩
  exact (Below.refl _ _).alloc (Nat.le_refl _) _
 have hi1 : (1 : Int) ≤ i := by omega
 have hi0 : ¬ i = 0 := by omega
 rcases entAt_none hat.out with hl | ⟨x, hx, hne⟩
 ·have hge : ¬ (i < n) := by rw [← hn.out]; omega
  clear h
  go_enter Tryz.func99, Tryz.ntmps99
  go_wp2_with fail
  refine bodyPost_ret (v := .tuple #[.agg #[.int .i64 0, .int .i64 0, .string ⟨#[]⟩, .string ⟨#[]⟩, .string ⟨#[]⟩, .int .i64 0, .int .i64 0, .int .i64 0], .bool false]) (by simp [results, Tryz.results99, go_sem]) rfl ⟨rfl, ?_⟩
  exact (Below.refl _ _).alloc (Nat.le_refl _) _
 ·have hlt : i < n := by rw [← hn.out]; exact (List.getElem?_eq_some_iff.1 hx).1
  obtain ⟨a0, a1, a2, a3, a4, a5, a6, a7⟩ := rows_at h hx
  have hgs := h.lt
  have t1 : ((x.kind : Int) != kk) = true := by rw [bne_iff_ne, hk.out]; omega
  have t2 : ((x.kind : Int) == kk) = false := by rw [beq_eq_false_iff_ne, hk.out]; omega
  clear h hx hne a1 a2 a3 a4 a5 a6 a7
  go_enter Tryz.func99, Tryz.ntmps99
  go_wp2_with fail
  refine bodyPost_ret (v := .tuple #[.agg #[.int .i64 0, .int .i64 0, .string ⟨#[]⟩, .string ⟨#[]⟩, .string ⟨#[]⟩, .int .i64 0, .int .i64 0, .int .i64 0], .bool false]) (by simp [results, Tryz.results99, go_sem]) rfl ⟨rfl, ?_⟩
  exact (Below.refl _ _).alloc (Nat.le_refl _) _
set_option maxHeartbeats 4000000 in
set_option maxRecDepth 100000 in
theorem of_yes (g : Nat) (l : List Ent) (n i k : Nat) (kk : Int) (x : Ent) (w : World) (h : RowsAt w g 130 8 (l.map entV)) (hn : Hid (l.length = n)) (hk : Hid (kk = k)) (hat : Hid (entAt l i k = some x)) (hi : 1 ≤ (i : Int)) :
  Calls Tryz.prog 99 #[.slice (some ⟨g, 0, none⟩) n n, .int .i64 i, .int .i64 kk] w fun e w' => e = .returned (.tuple #[.agg #[.int .i64 x.kind, .int .i64 x.num, .string (tx x.text), .string ⟨#[]⟩, .string ⟨#[]⟩, .int .i64 x.a, .int .i64 x.b, .int .i64 x.d], .bool true]) ∧ Below w.heap.size w w' := by
 obtain ⟨hx, hxk⟩ := entAt_some hat.out
 have hlt : i < n := by rw [← hn.out]; exact (List.getElem?_eq_some_iff.1 hx).1
 obtain ⟨a0, a1, a2, a3, a4, a5, a6, a7⟩ := rows_at h hx
 have hgs := h.lt
 have hi0 : ¬ i = 0 := by omega
 have hi1 : ¬ (i : Int) < 1 := by omega
 have t1 : ((x.kind : Int) != kk) = false := by rw [bne_eq_false_iff_eq, hk.out]; omega
 have t2 : ((x.kind : Int) == kk) = true := by rw [beq_iff_eq, hk.out]; omega
 clear h hx hxk
 go_enter Tryz.func99, Tryz.ntmps99
 go_wp2_with fail
 refine bodyPost_ret (v := .tuple #[.agg #[.int .i64 x.kind, .int .i64 x.num, .string (tx x.text), .string ⟨#[]⟩, .string ⟨#[]⟩, .int .i64 x.a, .int .i64 x.b, .int .i64 x.d], .bool true]) (by simp [results, Tryz.results99, go_sem]) rfl ⟨rfl, ?_⟩
 exact (Below.refl _ _).alloc (Nat.le_refl _) _
theorem of_f (g : Nat) (l : List Ent) (n i k : Nat) (kk : Int) (y : Ent) (b : Bool) (w : World) (h : RowsAt w g 130 8 (l.map entV)) (hn : Hid (l.length = n)) (hz : Hid (ZeroL l)) (hk0 : k ≠ 0) (hk : Hid (kk = k)) (hy : Hid ((entAt l i k).getD Ent.zero = y)) (hb : Hid ((entAt l i k).isSome = b)) :
  Calls Tryz.prog 99 #[.slice (some ⟨g, 0, none⟩) n n, .int .i64 i, .int .i64 kk] w fun e w' => e = .returned (.tuple #[.agg #[.int .i64 y.kind, .int .i64 y.num, .string (tx y.text), .string ⟨#[]⟩, .string ⟨#[]⟩, .int .i64 y.a, .int .i64 y.b, .int .i64 y.d], .bool b]) ∧ Below w.heap.size w w' := by
 have h1 := hy.out
 have h2 := hb.out
 cases hx : entAt l i k with
 | none =>
  rw [hx] at h1 h2
  simp only [Option.getD_none, Option.isSome_none] at h1 h2
  subst h1 h2
  exact of_no g l n i k kk w h hn hk (lhid hx)
 | some x =>
  rw [hx] at h1 h2
  simp only [Option.getD_some, Option.isSome_some] at h1 h2
  subst h1 h2
  refine of_yes g l n i k kk x w h hn hk (lhid hx) ?_
  rcases Nat.eq_zero_or_pos i with rfl | hi
  ·rw [zero_none hz.out k hk0] at hx
   cases hx
  ·omega
end Go.Proofs.YtgihfcimngogfaaGreat
namespace Go.Proofs.YtgihfcimngogfaaGreat
open Go.RowKit Go
set_option linter.unusedVariables false
theorem new3_0 (w : World) (o o' o'' : Obj) : (((w.alloc o).alloc o').alloc o'').heap[w.heap.size]? = some o := by
 rw [Below.heap_alloc _ _ _ (by rw [World.size_alloc, World.size_alloc]; omega)]
 exact new_one w o o'
theorem new3_1 (w : World) (o o' o'' : Obj) : (((w.alloc o).alloc o').alloc o'').heap[w.heap.size + 1]? = some o' := by
 rw [Below.heap_alloc _ _ _ (by simp)]
 exact new_two w o o'
theorem new3_2 (w : World) (o o' o'' : Obj) : (((w.alloc o).alloc o').alloc o'').heap[w.heap.size + 2]? = some o'' := by
 have := new_two (w.alloc o) o' o''
 rwa [World.size_alloc] at this
theorem size3 (w : World) (o o' o'' : Obj) : (((w.alloc o).alloc o').alloc o'').heap.size = w.heap.size + 3 := by simp
theorem below3 (w : World) (o o' o'' : Obj) : Below w.heap.size w (((w.alloc o).alloc o').alloc o'') := by
 have h := ((Below.refl w.heap.size w).alloc (Nat.le_refl _) o).alloc (by simp) o'
 exact h.alloc (by rw [World.size_alloc, World.size_alloc]; omega) o''
theorem below_set {B : Nat} {a w : World} (h : Below B a w) {b : Nat} (hb : B ≤ b) (i : Nat) (v : Value) : Below B a (w.setCell ⟨b, i, none⟩ v) := h.setCell hb v
theorem below_new {B : Nat} {a w : World} (h : Below B a w) (hB : B ≤ a.heap.size) (o : Obj) : Below B a (w.alloc o) := h.alloc (Nat.le_trans hB h.size) o
theorem refName_t (l : Bs) (m b : Bool) (w : World) (hs : Hid ((tx l).size ≤ maxLen)) (h : Hid (nameB l m = b)) :
  Calls Tryz.prog 79 #[.string (tx l), .bool m] w fun e w' => e = .returned (.bool b) ∧ w = w' := by
 have := refName_any (tx l) m w hs.out
 rw [tx_list, h.out] at this
 exact this
theorem refType_t (l : Bs) (b : Bool) (w : World) (hs : Hid ((tx l).size ≤ maxLen)) (h : Hid (typeB l = b)) :
  Calls Tryz.prog 81 #[.string (tx l)] w fun e w' => e = .returned (.bool b) ∧ w = w' := by
 have := refType_any (tx l) w hs.out
 rw [tx_list, h.out] at this
 exact this
theorem refNamed_t (l : Bs) (b : Bool) (w : World) (hs : Hid ((tx l).size ≤ maxLen)) (h : Hid (namedB l = b)) :
  Calls Tryz.prog 100 #[.string (tx l)] w fun e w' => e = .returned (.bool b) ∧ w = w' := by
 have := refNamed_any (tx l) w hs.out
 rw [tx_list, h.out] at this
 exact this
theorem refMethod_t (l : Bs) (b : Bool) (w : World) (hs : Hid ((tx l).size ≤ maxLen)) (hz : Hid ((tx l).size ≤ 281474976710656)) (h : Hid ((metB l).isSome = b)) :
  Calls Tryz.prog 80 #[.string (tx l)] w fun e w' => (∃ u t, e = .returned (.tuple #[u, t, .int .i64 (if b then 0 else 21)])) ∧ Below w.heap.size w w' :=
 refMethod_err (tx l) b w hs (lhid (by rw [tx_list]; exact h.out)) hz
set_option maxHeartbeats 8000000 in
set_option maxRecDepth 100000 in
theorem filled_told (g : Nat) (l : List Ent) (n : Nat) (x : Ent) (w : World) (hk : x.kind < 7) :
  Calls Tryz.prog 76 #[.slice (some ⟨g, 0, none⟩) n n, .agg #[.int .i64 x.kind, .int .i64 x.num, .string (tx x.text), .string ⟨#[]⟩, .string ⟨#[]⟩, .int .i64 x.a, .int .i64 x.b, .int .i64 x.d]] w (ResOut (resOne l x) w) := by
 have HP : Hid (resOne l x = (0, ⟨x.kind, x.num, x.text, [], []⟩)) := lhid (by unfold resOne; rw [if_neg (by omega), if_neg (by omega)])
 have t7 : (x.kind : Int) < 7 := by omega
 clear hk
 go_enter Tryz.func76, Tryz.ntmps76
 go_wp2_with fail
 refine bodyPost_ret (v := .tuple #[.agg #[.int .i64 x.kind, .int .i64 x.num, .string (tx x.text), .string ⟨#[]⟩, .string ⟨#[]⟩], .int .i64 0]) (by simp [results, Tryz.results76, go_sem]) rfl ?_
 rw [HP.out]
 exact ⟨rfl, below3 w _ _ _⟩
theorem res_text0 (l : List Ent) (x : Ent) (h : x.kind = 7 ∨ x.kind = 8) : resOne l x = resText l x := by unfold resOne; rw [if_pos h]
theorem text_none {l : List Ent} {i : Nat} (h : (entAt l i 1).isSome = false) : textAt l i = none := by
 unfold textAt
 cases hx : entAt l i 1 with
 | none => rfl
 | some x => rw [hx] at h; cases h
theorem text_some {l : List Ent} {i : Nat} {y : Ent} (hy : (entAt l i 1).getD Ent.zero = y) (h : (entAt l i 1).isSome = true) : textAt l i = some y.text := by
 unfold textAt
 cases hx : entAt l i 1 with
 | none => rw [hx] at h; cases h
 | some x => rw [hx] at hy; simp at hy; subst hy; rfl
theorem resText_no (l : List Ent) (x : Ent) (h : textAt l x.a = none) : resText l x = (12, Con.zero) := by unfold resText; rw [h]
theorem resText_bad (l : List Ent) (x : Ent) (t : Bs) (h : textAt l x.a = some t) (h7 : x.kind = 7) (hn : namedB t = false) : resText l x = (20, Con.zero) := by unfold resText; rw [h]; simp only; rw [if_pos ⟨h7, hn⟩]
theorem resText_ok (l : List Ent) (x : Ent) (t : Bs) (h : textAt l x.a = some t) (h7 : x.kind ≠ 7 ∨ namedB t = true) : resText l x = (0, ⟨x.kind, x.num, t, [], []⟩) := by
 unfold resText
 rw [h]
 simp only
 rw [if_neg]
 rintro ⟨e1, e2⟩
 rcases h7 with h7 | h7
 ·exact h7 e1
 ·rw [h7] at e2; cases e2
end Go.Proofs.YtgihfcimngogfaaGreat
namespace Go.Proofs.YtgihfcimngogfaaGreat
open Go.RowKit Go
set_option linter.unusedVariables false
set_option maxHeartbeats 8000000 in
set_option maxRecDepth 100000 in
theorem filled_text_no (g : Nat) (l : List Ent) (n : Nat) (x : Ent) (w : World) (h : RowsAt w g 130 8 (l.map entV)) (hn : Hid (l.length = n)) (hz : Hid (ZeroL l)) (y : Ent) (hy : Hid ((entAt l x.a 1).getD Ent.zero = y)) (hb1 : Hid ((entAt l x.a 1).isSome = false)) (hk : Hid (x.kind = 7 ∨ x.kind = 8)) :
  Calls Tryz.prog 76 #[.slice (some ⟨g, 0, none⟩) n n, .agg #[.int .i64 x.kind, .int .i64 x.num, .string (tx x.text), .string ⟨#[]⟩, .string ⟨#[]⟩, .int .i64 x.a, .int .i64 x.b, .int .i64 x.d]] w (ResOut (resOne l x) w) := by
 have HP : Hid (resOne l x = (12, Con.zero)) := lhid (by rw [res_text0 l x hk.out, resText_no l x (text_none hb1.out)])
 have t0 : ¬ (x.kind : Int) < 7 := by have := hk.out; omega
 have t9 : (x.kind : Int) < 9 := by have := hk.out; omega
 have HH := lhid h
 have hsz := h.lt
 clear h
 go_enter Tryz.func76, Tryz.ntmps76
 go_wp2_with fail
 with_reducible refine (of_f g l n x.a 1 1 y false _ (((HH.out.alloc _).alloc _).alloc _) hn hz (by decide) (lhid rfl) hy hb1).mono ?_
 rintro e w1 ⟨rfl, hb⟩
 have HB1 := lhid ((below3 w _ _ _).trans (hb.mono (by rw [size3]; omega)))
 have HE1 := lhid (EntAt.below (x := x) (new3_0 w _ _ _) hb (by rw [size3]; omega))
 have HP1 := lhid (ConAt.below (x := Con.zero) (new3_1 w _ _ _) hb (by rw [size3]; omega))
 have HC1 := lhid (ConAt.below (x := ⟨x.kind, x.num, x.text, [], []⟩) (new3_2 w _ _ _) hb (by rw [size3]; omega))
 have z0 := HE1.out.lt
 have z1 := heap_lt HP1.out
 have z2 := heap_lt HC1.out
 clear hb
 obtain ⟨a0, a1, a2, a3, a4, a5, a6, a7⟩ := HE1.out.cells
 obtain ⟨p0, p1, p2, p3, p4⟩ := HP1.out.cells
 have fp := HP1.out.thaw
 obtain ⟨c0, c1, c2, c3, c4⟩ := HC1.out.cells
 have fc := HC1.out.thaw
 go_wp2_with fail
 refine bodyPost_ret (v := .tuple #[.agg #[.int .i64 0, .int .i64 0, .string ⟨#[]⟩, .string ⟨#[]⟩, .string ⟨#[]⟩], .int .i64 12]) (by simp [results, Tryz.results76, go_sem, p0, p1, p2, p3, p4, z1]) rfl ?_
 rw [HP.out]
 refine ⟨rfl, ?_⟩
 have q1 : w.heap.size ≤ w.heap.size + 1 := Nat.le_succ _
 have q2 : w.heap.size ≤ w.heap.size + 1 + 1 := Nat.le_add_right _ 2
 repeat (first | with_reducible refine below_set ?_ q1 _ _ | with_reducible refine below_set ?_ q2 _ _ | with_reducible refine below_new ?_ (Nat.le_refl _) _)
 exact HB1.out
set_option maxHeartbeats 8000000 in
set_option maxRecDepth 100000 in
theorem filled_text_bad (g : Nat) (l : List Ent) (n : Nat) (x : Ent) (w : World) (h : RowsAt w g 130 8 (l.map entV)) (hn : Hid (l.length = n)) (hz : Hid (ZeroL l)) (y : Ent) (hy : Hid ((entAt l x.a 1).getD Ent.zero = y)) (hb1 : Hid ((entAt l x.a 1).isSome = true)) (hk : Hid (x.kind = 7)) (sT : Hid ((tx y.text).size ≤ maxLen)) (q : Hid (namedB y.text = false)) :
  Calls Tryz.prog 76 #[.slice (some ⟨g, 0, none⟩) n n, .agg #[.int .i64 x.kind, .int .i64 x.num, .string (tx x.text), .string ⟨#[]⟩, .string ⟨#[]⟩, .int .i64 x.a, .int .i64 x.b, .int .i64 x.d]] w (ResOut (resOne l x) w) := by
 have HP : Hid (resOne l x = (20, Con.zero)) := lhid (by rw [res_text0 l x (.inl hk.out), resText_bad l x y.text (text_some hy.out hb1.out) hk.out q.out])
 have t0 : ¬ (x.kind : Int) < 7 := by have := hk.out; omega
 have t9 : (x.kind : Int) < 9 := by have := hk.out; omega
 have t7 : ((x.kind : Int) == 7) = true := by rw [beq_iff_eq]; have := hk.out; omega
 have HH := lhid h
 have hsz := h.lt
 clear h
 go_enter Tryz.func76, Tryz.ntmps76
 go_wp2_with fail
 with_reducible refine (of_f g l n x.a 1 1 y true _ (((HH.out.alloc _).alloc _).alloc _) hn hz (by decide) (lhid rfl) hy hb1).mono ?_
 rintro e w1 ⟨rfl, hb⟩
 have HB1 := lhid ((below3 w _ _ _).trans (hb.mono (by rw [size3]; omega)))
 have HE1 := lhid (EntAt.below (x := x) (new3_0 w _ _ _) hb (by rw [size3]; omega))
 have HP1 := lhid (ConAt.below (x := Con.zero) (new3_1 w _ _ _) hb (by rw [size3]; omega))
 have HC1 := lhid (ConAt.below (x := ⟨x.kind, x.num, x.text, [], []⟩) (new3_2 w _ _ _) hb (by rw [size3]; omega))
 have z0 := HE1.out.lt
 have z1 := heap_lt HP1.out
 have z2 := heap_lt HC1.out
 clear hb
 obtain ⟨a0, a1, a2, a3, a4, a5, a6, a7⟩ := HE1.out.cells
 obtain ⟨p0, p1, p2, p3, p4⟩ := HP1.out.cells
 have fp := HP1.out.thaw
 obtain ⟨c0, c1, c2, c3, c4⟩ := HC1.out.cells
 have fc := HC1.out.thaw
 go_wp2_with (go_at_call 100; (with_reducible refine (refNamed_t y.text _ _ sT q).mono ?_); rintro e w' ⟨rfl, rfl⟩)
 refine bodyPost_ret (v := .tuple #[.agg #[.int .i64 0, .int .i64 0, .string ⟨#[]⟩, .string ⟨#[]⟩, .string ⟨#[]⟩], .int .i64 20]) (by simp [results, Tryz.results76, go_sem, p0, p1, p2, p3, p4, z1]) rfl ?_
 rw [HP.out]
 refine ⟨rfl, ?_⟩
 have q1 : w.heap.size ≤ w.heap.size + 1 := Nat.le_succ _
 have q2 : w.heap.size ≤ w.heap.size + 1 + 1 := Nat.le_add_right _ 2
 repeat (first | with_reducible refine below_set ?_ q1 _ _ | with_reducible refine below_set ?_ q2 _ _ | with_reducible refine below_new ?_ (Nat.le_refl _) _)
 exact HB1.out
set_option maxHeartbeats 8000000 in
set_option maxRecDepth 100000 in
theorem filled_text_ok7 (g : Nat) (l : List Ent) (n : Nat) (x : Ent) (w : World) (h : RowsAt w g 130 8 (l.map entV)) (hn : Hid (l.length = n)) (hz : Hid (ZeroL l)) (y : Ent) (hy : Hid ((entAt l x.a 1).getD Ent.zero = y)) (hb1 : Hid ((entAt l x.a 1).isSome = true)) (hk : Hid (x.kind = 7)) (sT : Hid ((tx y.text).size ≤ maxLen)) (q : Hid (namedB y.text = true)) :
  Calls Tryz.prog 76 #[.slice (some ⟨g, 0, none⟩) n n, .agg #[.int .i64 x.kind, .int .i64 x.num, .string (tx x.text), .string ⟨#[]⟩, .string ⟨#[]⟩, .int .i64 x.a, .int .i64 x.b, .int .i64 x.d]] w (ResOut (resOne l x) w) := by
 have HP : Hid (resOne l x = (0, ⟨x.kind, x.num, y.text, [], []⟩)) := lhid (by rw [res_text0 l x (.inl hk.out), resText_ok l x y.text (text_some hy.out hb1.out) (.inr q.out)])
 have t0 : ¬ (x.kind : Int) < 7 := by have := hk.out; omega
 have t9 : (x.kind : Int) < 9 := by have := hk.out; omega
 have t7 : ((x.kind : Int) == 7) = true := by rw [beq_iff_eq]; have := hk.out; omega
 have HH := lhid h
 have hsz := h.lt
 clear h
 go_enter Tryz.func76, Tryz.ntmps76
 go_wp2_with fail
 with_reducible refine (of_f g l n x.a 1 1 y true _ (((HH.out.alloc _).alloc _).alloc _) hn hz (by decide) (lhid rfl) hy hb1).mono ?_
 rintro e w1 ⟨rfl, hb⟩
 have HB1 := lhid ((below3 w _ _ _).trans (hb.mono (by rw [size3]; omega)))
 have HE1 := lhid (EntAt.below (x := x) (new3_0 w _ _ _) hb (by rw [size3]; omega))
 have HP1 := lhid (ConAt.below (x := Con.zero) (new3_1 w _ _ _) hb (by rw [size3]; omega))
 have HC1 := lhid (ConAt.below (x := ⟨x.kind, x.num, x.text, [], []⟩) (new3_2 w _ _ _) hb (by rw [size3]; omega))
 have z0 := HE1.out.lt
 have z1 := heap_lt HP1.out
 have z2 := heap_lt HC1.out
 clear hb
 obtain ⟨a0, a1, a2, a3, a4, a5, a6, a7⟩ := HE1.out.cells
 obtain ⟨p0, p1, p2, p3, p4⟩ := HP1.out.cells
 have fp := HP1.out.thaw
 obtain ⟨c0, c1, c2, c3, c4⟩ := HC1.out.cells
 have fc := HC1.out.thaw
 go_wp2_with (go_at_call 100; (with_reducible refine (refNamed_t y.text _ _ sT q).mono ?_); rintro e w' ⟨rfl, rfl⟩)
 refine bodyPost_ret (v := .tuple #[.agg #[.int .i64 x.kind, .int .i64 x.num, .string (tx y.text), .string ⟨#[]⟩, .string ⟨#[]⟩], .int .i64 0]) (by simp [results, Tryz.results76, go_sem, p0, p1, p2, p3, p4, z1, tx_nil]) rfl ?_
 rw [HP.out]
 refine ⟨rfl, ?_⟩
 have q1 : w.heap.size ≤ w.heap.size + 1 := Nat.le_succ _
 have q2 : w.heap.size ≤ w.heap.size + 1 + 1 := Nat.le_add_right _ 2
 repeat (first | with_reducible refine below_set ?_ q1 _ _ | with_reducible refine below_set ?_ q2 _ _ | with_reducible refine below_new ?_ (Nat.le_refl _) _)
 exact HB1.out
set_option maxHeartbeats 8000000 in
set_option maxRecDepth 100000 in
theorem filled_text_ok8 (g : Nat) (l : List Ent) (n : Nat) (x : Ent) (w : World) (h : RowsAt w g 130 8 (l.map entV)) (hn : Hid (l.length = n)) (hz : Hid (ZeroL l)) (y : Ent) (hy : Hid ((entAt l x.a 1).getD Ent.zero = y)) (hb1 : Hid ((entAt l x.a 1).isSome = true)) (hk : Hid (x.kind = 8)) :
  Calls Tryz.prog 76 #[.slice (some ⟨g, 0, none⟩) n n, .agg #[.int .i64 x.kind, .int .i64 x.num, .string (tx x.text), .string ⟨#[]⟩, .string ⟨#[]⟩, .int .i64 x.a, .int .i64 x.b, .int .i64 x.d]] w (ResOut (resOne l x) w) := by
 have HP : Hid (resOne l x = (0, ⟨x.kind, x.num, y.text, [], []⟩)) := lhid (by rw [res_text0 l x (.inr hk.out), resText_ok l x y.text (text_some hy.out hb1.out) (.inl (by have := hk.out; omega))])
 have t0 : ¬ (x.kind : Int) < 7 := by have := hk.out; omega
 have t9 : (x.kind : Int) < 9 := by have := hk.out; omega
 have t7 : ((x.kind : Int) == 7) = false := by rw [beq_eq_false_iff_ne]; have := hk.out; omega
 have HH := lhid h
 have hsz := h.lt
 clear h
 go_enter Tryz.func76, Tryz.ntmps76
 go_wp2_with fail
 with_reducible refine (of_f g l n x.a 1 1 y true _ (((HH.out.alloc _).alloc _).alloc _) hn hz (by decide) (lhid rfl) hy hb1).mono ?_
 rintro e w1 ⟨rfl, hb⟩
 have HB1 := lhid ((below3 w _ _ _).trans (hb.mono (by rw [size3]; omega)))
 have HE1 := lhid (EntAt.below (x := x) (new3_0 w _ _ _) hb (by rw [size3]; omega))
 have HP1 := lhid (ConAt.below (x := Con.zero) (new3_1 w _ _ _) hb (by rw [size3]; omega))
 have HC1 := lhid (ConAt.below (x := ⟨x.kind, x.num, x.text, [], []⟩) (new3_2 w _ _ _) hb (by rw [size3]; omega))
 have z0 := HE1.out.lt
 have z1 := heap_lt HP1.out
 have z2 := heap_lt HC1.out
 clear hb
 obtain ⟨a0, a1, a2, a3, a4, a5, a6, a7⟩ := HE1.out.cells
 obtain ⟨p0, p1, p2, p3, p4⟩ := HP1.out.cells
 have fp := HP1.out.thaw
 obtain ⟨c0, c1, c2, c3, c4⟩ := HC1.out.cells
 have fc := HC1.out.thaw
 go_wp2_with fail
 refine bodyPost_ret (v := .tuple #[.agg #[.int .i64 x.kind, .int .i64 x.num, .string (tx y.text), .string ⟨#[]⟩, .string ⟨#[]⟩], .int .i64 0]) (by simp [results, Tryz.results76, go_sem, p0, p1, p2, p3, p4, z1, tx_nil]) rfl ?_
 rw [HP.out]
 refine ⟨rfl, ?_⟩
 have q1 : w.heap.size ≤ w.heap.size + 1 := Nat.le_succ _
 have q2 : w.heap.size ≤ w.heap.size + 1 + 1 := Nat.le_add_right _ 2
 repeat (first | with_reducible refine below_set ?_ q1 _ _ | with_reducible refine below_set ?_ q2 _ _ | with_reducible refine below_new ?_ (Nat.le_refl _) _)
 exact HB1.out
end Go.Proofs.YtgihfcimngogfaaGreat
namespace Go.Proofs.YtgihfcimngogfaaGreat
open Go.RowKit Go
set_option linter.unusedVariables false
theorem ConAt.set {w : World} {C T : Nat} {x : Con} (h : ConAt w C T x) (i : Nat) (v : Value) (y : Con) (hy : (conV x).toArray.setIfInBounds i v = (conV y).toArray) : ConAt (w.setCell ⟨C, i, none⟩ v) C T y := by
 have := heap_set (i := i) h v
 unfold ConAt
 rw [this, hy]
theorem ConAt.other {w : World} {C T : Nat} {x : Con} (h : ConAt w C T x) (b i : Nat) (hp : C ≠ b) (v : Value) : ConAt (w.setCell ⟨b, i, none⟩ v) C T x := by
 unfold ConAt
 rw [Below.heap_setCell _ _ _ _ (by exact hp)]
 exact h
theorem ConAt.alloc {w : World} {C T : Nat} {x : Con} (h : ConAt w C T x) (o : Obj) : ConAt (w.alloc o) C T x := by
 unfold ConAt
 rw [Below.heap_alloc _ _ _ (heap_lt h)]
 exact h
theorem class_none1 {l : List Ent} {i : Nat} (h : (entAt l i 7).isSome = false) : classAt l i = none := by
 unfold classAt
 cases hx : entAt l i 7 with
 | none => rfl
 | some x => rw [hx] at h; cases h
theorem class_none2 {l : List Ent} {i : Nat} {y : Ent} (hy : (entAt l i 7).getD Ent.zero = y) (h : (entAt l i 7).isSome = true) (h2 : (entAt l y.a 1).isSome = false) : classAt l i = none := by
 unfold classAt
 cases hx : entAt l i 7 with
 | none => rfl
 | some x => rw [hx] at hy; simp at hy; subst hy; exact text_none h2
theorem class_some {l : List Ent} {i : Nat} {y z : Ent} (hy : (entAt l i 7).getD Ent.zero = y) (h : (entAt l i 7).isSome = true) (hz : (entAt l y.a 1).getD Ent.zero = z) (h2 : (entAt l y.a 1).isSome = true) : classAt l i = some z.text := by
 unfold classAt
 cases hx : entAt l i 7 with
 | none => rw [hx] at h; cases h
 | some x => rw [hx] at hy; simp at hy; subst hy; exact text_some hz h2
theorem resMem_no (l : List Ent) (x : Ent) (h : classAt l x.a = none ∨ textAt l x.b = none ∨ textAt l x.d = none) : resMem l x = (12, Con.zero) := by
 unfold resMem
 rcases h with h | h | h
 ·rw [h]
 ·rw [h]
  cases classAt l x.a <;> rfl
 ·rw [h]
  cases classAt l x.a <;> cases textAt l x.b <;> rfl
set_option maxHeartbeats 8000000 in
set_option maxRecDepth 100000 in
theorem filled_mem_f1 (g : Nat) (l : List Ent) (n : Nat) (x : Ent) (w : World) (h : RowsAt w g 130 8 (l.map entV)) (hn : Hid (l.length = n)) (hz : Hid (ZeroL l)) (y1 y2 y3 y4 : Ent) (b2 b3 b4 : Bool) (hy1 : Hid ((entAt l x.a 7).getD Ent.zero = y1)) (hb1 : Hid ((entAt l x.a 7).isSome = false)) (hy2 : Hid ((entAt l y1.a 1).getD Ent.zero = y2)) (hb2 : Hid ((entAt l y1.a 1).isSome = b2)) (hy3 : Hid ((entAt l x.b 1).getD Ent.zero = y3)) (hb3 : Hid ((entAt l x.b 1).isSome = b3)) (hy4 : Hid ((entAt l x.d 1).getD Ent.zero = y4)) (hb4 : Hid ((entAt l x.d 1).isSome = b4)) (hk : Hid (9 ≤ x.kind)) (HP : Hid (resOne l x = (12, Con.zero))) :
  Calls Tryz.prog 76 #[.slice (some ⟨g, 0, none⟩) n n, .agg #[.int .i64 x.kind, .int .i64 x.num, .string (tx x.text), .string ⟨#[]⟩, .string ⟨#[]⟩, .int .i64 x.a, .int .i64 x.b, .int .i64 x.d]] w (ResOut (resOne l x) w) := by
 have t0 : ¬ (x.kind : Int) < 7 := by have := hk.out; omega
 have t9 : ¬ (x.kind : Int) < 9 := by have := hk.out; omega
 have HH := lhid h
 have hsz := h.lt
 clear h
 go_enter Tryz.func76, Tryz.ntmps76
 go_wp2_with fail
 with_reducible refine (of_f g l n x.a 7 7 y1 false _ (((HH.out.alloc _).alloc _).alloc _) hn hz (by decide) (lhid rfl) hy1 hb1).mono ?_
 rintro e w1 ⟨rfl, hb⟩
 have HB1 := lhid ((below3 w _ _ _).trans (hb.mono (by rw [size3]; omega)))
 have HE1 := lhid (EntAt.below (x := x) (new3_0 w _ _ _) hb (by rw [size3]; omega))
 have HP1 := lhid (ConAt.below (x := Con.zero) (new3_1 w _ _ _) hb (by rw [size3]; omega))
 have HC1 := lhid (ConAt.below (x := ⟨x.kind, x.num, x.text, [], []⟩) (new3_2 w _ _ _) hb (by rw [size3]; omega))
 have z0 := HE1.out.lt
 have z1 := heap_lt HP1.out
 have z2 := heap_lt HC1.out
 clear hb
 obtain ⟨a0, a1, a2, a3, a4, a5, a6, a7⟩ := HE1.out.cells
 go_wp2_with fail
 with_reducible refine (of_f g l n y1.a 1 1 y2 b2 _ ((below_rows HH.out HB1.out).alloc _) hn hz (by decide) (lhid rfl) hy2 hb2).mono ?_
 rintro e w2 ⟨rfl, hb⟩
 clear a0 a1 a2 a3 a4 a5 a6 a7 z0 z1 z2
 have hb0 := ((Below.refl _ w1).alloc (Nat.le_refl _) _).trans (hb.mono (by simp))
 have HB2 := lhid (HB1.out.trans (hb0.mono HB1.out.size))
 have HE2 := lhid (HE1.out.below hb0 HE1.out.lt)
 have HP2 := lhid (HP1.out.below hb0 (heap_lt HP1.out))
 have HC2 := lhid (HC1.out.below hb0 (heap_lt HC1.out))
 have z0 := HE2.out.lt
 have z1 := heap_lt HP2.out
 have z2 := heap_lt HC2.out
 clear hb hb0
 obtain ⟨a0, a1, a2, a3, a4, a5, a6, a7⟩ := HE2.out.cells
 go_wp2_with fail
 with_reducible refine (of_f g l n x.b 1 1 y3 b3 _ ((below_rows HH.out HB2.out).alloc _) hn hz (by decide) (lhid rfl) hy3 hb3).mono ?_
 rintro e w3 ⟨rfl, hb⟩
 clear a0 a1 a2 a3 a4 a5 a6 a7 z0 z1 z2
 have hb0 := ((Below.refl _ w2).alloc (Nat.le_refl _) _).trans (hb.mono (by simp))
 have HB3 := lhid (HB2.out.trans (hb0.mono HB2.out.size))
 have HE3 := lhid (HE2.out.below hb0 HE2.out.lt)
 have HP3 := lhid (HP2.out.below hb0 (heap_lt HP2.out))
 have HC3 := lhid (HC2.out.below hb0 (heap_lt HC2.out))
 have z0 := HE3.out.lt
 have z1 := heap_lt HP3.out
 have z2 := heap_lt HC3.out
 clear hb hb0
 obtain ⟨a0, a1, a2, a3, a4, a5, a6, a7⟩ := HE3.out.cells
 go_wp2_with fail
 with_reducible refine (of_f g l n x.d 1 1 y4 b4 _ ((below_rows HH.out HB3.out).alloc _) hn hz (by decide) (lhid rfl) hy4 hb4).mono ?_
 rintro e w4 ⟨rfl, hb⟩
 clear a0 a1 a2 a3 a4 a5 a6 a7 z0 z1 z2
 have hb0 := ((Below.refl _ w3).alloc (Nat.le_refl _) _).trans (hb.mono (by simp))
 have HB4 := lhid (HB3.out.trans (hb0.mono HB3.out.size))
 have HE4 := lhid (HE3.out.below hb0 HE3.out.lt)
 have HP4 := lhid (HP3.out.below hb0 (heap_lt HP3.out))
 have HC4 := lhid (HC3.out.below hb0 (heap_lt HC3.out))
 have z0 := HE4.out.lt
 have z1 := heap_lt HP4.out
 have z2 := heap_lt HC4.out
 clear hb hb0
 obtain ⟨a0, a1, a2, a3, a4, a5, a6, a7⟩ := HE4.out.cells
 obtain ⟨p0, p1, p2, p3, p4⟩ := HP4.out.cells
 have fp := HP4.out.thaw
 obtain ⟨c0, c1, c2, c3, c4⟩ := HC4.out.cells
 have fc := HC4.out.thaw
 go_wp2_with fail
 refine bodyPost_ret (v := .tuple #[.agg #[.int .i64 0, .int .i64 0, .string ⟨#[]⟩, .string ⟨#[]⟩, .string ⟨#[]⟩], .int .i64 12]) (by simp [results, Tryz.results76, go_sem, p0, p1, p2, p3, p4, z1]) rfl ?_
 rw [HP.out]
 refine ⟨rfl, ?_⟩
 have q1 : w.heap.size ≤ w.heap.size + 1 := Nat.le_succ _
 have q2 : w.heap.size ≤ w.heap.size + 1 + 1 := Nat.le_add_right _ 2
 repeat (first | with_reducible refine below_set ?_ q1 _ _ | with_reducible refine below_set ?_ q2 _ _ | with_reducible refine below_new ?_ (Nat.le_refl _) _)
 exact HB4.out
set_option maxHeartbeats 8000000 in
set_option maxRecDepth 100000 in
theorem filled_mem_f2 (g : Nat) (l : List Ent) (n : Nat) (x : Ent) (w : World) (h : RowsAt w g 130 8 (l.map entV)) (hn : Hid (l.length = n)) (hz : Hid (ZeroL l)) (y1 y2 y3 y4 : Ent) (b3 b4 : Bool) (hy1 : Hid ((entAt l x.a 7).getD Ent.zero = y1)) (hb1 : Hid ((entAt l x.a 7).isSome = true)) (hy2 : Hid ((entAt l y1.a 1).getD Ent.zero = y2)) (hb2 : Hid ((entAt l y1.a 1).isSome = false)) (hy3 : Hid ((entAt l x.b 1).getD Ent.zero = y3)) (hb3 : Hid ((entAt l x.b 1).isSome = b3)) (hy4 : Hid ((entAt l x.d 1).getD Ent.zero = y4)) (hb4 : Hid ((entAt l x.d 1).isSome = b4)) (hk : Hid (9 ≤ x.kind)) (HP : Hid (resOne l x = (12, Con.zero))) :
  Calls Tryz.prog 76 #[.slice (some ⟨g, 0, none⟩) n n, .agg #[.int .i64 x.kind, .int .i64 x.num, .string (tx x.text), .string ⟨#[]⟩, .string ⟨#[]⟩, .int .i64 x.a, .int .i64 x.b, .int .i64 x.d]] w (ResOut (resOne l x) w) := by
 have t0 : ¬ (x.kind : Int) < 7 := by have := hk.out; omega
 have t9 : ¬ (x.kind : Int) < 9 := by have := hk.out; omega
 have HH := lhid h
 have hsz := h.lt
 clear h
 go_enter Tryz.func76, Tryz.ntmps76
 go_wp2_with fail
 with_reducible refine (of_f g l n x.a 7 7 y1 true _ (((HH.out.alloc _).alloc _).alloc _) hn hz (by decide) (lhid rfl) hy1 hb1).mono ?_
 rintro e w1 ⟨rfl, hb⟩
 have HB1 := lhid ((below3 w _ _ _).trans (hb.mono (by rw [size3]; omega)))
 have HE1 := lhid (EntAt.below (x := x) (new3_0 w _ _ _) hb (by rw [size3]; omega))
 have HP1 := lhid (ConAt.below (x := Con.zero) (new3_1 w _ _ _) hb (by rw [size3]; omega))
 have HC1 := lhid (ConAt.below (x := ⟨x.kind, x.num, x.text, [], []⟩) (new3_2 w _ _ _) hb (by rw [size3]; omega))
 have z0 := HE1.out.lt
 have z1 := heap_lt HP1.out
 have z2 := heap_lt HC1.out
 clear hb
 obtain ⟨a0, a1, a2, a3, a4, a5, a6, a7⟩ := HE1.out.cells
 go_wp2_with fail
 with_reducible refine (of_f g l n y1.a 1 1 y2 false _ ((below_rows HH.out HB1.out).alloc _) hn hz (by decide) (lhid rfl) hy2 hb2).mono ?_
 rintro e w2 ⟨rfl, hb⟩
 clear a0 a1 a2 a3 a4 a5 a6 a7 z0 z1 z2
 have hb0 := ((Below.refl _ w1).alloc (Nat.le_refl _) _).trans (hb.mono (by simp))
 have HB2 := lhid (HB1.out.trans (hb0.mono HB1.out.size))
 have HE2 := lhid (HE1.out.below hb0 HE1.out.lt)
 have HP2 := lhid (HP1.out.below hb0 (heap_lt HP1.out))
 have HC2 := lhid (HC1.out.below hb0 (heap_lt HC1.out))
 have z0 := HE2.out.lt
 have z1 := heap_lt HP2.out
 have z2 := heap_lt HC2.out
 clear hb hb0
 obtain ⟨a0, a1, a2, a3, a4, a5, a6, a7⟩ := HE2.out.cells
 go_wp2_with fail
 with_reducible refine (of_f g l n x.b 1 1 y3 b3 _ ((below_rows HH.out HB2.out).alloc _) hn hz (by decide) (lhid rfl) hy3 hb3).mono ?_
 rintro e w3 ⟨rfl, hb⟩
 clear a0 a1 a2 a3 a4 a5 a6 a7 z0 z1 z2
 have hb0 := ((Below.refl _ w2).alloc (Nat.le_refl _) _).trans (hb.mono (by simp))
 have HB3 := lhid (HB2.out.trans (hb0.mono HB2.out.size))
 have HE3 := lhid (HE2.out.below hb0 HE2.out.lt)
 have HP3 := lhid (HP2.out.below hb0 (heap_lt HP2.out))
 have HC3 := lhid (HC2.out.below hb0 (heap_lt HC2.out))
 have z0 := HE3.out.lt
 have z1 := heap_lt HP3.out
 have z2 := heap_lt HC3.out
 clear hb hb0
 obtain ⟨a0, a1, a2, a3, a4, a5, a6, a7⟩ := HE3.out.cells
 go_wp2_with fail
 with_reducible refine (of_f g l n x.d 1 1 y4 b4 _ ((below_rows HH.out HB3.out).alloc _) hn hz (by decide) (lhid rfl) hy4 hb4).mono ?_
 rintro e w4 ⟨rfl, hb⟩
 clear a0 a1 a2 a3 a4 a5 a6 a7 z0 z1 z2
 have hb0 := ((Below.refl _ w3).alloc (Nat.le_refl _) _).trans (hb.mono (by simp))
 have HB4 := lhid (HB3.out.trans (hb0.mono HB3.out.size))
 have HE4 := lhid (HE3.out.below hb0 HE3.out.lt)
 have HP4 := lhid (HP3.out.below hb0 (heap_lt HP3.out))
 have HC4 := lhid (HC3.out.below hb0 (heap_lt HC3.out))
 have z0 := HE4.out.lt
 have z1 := heap_lt HP4.out
 have z2 := heap_lt HC4.out
 clear hb hb0
 obtain ⟨a0, a1, a2, a3, a4, a5, a6, a7⟩ := HE4.out.cells
 obtain ⟨p0, p1, p2, p3, p4⟩ := HP4.out.cells
 have fp := HP4.out.thaw
 obtain ⟨c0, c1, c2, c3, c4⟩ := HC4.out.cells
 have fc := HC4.out.thaw
 go_wp2_with fail
 refine bodyPost_ret (v := .tuple #[.agg #[.int .i64 0, .int .i64 0, .string ⟨#[]⟩, .string ⟨#[]⟩, .string ⟨#[]⟩], .int .i64 12]) (by simp [results, Tryz.results76, go_sem, p0, p1, p2, p3, p4, z1]) rfl ?_
 rw [HP.out]
 refine ⟨rfl, ?_⟩
 have q1 : w.heap.size ≤ w.heap.size + 1 := Nat.le_succ _
 have q2 : w.heap.size ≤ w.heap.size + 1 + 1 := Nat.le_add_right _ 2
 repeat (first | with_reducible refine below_set ?_ q1 _ _ | with_reducible refine below_set ?_ q2 _ _ | with_reducible refine below_new ?_ (Nat.le_refl _) _)
 exact HB4.out
set_option maxHeartbeats 8000000 in
set_option maxRecDepth 100000 in
theorem filled_mem_f3 (g : Nat) (l : List Ent) (n : Nat) (x : Ent) (w : World) (h : RowsAt w g 130 8 (l.map entV)) (hn : Hid (l.length = n)) (hz : Hid (ZeroL l)) (y1 y2 y3 y4 : Ent) (b4 : Bool) (hy1 : Hid ((entAt l x.a 7).getD Ent.zero = y1)) (hb1 : Hid ((entAt l x.a 7).isSome = true)) (hy2 : Hid ((entAt l y1.a 1).getD Ent.zero = y2)) (hb2 : Hid ((entAt l y1.a 1).isSome = true)) (hy3 : Hid ((entAt l x.b 1).getD Ent.zero = y3)) (hb3 : Hid ((entAt l x.b 1).isSome = false)) (hy4 : Hid ((entAt l x.d 1).getD Ent.zero = y4)) (hb4 : Hid ((entAt l x.d 1).isSome = b4)) (hk : Hid (9 ≤ x.kind)) (HP : Hid (resOne l x = (12, Con.zero))) :
  Calls Tryz.prog 76 #[.slice (some ⟨g, 0, none⟩) n n, .agg #[.int .i64 x.kind, .int .i64 x.num, .string (tx x.text), .string ⟨#[]⟩, .string ⟨#[]⟩, .int .i64 x.a, .int .i64 x.b, .int .i64 x.d]] w (ResOut (resOne l x) w) := by
 have t0 : ¬ (x.kind : Int) < 7 := by have := hk.out; omega
 have t9 : ¬ (x.kind : Int) < 9 := by have := hk.out; omega
 have HH := lhid h
 have hsz := h.lt
 clear h
 go_enter Tryz.func76, Tryz.ntmps76
 go_wp2_with fail
 with_reducible refine (of_f g l n x.a 7 7 y1 true _ (((HH.out.alloc _).alloc _).alloc _) hn hz (by decide) (lhid rfl) hy1 hb1).mono ?_
 rintro e w1 ⟨rfl, hb⟩
 have HB1 := lhid ((below3 w _ _ _).trans (hb.mono (by rw [size3]; omega)))
 have HE1 := lhid (EntAt.below (x := x) (new3_0 w _ _ _) hb (by rw [size3]; omega))
 have HP1 := lhid (ConAt.below (x := Con.zero) (new3_1 w _ _ _) hb (by rw [size3]; omega))
 have HC1 := lhid (ConAt.below (x := ⟨x.kind, x.num, x.text, [], []⟩) (new3_2 w _ _ _) hb (by rw [size3]; omega))
 have z0 := HE1.out.lt
 have z1 := heap_lt HP1.out
 have z2 := heap_lt HC1.out
 clear hb
 obtain ⟨a0, a1, a2, a3, a4, a5, a6, a7⟩ := HE1.out.cells
 go_wp2_with fail
 with_reducible refine (of_f g l n y1.a 1 1 y2 true _ ((below_rows HH.out HB1.out).alloc _) hn hz (by decide) (lhid rfl) hy2 hb2).mono ?_
 rintro e w2 ⟨rfl, hb⟩
 clear a0 a1 a2 a3 a4 a5 a6 a7 z0 z1 z2
 have hb0 := ((Below.refl _ w1).alloc (Nat.le_refl _) _).trans (hb.mono (by simp))
 have HB2 := lhid (HB1.out.trans (hb0.mono HB1.out.size))
 have HE2 := lhid (HE1.out.below hb0 HE1.out.lt)
 have HP2 := lhid (HP1.out.below hb0 (heap_lt HP1.out))
 have HC2 := lhid (HC1.out.below hb0 (heap_lt HC1.out))
 have z0 := HE2.out.lt
 have z1 := heap_lt HP2.out
 have z2 := heap_lt HC2.out
 clear hb hb0
 obtain ⟨a0, a1, a2, a3, a4, a5, a6, a7⟩ := HE2.out.cells
 go_wp2_with fail
 with_reducible refine (of_f g l n x.b 1 1 y3 false _ ((below_rows HH.out HB2.out).alloc _) hn hz (by decide) (lhid rfl) hy3 hb3).mono ?_
 rintro e w3 ⟨rfl, hb⟩
 clear a0 a1 a2 a3 a4 a5 a6 a7 z0 z1 z2
 have hb0 := ((Below.refl _ w2).alloc (Nat.le_refl _) _).trans (hb.mono (by simp))
 have HB3 := lhid (HB2.out.trans (hb0.mono HB2.out.size))
 have HE3 := lhid (HE2.out.below hb0 HE2.out.lt)
 have HP3 := lhid (HP2.out.below hb0 (heap_lt HP2.out))
 have HC3 := lhid (HC2.out.below hb0 (heap_lt HC2.out))
 have z0 := HE3.out.lt
 have z1 := heap_lt HP3.out
 have z2 := heap_lt HC3.out
 clear hb hb0
 obtain ⟨a0, a1, a2, a3, a4, a5, a6, a7⟩ := HE3.out.cells
 go_wp2_with fail
 with_reducible refine (of_f g l n x.d 1 1 y4 b4 _ ((below_rows HH.out HB3.out).alloc _) hn hz (by decide) (lhid rfl) hy4 hb4).mono ?_
 rintro e w4 ⟨rfl, hb⟩
 clear a0 a1 a2 a3 a4 a5 a6 a7 z0 z1 z2
 have hb0 := ((Below.refl _ w3).alloc (Nat.le_refl _) _).trans (hb.mono (by simp))
 have HB4 := lhid (HB3.out.trans (hb0.mono HB3.out.size))
 have HE4 := lhid (HE3.out.below hb0 HE3.out.lt)
 have HP4 := lhid (HP3.out.below hb0 (heap_lt HP3.out))
 have HC4 := lhid (HC3.out.below hb0 (heap_lt HC3.out))
 have z0 := HE4.out.lt
 have z1 := heap_lt HP4.out
 have z2 := heap_lt HC4.out
 clear hb hb0
 obtain ⟨a0, a1, a2, a3, a4, a5, a6, a7⟩ := HE4.out.cells
 obtain ⟨p0, p1, p2, p3, p4⟩ := HP4.out.cells
 have fp := HP4.out.thaw
 obtain ⟨c0, c1, c2, c3, c4⟩ := HC4.out.cells
 have fc := HC4.out.thaw
 go_wp2_with fail
 refine bodyPost_ret (v := .tuple #[.agg #[.int .i64 0, .int .i64 0, .string ⟨#[]⟩, .string ⟨#[]⟩, .string ⟨#[]⟩], .int .i64 12]) (by simp [results, Tryz.results76, go_sem, p0, p1, p2, p3, p4, z1]) rfl ?_
 rw [HP.out]
 refine ⟨rfl, ?_⟩
 have q1 : w.heap.size ≤ w.heap.size + 1 := Nat.le_succ _
 have q2 : w.heap.size ≤ w.heap.size + 1 + 1 := Nat.le_add_right _ 2
 repeat (first | with_reducible refine below_set ?_ q1 _ _ | with_reducible refine below_set ?_ q2 _ _ | with_reducible refine below_new ?_ (Nat.le_refl _) _)
 exact HB4.out
set_option maxHeartbeats 8000000 in
set_option maxRecDepth 100000 in
theorem filled_mem_f4 (g : Nat) (l : List Ent) (n : Nat) (x : Ent) (w : World) (h : RowsAt w g 130 8 (l.map entV)) (hn : Hid (l.length = n)) (hz : Hid (ZeroL l)) (y1 y2 y3 y4 : Ent)  (hy1 : Hid ((entAt l x.a 7).getD Ent.zero = y1)) (hb1 : Hid ((entAt l x.a 7).isSome = true)) (hy2 : Hid ((entAt l y1.a 1).getD Ent.zero = y2)) (hb2 : Hid ((entAt l y1.a 1).isSome = true)) (hy3 : Hid ((entAt l x.b 1).getD Ent.zero = y3)) (hb3 : Hid ((entAt l x.b 1).isSome = true)) (hy4 : Hid ((entAt l x.d 1).getD Ent.zero = y4)) (hb4 : Hid ((entAt l x.d 1).isSome = false)) (hk : Hid (9 ≤ x.kind)) (HP : Hid (resOne l x = (12, Con.zero))) :
  Calls Tryz.prog 76 #[.slice (some ⟨g, 0, none⟩) n n, .agg #[.int .i64 x.kind, .int .i64 x.num, .string (tx x.text), .string ⟨#[]⟩, .string ⟨#[]⟩, .int .i64 x.a, .int .i64 x.b, .int .i64 x.d]] w (ResOut (resOne l x) w) := by
 have t0 : ¬ (x.kind : Int) < 7 := by have := hk.out; omega
 have t9 : ¬ (x.kind : Int) < 9 := by have := hk.out; omega
 have HH := lhid h
 have hsz := h.lt
 clear h
 go_enter Tryz.func76, Tryz.ntmps76
 go_wp2_with fail
 with_reducible refine (of_f g l n x.a 7 7 y1 true _ (((HH.out.alloc _).alloc _).alloc _) hn hz (by decide) (lhid rfl) hy1 hb1).mono ?_
 rintro e w1 ⟨rfl, hb⟩
 have HB1 := lhid ((below3 w _ _ _).trans (hb.mono (by rw [size3]; omega)))
 have HE1 := lhid (EntAt.below (x := x) (new3_0 w _ _ _) hb (by rw [size3]; omega))
 have HP1 := lhid (ConAt.below (x := Con.zero) (new3_1 w _ _ _) hb (by rw [size3]; omega))
 have HC1 := lhid (ConAt.below (x := ⟨x.kind, x.num, x.text, [], []⟩) (new3_2 w _ _ _) hb (by rw [size3]; omega))
 have z0 := HE1.out.lt
 have z1 := heap_lt HP1.out
 have z2 := heap_lt HC1.out
 clear hb
 obtain ⟨a0, a1, a2, a3, a4, a5, a6, a7⟩ := HE1.out.cells
 go_wp2_with fail
 with_reducible refine (of_f g l n y1.a 1 1 y2 true _ ((below_rows HH.out HB1.out).alloc _) hn hz (by decide) (lhid rfl) hy2 hb2).mono ?_
 rintro e w2 ⟨rfl, hb⟩
 clear a0 a1 a2 a3 a4 a5 a6 a7 z0 z1 z2
 have hb0 := ((Below.refl _ w1).alloc (Nat.le_refl _) _).trans (hb.mono (by simp))
 have HB2 := lhid (HB1.out.trans (hb0.mono HB1.out.size))
 have HE2 := lhid (HE1.out.below hb0 HE1.out.lt)
 have HP2 := lhid (HP1.out.below hb0 (heap_lt HP1.out))
 have HC2 := lhid (HC1.out.below hb0 (heap_lt HC1.out))
 have z0 := HE2.out.lt
 have z1 := heap_lt HP2.out
 have z2 := heap_lt HC2.out
 clear hb hb0
 obtain ⟨a0, a1, a2, a3, a4, a5, a6, a7⟩ := HE2.out.cells
 go_wp2_with fail
 with_reducible refine (of_f g l n x.b 1 1 y3 true _ ((below_rows HH.out HB2.out).alloc _) hn hz (by decide) (lhid rfl) hy3 hb3).mono ?_
 rintro e w3 ⟨rfl, hb⟩
 clear a0 a1 a2 a3 a4 a5 a6 a7 z0 z1 z2
 have hb0 := ((Below.refl _ w2).alloc (Nat.le_refl _) _).trans (hb.mono (by simp))
 have HB3 := lhid (HB2.out.trans (hb0.mono HB2.out.size))
 have HE3 := lhid (HE2.out.below hb0 HE2.out.lt)
 have HP3 := lhid (HP2.out.below hb0 (heap_lt HP2.out))
 have HC3 := lhid (HC2.out.below hb0 (heap_lt HC2.out))
 have z0 := HE3.out.lt
 have z1 := heap_lt HP3.out
 have z2 := heap_lt HC3.out
 clear hb hb0
 obtain ⟨a0, a1, a2, a3, a4, a5, a6, a7⟩ := HE3.out.cells
 go_wp2_with fail
 with_reducible refine (of_f g l n x.d 1 1 y4 false _ ((below_rows HH.out HB3.out).alloc _) hn hz (by decide) (lhid rfl) hy4 hb4).mono ?_
 rintro e w4 ⟨rfl, hb⟩
 clear a0 a1 a2 a3 a4 a5 a6 a7 z0 z1 z2
 have hb0 := ((Below.refl _ w3).alloc (Nat.le_refl _) _).trans (hb.mono (by simp))
 have HB4 := lhid (HB3.out.trans (hb0.mono HB3.out.size))
 have HE4 := lhid (HE3.out.below hb0 HE3.out.lt)
 have HP4 := lhid (HP3.out.below hb0 (heap_lt HP3.out))
 have HC4 := lhid (HC3.out.below hb0 (heap_lt HC3.out))
 have z0 := HE4.out.lt
 have z1 := heap_lt HP4.out
 have z2 := heap_lt HC4.out
 clear hb hb0
 obtain ⟨a0, a1, a2, a3, a4, a5, a6, a7⟩ := HE4.out.cells
 obtain ⟨p0, p1, p2, p3, p4⟩ := HP4.out.cells
 have fp := HP4.out.thaw
 obtain ⟨c0, c1, c2, c3, c4⟩ := HC4.out.cells
 have fc := HC4.out.thaw
 go_wp2_with fail
 refine bodyPost_ret (v := .tuple #[.agg #[.int .i64 0, .int .i64 0, .string ⟨#[]⟩, .string ⟨#[]⟩, .string ⟨#[]⟩], .int .i64 12]) (by simp [results, Tryz.results76, go_sem, p0, p1, p2, p3, p4, z1]) rfl ?_
 rw [HP.out]
 refine ⟨rfl, ?_⟩
 have q1 : w.heap.size ≤ w.heap.size + 1 := Nat.le_succ _
 have q2 : w.heap.size ≤ w.heap.size + 1 + 1 := Nat.le_add_right _ 2
 repeat (first | with_reducible refine below_set ?_ q1 _ _ | with_reducible refine below_set ?_ q2 _ _ | with_reducible refine below_new ?_ (Nat.le_refl _) _)
 exact HB4.out
end Go.Proofs.YtgihfcimngogfaaGreat
