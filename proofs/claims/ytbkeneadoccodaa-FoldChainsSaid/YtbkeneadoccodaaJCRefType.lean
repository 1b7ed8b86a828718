/- Contract of the document's Type: for all texts it answers typeB. -/
import Derived.Test.YtbkeneadoccodaaJCDescType
import Derived.Deep.DeepCutAuto
import Derived.Tactics2
namespace Go.Proofs.Ytbkeneadoccodaa
open Go.RowKit Go
set_option linter.unusedVariables false
theorem brk_here (s : ByteArray) (k : Nat) (hb : k ≤ brk s.data.toList) (hstop : s.size ≤ k ∨ (∃ h : k < s.size, s[k] ≠ 91)) : brk s.data.toList = k := by
 rcases hstop with h | ⟨h, hne⟩
 ·have := brk_le s.data.toList
  rw [size_len] at this
  omega
 ·rcases Nat.lt_or_ge k (brk s.data.toList) with hlt | hge
  ·have := brk_at _ _ hlt
   rw [List.getElem?_eq_getElem (by simpa using h)] at this
   exact absurd (by injection this) hne
  ·omega
theorem u8_test (c : UInt8) (n : Nat) (h : n < 256) : ((c.toNat : Int) == (n : Int)) = (c == n.toUInt8) := by
 rw [u8_eq c n h, Bool.eq_iff_iff, beq_iff_eq, decide_eq_true_eq]
theorem type_eq (s d : ByteArray) (k : Nat) (hb : brk s.data.toList = k) (hd : d.data.toList = s.data.toList.drop k) : typeB s.data.toList = (decide (k ≤ 8) && plainB d.data.toList) := by
 unfold typeB
 rw [hb, hd]
theorem plain_long (d : ByteArray) (h2 : 2 < d.size) : plainB d.data.toList = (d[0] == 76 && d[d.size - 1] == 59 && nameB (d.extract 1 (d.size - 1)).data.toList false) := by
 have hx : (d.extract 1 (d.size - 1)).data.toList = (d.data.toList.drop 1).take (d.data.toList.length - 2) := by
  rw [Lib.extract_data, size_len]
  congr 1
 have h0 : d.data.toList.head? = some d[0] := by
  rw [List.head?_eq_getElem?, List.getElem?_eq_getElem (by simpa using (by omega : 0 < d.size))]
  rfl
 have h1 : d.data.toList.getLast? = some d[d.size - 1] := by
  rw [List.getLast?_eq_getElem?, size_len, List.getElem?_eq_getElem (by simpa using (by omega : d.size - 1 < d.size))]
  rfl
 have e1 : (d.data.toList == [73]) = false := by
  rw [beq_eq_false_iff_ne]; intro e; have := congrArg List.length e; rw [size_len] at this; simp at this; omega
 have e2 : (d.data.toList == [74]) = false := by
  rw [beq_eq_false_iff_ne]; intro e; have := congrArg List.length e; rw [size_len] at this; simp at this; omega
 unfold plainB
 rw [e1, e2, h0, h1, ← hx, size_len, decide_eq_true h2]
 simp
theorem plain_short (d : ByteArray) (h2 : ¬ 2 < d.size) : plainB d.data.toList = (d.toList == [73] || d.toList == [74]) := by
 unfold plainB
 rw [size_len, decide_eq_false h2, Lib.toList_data]
 simp
theorem list_one_false (d : ByteArray) (c : UInt8) (h : 2 < d.size) : (d.toList == [c]) = false := by
 rw [beq_eq_false_iff_ne]
 intro e
 have := congrArg List.length e
 rw [size_toList] at this
 simp at this
 omega
theorem u8_lit (c : UInt8) (n : Nat) (h : n < 256) (r : Bool) (hr : (c == n.toUInt8) = r) : ((c.toNat : Int) == (n : Int)) = r := by
 rw [u8_test c n h, hr]
theorem refName_r (s : ByteArray) (m r : Bool) (w : World) (h : Hid (nameB s.data.toList m = r)) (hs : Hid (s.size ≤ maxLen)) :
  Calls Try.prog 93 #[.string s, .bool m] w fun e w' => e = .returned (.bool r) ∧ w = w' := by
 rw [← h.out]
 exact refName_any s m w hs.out
theorem list_zero_false (d : ByteArray) (c : UInt8) (h : d.size = 0) : (d.toList == [c]) = false := by
 rw [beq_eq_false_iff_ne]
 intro e
 have := congrArg List.length e
 rw [size_toList] at this
 simp at this
 omega
set_option maxHeartbeats 16000000 in
set_option maxRecDepth 100000 in
theorem refType_any (s : ByteArray) (w : World) (hs : s.size ≤ maxLen) :
  Calls Try.prog 53 #[.string s] w fun e w' => e = .returned (.bool (typeB s.data.toList)) ∧ w = w' := by
 have hs' := hs
 unfold maxLen at hs'
 go_enter Try.func53, Try.ntmps53
 go_wp2_with (fail)
 go_loop [3] (fun n => ∃ k : Nat, k ≤ s.size ∧ k ≤ brk s.data.toList ∧ n = .int .i64 k) (fun n => s.size - (intOf n).toNat)
 case atStart => exact ⟨0, Nat.zero_le _, Nat.zero_le _, rfl⟩
 case round =>
  obtain ⟨k, hk, hbr, rfl⟩ := hrel
  have HS := Lib.hid hs
  have c1 : (0 : Int) ≤ ↑k := by omega
  have c2 : (↑k : Int) ≤ ↑s.size := by omega
  by_cases hlt : k < s.size
  ·by_cases he : s[k] = 91
   ·have HE := Lib.hid he
    have ht : ((s[k].toNat : Int) == 91) = true := by rw [he]; rfl
    clear he
    go_wp2_with (fail)
    go_round
    case rel => exact ⟨k + 1, by omega, brk_next s k hbr hlt HE.out, by go_num⟩
    case measure => simp [intOf]; omega
   ·have HB := Lib.hid (brk_here s k hbr (.inr ⟨hlt, he⟩))
    have hg : ((s[k].toNat : Int) == 91) = false := by
     rw [beq_eq_false_iff_ne]
     intro e
     exact he (UInt8.toNat_inj.1 (by simp; omega))
    clear he hs hs' hbr
    go_upto_region 4 with (fail)
    go_cut [0] (fun t wx => ∃ d : ByteArray, t = .string d ∧ Hid (d = s.extract k s.size) ∧ w = wx)
    case first =>
     go_wp2_with (fail)
     go_meet
     exact ⟨_, rfl, Lib.hid rfl, rfl⟩
    case rest =>
     clear hg
     obtain ⟨d, rfl, HD, rfl⟩ := hcut
     have HT := Lib.hid (type_eq s d k HB.out (by rw [HD.out]; exact extract_tail s k))
     have hds : d.size ≤ 9223372036854775807 := by
      have h1 := HS.out
      have h2 := extract_size s k s.size (Nat.le_refl _)
      unfold maxLen at h1
      rw [HD.out, h2]
      omega
     by_cases h8 : 8 < k
     ·go_wp2_with (fail)
      go_ret
      exact ⟨ret_bool (by rw [HT.out, decide_eq_false (by omega)]; rfl), rfl⟩
     by_cases h2 : 2 < d.size
     ·have e1 := list_one_false d 73 h2
      have e2 := list_one_false d 74 h2
      have HP := Lib.hid (plain_long d h2)
      have g0 : (0 : Int) ≤ ↑d.size - 1 := by omega
      have g1 : (1 : Int) ≤ ↑d.size - 1 := by omega
      have g2 : (↑d.size - 1 : Int) ≤ ↑d.size := by omega
      have g3 : (↑d.size - 1 : Int) < ↑d.size := by omega
      have g4 : ((d.size : Int) - 1).toNat = d.size - 1 := by omega
      have g5 : d.size - 1 < d.size := by omega
      have g6 : 0 < d.size := by omega
      have HX : Hid ((d.extract 1 (d.size - 1)).size ≤ maxLen) := Lib.hid (by rw [extract_size _ _ _ (by omega)]; unfold maxLen; omega)
      cases h3 : (d[0] == 76)
      ·have H3 := Lib.hid h3
       have f3 : ((d[0].toNat : Int) == 76) = _ := u8_lit d[0] 76 (by omega) _ h3
       clear h3
       go_wp2_with (fail)
       go_ret
       exact ⟨ret_bool (by rw [HT.out, HP.out, H3.out]; simp), rfl⟩
      have H3 := Lib.hid h3
      have f3 : ((d[0].toNat : Int) == 76) = _ := u8_lit d[0] 76 (by omega) _ h3
      clear h3
      cases h4 : (d[d.size - 1] == 59)
      ·have H4 := Lib.hid h4
       have f4 : ((d[d.size - 1].toNat : Int) == 59) = _ := u8_lit d[d.size - 1] 59 (by omega) _ h4
       clear h4
       go_wp2_with (fail)
       go_ret
       exact ⟨ret_bool (by rw [HT.out, HP.out, H4.out]; simp), rfl⟩
      have H4 := Lib.hid h4
      have f4 : ((d[d.size - 1].toNat : Int) == 59) = _ := u8_lit d[d.size - 1] 59 (by omega) _ h4
      clear h4
      cases h5 : nameB (d.extract 1 (d.size - 1)).data.toList false
      all_goals
       have H5 := Lib.hid h5
       clear h5
       go_wp2_with (first | (go_at_call 93; (with_reducible refine (refName_r _ _ _ _ H5 HX).mono ?_); rintro e w' ⟨rfl, rfl⟩))
       go_ret
       exact ⟨ret_bool (by rw [HT.out, decide_eq_true (by omega), HP.out, H3.out, H4.out, H5.out]; rfl), rfl⟩
     ·have HP := Lib.hid (plain_short d h2)
      cases h3 : (d.toList == [73])
      ·have H3 := Lib.hid h3
       cases h4 : (d.toList == [74])
       all_goals
        have H4 := Lib.hid h4
        go_wp2_with (fail)
        go_ret
        exact ⟨ret_bool (by rw [HT.out, decide_eq_true (by omega), HP.out, H3.out, H4.out]; rfl), rfl⟩
      ·have H3 := Lib.hid h3
       go_wp2_with (fail)
       go_ret
       exact ⟨ret_bool (by rw [HT.out, decide_eq_true (by omega), HP.out, H3.out]; rfl), rfl⟩
  ·have HB := Lib.hid (brk_here s k hbr (.inl (by omega)))
   have hg : decide (k < s.size) = false := by simpa using hlt
   clear hs hs' hbr
   have HK : Hid (s.size = k) := Lib.hid (by omega)
   go_upto_region 4 with (fail)
   go_cut [0] (fun t wx => ∃ d : ByteArray, t = .string d ∧ Hid (d = s.extract k s.size) ∧ w = wx)
   case first =>
    go_wp2_with (fail)
    go_meet
    exact ⟨_, rfl, Lib.hid rfl, rfl⟩
   case rest =>
    clear hg
    obtain ⟨d, rfl, HD, rfl⟩ := hcut
    have HT := Lib.hid (type_eq s d k HB.out (by rw [HD.out]; exact extract_tail s k))
    have hz : d.size = 0 := by rw [HD.out, extract_size s k s.size (Nat.le_refl _)]; omega
    have e1 := list_zero_false d 73 hz
    have e2 := list_zero_false d 74 hz
    have HP := Lib.hid (plain_short d (by omega))
    have H1 := Lib.hid e1
    have H2 := Lib.hid e2
    have hzz : decide (2 < (d.size : Int)) = false := by rw [hz]; rfl
    clear hz
    by_cases h8 : 8 < k
    ·go_wp2_with (fail)
     go_ret
     exact ⟨ret_bool (by rw [HT.out, decide_eq_false (by omega)]; rfl), rfl⟩
    ·go_wp2_with (fail)
     go_ret
     exact ⟨ret_bool (by rw [HT.out, HP.out, H1.out, H2.out]; simp), rfl⟩
end Go.Proofs.Ytbkeneadoccodaa
