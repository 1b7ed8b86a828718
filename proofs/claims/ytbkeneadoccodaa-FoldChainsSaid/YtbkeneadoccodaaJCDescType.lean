/- Contracts of desc.countArrays, plainLength, cutType, Type. -/
import Derived.Test.YtbkeneadoccodaaM7
import Derived.Deep.QuietTactic
import Derived.BigQuiet
import Derived.IntWalk
namespace Go.Proofs.Ytbkeneadoccodaa
open Go.RowKit Go
set_option linter.unusedVariables false
theorem ret_int {k : IntKind} {a b : Int} (h : a = b) : Ending.returned (.int k a) = .returned (.int k b) := by rw [h]
theorem arr8_at (s : ByteArray) (k : Nat) (hb : k ≤ brk s.data.toList) (h8 : k ≤ 8) (hstop : k = 8 ∨ s.size ≤ k ∨ (∃ h : k < s.size, s[k] ≠ 91)) : arr8 s.data.toList = k := by
 unfold arr8
 rcases hstop with h | h | ⟨h, hne⟩
 ·split <;> omega
 ·have := brk_le s.data.toList
  rw [size_len] at this
  rw [if_pos (by omega)]
  omega
 ·have : brk s.data.toList = k := by
   rcases Nat.lt_or_ge k (brk s.data.toList) with hlt | hge
   ·have := brk_at _ _ hlt
    rw [List.getElem?_eq_getElem (by simpa using h)] at this
    exact absurd (by injection this) hne
   ·omega
  rw [if_pos (by omega), this]
theorem brk_next (s : ByteArray) (k : Nat) (hb : k ≤ brk s.data.toList) (h : k < s.size) (he : s[k] = 91) : k + 1 ≤ brk s.data.toList := by
 rcases Nat.lt_or_ge k (brk s.data.toList) with hlt | hge
 ·omega
 ·exfalso
  have hk : k = brk s.data.toList := by omega
  apply brk_stop s.data.toList
  rw [← hk, List.getElem?_eq_getElem (by simpa using h)]
  exact congrArg some he
theorem ext_eq (s : ByteArray) (k : Nat) (c : UInt8) (h : k < s.size) : ((s.extract k (k + 1)).toList == [c]) = (s[k] == c) := by
 rw [extract_one s k h, Lib.toList_data]
 simp
set_option maxHeartbeats 1000000 in
set_option maxRecDepth 100000 in
theorem countArrays_any (s : ByteArray) (w : World) (hs : s.size ≤ maxLen) :
  Calls Try.prog 131 #[.string s] w fun e w' => e = .returned (.int .i64 (arr8 s.data.toList)) ∧ w = w' := by
 unfold maxLen at hs
 go_enter Try.func131, Try.ntmps131
 go_wp2_with (fail)
 go_loop [3] (fun n => ∃ k : Nat, k ≤ s.size ∧ k ≤ 8 ∧ k ≤ brk s.data.toList ∧ n = .int .i64 k) (fun n => 8 - (intOf n).toNat)
 case atStart => exact ⟨0, Nat.zero_le _, Nat.zero_le _, Nat.zero_le _, rfl⟩
 case round =>
  obtain ⟨k, hk, hk8, hbr, rfl⟩ := hrel
  by_cases h8 : k < 8
  ·by_cases hlt : k < s.size
   ·have c1 : (0 : Int) ≤ ↑k := by omega
    have c2 : (↑k : Int) ≤ ↑k + 1 := by omega
    have c3 : (↑k + 1 : Int) ≤ ↑s.size := by omega
    have c4 : (0 : Int) ≤ ↑k + 1 := by omega
    by_cases he : s[k] = 91
    ·have HE := Lib.hid he
     have ht : ((s.extract k (k + 1)).toList == [91]) = true := by rw [ext_eq s k 91 hlt, he]; rfl
     clear he
     go_wp2_with (fail)
     go_round
     case rel => exact ⟨k + 1, by omega, by omega, brk_next s k hbr hlt HE.out, by go_num⟩
     case measure => simp [intOf]; omega
    ·have HE := Lib.hid he
     have ht : ((s.extract k (k + 1)).toList == [91]) = false := by rw [ext_eq s k 91 hlt]; simpa using he
     clear he
     go_wp2_with (fail)
     go_ret
     exact ⟨ret_int (by rw [arr8_at s k hbr hk8 (.inr (.inr ⟨hlt, HE.out⟩))]), rfl⟩
   ·have hd : decide (k < s.size) = false := by simpa using hlt
    go_wp2_with (fail)
    go_ret
    exact ⟨ret_int (by rw [arr8_at s k hbr hk8 (.inr (.inl (by omega)))]), rfl⟩
  ·go_wp2_with (fail)
   go_ret
   exact ⟨ret_int (by rw [arr8_at s k hbr hk8 (.inl (by omega))]), rfl⟩
theorem hasPrefix_head (l : Bs) (c : UInt8) : Lib.hasPrefix l [c] = (l.head? == some c) := by
 unfold Lib.hasPrefix
 cases l with
 | nil => rfl
 | cons b q => simp [List.isPrefixOf, Bool.beq_comm]
theorem hasPrefix_one (s : ByteArray) (c : UInt8) (r : Bool) (hr : Hid ((s.data.toList.head? == some c) = r)) (w : World) :
  Calls Try.prog 134 #[.string s, .string ⟨#[c]⟩] w fun e w' => e = .returned (.bool r) ∧ w = w' := by
 refine (Try.strings_HasPrefix s ⟨#[c]⟩ w).mono ?_
 rintro e w' ⟨rfl, rfl⟩
 exact ⟨ret_bool (by rw [← hr.out]; exact hasPrefix_head _ _), rfl⟩
set_option maxHeartbeats 1000000 in
set_option maxRecDepth 100000 in
theorem liteCut_none (s : ByteArray) (c : UInt8) (w : World) (h : Hid (Lib.indexByte s.data.toList c = -1)) :
  Calls Try.prog 142 #[.string s, .string ⟨#[c]⟩] w fun e w' => e = .returned (.tuple #[.string s, .string ⟨#[]⟩, .bool false]) ∧ w = w' := by
 go_enter Try.func142, Try.ntmps142
 go_wp2_with (go_at_call 133; (with_reducible refine (Try.stringslite_Index_one _ _ _).mono ?_); rintro e w' ⟨rfl, rfl⟩; rw [h.out])
 go_ret3
 exact ⟨rfl, rfl⟩
set_option maxHeartbeats 1000000 in
set_option maxRecDepth 100000 in
theorem liteCut_hit (s : ByteArray) (c : UInt8) (i : Nat) (w : World) (hs : s.size ≤ maxLen) (h : Hid (Lib.indexByte s.data.toList c = i)) (hi : i < s.size) :
  Calls Try.prog 142 #[.string s, .string ⟨#[c]⟩] w fun e w' => e = .returned (.tuple #[.string (s.extract 0 i), .string (s.extract (i + 1) s.size), .bool true]) ∧ ∃ n, w' = w.drewN n := by
 unfold maxLen at hs
 have c1 : (0 : Int) ≤ ↑i := by omega
 have c2 : (↑i : Int) ≤ ↑s.size := by omega
 have c3 : (0 : Int) ≤ ↑i + 1 := by omega
 have c4 : (↑i + 1 : Int) ≤ ↑s.size := by omega
 go_enter Try.func142, Try.ntmps142
 go_wp2_with (go_at_call 133; (with_reducible refine (Try.stringslite_Index_one _ _ _).mono ?_); rintro e w' ⟨rfl, rfl⟩; rw [h.out])
 go_quiet (fail)
 go_wp2
 go_ret3
 exact ⟨rfl, _, rfl⟩
set_option maxHeartbeats 1000000 in
theorem cut_none (s : ByteArray) (c : UInt8) (w : World) (h : Hid (Lib.indexByte s.data.toList c = -1)) :
  Calls Try.prog 135 #[.string s, .string ⟨#[c]⟩] w fun e w' => e = .returned (.tuple #[.string s, .string ⟨#[]⟩, .bool false]) ∧ w = w' := by
 go_enter Try.func135, Try.ntmps135
 go_wp2_with (go_at_call 142; (with_reducible refine (liteCut_none _ _ _ h).mono ?_); rintro e w' ⟨rfl, rfl⟩)
 go_ret3
 exact ⟨rfl, rfl⟩
set_option maxHeartbeats 1000000 in
theorem cut_hit (s : ByteArray) (c : UInt8) (i : Nat) (w : World) (hs : s.size ≤ maxLen) (h : Hid (Lib.indexByte s.data.toList c = i)) (hi : i < s.size) :
  Calls Try.prog 135 #[.string s, .string ⟨#[c]⟩] w fun e w' => e = .returned (.tuple #[.string (s.extract 0 i), .string (s.extract (i + 1) s.size), .bool true]) ∧ ∃ n, w' = w.drewN n := by
 go_enter Try.func135, Try.ntmps135
 go_wp2_with (go_at_call 142; (with_reducible refine (liteCut_hit _ _ i _ hs h hi).mono ?_); rintro e w' ⟨rfl, n, rfl⟩)
 go_ret3
 exact ⟨rfl, n, rfl⟩
theorem plen_73 (l : Bs) (h : l.head? = some 73) : plen l = 1 := by unfold plen; rw [h]; rfl
theorem plen_74 (l : Bs) (h : l.head? = some 74) : plen l = 1 := by unfold plen; rw [h]; rfl
theorem plen_none (l : Bs) (h1 : l.head? ≠ some 73) (h2 : l.head? ≠ some 74) (h : Lib.indexByte l 59 = -1) : plen l = 0 := by
 unfold plen
 rw [if_neg (by simp [h1, h2]), if_pos (by omega)]
theorem plen_some (l : Bs) (i : Nat) (h1 : l.head? ≠ some 73) (h2 : l.head? ≠ some 74) (h : Lib.indexByte l 59 = i) : plen l = if (l.take i).head? == some 76 && nameB ((l.take i).drop 1) false then i + 1 else 0 := by
 unfold plen
 rw [if_neg (by simp [h1, h2]), if_neg (by omega), h]
 rfl
theorem ix_cases (s : ByteArray) (c : UInt8) : Lib.indexByte s.data.toList c = -1 ∨ ∃ i : Nat, Lib.indexByte s.data.toList c = i ∧ i < s.size := by
 rcases Int.lt_or_le (Lib.indexByte s.data.toList c) 0 with h | h
 ·exact .inl (by have := ix_ge s.data.toList c; omega)
 ·obtain ⟨_, _, h2⟩ := ix_split c s.data.toList h
  rw [size_len] at h2
  exact .inr ⟨_, by omega, h2⟩
theorem extract_head (s : ByteArray) (i : Nat) : (s.extract 0 i).data.toList = s.data.toList.take i := by rw [Lib.extract_data]; simp
theorem extract_tail (s : ByteArray) (i : Nat) : (s.extract i s.size).data.toList = s.data.toList.drop i := by
 rw [Lib.extract_data, List.take_of_length_le (by simp)]
theorem extract_size (s : ByteArray) (i j : Nat) (h : j ≤ s.size) : (s.extract i j).size = j - i := by
 simp
 omega
theorem size_pos_of_head {l : Bs} {c : UInt8} (h : l.head? = some c) : 0 < l.length := by
 cases l with
 | nil => simp at h
 | cons _ _ => simp
theorem name_r (s : ByteArray) (m r : Bool) (w : World) (h : Hid (nameB s.data.toList m = r)) (hs : s.size ≤ maxLen) :
  Calls Try.prog 136 #[.string s, .bool m] w fun e w' => e = .returned (.bool r) ∧ w = w' := by
 rw [← h.out]
 exact name_any s m w hs
set_option maxHeartbeats 2000000 in
set_option maxRecDepth 100000 in
theorem plainLength_any (s : ByteArray) (w : World) (hs : s.size ≤ maxLen) :
  Calls Try.prog 132 #[.string s] w fun e w' => e = .returned (.int .i64 (plen s.data.toList)) ∧ ∃ n, w' = w.drewN n := by
 cases hI : (s.data.toList.head? == some 73)
 case true =>
  have HI := Lib.hid hI
  clear hI
  go_enter Try.func132, Try.ntmps132
  go_wp2_with (first | (go_at_call 134; (with_reducible refine (hasPrefix_one _ 73 _ HI _).mono ?_); rintro e w' ⟨rfl, rfl⟩))
  go_ret
  exact ⟨ret_int (by rw [plen_73 _ (by simpa using HI.out)]; rfl), 0, rfl⟩
 cases hJ : (s.data.toList.head? == some 74)
 case true =>
  have HI := Lib.hid hI
  have HJ := Lib.hid hJ
  clear hI hJ
  go_enter Try.func132, Try.ntmps132
  go_wp2_with (first | (go_at_call 134; (first | (with_reducible refine (hasPrefix_one _ 73 _ HI _).mono ?_) | (with_reducible refine (hasPrefix_one _ 74 _ HJ _).mono ?_)); rintro e w' ⟨rfl, rfl⟩))
  go_ret
  exact ⟨ret_int (by rw [plen_74 _ (by simpa using HJ.out)]; rfl), 0, rfl⟩
 have HI := Lib.hid hI
 have HJ := Lib.hid hJ
 have n1 : s.data.toList.head? ≠ some 73 := by simpa using hI
 have n2 : s.data.toList.head? ≠ some 74 := by simpa using hJ
 clear hI hJ
 have N1 := Lib.hid n1
 have N2 := Lib.hid n2
 clear n1 n2
 rcases ix_cases s 59 with h | ⟨i, h, hi⟩
 ·have H := Lib.hid h
  clear h
  go_enter Try.func132, Try.ntmps132
  go_wp2_with (first | (go_at_call 134; (first | (with_reducible refine (hasPrefix_one _ 73 _ HI _).mono ?_) | (with_reducible refine (hasPrefix_one _ 74 _ HJ _).mono ?_)); rintro e w' ⟨rfl, rfl⟩) | (go_at_call 135; (with_reducible refine (cut_none _ 59 _ H).mono ?_); rintro e w' ⟨rfl, rfl⟩))
  go_ret
  exact ⟨ret_int (by rw [plen_none _ N1.out N2.out H.out]; rfl), 0, rfl⟩
 have H := Lib.hid h
 clear h
 have hz : (s.extract 0 i).size = i := by rw [extract_size s 0 i (by omega)]; omega
 have HZ := Lib.hid hz
 clear hz
 cases hL : ((s.extract 0 i).data.toList.head? == some 76)
 ·have HL := Lib.hid hL
  clear hL
  go_enter Try.func132, Try.ntmps132
  go_wp2_with (first | (go_at_call 134; (first | (with_reducible refine (hasPrefix_one _ 73 _ HI _).mono ?_) | (with_reducible refine (hasPrefix_one _ 74 _ HJ _).mono ?_) | (with_reducible refine (hasPrefix_one _ 76 _ HL _).mono ?_)); rintro e w' ⟨rfl, rfl⟩) | (go_at_call 135; (with_reducible refine (cut_hit _ 59 i _ hs H hi).mono ?_); rintro e w' ⟨rfl, n, rfl⟩))
  go_ret
  refine ⟨ret_int ?_, n, rfl⟩
  rw [plen_some _ i N1.out N2.out H.out, ← extract_head, HL.out]
  rfl
 ·have hp := size_pos_of_head (by simpa using hL : (s.extract 0 i).data.toList.head? = some 76)
  rw [size_len, HZ.out] at hp
  have HL := Lib.hid hL
  clear hL
  have c1 : (1 : Int) ≤ ↑i := by omega
  have hmin : min i s.size = i := by omega
  have hbig : (i : Int) + 1 ≤ 9223372036854775807 := by unfold maxLen at hs; omega
  have hle : ((s.extract 0 i).extract 1 i).size ≤ maxLen := by
   have := extract_size (s.extract 0 i) 1 i (by rw [HZ.out]; omega)
   rw [this]
   omega
  have HS := Lib.hid hle
  clear hle
  have hx : ((s.extract 0 i).extract 1 i).data.toList = (s.data.toList.take i).drop 1 := by
   have := extract_tail (s.extract 0 i) 1
   rwa [HZ.out, extract_head] at this
  have HX := Lib.hid hx
  clear hx
  cases hN : nameB ((s.extract 0 i).extract 1 i).data.toList false
  all_goals
   have HN := Lib.hid hN
   clear hN
   go_enter Try.func132, Try.ntmps132
   go_wp2_with (first | (go_at_call 134; (first | (with_reducible refine (hasPrefix_one _ 73 _ HI _).mono ?_) | (with_reducible refine (hasPrefix_one _ 74 _ HJ _).mono ?_) | (with_reducible refine (hasPrefix_one _ 76 _ HL _).mono ?_)); rintro e w' ⟨rfl, rfl⟩) | (go_at_call 135; (with_reducible refine (cut_hit _ 59 i _ hs H hi).mono ?_); rintro e w' ⟨rfl, n, rfl⟩) | (go_at_call 136; (with_reducible refine (name_r _ _ _ _ HN HS.out).mono ?_); rintro e w' ⟨rfl, rfl⟩))
   go_ret
   refine ⟨ret_int ?_, n, rfl⟩
   rw [plen_some _ i N1.out N2.out H.out]
   have h1 := HN.out
   rw [HX.out] at h1
   have h2 := HL.out
   rw [extract_head] at h2
   rw [h1, h2]
   simp
theorem plainLength_r (s : ByteArray) (r : Nat) (w : World) (hr : Hid (plen s.data.toList = r)) (hs : s.size ≤ maxLen) :
  Calls Try.prog 132 #[.string s] w fun e w' => e = .returned (.int .i64 r) ∧ ∃ n, w' = w.drewN n := by
 rw [← hr.out]
 exact plainLength_any s w hs
theorem countArrays_r (s : ByteArray) (r : Nat) (w : World) (hr : Hid (arr8 s.data.toList = r)) (hs : s.size ≤ maxLen) :
  Calls Try.prog 131 #[.string s] w fun e w' => e = .returned (.int .i64 r) ∧ w = w' := by
 rw [← hr.out]
 exact countArrays_any s w hs
theorem arr8_le (l : Bs) : arr8 l ≤ l.length := by
 have := brk_le l
 unfold arr8
 split <;> omega
theorem plen_le (d : Bs) : plen d ≤ d.length := by
 by_cases h : plen d = 0
 ·omega
 ·obtain ⟨p, r, h1, _, h2⟩ := plen_of d h
  rw [h2]
  conv => rhs; rw [h1]
  simp
set_option maxHeartbeats 2000000 in
set_option maxRecDepth 100000 in
theorem cutType_any (s : ByteArray) (w : World) (hs : s.size ≤ maxLen) :
  Calls Try.prog 123 #[.string s] w fun e w' => (if tlen s.data.toList = 0 then e = .returned (.tuple #[.string ⟨#[]⟩, .string ⟨#[]⟩, .bool false]) else e = .returned (.tuple #[.string (s.extract 0 (tlen s.data.toList)), .string (s.extract (tlen s.data.toList) s.size), .bool true])) ∧ ∃ n, w' = w.drewN n := by
 obtain ⟨a, ha⟩ : ∃ a, arr8 s.data.toList = a := ⟨_, rfl⟩
 obtain ⟨p, hp⟩ : ∃ p, plen (s.extract a s.size).data.toList = p := ⟨_, rfl⟩
 have hal := arr8_le s.data.toList
 have hpl := plen_le (s.extract a s.size).data.toList
 have ht : tlen s.data.toList = if p = 0 then 0 else a + p := by
  unfold tlen
  rw [ha, ← hp, extract_tail]
 rw [ha, size_len] at hal
 rw [hp, extract_tail, List.length_drop, size_len] at hpl
 rw [ht]
 have HA := Lib.hid ha
 have HP := Lib.hid hp
 have hsz : (s.extract a s.size).size ≤ maxLen := by rw [extract_size _ _ _ (Nat.le_refl _)]; omega
 have HZ := Lib.hid hsz
 clear ha hp ht hsz
 have c1 : (0 : Int) ≤ ↑a := by omega
 have c2 : (↑a : Int) ≤ ↑s.size := by omega
 by_cases h0 : p = 0
 ·subst h0
  rw [if_pos rfl]
  go_enter Try.func123, Try.ntmps123
  go_wp2_with (first | (go_at_call 131; (with_reducible refine (countArrays_r _ a _ HA hs).mono ?_); rintro e w' ⟨rfl, rfl⟩) | (go_at_call 132; (with_reducible refine (plainLength_r _ 0 _ HP HZ.out).mono ?_); rintro e w' ⟨rfl, n, rfl⟩))
  go_ret3
  exact ⟨rfl, n, rfl⟩
 ·rw [if_neg h0]
  have hpe : ((p : Int) == 0) = false := by rw [beq_eq_false_iff_ne]; omega
  have c3 : (0 : Int) ≤ ↑a + ↑p := by omega
  have c4 : (↑a + ↑p : Int) ≤ ↑s.size := by omega
  have c5 : (↑a + ↑p : Int) ≤ 9223372036854775807 := by unfold maxLen at hs; omega
  go_enter Try.func123, Try.ntmps123
  go_wp2_with (first | (go_at_call 131; (with_reducible refine (countArrays_r _ a _ HA hs).mono ?_); rintro e w' ⟨rfl, rfl⟩) | (go_at_call 132; (with_reducible refine (plainLength_r _ p _ HP HZ.out).mono ?_); rintro e w' ⟨rfl, n, rfl⟩))
  have e1 : IntKind.i64.wrap (↑a + ↑p) = ↑a + ↑p := IntWalk.i64_in _ (by omega)
  have e2 : ((a : Int) + p).toNat = a + p := by omega
  go_quiet (fail)
  clear e1
  go_wp2
  go_ret3
  exact ⟨rfl, _, rfl⟩
theorem cutType_no (s : ByteArray) (w : World) (H : Hid (tlen s.data.toList = 0)) (hs : s.size ≤ maxLen) :
  Calls Try.prog 123 #[.string s] w fun e w' => e = .returned (.tuple #[.string ⟨#[]⟩, .string ⟨#[]⟩, .bool false]) ∧ ∃ n, w' = w.drewN n := by
 refine (cutType_any s w hs).mono ?_
 rw [H.out]
 rintro e w' ⟨h, h'⟩
 exact ⟨by simpa using h, h'⟩
theorem cutType_yes (s : ByteArray) (k : Nat) (w : World) (H : Hid (tlen s.data.toList = k)) (hk : k ≠ 0) (hs : s.size ≤ maxLen) :
  Calls Try.prog 123 #[.string s] w fun e w' => e = .returned (.tuple #[.string (s.extract 0 k), .string (s.extract k s.size), .bool true]) ∧ ∃ n, w' = w.drewN n := by
 refine (cutType_any s w hs).mono ?_
 rw [H.out]
 rintro e w' ⟨h, h'⟩
 rw [if_neg hk] at h
 exact ⟨h, h'⟩
theorem empty_iff (s : ByteArray) : s.toList = [] ↔ s.size = 0 := by
 rw [← size_toList]
 exact List.length_eq_zero_iff.symm
set_option maxHeartbeats 2000000 in
set_option maxRecDepth 100000 in
theorem type_any (s : ByteArray) (w : World) (hs : s.size ≤ maxLen) :
  Calls Try.prog 112 #[.string s] w fun e w' => e = .returned (.bool (typeB s.data.toList)) ∧ ∃ n, w' = w.drewN n := by
 obtain ⟨k, hk⟩ : ∃ k, tlen s.data.toList = k := ⟨_, rfl⟩
 have hle := tlen_le s.data.toList
 have hw := type_whole s.data.toList
 rw [hk, size_len] at hle hw
 have HK := Lib.hid hk
 clear hk
 by_cases h0 : k = 0
 ·rw [hw, decide_eq_false (by omega)]
  subst h0
  clear hw
  go_enter Try.func112, Try.ntmps112
  go_wp2_with (first | (go_at_call 123; (with_reducible refine (cutType_no _ _ HK hs).mono ?_); rintro e w' ⟨rfl, n, rfl⟩))
  go_ret
  exact ⟨rfl, n, rfl⟩
 ·have he : (s.extract k s.size).toList = [] ↔ s.size = k := by
   rw [empty_iff, extract_size _ _ _ (Nat.le_refl _)]
   omega
  by_cases h1 : s.size = k
  ·rw [hw, decide_eq_true (by omega)]
   have e1 : (s.extract k s.size).toList = [] := he.2 h1
   have e2 : (s.extract k s.size).toList.isEmpty = true := by rw [e1]; rfl
   clear hw he
   have H1 := Lib.hid h1
   clear h1
   go_enter Try.func112, Try.ntmps112
   go_wp2_with (first | (go_at_call 123; (with_reducible refine (cutType_yes _ k _ HK h0 hs).mono ?_); rintro e w' ⟨rfl, n, rfl⟩))
   go_ret
   exact ⟨rfl, n, rfl⟩
  ·rw [hw, decide_eq_false (by omega)]
   have e1 : (s.extract k s.size).toList ≠ [] := fun e => h1 (he.1 e)
   have e2 : (s.extract k s.size).toList.isEmpty = false := by simpa using e1
   clear hw he
   go_enter Try.func112, Try.ntmps112
   go_wp2_with (first | (go_at_call 123; (with_reducible refine (cutType_yes _ k _ HK h0 hs).mono ?_); rintro e w' ⟨rfl, n, rfl⟩))
   go_ret
   exact ⟨rfl, n, rfl⟩
end Go.Proofs.Ytbkeneadoccodaa
