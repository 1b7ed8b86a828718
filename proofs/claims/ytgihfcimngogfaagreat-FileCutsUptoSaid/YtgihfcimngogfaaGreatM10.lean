/- Texts of this claim, joined: DescOf, SameS. -/
import Derived.Test.YtgihfcimngogfaaGreatM5
namespace Go.Proofs.YtgihfcimngogfaaGreat
open Go.RowKit Go
set_option linter.unusedVariables false
theorem of_app (s : ByteArray) : (⟨#[76]⟩ ++ s ++ ⟨#[59]⟩ : ByteArray) = mk (76 :: s.data.toList ++ [59]) := by
 apply ByteArray.ext
 simp
set_option maxHeartbeats 1000000 in
theorem of_any (s : ByteArray) (w : World) (hs : s.size ≤ 281474976710656) :
  Calls Tryz.prog 153 #[.string s] w fun e w' => e = .returned (.string (mk (ofL s.data.toList))) ∧ w = w' := by
 have b1 : ¬ 9223372036854775807 < 1 + s.size := by omega
 have b2 : ¬ 9223372036854775807 < 1 + s.size + 1 := by omega
 cases hA : (s.data.toList.head? == some 91)
 all_goals
  have HA := Lib.hid hA
  clear hA
  go_enter Tryz.func153, Tryz.ntmps153
  go_wp2_with (go_at_call 138; (with_reducible refine (hasPrefix_one _ 91 _ HA _).mono ?_); rintro e w' ⟨rfl, rfl⟩)
  go_ret
  refine ⟨ret_str ?_, rfl⟩
  have h3 := HA.out
  simp only [beq_eq_false_iff_ne, beq_iff_eq] at h3
  unfold ofL
  first
  | (rw [if_pos h3])
  | (rw [if_neg h3]; exact of_app s)
set_option maxHeartbeats 1000000 in
theorem refOf_any (s : ByteArray) (w : World) (hs : s.size ≤ 281474976710656) :
  Calls Tryz.prog 119 #[.string s] w fun e w' => e = .returned (.string (mk (ofL s.data.toList))) ∧ w = w' := by
 have b1 : ¬ 9223372036854775807 < 1 + s.size := by omega
 have b2 : ¬ 9223372036854775807 < 1 + s.size + 1 := by omega
 cases hA : (s.data.toList.head? == some 91)
 all_goals
  have HA := Lib.hid hA
  clear hA
  go_enter Tryz.func119, Tryz.ntmps119
  go_wp2_with (go_at_call 138; (with_reducible refine (hasPrefix_one _ 91 _ HA _).mono ?_); rintro e w' ⟨rfl, rfl⟩)
  go_ret
  refine ⟨ret_str ?_, rfl⟩
  have h3 := HA.out
  simp only [beq_eq_false_iff_ne, beq_iff_eq] at h3
  unfold ofL
  first
  | (rw [if_pos h3])
  | (rw [if_neg h3]; exact of_app s)
end Go.Proofs.YtgihfcimngogfaaGreat
namespace Go.Proofs.YtgihfcimngogfaaGreat
open Go.RowKit Go
set_option linter.unusedVariables false
def rdS (w : World) (A : Option Addr) (ls : List ByteArray) : Prop :=
 ∀ k, k < ls.length → ∃ g o, A = some ⟨g, o, none⟩ ∧ w.cell? ⟨g, o + k, none⟩ = some (.string (ls.getD k ByteArray.empty))
theorem toList_inj {x y : ByteArray} (h : x.toList = y.toList) : x = y := by
 rw [Lib.toList_data, Lib.toList_data] at h
 rw [← Lib.mk_data x, ← Lib.mk_data y, h]
theorem take_next (ls ms : List ByteArray) (k : Nat) (hl : ls.length = ms.length) (hk : k < ls.length) (h : ls.take k = ms.take k) (he : ls.getD k ByteArray.empty = ms.getD k ByteArray.empty) : ls.take (k + 1) = ms.take (k + 1) := by
 have hm : k < ms.length := by omega
 rw [List.take_succ_eq_append_getElem hk, List.take_succ_eq_append_getElem hm, h]
 rw [List.getD_eq_getElem?_getD, List.getD_eq_getElem?_getD, List.getElem?_eq_getElem hk, List.getElem?_eq_getElem hm] at he
 have he' : ls[k] = ms[k] := he
 rw [he']
set_option maxHeartbeats 4000000 in
set_option maxRecDepth 100000 in
theorem same_any (A B : Option Addr) (ls ms : List ByteArray) (ca cb : Nat) (w : World) (ha : ls.length ≤ 281474976710656) (hb : ms.length ≤ 281474976710656) (HA : Hid (rdS w A ls)) (HB : Hid (rdS w B ms)) :
  Calls Tryz.prog 31 #[.slice A ls.length ca, .slice B ms.length cb] w fun e w' => e = .returned (.bool (decide (ls = ms))) ∧ ∃ n, w' = w.drewN n := by
 by_cases hl : ls.length = ms.length
 case neg =>
  have hne : decide (ls = ms) = false := by
   rw [decide_eq_false_iff_not]
   intro e
   exact hl (by rw [e])
  rw [hne]
  have e1 : ((ls.length : Int) == ms.length) = false := by rw [beq_eq_false_iff_ne]; omega
  have e2 : ((ls.length : Int) != ms.length) = true := by rw [bne, e1]; rfl
  clear hne
  go_enter Tryz.func31, Tryz.ntmps31
  go_wp2_with (fail)
  go_ret
  exact ⟨rfl, 0, rfl⟩
 have HL := Lib.hid hl
 have e1 : ((ls.length : Int) == ms.length) = true := by rw [beq_iff_eq]; omega
 have e2 : ((ls.length : Int) != ms.length) = false := by rw [bne, e1]; rfl
 clear hl
 go_enter Tryz.func31, Tryz.ntmps31
 go_wp2_with (fail)
 go_loopw [5] (fun i wr => ∃ k n : Nat, i = .int .i64 k ∧ k ≤ ls.length ∧ Hid (ls.take k = ms.take k) ∧ wr = w.drewN n) (fun i _ => ls.length - (intOf i).toNat)
 case atStart => exact ⟨0, 0, rfl, Nat.zero_le _, Lib.hid (by simp), rfl⟩
 case round =>
  obtain ⟨k, n, rfl, hk, HE, rfl⟩ := hrel
  by_cases hlt : k < ls.length
  ·obtain ⟨g, o, rfl, hc⟩ := HA.out k hlt
   obtain ⟨g', o', rfl, hc'⟩ := HB.out k (by have := HL.out; omega)
   have k1 : (0 : Int) ≤ ↑k := by omega
   have k2 : (↑k : Int) < ↑ls.length := by omega
   have k3 : (↑k : Int) < ↑ms.length := by have := HL.out; omega
   have k4 : k < ms.length := by have := HL.out; omega
   generalize hx : ls.getD k ByteArray.empty = x at hc
   generalize hy : ms.getD k ByteArray.empty = y at hc'
   have HX := Lib.hid hx
   have HY := Lib.hid hy
   clear hx hy
   by_cases hxy : x = y
   ·have g1 : (x.toList == y.toList) = true := by rw [hxy]; simp
    have g2 : (x.toList != y.toList) = false := by rw [bne, g1]; rfl
    have HXY := Lib.hid hxy
    clear hxy
    go_wp2_with (fail)
    go_quiet (fail)
    go_wp2
    go_roundw
    case rel => exact ⟨k + 1, _, by go_num, by omega, Lib.hid (take_next ls ms k HL.out hlt HE.out (by rw [HX.out, HY.out, HXY.out])), rfl⟩
    case measure => simp [intOf]; omega
   ·have g1 : (x.toList == y.toList) = false := by rw [beq_eq_false_iff_ne]; exact fun e => hxy (toList_inj e)
    have g2 : (x.toList != y.toList) = true := by rw [bne, g1]; rfl
    have HXY := Lib.hid hxy
    clear hxy
    go_wp2_with (fail)
    go_quiet (fail)
    go_wp2
    go_ret
    refine ⟨ret_bool ?_, _, World.drewN_drewN _ _ _⟩
    symm
    rw [decide_eq_false_iff_not]
    intro e
    apply HXY.out
    rw [← HX.out, ← HY.out, e]
  ·have hd : decide (k < ls.length) = false := by simpa using hlt
   go_wp2_with (fail)
   go_ret
   refine ⟨ret_bool ?_, _, rfl⟩
   symm
   rw [decide_eq_true_iff]
   have := HE.out
   rwa [List.take_of_length_le (by omega), List.take_of_length_le (by have := HL.out; omega)] at this
end Go.Proofs.YtgihfcimngogfaaGreat
