/- Contract of the document's Same, and the walk of DescMethods. -/
import Derived.Test.YtmbnmjmlfbkjjaaRefMethod
namespace Go.Proofs.Ytmbnmjmlfbkjjaa
open Go.RowKit Go
set_option linter.unusedVariables false

/-- the slice at A holds these strings -/
def rdS (w : World) (A : Option Addr) (ls : List ByteArray) : Prop :=
  ∀ k, k < ls.length → ∃ g o, A = some ⟨g, o, none⟩ ∧ w.cell? ⟨g, o + k, none⟩ = some (.string (ls.getD k ByteArray.empty))
theorem toList_inj {x y : ByteArray} (h : x.toList = y.toList) : x = y := by
  rw [Lib.toList_data, Lib.toList_data] at h
  rw [← Lib.mk_data x, ← Lib.mk_data y, h]
theorem take_next (ls ms : List ByteArray) (k : Nat) (hl : ls.length = ms.length) (hk : k < ls.length) (h : ls.take k = ms.take k) (he : ls.getD k ByteArray.empty = ms.getD k ByteArray.empty) : ls.take (k + 1) = ms.take (k + 1) := by
  have hm : k < ms.length := by omega
  rw [List.take_succ_eq_append_getElem hk, List.take_succ_eq_append_getElem hm, h]
  rw [List.getD_eq_getElem?_getD, List.getD_eq_getElem?_getD, List.getElem?_eq_getElem hk, List.getElem?_eq_getElem hm] at he
  have he' : ls[k] = ms[k] := he
  rw [he']
set_option maxHeartbeats 4000000 in
set_option maxRecDepth 100000 in
theorem same_any (A B : Option Addr) (ls ms : List ByteArray) (ca cb : Nat) (w : World) (ha : ls.length ≤ 281474976710656) (hb : ms.length ≤ 281474976710656) (HA : Hid (rdS w A ls)) (HB : Hid (rdS w B ms)) :
    Calls Try.prog 16 #[.slice A ls.length ca, .slice B ms.length cb] w fun e w' => e = .returned (.bool (decide (ls = ms))) ∧ ∃ n, w' = w.drewN n := by
  by_cases hl : ls.length = ms.length
  case neg =>
    have hne : decide (ls = ms) = false := by
      rw [decide_eq_false_iff_not]
      intro e
      exact hl (by rw [e])
    rw [hne]
    have e1 : ((ls.length : Int) == ms.length) = false := by rw [beq_eq_false_iff_ne]; omega
    have e2 : ((ls.length : Int) != ms.length) = true := by rw [bne, e1]; rfl
    clear hne
    go_enter Try.func16, Try.ntmps16
    go_wp2_with (fail)
    go_ret
    exact ⟨rfl, 0, rfl⟩
  have HL := Lib.hid hl
  have e1 : ((ls.length : Int) == ms.length) = true := by rw [beq_iff_eq]; omega
  have e2 : ((ls.length : Int) != ms.length) = false := by rw [bne, e1]; rfl
  clear hl
  go_enter Try.func16, Try.ntmps16
  go_wp2_with (fail)
  go_loopw [5] (fun i wr => ∃ k n : Nat, i = .int .i64 k ∧ k ≤ ls.length ∧ Hid (ls.take k = ms.take k) ∧ wr = w.drewN n) (fun i _ => ls.length - (intOf i).toNat)
  case atStart => exact ⟨0, 0, rfl, Nat.zero_le _, Lib.hid (by simp), rfl⟩
  case round =>
    obtain ⟨k, n, rfl, hk, HE, rfl⟩ := hrel
    by_cases hlt : k < ls.length
    · obtain ⟨g, o, rfl, hc⟩ := HA.out k hlt
      obtain ⟨g', o', rfl, hc'⟩ := HB.out k (by have := HL.out; omega)
      have k1 : (0 : Int) ≤ ↑k := by omega
      have k2 : (↑k : Int) < ↑ls.length := by omega
      have k3 : (↑k : Int) < ↑ms.length := by have := HL.out; omega
      have k4 : k < ms.length := by have := HL.out; omega
      generalize hx : ls.getD k ByteArray.empty = x at hc
      generalize hy : ms.getD k ByteArray.empty = y at hc'
      have HX := Lib.hid hx
      have HY := Lib.hid hy
      clear hx hy
      by_cases hxy : x = y
      · have g1 : (x.toList == y.toList) = true := by rw [hxy]; simp
        have g2 : (x.toList != y.toList) = false := by rw [bne, g1]; rfl
        have HXY := Lib.hid hxy
        clear hxy
        go_wp2_with (fail)
        go_quiet (fail)
        go_wp2
        go_roundw
        case rel => exact ⟨k + 1, _, by go_num, by omega, Lib.hid (take_next ls ms k HL.out hlt HE.out (by rw [HX.out, HY.out, HXY.out])), rfl⟩
        case measure => simp [intOf]; omega
      · have g1 : (x.toList == y.toList) = false := by rw [beq_eq_false_iff_ne]; exact fun e => hxy (toList_inj e)
        have g2 : (x.toList != y.toList) = true := by rw [bne, g1]; rfl
        have HXY := Lib.hid hxy
        clear hxy
        go_wp2_with (fail)
        go_quiet (fail)
        go_wp2
        go_ret
        refine ⟨ret_bool ?_, _, World.drewN_drewN _ _ _⟩
        symm
        rw [decide_eq_false_iff_not]
        intro e
        apply HXY.out
        rw [← HX.out, ← HY.out, e]
    · have hd : decide (k < ls.length) = false := by simpa using hlt
      go_wp2_with (fail)
      go_ret
      refine ⟨ret_bool ?_, _, rfl⟩
      symm
      rw [decide_eq_true_iff]
      have := HE.out
      rwa [List.take_of_length_le (by omega), List.take_of_length_le (by have := HL.out; omega)] at this

theorem own_rdS {w w2 : World} {B n c : Nat} {A : Option Addr} {ps : List Bs} (h : w.ownsRow B 9 1 (.slice A n c) n (ps.map strV)) (hb : Below w.heap.size w w2) : rdS w2 A (ps.map mk) := by
  intro k hk
  have hkl : k < ps.length := by simpa using hk
  have hn : n = ps.length := by have := h.1; simp at this; omega
  obtain ⟨g, cap, e, _, hlt, hc⟩ := own_cell h (by omega)
  injection e with e1 e2 e3
  subst e1
  refine ⟨g, 0, rfl, ?_⟩
  rw [hb.cell (p := ⟨g, 0 + k, none⟩) hlt, Nat.zero_add, hc k (strV ps[k]) (by simp [hkl])]
  rw [List.getD_eq_getElem?_getD, List.getElem?_map, List.getElem?_eq_getElem hkl]
  rfl
theorem refMethod_r (s : ByteArray) (r : Option (List Bs × Bs)) (w : World) (h : Hid (metB s.data.toList = r)) (hs : Hid (s.size ≤ 281474976710656)) :
    Calls Try.prog 15 #[.string s] w fun e w' => MetOut w.heap.size r w e w' := by
  rw [← h.out]
  exact refMethod_any s w hs.out
theorem parm_count {s : Bs} {acc ps : List Bs} {r : Bs} (h0 : acc.length ≤ 20) (h : parm s acc = some (ps, r)) : ps.length ≤ 20 :=
  parm_ind (fun _ a => a.length ≤ 20) (fun a _ => a.length ≤ 20) (fun _ _ _ ht => ht) (fun t a _ _ h4 ht => by simp; omega) s.length s acc (Nat.le_refl _) h0 ps r h
theorem metB_inv {s : Bs} {ps : List Bs} {r : Bs} (h : metB s = some (ps, r)) : s.head? = some 40 ∧ parm (s.drop 1) [] = some (ps, r) ∧ (r = [86] ∨ typeB r = true) := by
  unfold metB at h
  split at h
  · rename_i h0
    cases hp : parm (s.drop 1) [] with
    | none => rw [hp] at h; cases h
    | some pr =>
      obtain ⟨ps', r'⟩ := pr
      rw [hp] at h
      simp only at h
      split at h
      · rename_i h1
        cases h
        exact ⟨h0, rfl, h1⟩
      · cases h
  · cases h
theorem same_own (A B : Option Addr) (ps : List Bs) (ca cb : Nat) (w : World) (hn : Hid (ps.length ≤ 20)) (HA : Hid (rdS w A (ps.map mk))) (HB : Hid (rdS w B (ps.map mk))) :
    Calls Try.prog 16 #[.slice A ps.length ca, .slice B ps.length cb] w fun e w' => e = .returned (.bool true) ∧ ∃ n, w' = w.drewN n := by
  have hl : (ps.map mk).length = ps.length := by simp
  have := same_any A B (ps.map mk) (ps.map mk) ca cb w (by have := hn.out; omega) (by have := hn.out; omega) HA HB
  rw [hl, decide_eq_true rfl] at this
  exact this
theorem bytes_self (x : ByteArray) : (x.toList == x.toList) = true := by simp
set_option maxHeartbeats 4000000 in
set_option maxRecDepth 100000 in
theorem DescMethods_walk (s : ByteArray) (w : World) (hs : s.size ≤ 281474976710656) :
    Calls Try.prog 4 #[.string s] w fun e w' => e = .returned (.bool true) ∧ Below w.heap.size w w' := by
  by_cases h3 : 3000 < s.size
  · go_enter Try.func4, Try.ntmps4
    go_wp2_with (first | (go_at_call 9; refine (holds_any _).mono ?_; rintro e w1 ⟨rfl, hb⟩; have HB := Lib.hid hb; clear hb))
    go_ret
    exact ⟨rfl, HB.out⟩
  have HS : Hid (s.size ≤ 281474976710656) := Lib.hid hs
  have HM : Hid (s.size ≤ maxLen) := Lib.hid (by unfold maxLen; omega)
  clear hs
  cases hm : metB s.data.toList
  case none =>
    have H := Lib.hid hm
    clear hm
    go_enter Try.func4, Try.ntmps4
    go_wp2_with (first | (go_at_call 9; refine (holds_any _).mono ?_; rintro e w1 ⟨rfl, hb⟩; have HB := Lib.hid hb; clear hb) | (go_at_call 14; (with_reducible refine (method_r _ _ _ H HM).mono ?_); rintro e w2 ⟨hb, rfl⟩; have HB2 := Lib.hid hb; clear hb) | (go_at_call 15; (with_reducible refine (refMethod_r _ _ _ H HS).mono ?_); rintro e w3 ⟨hb, rfl⟩; have HB3 := Lib.hid hb; clear hb) | (go_at_call 16; refine (same_any none none [] [] 0 0 _ (by simp) (by simp) (Lib.hid (fun _ h => absurd h (by simp))) (Lib.hid (fun _ h => absurd h (by simp)))).mono ?_; rintro e w4 ⟨rfl, n, rfl⟩))
    go_ret
    exact ⟨by simp, below_drewN ((HB.out.trans (HB2.out.mono HB.out.size)).trans (HB3.out.mono (Nat.le_trans HB.out.size HB2.out.size))) n⟩
  case some pr =>
    obtain ⟨ps, r⟩ := pr
    have H := Lib.hid hm
    have HN : Hid (ps.length ≤ 20) := Lib.hid (parm_count (by simp) (metB_inv hm).2.1)
    clear hm
    have hself := bytes_self (mk r)
    generalize hq : mk r = q at hself
    have HQ := Lib.hid hq
    clear hq
    go_enter Try.func4, Try.ntmps4
    go_wp2_with (first | (go_at_call 9; refine (holds_any _).mono ?_; rintro e w1 ⟨rfl, hb⟩; have HB := Lib.hid hb; clear hb) | (go_at_call 14; (with_reducible refine (method_r _ _ _ H HM).mono ?_); rintro e w2 ⟨hb, v, rfl, ho⟩; rw [HQ.out]; have HB2 := Lib.hid hb; clear hb; obtain ⟨A1, c1, rfl⟩ := own_form ho; have HO := Lib.hid ho; clear ho) | (go_at_call 15; (with_reducible refine (refMethod_r _ _ _ H HS).mono ?_); rintro e w3 ⟨hb, v, rfl, ho⟩; rw [HQ.out]; have HB3 := Lib.hid hb; clear hb; obtain ⟨A2, c2, rfl⟩ := own_form ho; have HO2 := Lib.hid ho; clear ho))
    refine (same_own A1 A2 ps c1 c2 _ HN (Lib.hid (own_rdS HO.out HB3.out)) (Lib.hid (own_rdS HO2.out (Below.refl _ _)))).mono ?_
    rintro e w4 ⟨rfl, n, rfl⟩
    go_wp2
    go_ret
    exact ⟨rfl, below_drewN ((HB.out.trans (HB2.out.mono HB.out.size)).trans (HB3.out.mono (Nat.le_trans HB.out.size HB2.out.size))) n⟩
end Go.Proofs.Ytmbnmjmlfbkjjaa
