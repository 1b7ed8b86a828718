/- The walk of DescWhole, for texts that together are short. -/
import Derived.Test.YtmbnmjmlfbkjjaaDescLimits
import Derived.Deep.DeepCutAuto
import Derived.Tactics2
namespace Go.Proofs.Ytmbnmjmlfbkjjaa
open Go.RowKit Go
set_option linter.unusedVariables false

theorem join_flat (xs : List Bs) : Lib.join xs [] = xs.flatten := by
  cases xs with
  | nil => rfl
  | cons x r =>
    rw [Lib.join_cons, List.flatten_cons]
    congr 1
    unfold Lib.joinTail
    congr 1
    simp
def flat (ls : List ByteArray) : Bs := (ls.map (·.data.toList)).flatten
theorem cell_lt {w : World} {g o : Nat} {v : Value} (h : w.cell? ⟨g, o, none⟩ = some v) : g < w.heap.size := by
  rcases Nat.lt_or_ge g w.heap.size with hlt | hge
  · exact hlt
  · exfalso
    unfold World.cell? at h
    rw [Array.getElem?_eq_none hge] at h
    cases h
theorem rdS_below {w w' : World} {A : Option Addr} {ls : List ByteArray} (h : rdS w A ls) (hb : Below w.heap.size w w') : rdS w' A ls := by
  intro k hk
  obtain ⟨g, o, e, hc⟩ := h k hk
  exact ⟨g, o, e, (hb.cell (p := ⟨g, o + k, none⟩) (cell_lt hc)).trans hc⟩
theorem own_cap {w : World} {B e n c : Nat} {A : Option Addr} {xs : List Value} (h : w.ownsRow B e 1 (.slice A n c) n xs) : n ≤ c := by
  rcases h.2 with ⟨_, rfl⟩ | ⟨g, cap, cur, e, _, _, hc, _⟩
  · omega
  · injection e with _ _ e3
    omega
set_option maxHeartbeats 1000000 in
theorem join_any (A : Option Addr) (c : Nat) (ls : List ByteArray) (J : ByteArray) (w : World) (HA : Hid (rdS w A ls)) (hc : Hid (ls.length ≤ c)) (hn : Hid (ls.length ≤ 140737488355328)) (hJ : Hid (mk (flat ls) = J)) (hsz : Hid (J.size ≤ 140737488355328)) :
    Calls Try.prog 25 #[.slice A ls.length c, .string ⟨#[]⟩] w fun e w' => e = .returned (.string J) ∧ Below w.heap.size w w' := by
  rw [← hJ.out]
  by_cases h0 : ls.length = 0
  · have : ls = [] := List.length_eq_zero_iff.1 h0
    subst this
    refine (Try.strings_Join_none A c ⟨#[]⟩ w).mono ?_
    rintro e w' ⟨rfl, rfl⟩
    exact ⟨rfl, Below.refl _ _⟩
  · obtain ⟨g, o, rfl, hc0⟩ := HA.out 0 (by omega)
    have hf : Lib.join (ls.map (·.data.toList)) (⟨#[]⟩ : ByteArray).data.toList = flat ls := join_flat _
    have hl : (Lib.join (ls.map (·.data.toList)) (⟨#[]⟩ : ByteArray).data.toList).length ≤ 140737488355328 := by
      rw [hf]
      have := hsz.out
      rw [← hJ.out, mk_size] at this
      exact this
    refine (Try.strings_Join g o c ls ⟨#[]⟩ w ?_ (cell_lt hc0) hn.out hc.out hl).mono ?_
    · intro j x hx
      have hj : j < ls.length := (List.getElem?_eq_some_iff.1 hx).1
      obtain ⟨g', o', e', hcj⟩ := HA.out j hj
      cases e'
      rw [hcj, List.getD_eq_getElem?_getD, hx]
      rfl
    · rintro e w' ⟨rfl, hb⟩
      exact ⟨by rw [hf], hb⟩

theorem parm_flat {s0 s : Bs} {acc ps : List Bs} {r : Bs} (h0 : acc.flatten ++ s = s0) (h : parm s acc = some (ps, r)) : ps.flatten ++ 41 :: r = s0 := by
  refine parm_ind (fun t a => a.flatten ++ t = s0) (fun a r => a.flatten ++ 41 :: r = s0) ?_ ?_ s.length s acc (Nat.le_refl _) h0 ps r h
  · intro t a ht hp
    rw [← hp]
    cases t with
    | nil => simp at ht
    | cons c q => simp at ht; subst ht; rfl
  · intro t a _ _ _ hp
    rw [← hp]
    simp
theorem met_flat {s : Bs} {ps : List Bs} {r : Bs} (h : metB s = some (ps, r)) : 40 :: ps.flatten ++ 41 :: r = s := by
  obtain ⟨h1, h2, _⟩ := metB_inv h
  have := parm_flat (s0 := s.drop 1) (by simp) h2
  rw [List.cons_append, this]
  cases s with
  | nil => simp at h1
  | cons c q => simp at h1; subst h1; rfl
theorem parm_all (q : Bs) : ∀ (ls acc : List Bs), (∀ x ∈ ls, typeB x = true) → acc.length + ls.length ≤ 20 →
    parm (ls.flatten ++ 41 :: q) acc = some (acc ++ ls, q)
  | [], acc, _, _ => by simpa using parm_end (s := 41 :: q) acc rfl
  | t :: ls, acc, h, hl => by
    have ht := h t (by simp)
    have e : (t :: ls).flatten ++ 41 :: q = t ++ (ls.flatten ++ 41 :: q) := by simp
    rw [e]
    have h1 := type_head t (ls.flatten ++ 41 :: q) ht
    have h2 := type_tlen t (ls.flatten ++ 41 :: q) ht
    simp at hl
    rw [parm_on h1 h2.1 (by omega), ← h2.2, List.drop_left' rfl, List.take_left' rfl, parm_all q ls _ (fun x hx => h x (by simp [hx])) (by simp; omega)]
    simp
theorem met_all (ls : List Bs) (r : Bs) (h : ∀ x ∈ ls, typeB x = true) (hl : ls.length ≤ 20) (hr : r = [86] ∨ typeB r = true) : metB (40 :: ls.flatten ++ 41 :: r) = some (ls, r) := by
  have hp := parm_all r ls [] h (by simpa using hl)
  rw [List.nil_append] at hp
  exact metB_some rfl hp hr

/-- what the statement's ok is, ahead of element k -/
def okF (ls : List ByteArray) (ret : ByteArray) (k : Nat) : Bool :=
  (decide (ls.length ≤ 20) && (ret.toList == [86] || typeB ret.data.toList)) && (ls.take k).all (fun x => typeB x.data.toList)
theorem okF_next (ls : List ByteArray) (ret : ByteArray) (k : Nat) (hk : k < ls.length) : okF ls ret (k + 1) = (okF ls ret k && typeB (ls.getD k ByteArray.empty).data.toList) := by
  unfold okF
  rw [List.take_succ_eq_append_getElem hk, List.all_append]
  have : ls.getD k ByteArray.empty = ls[k] := by rw [List.getD_eq_getElem?_getD, List.getElem?_eq_getElem hk]; rfl
  rw [this]
  simp [Bool.and_assoc]
theorem okF_met (ls : List ByteArray) (ret : ByteArray) (h : okF ls ret ls.length = true) : ls.length ≤ 20 ∧ metB (40 :: flat ls ++ 41 :: ret.data.toList) = some (ls.map (·.data.toList), ret.data.toList) := by
  unfold okF at h
  simp only [Bool.and_eq_true, decide_eq_true_eq, Bool.or_eq_true, beq_iff_eq, List.all_eq_true, List.take_length] at h
  obtain ⟨⟨h1, h2⟩, h3⟩ := h
  refine ⟨h1, met_all _ _ ?_ (by simpa using h1) ?_⟩
  · intro x hx
    obtain ⟨y, hy, rfl⟩ := List.mem_map.1 hx
    exact h3 y hy
  · rcases h2 with h2 | h2
    · exact .inl (by rwa [Lib.toList_data] at h2)
    · exact .inr h2
theorem sum_app (J ret : ByteArray) : (⟨#[40]⟩ ++ J ++ ⟨#[41]⟩ ++ ret : ByteArray).data.toList = 40 :: J.data.toList ++ 41 :: ret.data.toList := by simp
theorem sum_size (J ret : ByteArray) : (⟨#[40]⟩ ++ J ++ ⟨#[41]⟩ ++ ret : ByteArray).size = J.size + ret.size + 2 := by
  rw [← size_len, sum_app, List.length_append, List.length_cons, List.length_cons, size_len, size_len]
  omega

theorem flat_part : ∀ (ls : List ByteArray) (k : Nat), k < ls.length → (ls.getD k ByteArray.empty).size ≤ (flat ls).length
  | [], k, h => by simp at h
  | x :: ls, 0, _ => by
    unfold flat
    simp
  | x :: ls, k + 1, h => by
    have := flat_part ls k (by simpa using h)
    unfold flat at this ⊢
    simp only [List.getD_cons_succ, List.map_cons, List.flatten_cons, List.length_append]
    omega
theorem flat_mk (ps : List Bs) : flat (ps.map mk) = ps.flatten := by
  unfold flat
  rw [List.map_map]
  congr 1
  simp [Function.comp_def]
theorem map_mk (ls : List ByteArray) : (ls.map (·.data.toList)).map mk = ls := by
  rw [List.map_map]
  conv => rhs; rw [← List.map_id ls]
  apply List.map_congr_left
  intro x _
  exact Lib.mk_data x
theorem join_own (A : Option Addr) (c : Nat) (ps : List Bs) (J : ByteArray) (w : World) (HA : Hid (rdS w A (ps.map mk))) (hc : Hid (ps.length ≤ c)) (hn : Hid (ps.length ≤ 140737488355328)) (hJ : Hid (mk ps.flatten = J)) (hsz : Hid (J.size ≤ 140737488355328)) :
    Calls Try.prog 25 #[.slice A ps.length c, .string ⟨#[]⟩] w fun e w' => e = .returned (.string J) ∧ Below w.heap.size w w' := by
  have hl : (ps.map mk).length = ps.length := by simp
  have := join_any A c (ps.map mk) J w HA (by rw [hl]; exact hc) (by rw [hl]; exact hn) (by rw [flat_mk]; exact hJ) hsz
  rwa [hl] at this
theorem join_own2 (A : Option Addr) (c : Nat) (ls : List ByteArray) (J : ByteArray) (w : World) (HA : Hid (rdS w A ls)) (hc : Hid (ls.length ≤ c)) (hn : Hid (ls.length ≤ 140737488355328)) (hJ : Hid (mk (flat ls) = J)) (hsz : Hid (J.size ≤ 140737488355328)) :
    Calls Try.prog 25 #[.slice A ls.length c, .string ⟨#[]⟩] w fun e w' => e = .returned (.string J) ∧ Below w.heap.size w w' := join_any A c ls J w HA hc hn hJ hsz
theorem same_same (A B : Option Addr) (ls : List ByteArray) (ca cb : Nat) (w : World) (hn : Hid (ls.length ≤ 281474976710656)) (HA : Hid (rdS w A ls)) (HB : Hid (rdS w B ls)) :
    Calls Try.prog 16 #[.slice A ls.length ca, .slice B ls.length cb] w fun e w' => e = .returned (.bool true) ∧ ∃ n, w' = w.drewN n := by
  have := same_any A B ls ls ca cb w hn.out hn.out HA HB
  rw [decide_eq_true rfl] at this
  exact this
set_option maxHeartbeats 32000000 in
set_option maxRecDepth 100000 in
theorem DescWhole_walk (A : Option Addr) (c : Nat) (ls : List ByteArray) (ret : ByteArray) (w : World) (hA : rdS w A ls) (hc : ls.length ≤ c) (hn : ls.length ≤ 1048576) (hJ : (flat ls).length ≤ 1048576) (hr : ret.size ≤ 1048576) :
    Calls Try.prog 6 #[.slice A ls.length c, .string ret] w fun e w' => e = .returned (.bool true) ∧ Below w.heap.size w w' := by
  obtain ⟨J, hj⟩ : ∃ J, mk (flat ls) = J := ⟨_, rfl⟩
  have hjs : J.size ≤ 1048576 := by rw [← hj, mk_size]; exact hJ
  have HA := Lib.hid hA
  have HC := Lib.hid hc
  have HJ := Lib.hid hj
  have HN1 : Hid (ls.length ≤ 140737488355328) := Lib.hid (by omega)
  have HJ1 : Hid (J.size ≤ 140737488355328) := Lib.hid (by omega)
  have HMR : Hid (ret.size ≤ maxLen) := Lib.hid (by unfold maxLen; omega)
  have HF := Lib.hid hJ
  clear hA hc hj hJ
  have b1 : ¬ 9223372036854775807 < 1 + J.size := by omega
  have b2 : ¬ 9223372036854775807 < 1 + J.size + 1 := by omega
  have b3 : ¬ 9223372036854775807 < 1 + J.size + 1 + ret.size := by omega
  go_enter Try.func6, Try.ntmps6
  go_upto_region 4 with (first | (go_at_call 9; refine (holds_any _).mono ?_; rintro e w1 ⟨rfl, hb⟩; have HB := Lib.hid hb; clear hb) | (go_at_call 25; (with_reducible refine (join_any A c ls J _ (Lib.hid (rdS_below HA.out HB.out)) HC HN1 HJ HJ1).mono ?_); rintro e w2 ⟨rfl, hb⟩; have HB2 : Hid (Below _ _ _) := Lib.hid (HB.out.trans (hb.mono HB.out.size)); clear hb))
  go_cut [6] (fun t wx => t = .bool (okF ls ret 0) ∧ ∃ n, wx = w2.drewN n)
  case first =>
    by_cases h20 : ls.length ≤ 20
    · have g20 : decide (ls.length ≤ 20) = true := decide_eq_true h20
      cases hV : (ret.toList == [86])
      · cases hT : typeB ret.data.toList
        all_goals
          have HT := Lib.hid hT
          have HV := Lib.hid hV
          clear hT
          go_wp2_with (first | (go_at_call 12; (with_reducible refine (type_r _ _ _ HMR HT).mono ?_); rintro e w' ⟨rfl, nd, rfl⟩))
          go_meet
          exact ⟨by unfold okF; rw [HV.out, HT.out, decide_eq_true h20]; simp, _, rfl⟩
      · have HV := Lib.hid hV
        go_wp2_with (fail)
        go_meet
        exact ⟨by unfold okF; rw [HV.out, decide_eq_true h20]; simp, 0, rfl⟩
    · have g20 : decide (ls.length ≤ 20) = false := decide_eq_false h20
      go_wp2_with (fail)
      go_meet
      exact ⟨by unfold okF; rw [decide_eq_false h20]; simp, 0, rfl⟩
  case rest =>
    obtain ⟨rfl, n0, rfl⟩ := hcut
    obtain ⟨b0, hb0⟩ : ∃ b, okF ls ret 0 = b := ⟨_, rfl⟩
    rw [hb0]
    have HB0 := Lib.hid hb0
    clear hb0
    go_wp2_with (fail)
    go_loopw [6, 33] (fun o i wr => ∃ (k nd : Nat) (b : Bool), i = .int .i64 k ∧ o = .bool b ∧ k ≤ ls.length ∧ Hid (okF ls ret k = b) ∧ wr = w2.drewN nd) (fun _ i _ => ls.length - (intOf i).toNat)
    case atStart => exact ⟨0, n0, b0, rfl, rfl, Nat.zero_le _, HB0, rfl⟩
    case round =>
      obtain ⟨k, nd0, b, rfl, rfl, hk, HO, rfl⟩ := hrel
      by_cases hlt : k < ls.length
      · obtain ⟨g, o, rfl, hcell⟩ := HA.out k hlt
        obtain ⟨g', o', hoo, hcell2⟩ := rdS_below HA.out HB2.out k hlt
        cases hoo
        clear hcell
        have k1 : (0 : Int) ≤ ↑k := by omega
        have k2 : (↑k : Int) < ↑ls.length := by omega
        have HNX := Lib.hid (okF_next ls ret k hlt)
        generalize hx : ls.getD k ByteArray.empty = x at hcell2
        have HX := Lib.hid hx
        have hxs : x.size ≤ maxLen := by
          have h1 := flat_part ls k hlt
          rw [hx] at h1
          have h2 := HF.out
          unfold maxLen
          omega
        have HXS := Lib.hid hxs
        clear hx hxs
        cases b
        · go_wp2_with (fail)
          go_roundw
          case rel => exact ⟨k + 1, nd0, false, by go_num, rfl, by omega, Lib.hid (by rw [HNX.out, HO.out]; rfl), rfl⟩
          case measure => simp [intOf]; omega
        · cases hT : typeB x.data.toList
          all_goals
            have HT := Lib.hid hT
            clear hT
            go_wp2_with (first | (go_at_call 12; (with_reducible refine (type_r _ _ _ HXS HT).mono ?_); rintro e w' ⟨rfl, nd, rfl⟩))
            go_roundw
            case rel => exact ⟨k + 1, _, _, by go_num, rfl, by omega, Lib.hid (by rw [HNX.out, HO.out, HX.out, HT.out]; rfl), rfl⟩
            case measure => simp [intOf]; omega
      · have hke : k = ls.length := by omega
        subst hke
        have hd : decide (ls.length < ls.length) = false := by simp
        have hJ2 : J.data.toList = flat ls := by rw [← HJ.out, mk_list]
        have hDt := sum_app J ret
        rw [hJ2] at hDt
        have hDs := sum_size J ret
        have HSD : Hid ((⟨#[40]⟩ ++ J ++ ⟨#[41]⟩ ++ ret : ByteArray).size ≤ maxLen) := Lib.hid (by rw [hDs]; unfold maxLen; omega)
        have hself := bytes_self (⟨#[40]⟩ ++ J ++ ⟨#[41]⟩ ++ ret : ByteArray)
        have hselfn : ((⟨#[40]⟩ ++ J ++ ⟨#[41]⟩ ++ ret : ByteArray).toList != (⟨#[40]⟩ ++ J ++ ⟨#[41]⟩ ++ ret : ByteArray).toList) = false := by rw [bne, hself]; rfl
        have hret := bytes_self ret
        have HD := Lib.hid hDt
        have HDS := Lib.hid hDs
        clear hJ2 hDt hDs
        have hbw : w.heap.size ≤ w2.heap.size := HB2.out.size
        cases b
        · cases hm : metB (⟨#[40]⟩ ++ J ++ ⟨#[41]⟩ ++ ret : ByteArray).data.toList
          case none =>
            have HM := Lib.hid hm
            clear hm
            go_wp2_with (first | (go_at_call 14; (with_reducible refine (method_r _ _ _ HM HSD).mono ?_); rintro e w3 ⟨hb, rfl⟩; have HB3 : Hid (Below _ _ _) := Lib.hid ((below_drewN HB2.out nd0).trans (hb.mono hbw)); clear hb))
            go_ret
            exact ⟨rfl, HB3.out⟩
          case some pr =>
            obtain ⟨ps, r⟩ := pr
            have HM := Lib.hid hm
            have hfl := met_flat hm
            have hct := parm_count (by simp) (metB_inv hm).2.1
            obtain ⟨J2, hJ2⟩ : ∃ J2, mk ps.flatten = J2 := ⟨_, rfl⟩
            obtain ⟨q, hq⟩ : ∃ q, mk r = q := ⟨_, rfl⟩
            have heq : (⟨#[40]⟩ ++ J2 ++ ⟨#[41]⟩ ++ q : ByteArray) = (⟨#[40]⟩ ++ J ++ ⟨#[41]⟩ ++ ret : ByteArray) := by
              rw [← Lib.mk_data (⟨#[40]⟩ ++ J2 ++ ⟨#[41]⟩ ++ q : ByteArray), sum_app, ← hJ2, ← hq, mk_list, mk_list, hfl, Lib.mk_data]
            have hsz := congrArg ByteArray.size heq
            rw [sum_size, sum_size] at hsz
            have hne : ((⟨#[40]⟩ ++ J2 ++ ⟨#[41]⟩ ++ q : ByteArray).toList != (⟨#[40]⟩ ++ J ++ ⟨#[41]⟩ ++ ret : ByteArray).toList) = false := by rw [heq]; exact hselfn
            have hne1 : ((⟨#[40]⟩ ++ J2 ++ ⟨#[41]⟩ ++ q : ByteArray).toList == (⟨#[40]⟩ ++ J ++ ⟨#[41]⟩ ++ ret : ByteArray).toList) = true := by rw [heq]; exact hself
            have d1 : ¬ 9223372036854775807 < 1 + J2.size := by omega
            have d2 : ¬ 9223372036854775807 < 1 + J2.size + 1 := by omega
            have d3 : ¬ 9223372036854775807 < 1 + J2.size + 1 + q.size := by omega
            have HQ := Lib.hid hq
            have HJ2 := Lib.hid hJ2
            have HL1 : Hid (ps.length ≤ 140737488355328) := Lib.hid (by omega)
            have HS2 : Hid (J2.size ≤ 140737488355328) := Lib.hid (by omega)
            clear hm hfl hct hq hJ2 heq hsz
            go_wp2_with (first | (go_at_call 14; (with_reducible refine (method_r _ _ _ HM HSD).mono ?_); rintro e w3 ⟨hb, v, rfl, ho⟩; have HB3 : Hid (Below _ _ _) := Lib.hid ((below_drewN HB2.out nd0).trans (hb.mono hbw)); clear hb; rw [HQ.out]; obtain ⟨A1, c1, rfl⟩ := own_form ho; have HR1 := Lib.hid (own_rdS ho (Below.refl _ _)); have HC1 := Lib.hid (own_cap ho); clear ho) | (go_at_call 25; (with_reducible refine (join_own A1 c1 _ J2 _ HR1 HC1 HL1 HJ2 HS2).mono ?_); rintro e w4 ⟨rfl, hb⟩; have HB4 : Hid (Below _ _ _) := Lib.hid (HB3.out.trans (hb.mono HB3.out.size)); clear hb))
            go_ret
            exact ⟨rfl, HB4.out⟩
        · obtain ⟨h20, hm⟩ := okF_met ls ret HO.out
          rw [← HD.out] at hm
          have HM := Lib.hid hm
          have HL1 : Hid (ls.length ≤ 140737488355328) := Lib.hid (by omega)
          have hl281 : ls.length ≤ 281474976710656 := by omega
          have HL2 := Lib.hid hl281
          clear hm hl281
          go_wp2_with (first | (go_at_call 14; (with_reducible refine (method_r _ _ _ HM HSD).mono ?_); rintro e w3 ⟨hb, v, rfl, ho⟩; have HB3 : Hid (Below _ _ _) := Lib.hid ((below_drewN HB2.out nd0).trans (hb.mono hbw)); clear hb; rw [show mk ret.data.toList = ret from Lib.mk_data ret]; rw [List.length_map] at ho; obtain ⟨A1, c1, rfl⟩ := own_form ho; have HR1 : Hid (rdS w3 A1 ls) := Lib.hid (by have h := own_rdS ho (Below.refl _ _); rwa [map_mk] at h); have HC1 := Lib.hid (own_cap ho); clear ho) | (go_at_call 25; (with_reducible refine (join_own2 A1 c1 ls J _ HR1 HC1 HL1 HJ HJ1).mono ?_); rintro e w4 ⟨rfl, hb⟩; have HB4 : Hid (Below _ _ _) := Lib.hid (HB3.out.trans (hb.mono HB3.out.size)); have HR2 := Lib.hid (rdS_below HR1.out hb); have HA2 := Lib.hid (rdS_below HA.out HB4.out); clear hb) | (go_at_call 16; (with_reducible refine (same_same A A1 ls c c1 _ HL2 HA2 HR2).mono ?_); rintro e w5 ⟨rfl, n5, rfl⟩))
          go_ret
          exact ⟨rfl, below_drewN HB4.out n5⟩
end Go.Proofs.Ytmbnmjmlfbkjjaa
