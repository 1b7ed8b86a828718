/- The walk of DescLimits. -/
import Derived.Test.YtmbnmjmlfbkjjaaDescArrays
namespace Go.Proofs.Ytmbnmjmlfbkjjaa
open Go.RowKit Go
set_option linter.unusedVariables false

theorem type_size (l : Bs) (h : typeB l = true) : l.length ≤ 70 := by
  obtain ⟨k, hk, p, hp, rfl⟩ := (type_iff l).1 h
  rcases hp with rfl | rfl | ⟨nm, hn, rfl⟩
  · simp; omega
  · simp; omega
  · have := name_len nm _ hn
    simp
    omega
theorem type_head (l q : Bs) (h : typeB l = true) : (l ++ q).head? ≠ some 41 := by
  obtain ⟨k, hk, p, hp, rfl⟩ := (type_iff l).1 h
  cases k with
  | succ k => simp [List.replicate_succ]
  | zero =>
    rcases hp with rfl | rfl | ⟨nm, hn, rfl⟩ <;> simp
theorem type_tlen (l q : Bs) (h : typeB l = true) : tlen (l ++ q) ≠ 0 ∧ l.length = tlen (l ++ q) := by
  rw [tlen_iff]
  obtain ⟨k, hk, p, hp, rfl⟩ := (type_iff l).1 h
  exact ⟨k, hk, p, q, hp, rfl, by simp⟩
theorem parm_rep (t : Bs) (h : typeB t = true) (q : Bs) (hq : q.head? = some 41) : ∀ (m : Nat) (acc : List Bs), acc.length ≤ 20 →
    parm (Lib.repeatL t m ++ q) acc = if acc.length + m ≤ 20 then some (acc ++ List.replicate m t, q.drop 1) else none
  | 0, acc, ha => by
    rw [if_pos (by omega)]
    simpa [Lib.repeatL] using parm_end acc hq
  | m + 1, acc, ha => by
    have e : Lib.repeatL t (m + 1) ++ q = t ++ (Lib.repeatL t m ++ q) := by
      have := Lib.repeatL_add t 1 m
      rw [Lib.repeatL_one] at this
      rw [show m + 1 = 1 + m by omega, this, List.append_assoc]
    rw [e]
    have h1 := type_head t (Lib.repeatL t m ++ q) h
    have h2 := type_tlen t (Lib.repeatL t m ++ q) h
    by_cases h20 : acc.length = 20
    · rw [parm_no h1 (.inr h20), if_neg (by omega)]
    · rw [parm_on h1 h2.1 h20, ← h2.2]
      rw [List.drop_left' rfl, List.take_left' rfl, parm_rep t h q hq m _ (by simp; omega)]
      by_cases hc : acc.length + (m + 1) ≤ 20
      · rw [if_pos hc, if_pos (by simp; omega), List.append_assoc]
        rfl
      · rw [if_neg hc, if_neg (by simp; omega)]
theorem met_rep (t : Bs) (h : typeB t = true) (m : Nat) : metB (40 :: Lib.repeatL t m ++ 41 :: t) = if m ≤ 20 then some (List.replicate m t, t) else none := by
  have hp := parm_rep t h (41 :: t) rfl m [] (by simp)
  simp only [List.length_nil, Nat.zero_add, List.nil_append, List.drop_succ_cons, List.drop_zero] at hp
  by_cases hm : m ≤ 20
  · rw [if_pos hm] at hp ⊢
    exact metB_some rfl hp (.inr h)
  · rw [if_neg hm] at hp ⊢
    exact metB_none hp
theorem name_rep (c : Nat) (h : 1 ≤ c) : nameB (List.replicate c 120) false = decide (c ≤ 60) := by
  unfold nameB
  have : (List.replicate c (120 : UInt8)).all (okc false) = true := by
    rw [List.all_eq_true]
    intro x hx
    rw [List.eq_of_mem_replicate hx]
    decide
  rw [this, List.length_replicate, decide_eq_true h]
  simp
theorem type_rep (c : Nat) (h : 1 ≤ c) : typeB (76 :: List.replicate c 120 ++ [59]) = decide (c ≤ 60) := by
  rw [Bool.eq_iff_iff, decide_eq_true_eq, type_iff]
  constructor
  · rintro ⟨k, hk, p, hp, he⟩
    cases k with
    | succ k => simp [List.replicate_succ] at he
    | zero =>
      simp only [List.replicate_zero, List.nil_append] at he
      rcases hp with rfl | rfl | ⟨nm, hn, rfl⟩
      · simp at he
      · simp at he
      · have := name_len nm _ hn
        have hl := congrArg List.length he
        simp at hl
        omega
  · intro hc
    exact ⟨0, by omega, _, .inr (.inr ⟨List.replicate c 120, by rw [name_rep c h, decide_eq_true hc], rfl⟩), by simp⟩
theorem repeat_i (s : ByteArray) (z : Int) (c : Nat) (R : ByteArray) (w : World) (hz : Hid (z = c)) (hR : Hid (mk (Lib.repeatL s.data.toList c) = R)) (hl : Hid (c ≤ 1000 ∧ s.size ≤ 1000)) :
    Calls Try.prog 27 #[.string s, .int .i64 z] w fun e w' => e = .returned (.string R) ∧ Below w.heap.size w w' := by
  rw [hz.out, ← hR.out]
  have h := hl.out
  have : s.size * c ≤ 1000 * 1000 := Nat.mul_le_mul h.2 h.1
  exact Try.strings_Repeat s c w (by omega) (by omega)
theorem mod40 (n : Int) : ∃ m : Nat, m < 40 ∧ (wrap64 (n.tmod 40 + 40)).tmod 40 = m := by
  have h1 := Int.tmod_lt_of_pos n (show (0 : Int) < 40 by decide)
  have h2 : -40 < n.tmod 40 := by
    have := Int.lt_tmod_of_pos n (show (0 : Int) < 40 by decide)
    omega
  have hw : wrap64 (n.tmod 40 + 40) = n.tmod 40 + 40 := by
    unfold wrap64
    omega
  rw [hw]
  have h3 := Int.tmod_lt_of_pos (n.tmod 40 + 40) (show (0 : Int) < 40 by decide)
  have h4 := Int.tmod_nonneg 40 (show 0 ≤ n.tmod 40 + 40 by omega)
  exact ⟨((n.tmod 40 + 40).tmod 40).toNat, by omega, by omega⟩
theorem met_text (s R : ByteArray) (c : Nat) (hR : mk (Lib.repeatL s.data.toList c) = R) : (⟨#[40]⟩ ++ R ++ ⟨#[41]⟩ ++ s : ByteArray).data.toList = 40 :: Lib.repeatL s.data.toList c ++ 41 :: s.data.toList := by
  subst hR
  simp
theorem rep_one (x : UInt8) (c : Nat) : Lib.repeatL [x] c = List.replicate c x := by
  have := Lib.repeatL_replicate x 1 c
  simpa using this
theorem long_text (R : ByteArray) (c : Nat) (hR : mk (List.replicate c 120) = R) : (⟨#[76]⟩ ++ R ++ ⟨#[59]⟩ : ByteArray).data.toList = 76 :: List.replicate c 120 ++ [59] := by
  subst hR
  simp
set_option maxHeartbeats 8000000 in
set_option maxRecDepth 100000 in
theorem DescLimits_walk (s : ByteArray) (n : Int) (w : World) (hs : s.size ≤ 281474976710656) :
    Calls Try.prog 8 #[.string s, .int .i64 n] w fun e w' => e = .returned (.bool true) ∧ Below w.heap.size w w' := by
  have HM : Hid (s.size ≤ maxLen) := Lib.hid (by unfold maxLen; omega)
  cases hT : typeB s.data.toList
  · have HT := Lib.hid hT
    clear hT
    go_enter Try.func8, Try.ntmps8
    go_wp2_with (first | (go_at_call 9; refine (holds_any _).mono ?_; rintro e w1 ⟨rfl, hb⟩; have HB := Lib.hid hb; clear hb) | (go_at_call 12; (with_reducible refine (type_r _ _ _ HM HT).mono ?_); rintro e w' ⟨rfl, nd, rfl⟩))
    go_ret
    exact ⟨rfl, below_drewN HB.out _⟩
  have h70 := type_size _ hT
  rw [size_len] at h70
  have HT := Lib.hid hT
  clear hs
  obtain ⟨m, hm, hE⟩ := mod40 n
  have hmet := met_rep _ hT m
  clear hT
  obtain ⟨R, hR⟩ : ∃ R, mk (Lib.repeatL s.data.toList m) = R := ⟨_, rfl⟩
  have hRs : R.size ≤ 2800 := by
    rw [← hR, mk_size, Lib.repeatL_length, size_len]
    have : m * s.size ≤ 40 * 70 := Nat.mul_le_mul (by omega) h70
    omega
  have HR1 := Lib.hid hR
  have HC1 : Hid (m ≤ 1000 ∧ s.size ≤ 1000) := Lib.hid (by omega)
  have htx := met_text s R m hR
  rw [← htx] at hmet
  have HSD : Hid ((⟨#[40]⟩ ++ R ++ ⟨#[41]⟩ ++ s : ByteArray).size ≤ maxLen) := Lib.hid (by
    rw [← size_len, htx, List.length_append, List.length_cons, List.length_cons, Lib.repeatL_length, size_len]
    have : m * s.size ≤ 40 * 70 := Nat.mul_le_mul (by omega) h70
    unfold maxLen
    omega)
  have b1 : ¬ 9223372036854775807 < 1 + R.size := by omega
  have b2 : ¬ 9223372036854775807 < 1 + R.size + 1 := by omega
  have b3 : ¬ 9223372036854775807 < 1 + R.size + 1 + s.size := by omega
  clear htx hR
  have hss := bytes_self s
  by_cases h20 : m ≤ 20
  · rw [if_pos h20] at hmet
    have HMET := Lib.hid hmet
    clear hmet
    obtain ⟨L, hL⟩ : ∃ L, mk (List.replicate (41 + m) 120) = L := ⟨_, rfl⟩
    have hLs : L.size = 41 + m := by rw [← hL, mk_size, List.length_replicate]
    have HR2 : Hid (mk (Lib.repeatL (⟨#[120]⟩ : ByteArray).data.toList (41 + m)) = L) := Lib.hid (by rw [← hL]; exact congrArg mk (rep_one 120 (41 + m)))
    have HC2 : Hid (41 + m ≤ 1000 ∧ (⟨#[120]⟩ : ByteArray).size ≤ 1000) := Lib.hid ⟨by omega, by decide⟩
    have HSL : Hid (L.size ≤ maxLen) := Lib.hid (by unfold maxLen; omega)
    have hLt := long_text L (41 + m) hL
    have hLn : nameB L.data.toList false = decide (41 + m ≤ 60) := by rw [← hL, mk_list]; exact name_rep _ (by omega)
    have hLy : typeB (⟨#[76]⟩ ++ L ++ ⟨#[59]⟩ : ByteArray).data.toList = decide (41 + m ≤ 60) := by rw [hLt]; exact type_rep _ (by omega)
    have HML : Hid ((⟨#[76]⟩ ++ L ++ ⟨#[59]⟩ : ByteArray).size ≤ maxLen) := Lib.hid (by rw [← size_len, hLt]; simp; unfold maxLen; omega)
    have c1 : ¬ 9223372036854775807 < 1 + L.size := by omega
    have c2 : ¬ 9223372036854775807 < 1 + L.size + 1 := by omega
    by_cases h60 : 41 + m ≤ 60
    all_goals
      have HNL : Hid (nameB L.data.toList false = _) := Lib.hid (hLn.trans (by first | exact decide_eq_true h60 | exact decide_eq_false h60))
      have HTL : Hid (typeB (⟨#[76]⟩ ++ L ++ ⟨#[59]⟩ : ByteArray).data.toList = _) := Lib.hid (hLy.trans (by first | exact decide_eq_true h60 | exact decide_eq_false h60))
      have hfin : decide ((L.size : Int) ≤ 60) = _ := (by first | exact decide_eq_true (by omega) | exact decide_eq_false (by omega))
      clear hLt hLn hLy hL
      have HLS := Lib.hid hLs
      clear hLs
      go_enter Try.func8, Try.ntmps8
      go_wp2_with (first | (go_at_call 9; refine (holds_any _).mono ?_; rintro e w1 ⟨rfl, hb⟩; have HB := Lib.hid hb; clear hb) | (go_at_call 12; (first | (with_reducible refine (type_r _ _ _ HML HTL).mono ?_) | (with_reducible refine (type_r _ _ _ HM HT).mono ?_)); rintro e w' ⟨rfl, nd, rfl⟩) | (go_at_call 27; (first | (with_reducible refine (repeat_i s (m : Int) m R _ (Lib.hid rfl) HR1 HC1).mono ?_) | (refine (repeat_i ⟨#[120]⟩ (41 + (m : Int)) (41 + m) L _ (Lib.hid (by omega)) HR2 HC2).mono ?_)); rintro e w2 ⟨rfl, hb⟩; first | (have HB3 : Hid (Below _ _ _) := Lib.hid (HB2.out.trans (hb.mono HB2.out.size)); clear hb) | (have HB2 : Hid (Below _ _ _) := Lib.hid ((below_drewN HB.out nd).trans (hb.mono HB.out.size)); clear hb)) | (go_at_call 14; (with_reducible refine (method_r _ _ _ HMET HSD).mono ?_); rintro e w3 ⟨hb, v, rfl, ho⟩; have HB2 : Hid (Below _ _ _) := Lib.hid (HB2.out.trans (hb.mono HB2.out.size)); clear hb; rw [show mk s.data.toList = s from Lib.mk_data s]; rw [List.length_replicate] at ho; obtain ⟨A1, k1, rfl⟩ := own_form ho; clear ho) | (go_at_call 10; (with_reducible refine (name_r _ false _ _ HNL HSL.out).mono ?_); rintro e w' ⟨rfl, rfl⟩))
      go_ret
      exact ⟨rfl, below_drewN HB3.out _⟩
  · rw [if_neg h20] at hmet
    have HMET := Lib.hid hmet
    clear hmet
    go_enter Try.func8, Try.ntmps8
    go_wp2_with (first | (go_at_call 9; refine (holds_any _).mono ?_; rintro e w1 ⟨rfl, hb⟩; have HB := Lib.hid hb; clear hb) | (go_at_call 12; (with_reducible refine (type_r _ _ _ HM HT).mono ?_); rintro e w' ⟨rfl, nd, rfl⟩) | (go_at_call 27; (with_reducible refine (repeat_i s (m : Int) m R _ (Lib.hid rfl) HR1 HC1).mono ?_); rintro e w2 ⟨rfl, hb⟩; have HB2 : Hid (Below _ _ _) := Lib.hid ((below_drewN HB.out nd).trans (hb.mono HB.out.size)); clear hb) | (go_at_call 14; (with_reducible refine (method_r _ _ _ HMET HSD).mono ?_); rintro e w3 ⟨hb, rfl⟩; have HB3 : Hid (Below _ _ _) := Lib.hid (HB2.out.trans (hb.mono HB2.out.size)); clear hb))
    go_ret
    exact ⟨rfl, HB3.out⟩
end Go.Proofs.Ytmbnmjmlfbkjjaa
