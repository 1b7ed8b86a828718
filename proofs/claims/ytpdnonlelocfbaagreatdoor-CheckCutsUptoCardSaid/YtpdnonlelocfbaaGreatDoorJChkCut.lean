/- Package check: code without frames in another room, and with a byte behind; in plain words. -/
import Derived.Test.YtpdnonlelocfbaaGreatDoorM22
import Derived.Test.YtpdnonlelocfbaaGreatDoorJChkRoom
namespace Go.Proofs.YtpdnonlelocfbaaGreatDoor
open Go.RowKit Go Go.Maps
set_option linter.unusedVariables false
section
variable {E : Chk} {r : Nat}
theorem walk_nf {o : Ins} {l : List Ins} {s : Cs} {acc : List Sta} : walkC E [] [] (o :: l) true s acc = if (s.doOp E o.code o.a.toNat).flt ≠ 0 then .er (s.doOp E o.code o.a.toNat).flt else if o.leads then .er 60 else walkC E [] [] l (!o.ends) (s.doOp E o.code o.a.toNat) (acc ++ [(s.loc, s.stk)]) := by
  have e1 : arrive E [] [] o.pc true s = (0, s) := rfl
  conv => lhs; unfold walkC
  dsimp only
  rw [e1, if_neg (show ¬ ((0 : Int), s).1 ≠ 0 from fun h => h rfl)]
  by_cases h : (s.doOp E o.code o.a.toNat).flt ≠ 0
  · rw [if_pos h, if_pos h]
  · rw [if_neg h, if_neg h]
    have hl : leave E [] o (s.doOp E o.code o.a.toNat) = if o.leads then 60 else 0 := rfl
    rw [hl]
    cases o.leads with
    | true => rfl
    | false => rfl
theorem walk_nf0 {o : Ins} {l : List Ins} {s : Cs} {acc : List Sta} : walkC E [] [] (o :: l) false s acc = .er 60 := rfl
theorem walk_nil {kn : Bool} {s : Cs} {acc : List Sta} : walkC E [] [] [] kn s acc = .ok kn acc := rfl
/-- One instruction that is taken. -/
theorem walk_ok1 {o : Ins} {l : List Ins} {s : Cs} {acc m : List Sta} {k : Bool} (h : walkC E [] [] (o :: l) true s acc = .ok k m) : (s.doOp E o.code o.a.toNat).flt = 0 ∧ o.leads = false ∧ walkC E [] [] l (!o.ends) (s.doOp E o.code o.a.toNat) (acc ++ [(s.loc, s.stk)]) = .ok k m := by
  rw [walk_nf] at h
  split at h
  · cases h
  rename_i h1
  split at h
  · cases h
  rename_i h2
  exact ⟨Classical.not_not.1 h1, by simpa using h2, h⟩
theorem walk_more2 : ∀ (l : List Ins) (kn : Bool) (s : Cs) (acc m : List Sta) (k : Bool), walkC E [] [] l kn s acc = .ok k m → ∃ t, m = acc ++ t ∧ t.length = l.length ∧ (l ≠ [] → ∃ q, t = (s.loc, s.stk) :: q)
  | [], kn, s, acc, m, k, h => by
    rw [walk_nil] at h
    injection h with _ h
    exact ⟨[], by simp [h], rfl, fun e => absurd rfl e⟩
  | o :: l, false, s, acc, m, k, h => by
    rw [walk_nf0] at h
    cases h
  | o :: l, true, s, acc, m, k, h => by
    obtain ⟨_, _, h3⟩ := walk_ok1 h
    obtain ⟨t, e, h4, _⟩ := walk_more2 l _ _ _ _ _ h3
    exact ⟨(s.loc, s.stk) :: t, by rw [e]; simp, by simp [h4], fun _ => ⟨t, rfl⟩⟩
/-- Where each state fits the walk is the same. -/
theorem walk_same : ∀ (l : List Ins) (s : Cs) (acc m t : List Sta), (∀ o ∈ l, o.ends = true → ∀ s : Cs, (s.doOp E o.code o.a.toNat).stk.length ≤ s.stk.length) → walkC E [] [] l true s acc = .ok false m → m = acc ++ t → (∀ x ∈ t, x.2.length ≤ r) → walkC { E with room := r } [] [] l true s acc = .ok false m
  | [], s, acc, m, t, _, h, _, _ => by
    rw [walk_nil] at h
    cases h
  | o :: l, s, acc, m, t, hE, h, hm, ht => by
    obtain ⟨h1, h2, h3⟩ := walk_ok1 h
    obtain ⟨t0, e0, _, hq⟩ := walk_more2 _ _ _ _ _ _ h
    obtain ⟨q, hq⟩ := hq (by simp)
    have htt : t = t0 := List.append_cancel_left (hm.symm.trans e0)
    have hs : s.stk.length ≤ r := ht (s.loc, s.stk) (by rw [htt, hq]; simp)
    have hy : (s.doOp E o.code o.a.toNat).stk.length ≤ r := by
      cases l with
      | nil =>
        rw [walk_nil] at h3
        injection h3 with h3 _
        have hen : o.ends = true := by simpa using h3
        exact Nat.le_trans (hE o (by simp) hen s) hs
      | cons o2 l2 =>
        cases hen : o.ends with
        | true =>
          rw [hen] at h3
          rw [show (!true) = false from rfl, walk_nf0] at h3
          cases h3
        | false =>
          obtain ⟨t1, e1, _, hq1⟩ := walk_more2 _ _ _ _ _ _ h3
          obtain ⟨q1, hq1⟩ := hq1 (by simp)
          have : t = (s.loc, s.stk) :: t1 := List.append_cancel_left (hm.symm.trans (by rw [e1]; simp))
          exact ht ((s.doOp E o.code o.a.toNat).loc, (s.doOp E o.code o.a.toNat).stk) (by rw [this, hq1]; simp)
    have hd := ((rel_do hs o.code o.a.toNat) h1).1 hy
    rw [walk_nf, hd, if_neg (fun k => k h1), h2]
    show walkC { E with room := r } [] [] l (!o.ends) _ _ = _
    cases hen : o.ends with
    | true =>
      rw [hen] at h3
      cases l with
      | nil => exact h3
      | cons o2 l2 => rw [show (!true) = false from rfl, walk_nf0] at h3; cases h3
    | false =>
      rw [hen] at h3
      obtain ⟨t1, e1, _⟩ := walk_more2 _ _ _ _ _ _ h3
      exact walk_same l _ _ m t1 (fun o ho => hE o (by simp [ho])) h3 e1 (fun x hx => ht x (by
        have : t = (s.loc, s.stk) :: t1 := List.append_cancel_left (hm.symm.trans (by rw [e1]; simp))
        rw [this]; simp [hx]))
/-- Where one doesn't it stops for that. -/
theorem walk_less : ∀ (l : List Ins) (s : Cs) (acc m t : List Sta) (k : Bool), s.stk.length ≤ r → walkC E [] [] l true s acc = .ok k m → m = acc ++ t → (∃ x ∈ t, r < x.2.length) → walkC { E with room := r } [] [] l true s acc = .er 61
  | [], s, acc, m, t, k, _, h, hm, hx => by
    rw [walk_nil] at h
    injection h with _ h
    have : t = [] := by
      rw [← h] at hm
      have := List.append_cancel_left (hm.symm.trans (List.append_nil acc).symm)
      exact this
    rw [this] at hx
    obtain ⟨x, hx, _⟩ := hx
    cases hx
  | o :: l, s, acc, m, t, k, hs, h, hm, hx => by
    obtain ⟨h1, h2, h3⟩ := walk_ok1 h
    obtain ⟨t1, e1, hl1, _⟩ := walk_more2 _ _ _ _ _ _ h3
    have htt : t = (s.loc, s.stk) :: t1 := List.append_cancel_left (hm.symm.trans (by rw [e1]; simp))
    have hx1 : ∃ x ∈ t1, r < x.2.length := by
      obtain ⟨x, hx, hr⟩ := hx
      rw [htt] at hx
      rcases List.mem_cons.1 hx with rfl | hx
      · exact absurd hr (by show ¬ r < s.stk.length; omega)
      · exact ⟨x, hx, hr⟩
    have hd := (rel_do hs o.code o.a.toNat) h1
    by_cases hy : (s.doOp E o.code o.a.toNat).stk.length ≤ r
    · rw [walk_nf, hd.1 hy, if_neg (fun k => k h1), h2]
      show walkC { E with room := r } [] [] l (!o.ends) _ _ = _
      cases hen : o.ends with
      | true =>
        rw [hen] at h3
        cases l with
        | nil =>
          obtain ⟨x, hx, _⟩ := hx1
          cases t1 with
          | nil => cases hx
          | cons _ _ => simp at hl1
        | cons o2 l2 => rw [show (!true) = false from rfl, walk_nf0] at h3; cases h3
      | false =>
        rw [hen] at h3
        exact walk_less l _ _ m t1 k hy h3 e1 hx1
    · have h61 := hd.2 (by omega)
      rw [walk_nf, h61, if_pos (by decide)]
/-- An instruction behind the end. -/
theorem walk_behind {p : Ins} : ∀ (l : List Ins) (kn : Bool) (s : Cs) (acc m : List Sta), walkC E [] [] l kn s acc = .ok false m → walkC E [] [] (l ++ [p]) kn s acc = .er 60
  | [], kn, s, acc, m, h => by
    rw [walk_nil] at h
    injection h with h _
    rw [h]
    rfl
  | o :: l, false, s, acc, m, h => by
    rw [walk_nf0] at h
    cases h
  | o :: l, true, s, acc, m, h => by
    obtain ⟨h1, h2, h3⟩ := walk_ok1 h
    rw [List.cons_append, walk_nf, if_neg (fun k => k h1), h2]
    exact walk_behind l _ _ _ m h3
theorem ends_le {c : Int} (h : c ∈ Cd.ends) (a : Nat) (s : Cs) : (s.doOp E c a).stk.length ≤ s.stk.length := by
  unfold Cd.ends at h
  simp only [List.mem_cons, List.not_mem_nil, or_false] at h
  rcases h with rfl | rfl | rfl | rfl | rfl | rfl
  · exact Nat.le_refl _
  all_goals first
    | (show (s.giveBack E _).stk.length ≤ _
       unfold Cs.giveBack
       dsimp only
       split
       · exact le_ref _ _ _
       · exact Nat.le_trans (le_pop _ _) (le_ref _ _ _))
    | exact le_pop _ _
end
theorem metN {E : Chk} {dec : Int × List Ins} {len stack locals : Int} {d : Int × List Bs} {stat : Bool} : metC E dec len stack locals d stat [] [] = if bgE E dec.1 stack locals d stat ≠ 0 then .er (bgE E dec.1 stack locals d stat) else
    match walkC E [] [] dec.2 true ⟨fill (firstLoc E stat d.2) locals.toNat, [], 0⟩ [] with
      | .er e => .er e
      | .ok known l => if known then .er 60 else .ok l := by
  rw [metC_eq]
  rfl
theorem bg_room {E : Chk} {r : Nat} {e0 s s' lo : Int} {d : Int × List Bs} {st : Bool} (h : bgE E e0 s lo d st = 0) (h0 : 0 ≤ s') (h1 : s' ≤ 20) : bgE { E with room := r } e0 s' lo d st = 0 := by
  unfold bgE at h
  split at h
  · rename_i k; exact absurd h k
  rename_i k0
  split at h
  · cases h
  rename_i k1
  split at h
  · rename_i k; exact absurd h k
  rename_i k2
  split at h
  · cases h
  rename_i k3
  split at h
  · cases h
  rename_i k4
  have hb := Classical.not_not.1 k1
  exact (if_neg k0).trans ((if_neg (fun k => k ⟨h0, h1, hb.2.2.1, hb.2.2.2⟩)).trans ((if_neg k2).trans ((if_neg k3).trans (if_neg k4))))
theorem ends_ins (D : List Cd.Cop) {E : Chk} : ∀ o ∈ D.map insOf, o.ends = true → ∀ s : Cs, (s.doOp E o.code o.a.toNat).stk.length ≤ s.stk.length := fun o ho he s => by
  obtain ⟨x, _, rfl⟩ := List.mem_map.1 ho
  exact ends_le (of_decide_eq_true he) _ _
section
variable {L : List ClI} {X : ClI} {m : MeI} {l : List Sta}
/-- What is behind an answer, where there are no frames and no rows. -/
theorem met_ok (hf : m.frames = []) (hr : m.rows = []) (h : metR L X m = .ok l) : bgE (envM L X m) (decI m.code).1 m.stack m.locals (metER m.desc, (metD0 m.desc).1) (bStat m.flags) = 0 ∧ walkC (envM L X m) [] [] (decI m.code).2 true ⟨fill (firstLoc (envM L X m) (bStat m.flags) (metD0 m.desc).1) m.locals.toNat, [], 0⟩ [] = .ok false l := by
  unfold metR at h
  rw [hf, hr, metN] at h
  split at h
  · cases h
  rename_i h0
  refine ⟨Classical.not_not.1 h0, ?_⟩
  cases hw : walkC (envM L X m) [] [] (decI m.code).2 true ⟨fill (firstLoc (envM L X m) (bStat m.flags) (metD0 m.desc).1) m.locals.toNat, [], 0⟩ [] with
  | er e => rw [hw] at h; cases h
  | ok k l' =>
    rw [hw] at h
    cases k with
    | true => cases h
    | false =>
      injection h with h
      rw [h]
theorem cut_same (hf : m.frames = []) (hr : m.rows = []) (h : metR L X m = .ok l) {r : Nat} (h20 : r ≤ 20) (hl : ∀ x ∈ l, x.2.length ≤ r) : metR L X { m with stack := r } = .ok l := by
  obtain ⟨h1, h2⟩ := met_ok hf hr h
  have hm : min ((r : Int)).toNat 20 = r := by omega
  have he : envM L X { m with stack := r } = { envM L X m with room := r } := by
    show ({ envM L X m with room := min ((r : Int)).toNat 20 } : Chk) = _
    rw [hm]
  unfold metR
  rw [he]
  show metC { envM L X m with room := r } (decI m.code) m.code.length r m.locals (metER m.desc, (metD0 m.desc).1) (bStat m.flags) m.frames m.rows = _
  rw [hf, hr, metN, bg_room h1 (by omega) (by omega), if_neg (by decide)]
  have hw := walk_same (r := r) _ _ [] l l (ends_ins _) h2 rfl hl
  have hw' : walkC { envM L X m with room := r } [] [] (decI m.code).2 true ⟨fill (firstLoc { envM L X m with room := r } (bStat m.flags) (metD0 m.desc).1) m.locals.toNat, [], 0⟩ [] = .ok false l := hw
  rw [hw']
  rfl
theorem cut_less (hf : m.frames = []) (hr : m.rows = []) (h : metR L X m = .ok l) {r : Nat} (h20 : r ≤ 20) (hl : ∃ x ∈ l, r < x.2.length) : metR L X { m with stack := r } = .er 61 := by
  obtain ⟨h1, h2⟩ := met_ok hf hr h
  have hm : min ((r : Int)).toNat 20 = r := by omega
  have he : envM L X { m with stack := r } = { envM L X m with room := r } := by
    show ({ envM L X m with room := min ((r : Int)).toNat 20 } : Chk) = _
    rw [hm]
  unfold metR
  rw [he]
  show metC { envM L X m with room := r } (decI m.code) m.code.length r m.locals (metER m.desc, (metD0 m.desc).1) (bStat m.flags) m.frames m.rows = _
  rw [hf, hr, metN, bg_room h1 (by omega) (by omega), if_neg (by decide)]
  have hw := walk_less (r := r) _ _ [] l l false (Nat.zero_le _) h2 rfl hl
  have hw' : walkC { envM L X m with room := r } [] [] (decI m.code).2 true ⟨fill (firstLoc { envM L X m with room := r } (bStat m.flags) (metD0 m.desc).1) m.locals.toNat, [], 0⟩ [] = .er 61 := hw
  rw [hw']
end
/-- A byte behind code. -/
theorem bN_app {L : Bs} {j : Nat} (h : j < L.length) : Cd.bN (L ++ [0]) j = Cd.bN L j := by
  unfold Cd.bN
  rw [List.getD_eq_getElem?_getD, List.getD_eq_getElem?_getD, List.getElem?_append_left h]
theorem opAt_app {L : Bs} {k : Nat} (h : k + Cd.szN (Cd.bN L k) ≤ L.length) (hk : k < L.length) : Cd.opAt (L ++ [0]) k = Cd.opAt L k := by
  unfold Cd.opAt
  rw [bN_app hk]
  have hle := Cd.rowN_le (Cd.bN L k)
  unfold Cd.szN at h
  obtain ⟨r, hr⟩ : ∃ r, Cd.rowN (Cd.bN L k) = r := ⟨_, rfl⟩
  rw [hr] at h hle ⊢
  have t2 : ∀ (h : k + 3 ≤ L.length), Cd.two (L ++ [0]) k = Cd.two L k := fun h => by
    unfold Cd.two
    rw [bN_app (by omega), bN_app (by omega)]
  rcases Cd.row_ways hle with rfl | rfl | rfl | rfl | rfl | rfl | rfl | rfl
  · rfl
  · rfl
  · have h : k + 2 ≤ L.length := h
    rw [bN_app (by omega)]; rfl
  · have h : k + 2 ≤ L.length := h
    rw [bN_app (by omega)]; rfl
  · have h : k + 3 ≤ L.length := h
    rw [t2 h]; rfl
  · have h : k + 3 ≤ L.length := h
    rw [t2 h]; rfl
  · have h : k + 3 ≤ L.length := h
    rw [t2 h]; rfl
  · have h : k + 3 ≤ L.length := h
    rw [bN_app (by omega), bN_app (by omega)]; rfl
theorem bN_end (L : Bs) : Cd.bN (L ++ [0]) L.length = 0 := by
  unfold Cd.bN
  rw [List.getD_eq_getElem?_getD]
  simp
theorem run_app (L : Bs) : ∀ (f k : Nat) (D : List Cd.Cop), Cd.run L f k = some D → k ≤ L.length → Cd.run (L ++ [0]) (f + 1) k = some (D ++ [Cd.opAt (L ++ [0]) L.length])
  | 0, k, D, h, _ => by simp [Cd.run] at h
  | f + 1, k, D, h, hk => by
    rw [Cd.run] at h
    have hlen : (L ++ [0]).length = L.length + 1 := by simp
    split at h
    · rename_i h1
      have e : k = L.length := by omega
      subst e
      injection h with h
      subst h
      have hs : Cd.szN (Cd.bN (L ++ [0]) L.length) = 1 := by rw [bN_end]; rfl
      rw [Cd.run_on (by omega) (by rw [hs]; decide) (by rw [hs]; omega), hs, Cd.run_end (by omega)]
      rfl
    rename_i h1
    split at h
    · cases h
    rename_i h2
    cases hr : Cd.run L f (k + Cd.szN (Cd.bN L k)) with
    | none => rw [hr] at h; cases h
    | some D' =>
      rw [hr] at h
      simp only [Option.map_some, Option.some.injEq] at h
      subst h
      have ih := run_app L f _ D' hr (by omega)
      have hb := bN_app (L := L) (j := k) (by omega)
      rw [Cd.run_on (by omega) (by rw [hb]; omega) (by rw [hb]; omega), hb, ih, opAt_app (by omega) (by omega)]
      rfl
theorem dec_app {L : Bs} (h : (Cd.decR L).1 = 0) (h4 : L.length + 1 ≤ 4000) : Cd.decR (L ++ [0]) = (0, (Cd.decR L).2 ++ [Cd.opAt (L ++ [0]) L.length]) := by
  obtain ⟨h0, _, hr, hL⟩ := decR_zero h
  have hlen : (L ++ [0]).length = L.length + 1 := by simp
  have hr2 := run_app L _ _ _ hr (Nat.zero_le _)
  refine Cd.decR_led _ _ (by omega) (by omega) (by rw [hlen]; exact hr2) ?_
  intro x hx hlead
  rcases List.mem_append.1 hx with hx | hx
  · obtain ⟨a1, a2, y, hy, e⟩ := hL x hx hlead
    exact ⟨a1, by rw [hlen]; omega, y, by simp [hy], e⟩
  · rw [List.mem_singleton.1 hx] at hlead
    exfalso
    have : Cd.rowN (Cd.bN (L ++ [0]) L.length : Nat) = 6 := hlead
    rw [bN_end] at this
    exact absurd this (by decide)
theorem dec_long {L : Bs} (h4 : 4000 < L.length + 1) : Cd.decR (L ++ [0]) = (2, []) := Cd.decR_long _ (by simp; omega)
section
variable {L : List ClI} {X : ClI} {m : MeI} {l : List Sta}
theorem cut_behind (hf : m.frames = []) (hr : m.rows = []) (h : metR L X m = .ok l) : metR L X { m with code := m.code ++ [0] } = .er 60 ∨ metR L X { m with code := m.code ++ [0] } = .er 2 := by
  obtain ⟨h1, h2⟩ := met_ok hf hr h
  have hd : (Cd.decR m.code).1 = 0 := (bgE_zero h1).1
  have e : metR L X { m with code := m.code ++ [0] } = metC (envM L X m) (decI (m.code ++ [0])) ((m.code ++ [0]).length : Nat) m.stack m.locals (metER m.desc, (metD0 m.desc).1) (bStat m.flags) m.frames m.rows := rfl
  rw [e, hf, hr]
  by_cases h4 : m.code.length + 1 ≤ 4000
  · left
    have hdec : decI (m.code ++ [0]) = (0, (decI m.code).2 ++ [insOf (Cd.opAt (m.code ++ [0]) m.code.length)]) := by
      unfold decI
      rw [dec_app hd h4]
      simp
    rw [hdec, metN]
    have hb : bgE (envM L X m) 0 m.stack m.locals (metER m.desc, (metD0 m.desc).1) (bStat m.flags) = 0 := by
      have : (decI m.code).1 = 0 := hd
      rw [this] at h1
      exact h1
    rw [hb, if_neg (by decide)]
    dsimp only
    rw [walk_behind _ _ _ _ _ h2]
  · right
    have hdec : decI (m.code ++ [0]) = (2, []) := by
      unfold decI
      rw [dec_long (by omega)]
      rfl
    have hb : bgE (envM L X m) 2 m.stack m.locals (metER m.desc, (metD0 m.desc).1) (bStat m.flags) = 2 := if_pos (by decide)
    rw [hdec, metN, hb, if_pos (by decide)]
end
end Go.Proofs.YtpdnonlelocfbaaGreatDoor
