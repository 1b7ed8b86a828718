/- A class file that is cut, and one with bytes behind, in plain words. No program in this text. -/
import Derived.Test.YtgihfcimngogfaaGreatM2
namespace Go.Proofs.YtgihfcimngogfaaGreat
open Go Go.RowKit
set_option linter.unusedVariables false
def Ext {α : Type} (p : Bs → Pr α) : Prop := ∀ s a r, p s = .ok a r → ∃ u, s = u ++ r ∧ (∀ t, p (u ++ t) = .ok a t) ∧ (∀ v w, u = v ++ w → w ≠ [] → p v = .er 11)
theorem ext_pure {α : Type} (a : α) : Ext (fun s => .ok a s) := by
 intro s b r h
 cases h
 exact ⟨[], rfl, fun t => rfl, fun v w e hw => by
  have := List.append_eq_nil_iff.1 e.symm
  exact absurd this.2 hw⟩
theorem ext_er {α : Type} (x : Nat) : Ext (fun _ => (.er x : Pr α)) := by
 intro s b r h
 cases h
theorem ext_take {α : Type} (n : Nat) (f : Bs → α) : Ext (fun s => if s.length < n then .er 11 else .ok (f (s.take n)) (s.drop n)) := by
 intro s a r h
 simp only at h
 split at h
 ·cases h
 ·rename_i hl
  injection h with h1 h2
  subst h1 h2
  have hlen : (s.take n).length = n := by rw [List.length_take]; omega
  refine ⟨s.take n, (List.take_append_drop n s).symm, fun t => ?_, fun v w e hw => ?_⟩
  ·simp only
   rw [if_neg (by rw [List.length_append]; omega), List.take_left' hlen, List.drop_left' hlen]
  ·have hwl : w.length ≠ 0 := fun e => hw (List.length_eq_zero_iff.1 e)
   have := congrArg List.length e
   rw [hlen, List.length_append] at this
   simp only
   rw [if_pos (by omega)]
theorem ext_num (n : Nat) : Ext (numP n) := ext_take n beB
theorem ext_byt (n : Nat) : Ext (bytP n) := ext_take n id
theorem ext_then {α β : Type} {p : Bs → Pr α} {k : α → Bs → Pr β} (hp : Ext p) (hk : ∀ a, Ext (k a)) : Ext (fun s => (p s).then k) := by
 intro s b r h
 simp only at h
 cases h1 : p s with
 | er x => rw [h1] at h; cases h
 | ok a r1 =>
  rw [h1] at h
  have h2 : k a r1 = .ok b r := h
  obtain ⟨u1, rfl, e1, c1⟩ := hp s a r1 h1
  obtain ⟨u2, rfl, e2, c2⟩ := hk a r1 b r h2
  refine ⟨u1 ++ u2, by rw [List.append_assoc], fun t => ?_, fun v w e hw => ?_⟩
  ·simp only
   rw [List.append_assoc, e1]
   exact e2 t
  ·simp only
   rcases List.append_eq_append_iff.1 e with ⟨x, hx, hy⟩ | ⟨x, hx, hy⟩
   ·subst hx
    rw [e1]
    exact c2 x w hy hw
   ·by_cases hx0 : x = []
    ·subst hx0
     rw [List.append_nil] at hx
     subst hx
     have := e1 []
     rw [List.append_nil] at this
     rw [this]
     exact c2 [] w hy.symm hw
    ·rw [c1 v x hx hx0]
     rfl
theorem ext_ite {α : Type} {c : Prop} [Decidable c] {p q : Bs → Pr α} (hp : Ext p) (hq : Ext q) : Ext (fun s => if c then p s else q s) := by
 by_cases h : c
 ·simp only [if_pos h]; exact hp
 ·simp only [if_neg h]; exact hq
theorem ext_many {α : Type} {p : Bs → Pr α} (hp : Ext p) : ∀ (n : Nat) (acc : List α), Ext (fun s => manyP p n s acc)
 | 0, acc => ext_pure acc
 | n + 1, acc => ext_then hp fun a => ext_many hp n (acc ++ [a])
theorem ext_cnt (n most : Nat) : Ext (cntP n most) := ext_then (ext_num n) fun k => ext_ite (ext_er 2) (ext_pure k)
theorem ext_at (L : List Con) (i k : Nat) : Ext (atP L i k) := by
 intro s a r h
 unfold atP at h ⊢
 cases hk : kAt L i k with
 | none => rw [hk] at h; cases h
 | some c =>
  rw [hk] at h
  exact ext_pure c s a r h
theorem ext_con (L : List Con) (k : Nat) : Ext (conP L k) := ext_then (ext_num 2) fun i => ext_at L i k
theorem ext_flat (x : Nat) (t : Bs) : Ext (flatP x t) := ext_ite (ext_er x) (ext_pure t)
theorem ext_cls (L : List Con) : Ext (clsP L) := ext_then (ext_con L 7) fun c => ext_flat 20 c.text
theorem ext_flg (b : Nat) : Ext (flgP b) := ext_then (ext_num 2) fun f => ext_ite (ext_pure f) (ext_er 22)
theorem ext_mem (L : List Con) : Ext (memP L) := ext_then (ext_con L 1) fun a => ext_then (ext_con L 1) fun b => ext_pure _
theorem ext_fldJ (cf f : Nat) (m : Bs × Bs) : Ext (fldJ cf f m) := ext_ite (ext_er 20) (ext_ite (ext_er 21) (ext_ite (ext_er 22) (ext_pure _)))
theorem ext_fld (L : List Con) (cf : Nat) : Ext (fldP L cf) := ext_then (ext_flg 8) fun f => ext_then (ext_mem L) fun m => ext_fldJ cf f m
theorem ext_cgh (L : List Con) : Ext (cghP L) := ext_then (ext_num 2) fun i => ext_ite (ext_pure []) (ext_then (ext_at L i 7) fun c => ext_flat 12 c.text)
theorem ext_row (L : List Con) : Ext (rowP L) := ext_then (ext_num 2) fun a => ext_then (ext_num 2) fun b => ext_then (ext_num 2) fun c => ext_then (ext_cgh L) fun t => ext_pure _
theorem ext_typ (L : List Con) : Ext (typP L) := ext_then (ext_num 1) fun k => ext_ite (ext_pure _) (ext_ite (ext_pure _) (ext_ite (ext_pure _) (ext_ite (ext_pure _) (ext_ite (ext_then (ext_con L 7) fun c => ext_pure _) (ext_er 60)))))
theorem ext_tys (L : List Con) (most : Nat) : Ext (tysP L most) := ext_then (ext_cnt 1 most) fun n => ext_many (ext_typ L) n []
theorem ext_frm (L : List Con) : Ext (frmP L) := ext_then (ext_num 2) fun pc => ext_then (ext_tys L 40) fun a => ext_then (ext_tys L 20) fun b => ext_pure _
theorem ext_bdy (L : List Con) (f : Nat) (m : Bs × Bs) : Ext (bdyP L f m) :=
 ext_then (ext_cnt 2 20) fun st => ext_then (ext_cnt 2 40) fun lo => ext_then (ext_cnt 2 4000) fun n => ext_then (ext_byt n) fun code =>
 ext_then (ext_cnt 2 60) fun k => ext_then (ext_many (ext_row L) k []) fun rows => ext_then (ext_cnt 2 4000) fun q => ext_then (ext_many (ext_frm L) q []) fun frames => ext_pure _
theorem ext_metJ (L : List Con) (cf f : Nat) (m : Bs × Bs) : Ext (metJ L cf f m) := ext_ite (ext_er 20) (ext_ite (ext_er 21) (ext_ite (ext_er 22) (ext_ite (ext_bdy L f m) (ext_pure _))))
theorem ext_met (L : List Con) (cf : Nat) : Ext (metP L cf) := ext_then (ext_flg 1032) fun f => ext_then (ext_mem L) fun m => ext_metJ L cf f m
theorem ext_beh (L : List Con) : Ext (behP L) :=
 ext_then (ext_flg 1536) fun cf => ext_ite (ext_er 22) (ext_then (ext_cls L) fun nm => ext_then (ext_cls L) fun sp =>
 ext_then (ext_cnt 2 8) fun a => ext_then (ext_many (ext_cls L) a []) fun is => ext_then (ext_cnt 2 60) fun b => ext_then (ext_many (ext_fld L cf) b []) fun fs =>
 ext_then (ext_cnt 2 60) fun c => ext_then (ext_many (ext_met L cf) c []) fun ms => ext_pure _)
def bodP (k : Nat) (s : Bs) : Pr Ent :=
 if k = 1 then (numP 2 s).then fun n r => (bytP n r).then fun t r2 => .ok ⟨1, 0, t, 0, 0, 0⟩ r2
 else if k = 3 then (numP 4 s).then fun n r => .ok ⟨3, wrap64 (wrap32 n), [], 0, 0, 0⟩ r
 else if k = 5 then (numP 8 s).then fun n r => .ok ⟨5, wrap64 n, [], 0, 0, 0⟩ r
 else if k = 7 ∨ k = 8 then (numP 2 s).then fun n r => .ok ⟨k, 0, [], n, 0, 0⟩ r
 else if k = 9 ∨ k = 10 ∨ k = 11 then (numP 2 s).then fun a r => (numP 2 r).then fun b r2 => (numP 2 r2).then fun d r3 => .ok ⟨k, 0, [], a, b, d⟩ r3
 else .er 12
def entP (s : Bs) : Pr Ent := (numP 1 s).then bodP
theorem ext_bod (k : Nat) : Ext (bodP k) :=
 ext_ite (ext_then (ext_num 2) fun n => ext_then (ext_byt n) fun t => ext_pure _) (ext_ite (ext_then (ext_num 4) fun n => ext_pure _) (ext_ite (ext_then (ext_num 8) fun n => ext_pure _)
  (ext_ite (ext_then (ext_num 2) fun n => ext_pure _) (ext_ite (ext_then (ext_num 2) fun a => ext_then (ext_num 2) fun b => ext_then (ext_num 2) fun d => ext_pure _) (ext_er 12)))))
theorem ext_ent : Ext entP := ext_then (ext_num 1) ext_bod
theorem num_st (s : Bs) (k : Nat) (h1 : 1 ≤ k) (h8 : k ≤ 8) : (∃ n r, numP k s = .ok n r ∧ numN (s, false) k = n ∧ numS (s, false) k = (r, false)) ∨ (numP k s = .er 11 ∧ numN (s, false) k = 0 ∧ numS (s, false) k = ([], true)) := by
 have hk : ¬ ((k : Int) < 1 ∨ 8 < (k : Int)) := by omega
 by_cases hl : s.length < k
 ·right
  have h2 : (k : Int) < 0 ∨ (s.length : Int) < k := .inr (by omega)
  exact ⟨by unfold numP; rw [if_pos hl], by rw [numN_yes hk, takeL_no h2]; rfl, by rw [numS_yes hk, takeS_no h2]⟩
 ·left
  have h2 : ¬ ((k : Int) < 0 ∨ (s.length : Int) < k) := by omega
  exact ⟨_, _, by unfold numP; rw [if_neg hl], by rw [numN_yes hk, takeL_yes h2]; simp, by rw [numS_yes hk, takeS_yes h2]; simp⟩
theorem bad_st (k : Nat) (h1 : 1 ≤ k) (h8 : k ≤ 8) : numS ([], true) k = ([], true) := by
 rw [numS_yes (by omega), takeS_no (.inr (by simp; omega))]
theorem byt_st (s : Bs) (n : Nat) : (bytP n s = .ok (takeL (s, false) n) (s.drop n) ∧ takeS (s, false) n = (s.drop n, false)) ∨ (bytP n s = .er 11 ∧ takeS (s, false) n = ([], true)) := by
 by_cases hl : s.length < n
 ·right
  exact ⟨by unfold bytP; rw [if_pos hl], takeS_no (.inr (by simp; omega))⟩
 ·left
  have h2 : ¬ ((n : Int) < 0 ∨ (s.length : Int) < n) := by omega
  exact ⟨by unfold bytP; rw [if_neg hl, takeL_yes h2]; simp, by rw [takeS_yes h2]; simp⟩
theorem bod_st (k : Nat) (s : Bs) : (knownK k = true ∧ (bodyS k (s, false)).2 = false ∧ bodP k s = .ok (bodyE k (s, false)) (bodyS k (s, false)).1 ∧ bodyS k (s, false) = ((bodyS k (s, false)).1, false)) ∨ ((bodyS k (s, false)).2 = true ∧ bodP k s = .er 11) ∨ (knownK k = false ∧ (bodyS k (s, false)).2 = false ∧ bodP k s = .er 12) := by
 unfold bodP bodyS bodyE
 by_cases h1 : k = 1
 ·subst h1
  simp only [if_true]
  rcases num_st s 2 (by omega) (by omega) with ⟨n, r, e1, e2, e3⟩ | ⟨e1, e2, e3⟩
  ·have e2' : numN (s, false) 2 = n := e2
   have e3' : numS (s, false) 2 = (r, false) := e3
   rw [e1, e2', e3']
   rcases byt_st r n with ⟨f1, f2⟩ | ⟨f1, f2⟩
   ·left; rw [f2]; exact ⟨rfl, rfl, by show (bytP n r).then _ = _; rw [f1]; rfl, rfl⟩
   ·right; left; rw [f2]; exact ⟨rfl, by show (bytP n r).then _ = _; rw [f1]; rfl⟩
  ·have e2' : numN (s, false) 2 = 0 := e2
   have e3' : numS (s, false) 2 = ([], true) := e3
   right; left
   rw [e1, e2', e3']
   exact ⟨rfl, rfl⟩
 by_cases h3 : k = 3
 ·subst h3
  simp only [if_neg h1, if_true]
  rcases num_st s 4 (by omega) (by omega) with ⟨n, r, e1, e2, e3⟩ | ⟨e1, e2, e3⟩
  ·have e2' : numN (s, false) 4 = n := e2
   have e3' : numS (s, false) 4 = (r, false) := e3
   left; rw [e1, e2', e3']; exact ⟨rfl, rfl, rfl, rfl⟩
  ·have e3' : numS (s, false) 4 = ([], true) := e3
   right; left; rw [e1, e3']; exact ⟨rfl, rfl⟩
 by_cases h5 : k = 5
 ·subst h5
  simp only [if_neg h1, if_neg h3, if_true]
  rcases num_st s 8 (by omega) (by omega) with ⟨n, r, e1, e2, e3⟩ | ⟨e1, e2, e3⟩
  ·have e2' : numN (s, false) 8 = n := e2
   have e3' : numS (s, false) 8 = (r, false) := e3
   left; rw [e1, e2', e3']; exact ⟨rfl, rfl, rfl, rfl⟩
  ·have e3' : numS (s, false) 8 = ([], true) := e3
   right; left; rw [e1, e3']; exact ⟨rfl, rfl⟩
 by_cases h7 : k = 7 ∨ k = 8
 ·simp only [if_neg h1, if_neg h3, if_neg h5, if_pos h7]
  have hk : knownK k = true := by rcases h7 with rfl | rfl <;> rfl
  rcases num_st s 2 (by omega) (by omega) with ⟨n, r, e1, e2, e3⟩ | ⟨e1, e2, e3⟩
  ·have e2' : numN (s, false) 2 = n := e2
   have e3' : numS (s, false) 2 = (r, false) := e3
   left; rw [e1, e2', e3']; exact ⟨hk, rfl, rfl, rfl⟩
  ·have e3' : numS (s, false) 2 = ([], true) := e3
   right; left; rw [e1, e3']; exact ⟨rfl, rfl⟩
 by_cases h9 : k = 9 ∨ k = 10 ∨ k = 11
 ·simp only [if_neg h1, if_neg h3, if_neg h5, if_neg h7, if_pos h9]
  have hk : knownK k = true := by rcases h9 with rfl | rfl | rfl <;> rfl
  have hb : numS ([], true) 2 = ([], true) := bad_st 2 (by omega) (by omega)
  rcases num_st s 2 (by omega) (by omega) with ⟨n, r, e1, e2, e3⟩ | ⟨e1, e2, e3⟩
  ·have e2' : numN (s, false) 2 = n := e2
   have e3' : numS (s, false) 2 = (r, false) := e3
   rcases num_st r 2 (by omega) (by omega) with ⟨n2, r2, f1, f2, f3⟩ | ⟨f1, f2, f3⟩
   ·have f2' : numN (r, false) 2 = n2 := f2
    have f3' : numS (r, false) 2 = (r2, false) := f3
    rcases num_st r2 2 (by omega) (by omega) with ⟨n3, r3, g1, g2, g3⟩ | ⟨g1, g2, g3⟩
    ·have g2' : numN (r2, false) 2 = n3 := g2
     have g3' : numS (r2, false) 2 = (r3, false) := g3
     left; rw [e1, e2', e3', f2', f3', g2', g3']
     exact ⟨hk, rfl, by show (numP 2 r).then _ = _; rw [f1]; show (numP 2 r2).then _ = _; rw [g1]; rfl, rfl⟩
    ·have g3' : numS (r2, false) 2 = ([], true) := g3
     right; left; rw [e1, e3', f3', g3']
     exact ⟨rfl, by show (numP 2 r).then _ = _; rw [f1]; show (numP 2 r2).then _ = _; rw [g1]; rfl⟩
   ·have f3' : numS (r, false) 2 = ([], true) := f3
    right; left; rw [e1, e3', f3', hb]
    exact ⟨rfl, by show (numP 2 r).then _ = _; rw [f1]; rfl⟩
  ·have e3' : numS (s, false) 2 = ([], true) := e3
   right; left; rw [e1, e3', hb, hb]
   exact ⟨rfl, rfl⟩
 ·right; right
  simp only [if_neg h1, if_neg h3, if_neg h5, if_neg h7, if_neg h9]
  refine ⟨?_, by trivial, by trivial⟩
  unfold knownK
  simp
  omega
theorem ent_st (s : Bs) : (entX (s, false) = 0 ∧ entP s = .ok (entE (s, false)) (entS (s, false)).1 ∧ entS (s, false) = ((entS (s, false)).1, false)) ∨ (entX (s, false) ≠ 0 ∧ entP s = .er (entX (s, false))) := by
 unfold entX entP entE entS
 rcases num_st s 1 (by omega) (by omega) with ⟨n, r, e1, e2, e3⟩ | ⟨e1, e2, e3⟩
 ·have e2' : numN (s, false) 1 = n := e2
  have e3' : numS (s, false) 1 = (r, false) := e3
  rw [e1, e2', e3']
  rcases bod_st n r with ⟨h1, h2, h3, h4⟩ | ⟨h1, h2⟩ | ⟨h1, h2, h3⟩
  ·left
   rw [h1, h2]
   exact ⟨rfl, h3, h4⟩
  ·right
   rw [h1, if_pos rfl]
   exact ⟨by omega, h2⟩
  ·right
   rw [h1, h2]
   exact ⟨by decide, h3⟩
 ·have e2' : numN (s, false) 1 = 0 := e2
  have e3' : numS (s, false) 1 = ([], true) := e3
  right
  rw [e1, e2', e3']
  exact ⟨by decide, rfl⟩
theorem ents_st : ∀ (k : Nat) (s : Bs) (acc : List Ent), (∃ es r, rdEnts k (s, false) acc = (0, es, (r, false)) ∧ manyP entP k s acc = .ok es r) ∨ ((rdEnts k (s, false) acc).1 ≠ 0 ∧ manyP entP k s acc = .er (rdEnts k (s, false) acc).1)
 | 0, s, acc => .inl ⟨acc, s, rfl, rfl⟩
 | k + 1, s, acc => by
  rcases ent_st s with ⟨h1, h2, h3⟩ | ⟨h1, h2⟩
  ·rw [rdEnts_on k _ acc h1, h3, manyP, h2]
   exact ents_st k _ _
  ·right
   rw [rdEnts_no k _ acc h1, manyP, h2]
   exact ⟨h1, rfl⟩
def headP (s : Bs) : Pr (List Ent) := (numP 2 s).then fun n r => if n = 0 ∨ 1000 < n then .er 12 else manyP entP (n - 1) r [Ent.zero]
theorem ext_head : Ext headP := ext_then (ext_num 2) fun n => ext_ite (ext_er 12) (ext_many ext_ent (n - 1) _)
theorem head_st (s : Bs) : (∃ es r, rdHead (s, false) = (0, es, (r, false)) ∧ headP s = .ok es r) ∨ ((rdHead (s, false)).1 ≠ 0 ∧ headP s = .er (rdHead (s, false)).1) := by
 unfold rdHead headP
 rcases num_st s 2 (by omega) (by omega) with ⟨n, r, e1, e2, e3⟩ | ⟨e1, e2, e3⟩
 ·have e2' : numN (s, false) 2 = n := e2
  have e3' : numS (s, false) 2 = (r, false) := e3
  rw [e1, e2', e3']
  simp only [Bool.false_eq_true, if_false]
  by_cases h : n = 0 ∨ 1000 < n
  ·right
   rw [if_pos h]
   exact ⟨show (12 : Nat) ≠ 0 by omega, by show (if _ then _ else _) = _; rw [if_pos h]⟩
  ·rw [if_neg h]
   rcases ents_st (n - 1) r [Ent.zero] with ⟨es, r2, h1, h2⟩ | ⟨h1, h2⟩
   ·exact .inl ⟨es, r2, h1, by show (if _ then _ else _) = _; rw [if_neg h]; exact h2⟩
   ·exact .inr ⟨h1, by show (if _ then _ else _) = _; rw [if_neg h]; exact h2⟩
 ·have e3' : numS (s, false) 2 = ([], true) := e3
  right
  rw [e1, e3', if_pos rfl]
  exact ⟨show (11 : Nat) ≠ 0 by omega, rfl⟩
def corP (s : Bs) : Pr Cls := (headP s).then fun es r => if (resAll es es []).1 = 0 then behP (resAll es es []).2 r else .er (resAll es es []).1
theorem ext_cor : Ext corP := ext_then ext_head fun es => ext_ite (ext_beh _) (ext_er _)
theorem filP_cor (s : Bs) (h4 : 4 ≤ s.length) (hm : s.take 4 = [82, 69, 71, 76]) : filP s = (corP (s.drop 4)).then endC := by
  unfold filP
  rw [if_neg (by rintro (h | h); · omega
                 · exact h hm)]
  unfold corP poolX poolL poolS
  rcases head_st (s.drop 4) with ⟨es, r, h1, h2⟩ | ⟨h1, h2⟩
  · rw [h1, h2]
    simp only [ne_eq, not_true_eq_false, if_false]
    by_cases hr : (resAll es es []).1 = 0
    · rw [if_neg (by simpa using hr)]
      show _ = (if _ then _ else _ : Pr Cls).then endC
      rw [if_pos hr]
    · rw [if_pos hr]
      show _ = (if _ then _ else _ : Pr Cls).then endC
      rw [if_neg hr]
      rfl
  · rw [h2]
    simp only [ne_eq, h1, not_false_eq_true, if_true]
    rfl
theorem parP_inv {l r : Bs} {c : Cls} (h : parP l = .ok c r) : l.length ≤ 65536 ∧ 4 ≤ l.length ∧ l.take 4 = [82, 69, 71, 76] ∧ corP (l.drop 4) = .ok c [] ∧ twiceB (fKeys c) = false ∧ twiceB (mKeys c) = false := by
 unfold parP at h
 split at h
 ·cases h
 rename_i h0
 have h' := h
 unfold filP at h'
 split at h'
 ·cases h'
 rename_i hm
 have hm2 : 4 ≤ l.length ∧ l.take 4 = [82, 69, 71, 76] := by
  refine ⟨Nat.le_of_not_lt fun e => hm (.inl e), ?_⟩
  exact Decidable.byContradiction fun e => hm (.inr e)
 rw [filP_cor l hm2.1 hm2.2] at h
 cases hc : corP (l.drop 4) with
 | er x => rw [hc] at h; cases h
 | ok c' r' =>
  rw [hc] at h
  have h2 : endC c' r' = .ok c r := h
  unfold endC at h2
  split at h2
  ·cases h2
  rename_i hr
  split at h2
  ·cases h2
  rename_i ht
  injection h2 with h3 _
  subst h3
  have hr' : r' = [] := Decidable.byContradiction hr
  subst hr'
  simp only [Bool.or_eq_true, not_or, Bool.not_eq_true] at ht
  exact ⟨by omega, hm2.1, hm2.2, rfl, ht.1, ht.2⟩
theorem parP_cut {l r : Bs} {c : Cls} (h : parP l = .ok c r) (n : Nat) (hn : n < l.length) : parP (l.take n) = .er (if n < 4 then 10 else 11) := by
 obtain ⟨h1, h2, h3, h4, _, _⟩ := parP_inv h
 have hl : (l.take n).length = n := by rw [List.length_take]; omega
 unfold parP
 rw [if_neg (by omega)]
 by_cases h5 : n < 4
 ·unfold filP
  rw [if_pos h5, if_pos (.inl (by omega))]
 ·rw [if_neg h5, filP_cor _ (by omega) (by rw [List.take_take, Nat.min_eq_left (by omega)]; exact h3)]
  obtain ⟨u, e1, e2, e3⟩ := ext_cor _ _ _ h4
  rw [List.append_nil] at e1
  have e4 : u = (l.take n).drop 4 ++ l.drop n := by
   rw [← e1]
   have : l.drop 4 = (l.take n ++ l.drop n).drop 4 := by rw [List.take_append_drop]
   rw [this, List.drop_append_of_le_length (by omega)]
  have e5 : l.drop n ≠ [] := fun e => by
   have := congrArg List.length e
   rw [List.length_drop] at this
   simp at this
   omega
  rw [e3 _ _ e4 e5]
  rfl
theorem parP_more {l r t : Bs} {c : Cls} (h : parP l = .ok c r) (ht : t ≠ []) : parP (l ++ t) = .er (if 65536 < l.length + t.length then 2 else 11) := by
 obtain ⟨h1, h2, h3, h4, _, _⟩ := parP_inv h
 unfold parP
 rw [List.length_append]
 by_cases h5 : 65536 < l.length + t.length
 ·rw [if_pos h5, if_pos h5]
 ·rw [if_neg h5, if_neg h5, filP_cor _ (by rw [List.length_append]; omega) (by rw [List.take_append_of_le_length h2]; exact h3)]
  obtain ⟨u, e1, e2, _⟩ := ext_cor _ _ _ h4
  rw [List.append_nil] at e1
  rw [List.drop_append_of_le_length h2, e1, e2]
  show endC c t = _
  unfold endC
  rw [if_pos ht]
end Go.Proofs.YtgihfcimngogfaaGreat
