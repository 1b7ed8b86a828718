/- Package check: another room on the stack. No program. -/
import Derived.Test.YtpdnonlelocfbaaGreatDoorM2
namespace Go.Proofs.YtpdnonlelocfbaaGreatDoor
set_option linter.unusedVariables false
/-- x: what comes of it where there is room; x': where there is room for r. -/
def Rel (r : Nat) (x x' : Cs) : Prop := x.flt = 0 → (x.stk.length ≤ r → x' = x) ∧ (r < x.stk.length → x'.flt = 61)
theorem rel_base {r : Nat} {b : Cs} (h : b.stk.length ≤ r) : Rel r b b := fun _ => ⟨fun _ => rfl, fun k => by omega⟩
theorem le_ref (s : Cs) (b : Bool) (e : Int) : (s.refuse b e).stk.length ≤ s.stk.length := by
  rw [(refuse_cases s b e).2]
  exact Nat.le_refl _
theorem le_take (s : Cs) : s.take.2.stk.length ≤ s.stk.length := by
  unfold Cs.take
  dsimp only
  split
  · show (List.dropLast _).length ≤ _
    rw [List.length_dropLast, (refuse_cases s _ 61).2]
    omega
  · exact le_ref _ _ _
section
variable {E : Chk} {r : Nat}
theorem le_pop (s : Cs) (t : Bs) : (s.pop E t).stk.length ≤ s.stk.length := Nat.le_trans (le_ref _ _ _) (le_take s)
theorem le_popRef (s : Cs) : (s.popRef E).2.stk.length ≤ s.stk.length := Nat.le_trans (le_ref _ _ _) (le_take s)
theorem le_popRefs (s : Cs) : (s.popRefs E).2.stk.length ≤ s.stk.length := by
  unfold Cs.popRefs
  split
  · exact le_popRef s
  · exact Nat.le_trans (le_ref _ _ _) (le_popRef s)
theorem le_local (s : Cs) (a : Nat) : (s.local a).2.stk.length ≤ s.stk.length := by
  unfold Cs.local
  dsimp only
  split <;> exact le_ref _ _ _
theorem push_flt {s : Cs} {t : Bs} (h : (s.push E t).flt = 0) : s.flt = 0 ∧ (s.push E t) = { s with stk := s.stk ++ [t] } ∧ s.stk.length < E.room := by
  unfold Cs.push Cs.refuse at h ⊢
  dsimp only at h ⊢
  by_cases h0 : s.flt = 0
  · by_cases h1 : E.room ≤ s.stk.length
    · rw [if_pos (show decide (E.room ≤ s.stk.length) = true ∧ s.flt = 0 from ⟨decide_eq_true h1, h0⟩)] at h
      simp at h
    · rw [if_neg (show ¬ (decide (E.room ≤ s.stk.length) = true ∧ s.flt = 0) from fun k => h1 (of_decide_eq_true k.1)), if_pos h0]
      exact ⟨h0, rfl, by omega⟩
  · rw [if_neg (show ¬ (decide (E.room ≤ s.stk.length) = true ∧ s.flt = 0) from fun k => h0 k.2), if_neg h0] at h
    exact absurd h h0
theorem push_in {s : Cs} {t : Bs} (h0 : s.flt = 0) (h1 : s.stk.length < E.room) : s.push E t = { s with stk := s.stk ++ [t] } := by
  unfold Cs.push Cs.refuse
  dsimp only
  rw [if_neg (show ¬ (decide (E.room ≤ s.stk.length) = true ∧ s.flt = 0) from fun k => by have := of_decide_eq_true k.1; omega), if_pos h0]
theorem push_out {s : Cs} {t : Bs} (h0 : s.flt = 0) (h1 : E.room ≤ s.stk.length) : (s.push E t).flt = 61 := by
  unfold Cs.push Cs.refuse
  dsimp only
  rw [if_pos (show decide (E.room ≤ s.stk.length) = true ∧ s.flt = 0 from ⟨decide_eq_true h1, h0⟩)]
  rfl
theorem push_no {s : Cs} {t : Bs} (h0 : s.flt = 61) : (s.push E t).flt = 61 := by
  unfold Cs.push Cs.refuse
  dsimp only
  rw [if_neg (show ¬ (decide (E.room ≤ s.stk.length) = true ∧ s.flt = 0) from fun k => by rw [h0] at k; exact absurd k.2 (by decide)), if_neg (by rw [h0]; decide)]
  exact h0
theorem rel_push {x x' : Cs} (h : Rel r x x') (t : Bs) : Rel r (x.push E t) (x'.push { E with room := r } t) := fun h0 => by
  obtain ⟨h1, h2, _⟩ := push_flt h0
  obtain ⟨h3, h4⟩ := h h1
  rw [h2]
  have hl : ({ x with stk := x.stk ++ [t] } : Cs).stk.length = x.stk.length + 1 := by simp
  rw [hl]
  refine ⟨fun hle => ?_, fun hlt => ?_⟩
  · rw [h3 (by omega)]
    exact push_in (E := { E with room := r }) h1 (show x.stk.length < r by omega)
  · by_cases hx : x.stk.length ≤ r
    · rw [h3 hx]
      exact push_out (E := { E with room := r }) h1 (show r ≤ x.stk.length by omega)
    · exact push_no (h4 (by omega))
theorem le_pooled (s : Cs) (n : Nat) (ks : List Int) : (s.pooled E n ks).2.stk.length ≤ s.stk.length := by
  unfold Cs.pooled
  dsimp only
  split
  · exact Nat.le_trans (le_ref _ _ _) (le_ref _ _ _)
  · exact le_ref _ _ _
theorem le_params : ∀ (l : List Bs) (s : Cs), (Cs.params E l s).stk.length ≤ s.stk.length
  | [], s => Nat.le_refl _
  | t :: l, s => Nat.le_trans (le_params l _) (Nat.le_trans (le_pop _ _) (le_ref _ _ _))
theorem le_callee (s : Cs) (c : Int) (a : Nat) : (s.callee E c a).2.stk.length ≤ s.stk.length := by
  unfold Cs.callee
  dsimp only
  have h := Nat.le_trans (le_ref ((s.pooled E a [if c = 185 then 11 else 10]).2.refuse ((E.cls (s.pooled E a [if c = 185 then 11 else 10]).1.text).isNone || bIface ((E.cls (s.pooled E a [if c = 185 then 11 else 10]).1.text).getD 0) != decide (c = 185)) 70) ((E.meth (s.pooled E a [if c = 185 then 11 else 10]).1.text (s.pooled E a [if c = 185 then 11 else 10]).1.name (s.pooled E a [if c = 185 then 11 else 10]).1.desc).isNone || bStat ((E.meth (s.pooled E a [if c = 185 then 11 else 10]).1.text (s.pooled E a [if c = 185 then 11 else 10]).1.name (s.pooled E a [if c = 185 then 11 else 10]).1.desc).getD 0) != decide (c = 184)) 70) (Nat.le_trans (le_ref _ _ _) (le_pooled s a [if c = 185 then 11 else 10]))
  split
  · exact Nat.le_trans (le_ref _ _ _) h
  · exact h
theorem le_setLoc (s : Cs) (a : Nat) (t : Bs) : (s.setLoc a t).stk.length ≤ s.stk.length := by
  unfold Cs.setLoc
  split <;> exact le_local s a
theorem rel_same {x : Cs} {s : Cs} (h : x.stk.length ≤ s.stk.length) (hs : s.stk.length ≤ r) : Rel r x x := rel_base (Nat.le_trans h hs)
theorem rel_tell {s : Cs} (hs : s.stk.length ≤ r) (c : Int) (a : Nat) : Rel r (s.tell E c a) (s.tell { E with room := r } c a) := by
  have hs0 : Rel r s s := rel_base hs
  -- tell
  unfold Cs.tell
  split
  · exact hs0
  split
  · exact rel_push hs0 _
  split
  · exact rel_push hs0 _
  split
  · have hp : (s.pooled E a [3, 5, 8]).2.stk.length ≤ r := Nat.le_trans (le_pooled _ _ _) hs
    unfold Cs.tellC
    show Rel r _ (if (s.pooled E a [3, 5, 8]).1.kind = 3 then ((s.pooled E a [3, 5, 8]).2.refuse (decide (¬ (-2147483648 ≤ (s.pooled E a [3, 5, 8]).1.num ∧ (s.pooled E a [3, 5, 8]).1.num ≤ 2147483647))) 12).push { E with room := r } tInt
      else if (s.pooled E a [3, 5, 8]).1.kind = 5 then (s.pooled E a [3, 5, 8]).2.push { E with room := r } tLong
      else if (s.pooled E a [3, 5, 8]).1.kind = 8 then (s.pooled E a [3, 5, 8]).2.push { E with room := r } tText else (s.pooled E a [3, 5, 8]).2)
    dsimp only
    split
    · exact rel_push (rel_base (Nat.le_trans (le_ref _ _ _) hp)) _
    split
    · exact rel_push (rel_base hp) _
    split
    · exact rel_push (rel_base hp) _
    · exact rel_base hp
  · exact rel_push hs0 _
theorem rel_load {s : Cs} (hs : s.stk.length ≤ r) (c : Int) (a : Nat) : Rel r (s.load E c a) (s.load { E with room := r } c a) := by
  have hs0 : Rel r s s := rel_base hs
  exact rel_push (rel_base (Nat.le_trans (le_ref _ _ _) (Nat.le_trans (le_local s a) hs))) _
theorem rel_getE {s : Cs} (hs : s.stk.length ≤ r) (c : Int) (a : Nat) : Rel r (s.getE E c) (s.getE { E with room := r } c) := by
  have hs0 : Rel r s s := rel_base hs
  unfold Cs.getE
  have h1 : (s.pop E tInt).stk.length ≤ r := Nat.le_trans (le_pop _ _) hs
  dsimp only
  split
  · exact rel_push (rel_base (Nat.le_trans (le_pop (s.pop E tInt) [91, 73]) h1)) _
  split
  · exact rel_push (rel_base (Nat.le_trans (le_pop (s.pop E tInt) [91, 74]) h1)) _
  split
  · exact rel_push (rel_base (Nat.le_trans (le_popRefs (s.pop E tInt)) h1)) _
  · exact rel_base h1
theorem rel_store {s : Cs} (hs : s.stk.length ≤ r) (c : Int) (a : Nat) : Rel r (s.store E c a) (s.store { E with room := r } c a) := by
  have hs0 : Rel r s s := rel_base hs
  unfold Cs.store
  split
  · exact rel_base (Nat.le_trans (le_setLoc _ _ _) (Nat.le_trans (le_pop (E := E) s tInt) hs))
  split
  · exact rel_base (Nat.le_trans (le_setLoc _ _ _) (Nat.le_trans (le_pop (E := E) s tLong) hs))
  split
  · exact rel_base (Nat.le_trans (le_setLoc _ _ _) (Nat.le_trans (le_popRef (E := E) s) hs))
  · exact rel_base (Nat.le_trans (le_setLoc _ _ _) hs)
theorem rel_putE {s : Cs} (hs : s.stk.length ≤ r) (c : Int) (a : Nat) : Rel r (s.putE E c) (s.putE { E with room := r } c) := by
  have hs0 : Rel r s s := rel_base hs
  unfold Cs.putE
  split
  · exact rel_base (Nat.le_trans (le_pop (E := E) _ [91, 73]) (Nat.le_trans (le_pop (E := E) _ tInt) (Nat.le_trans (le_pop (E := E) s tInt) hs)))
  split
  · exact rel_base (Nat.le_trans (le_pop (E := E) _ [91, 74]) (Nat.le_trans (le_pop (E := E) _ tInt) (Nat.le_trans (le_pop (E := E) s tLong) hs)))
  split
  · exact rel_base (Nat.le_trans (le_popRefs (E := E) _) (Nat.le_trans (le_pop (E := E) _ tInt) (Nat.le_trans (le_popRef (E := E) s) hs)))
  · exact hs0
theorem rel_turn {s : Cs} (hs : s.stk.length ≤ r) (c : Int) (a : Nat) : Rel r (s.turn E c) (s.turn { E with room := r } c) := by
  have hs0 : Rel r s s := rel_base hs
  unfold Cs.turn
  have h1 := Nat.le_trans (le_take s) hs
  have h2 := Nat.le_trans (le_take s.take.2) h1
  dsimp only
  split
  · exact rel_push (rel_push (rel_base h1) _) _
  split
  · exact rel_push (rel_push (rel_push (rel_base h2) _) _) _
  split
  · exact rel_push (rel_push (rel_base h2) _) _
  · exact rel_base h1
theorem rel_count {s : Cs} (hs : s.stk.length ≤ r) (c : Int) (a : Nat) : Rel r (s.count a) (s.count a) := by
  have hs0 : Rel r s s := rel_base hs
  exact rel_base (Nat.le_trans (le_ref _ _ _) (Nat.le_trans (le_local s a) hs))
theorem rel_compute {s : Cs} (hs : s.stk.length ≤ r) (c : Int) (a : Nat) : Rel r (s.compute E c) (s.compute { E with room := r } c) := by
  have hs0 : Rel r s s := rel_base hs
  unfold Cs.compute
  dsimp only
  split
  · exact rel_push (rel_base (Nat.le_trans (le_pop (E := E) s _) hs)) _
  · exact rel_push (rel_base (Nat.le_trans (le_pop (E := E) _ _) (Nat.le_trans (le_pop (E := E) s _) hs))) _
theorem rel_compare {s : Cs} (hs : s.stk.length ≤ r) (c : Int) (a : Nat) : Rel r (s.compare E c) (s.compare { E with room := r } c) := by
  have hs0 : Rel r s s := rel_base hs
  unfold Cs.compare
  split
  · exact rel_base (Nat.le_trans (le_pop (E := E) s tInt) hs)
  split
  · exact rel_base (Nat.le_trans (le_pop (E := E) _ tInt) (Nat.le_trans (le_pop (E := E) s tInt) hs))
  split
  · exact rel_base (Nat.le_trans (le_popRef (E := E) _) (Nat.le_trans (le_popRef (E := E) s) hs))
  split
  · exact rel_base (Nat.le_trans (le_popRef (E := E) s) hs)
  · exact hs0
theorem rel_giveBack {s : Cs} (hs : s.stk.length ≤ r) (c : Int) (a : Nat) : Rel r (s.giveBack E c) (s.giveBack { E with room := r } c) := by
  have hs0 : Rel r s s := rel_base hs
  unfold Cs.giveBack
  dsimp only
  split
  · exact rel_base (Nat.le_trans (le_ref _ _ _) hs)
  · exact rel_base (Nat.le_trans (le_pop (E := E) _ _) (Nat.le_trans (le_ref _ _ _) hs))
theorem le_know (s : Cs) (t : Bs) : (s.know E t).stk.length ≤ s.stk.length := le_ref _ _ _
theorem rel_field {s : Cs} (hs : s.stk.length ≤ r) (c : Int) (a : Nat) : Rel r (s.field E c a) (s.field { E with room := r } c a) := by
  have hp := Nat.le_trans (le_pooled (E := E) s a [9]) hs
  unfold Cs.field
  dsimp only
  have e : s.pooled { E with room := r } a [9] = s.pooled E a [9] := rfl
  rw [e]
  generalize s.pooled E a [9] = p at *
  generalize decide (c = 178 ∨ c = 179) = st
  generalize decide (c = 179 ∨ c = 181) = wr
  have h1 : ∀ (b : Bool) (t : Bs), ((p.2.refuse b 70).know E t).stk.length ≤ r := fun b t => Nat.le_trans (le_know _ _) (Nat.le_trans (le_ref _ _ _) hp)
  cases wr <;> cases st
  · exact rel_push (rel_base (Nat.le_trans (le_pop (E := E) _ _) (h1 _ _))) _
  · exact rel_push (rel_base (h1 _ _)) _
  · exact rel_base (Nat.le_trans (le_pop (E := E) _ _) (Nat.le_trans (le_pop (E := E) _ _) (h1 _ _)))
  · exact rel_base (Nat.le_trans (le_pop (E := E) _ _) (h1 _ _))
theorem params_room : ∀ (l : List Bs) (s : Cs), Cs.params { E with room := r } l s = Cs.params E l s
  | [], s => rfl
  | t :: l, s => params_room l _
theorem rel_call {s : Cs} (hs : s.stk.length ≤ r) (c : Int) (a : Nat) : Rel r (s.call E c a) (s.call { E with room := r } c a) := by
  have hc := Nat.le_trans (le_callee (E := E) s c a) hs
  unfold Cs.call
  dsimp only
  have e : s.callee { E with room := r } c a = s.callee E c a := rfl
  rw [e]
  generalize s.callee E c a = p at *
  have e2 := params_room (E := E) (r := r) (E.metD p.1.desc).1.reverse p.2
  have e3 : Cs.params { E with room := r } (E.metD p.1.desc).1.reverse p.2 = Cs.params E (E.metD p.1.desc).1.reverse p.2 := e2
  simp only [e3]
  have h1 := Nat.le_trans (le_params (E := E) (E.metD p.1.desc).1.reverse p.2) hc
  generalize Cs.params E (E.metD p.1.desc).1.reverse p.2 = q at *
  have key : ∀ b : Cs, b.stk.length ≤ r → Rel r (if (E.metD p.1.desc).2 = tVoid then b else (b.know E (E.metD p.1.desc).2).push E (E.metD p.1.desc).2) (if (E.metD p.1.desc).2 = tVoid then b else (b.know { E with room := r } (E.metD p.1.desc).2).push { E with room := r } (E.metD p.1.desc).2) := fun b hb => by
    split
    · exact rel_base hb
    · exact rel_push (rel_base (Nat.le_trans (le_know (E := E) _ _) hb)) _
  by_cases h2 : c = 182 ∨ c = 185
  · rw [if_pos h2, if_pos h2]
    exact key _ (Nat.le_trans (le_pop (E := E) _ _) h1)
  · rw [if_neg h2, if_neg h2]
    by_cases h3 : c = 183
    · rw [if_pos h3, if_pos h3]
      exact key _ (Nat.le_trans (le_pop (E := E) _ _) h1)
    · rw [if_neg h3, if_neg h3]
      exact key _ h1
theorem rel_thing {s : Cs} (hs : s.stk.length ≤ r) (c : Int) (a : Nat) : Rel r (s.thing E c a) (s.thing { E with room := r } c a) := by
  have hp := Nat.le_trans (le_pooled (E := E) s a [7]) hs
  unfold Cs.thing
  split
  · unfold Cs.made
    exact rel_push (rel_base (Nat.le_trans (le_ref _ _ _) hp)) _
  split
  · exact rel_push (rel_base (Nat.le_trans (le_pop (E := E) _ _) (Nat.le_trans (le_ref _ _ _) hs))) _
  split
  · exact rel_push (rel_base (Nat.le_trans (le_pop (E := E) _ _) (Nat.le_trans (le_know (E := E) _ _) hp))) _
  split
  · exact rel_push (rel_base (Nat.le_trans (le_ref _ _ _) (Nat.le_trans (le_popRef (E := E) _) hs))) _
  split
  · exact rel_base (Nat.le_trans (le_pop (E := E) _ _) hs)
  split
  · exact rel_push (rel_base (Nat.le_trans (le_popRef (E := E) _) (Nat.le_trans (le_know (E := E) _ _) hp))) _
  · exact rel_base hs
theorem rel_do {s : Cs} (hs : s.stk.length ≤ r) (c : Int) (a : Nat) : Rel r (s.doOp E c a) (s.doOp { E with room := r } c a) := by
  by_cases h0 : c ≤ 19
  · rw [show s.doOp E c a = s.tell E c a by unfold Cs.doOp; rw [if_pos h0], show s.doOp { E with room := r } c a = s.tell { E with room := r } c a by unfold Cs.doOp; rw [if_pos h0]]
    exact rel_tell hs c a
  by_cases h1 : c ≤ 25
  · rw [show s.doOp E c a = s.load E c a by unfold Cs.doOp; rw [if_neg h0, if_pos h1], show s.doOp { E with room := r } c a = s.load { E with room := r } c a by unfold Cs.doOp; rw [if_neg h0, if_pos h1]]
    exact rel_load hs c a
  by_cases h2 : c ≤ 50
  · rw [show s.doOp E c a = s.getE E c by unfold Cs.doOp; rw [if_neg h0, if_neg h1, if_pos h2], show s.doOp { E with room := r } c a = s.getE { E with room := r } c by unfold Cs.doOp; rw [if_neg h0, if_neg h1, if_pos h2]]
    exact rel_getE hs c a
  by_cases h3 : c ≤ 58
  · rw [show s.doOp E c a = s.store E c a by unfold Cs.doOp; rw [if_neg h0, if_neg h1, if_neg h2, if_pos h3], show s.doOp { E with room := r } c a = s.store { E with room := r } c a by unfold Cs.doOp; rw [if_neg h0, if_neg h1, if_neg h2, if_pos h3]]
    exact rel_store hs c a
  by_cases h4 : c ≤ 83
  · rw [show s.doOp E c a = s.putE E c by unfold Cs.doOp; rw [if_neg h0, if_neg h1, if_neg h2, if_neg h3, if_pos h4], show s.doOp { E with room := r } c a = s.putE { E with room := r } c by unfold Cs.doOp; rw [if_neg h0, if_neg h1, if_neg h2, if_neg h3, if_pos h4]]
    exact rel_putE hs c a
  by_cases h5 : c ≤ 95
  · rw [show s.doOp E c a = s.turn E c by unfold Cs.doOp; rw [if_neg h0, if_neg h1, if_neg h2, if_neg h3, if_neg h4, if_pos h5], show s.doOp { E with room := r } c a = s.turn { E with room := r } c by unfold Cs.doOp; rw [if_neg h0, if_neg h1, if_neg h2, if_neg h3, if_neg h4, if_pos h5]]
    exact rel_turn hs c a
  by_cases h6 : c = 132
  · rw [show s.doOp E c a = s.count a by unfold Cs.doOp; rw [if_neg h0, if_neg h1, if_neg h2, if_neg h3, if_neg h4, if_neg h5, if_pos h6], show s.doOp { E with room := r } c a = s.count a by unfold Cs.doOp; rw [if_neg h0, if_neg h1, if_neg h2, if_neg h3, if_neg h4, if_neg h5, if_pos h6]]
    exact rel_count hs c a
  by_cases h7 : c ≤ 148
  · rw [show s.doOp E c a = s.compute E c by unfold Cs.doOp; rw [if_neg h0, if_neg h1, if_neg h2, if_neg h3, if_neg h4, if_neg h5, if_neg h6, if_pos h7], show s.doOp { E with room := r } c a = s.compute { E with room := r } c by unfold Cs.doOp; rw [if_neg h0, if_neg h1, if_neg h2, if_neg h3, if_neg h4, if_neg h5, if_neg h6, if_pos h7]]
    exact rel_compute hs c a
  by_cases h8 : c ≤ 167 ∨ 198 ≤ c
  · rw [show s.doOp E c a = s.compare E c by unfold Cs.doOp; rw [if_neg h0, if_neg h1, if_neg h2, if_neg h3, if_neg h4, if_neg h5, if_neg h6, if_neg h7, if_pos h8], show s.doOp { E with room := r } c a = s.compare { E with room := r } c by unfold Cs.doOp; rw [if_neg h0, if_neg h1, if_neg h2, if_neg h3, if_neg h4, if_neg h5, if_neg h6, if_neg h7, if_pos h8]]
    exact rel_compare hs c a
  by_cases h9 : c ≤ 177
  · rw [show s.doOp E c a = s.giveBack E c by unfold Cs.doOp; rw [if_neg h0, if_neg h1, if_neg h2, if_neg h3, if_neg h4, if_neg h5, if_neg h6, if_neg h7, if_neg h8, if_pos h9], show s.doOp { E with room := r } c a = s.giveBack { E with room := r } c by unfold Cs.doOp; rw [if_neg h0, if_neg h1, if_neg h2, if_neg h3, if_neg h4, if_neg h5, if_neg h6, if_neg h7, if_neg h8, if_pos h9]]
    exact rel_giveBack hs c a
  by_cases h10 : c ≤ 181
  · rw [show s.doOp E c a = s.field E c a by unfold Cs.doOp; rw [if_neg h0, if_neg h1, if_neg h2, if_neg h3, if_neg h4, if_neg h5, if_neg h6, if_neg h7, if_neg h8, if_neg h9, if_pos h10], show s.doOp { E with room := r } c a = s.field { E with room := r } c a by unfold Cs.doOp; rw [if_neg h0, if_neg h1, if_neg h2, if_neg h3, if_neg h4, if_neg h5, if_neg h6, if_neg h7, if_neg h8, if_neg h9, if_pos h10]]
    exact rel_field hs c a
  by_cases h11 : c ≤ 185
  · rw [show s.doOp E c a = s.call E c a by unfold Cs.doOp; rw [if_neg h0, if_neg h1, if_neg h2, if_neg h3, if_neg h4, if_neg h5, if_neg h6, if_neg h7, if_neg h8, if_neg h9, if_neg h10, if_pos h11], show s.doOp { E with room := r } c a = s.call { E with room := r } c a by unfold Cs.doOp; rw [if_neg h0, if_neg h1, if_neg h2, if_neg h3, if_neg h4, if_neg h5, if_neg h6, if_neg h7, if_neg h8, if_neg h9, if_neg h10, if_pos h11]]
    exact rel_call hs c a
  rw [show s.doOp E c a = s.thing E c a by unfold Cs.doOp; rw [if_neg h0, if_neg h1, if_neg h2, if_neg h3, if_neg h4, if_neg h5, if_neg h6, if_neg h7, if_neg h8, if_neg h9, if_neg h10, if_neg h11], show s.doOp { E with room := r } c a = s.thing { E with room := r } c a by unfold Cs.doOp; rw [if_neg h0, if_neg h1, if_neg h2, if_neg h3, if_neg h4, if_neg h5, if_neg h6, if_neg h7, if_neg h8, if_neg h9, if_neg h10, if_neg h11]]
  exact rel_thing hs c a
end
end Go.Proofs.YtpdnonlelocfbaaGreatDoor
