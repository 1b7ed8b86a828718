/- Texts of this claim, joined: CFlwIMap, CFolMap. -/
import Derived.Test.YtbkeneadoccodaaJCFlwCatch
import Derived.Maps.Own
import Derived.Maps.OwnOps
import Derived.Maps.OwnSet
import Derived.Maps.Views
/- Maps of numbers: what stands at each number. -/
namespace Go.Proofs.Ytbkeneadoccodaa
open Go.RowKit Go Go.Maps
set_option linter.unusedVariables false
def hv (v : Value) : Option (DataW Value × List MemPlace) := some (.held v, [])
theorem hv_eq {v : Value} {d : DataW Value} {ps : List MemPlace} (h : hv v = some (d, ps)) : d = .held v := by
 unfold hv at h
 injection h with h
 injection h with h _
 exact h.symm
abbrev I6 (n : Int) : Prop := -9223372036854775808 ≤ n ∧ n ≤ 9223372036854775807
theorem lawI : Keyed Try.prog 3 := int_keyed Try.underlying3
abbrev litI (n : Int) : Lit := .int .i64 n
theorem key_i {n : Int} (h : I6 n) : keyOf Try.prog 3 (.int .i64 n) = some (litI n) := keyOf_int_mk Try.underlying3 (WalkArith.wf_i64 (by have := h.1; have := h.2; omega))
def MI (w : World) (b n : Nat) (f : Int → Option Value) : Prop :=
 ∃ D : DataW Value, w.ownsMap Try.prog 3 hv b n D ∧ ∀ s : Int, I6 s → has D (litI s) = (f s).isSome ∧ ∀ v, f s = some v → ∀ z, D.atKey (litI s) z = .held v
theorem MI.lt {w : World} {b n : Nat} {f : Int → Option Value} (h : MI w b n f) : b < w.heap.size := by
 obtain ⟨D, h1, _⟩ := h
 exact h1.lt
theorem MI.of {w w' : World} {b n : Nat} {f : Int → Option Value} (h : MI w b n f) (e : w'.heap[b]? = w.heap[b]?) : MI w' b n f := by
 obtain ⟨D, ⟨es, clock, h1, h2⟩, h3⟩ := h
 exact ⟨D, ⟨es, clock, e.trans h1, h2⟩, h3⟩
theorem MI.ch {X : Nat → Prop} {w w' : World} {b n : Nat} {f : Int → Option Value} (h : MI w b n f) (hc : Ch X w w') (hX : ¬ X b) : MI w' b n f := h.of (hc.block b h.lt hX)
theorem MI.below {w w' : World} {b n : Nat} {f : Int → Option Value} (h : MI w b n f) (hb : Below w.heap.size w w') : MI w' b n f := h.of (hb.block b h.lt)
theorem MI.alloc {w : World} {b n : Nat} {f : Int → Option Value} (h : MI w b n f) (o : Obj) : MI (w.alloc o) b n f := h.of (Below.heap_alloc _ _ _ h.lt)
theorem MI.set {w : World} {b n : Nat} {f : Int → Option Value} (h : MI w b n f) {p : Addr} (hp : b ≠ p.block) (u : Value) : MI (w.setCell p u) b n f := h.of (Below.heap_setCell _ _ _ _ hp)
theorem MI.mono {w : World} {b n m : Nat} {f : Int → Option Value} (h : MI w b n f) (hn : n ≤ m) : MI w b m f := by
 obtain ⟨D, h1, h2⟩ := h
 exact ⟨D, h1.mono hn, h2⟩
theorem MI.ext {w : World} {b n : Nat} {f f' : Int → Option Value} (h : MI w b n f) (hf : ∀ s, f s = f' s) : MI w b n f' := by
 have : f = f' := funext hf
 rw [← this]
 exact h
theorem mi_made (w : World) : MI (w.alloc (.map #[] 0)) w.heap.size 0 (fun _ => none) :=
 ⟨_, World.ownsMap_made _ _ _ _, fun s _ => ⟨rfl, fun v h => by cases h⟩⟩
theorem MI.look {w : World} {b n : Nat} {f : Int → Option Value} (h : MI w b n f) {t e : TypeId} (ht : Try.prog.underlying t = some (.map 3 e)) {z : Value} (hz : (zeroValue e).run Try.prog w = .ok z w) {s : Int} (hs : I6 s) :
  (Instr.lookup t (.map (some b)) (.int .i64 s) false).run Try.prog w = .ok ((f s).getD z) w ∧ (Instr.lookup t (.map (some b)) (.int .i64 s) true).run Try.prog w = .ok (.tuple #[(f s).getD z, .bool (f s).isSome]) w := by
 obtain ⟨D, h1, h2⟩ := h
 obtain ⟨h3, h4⟩ := h2 s hs
 have hat : ∀ v, .held v = D.atKey (litI s) (.held z) → v = (f s).getD z := fun v hv' => by
  cases hf : f s with
  | none =>
   rw [hf] at h3
   rw [atKey_of_not_has h3] at hv'
   injection hv'
  | some u =>
   rw [h4 u hf] at hv'
   injection hv'
 constructor
 ·obtain ⟨v, ps, hr, hv'⟩ := h1.lookup lawI ht hz (zd := .held z) (zp := []) rfl (key_i hs)
  rw [hr, hat v (hv_eq hv').symm]
 ·obtain ⟨v, ps, hr, hv'⟩ := h1.look_ok lawI ht hz (zd := .held z) (zp := []) rfl (key_i hs)
  rw [hr, hat v (hv_eq hv').symm, h3]
theorem mi_put {f : Int → Option Value} {D : DataW Value} {s : Int} {v : Value} (hm : IsMap D) (h : ∀ t : Int, I6 t → has D (litI t) = (f t).isSome ∧ ∀ u, f t = some u → ∀ z, D.atKey (litI t) z = .held u) :
  ∀ t : Int, I6 t → has (D.put (litI s) (.held v)) (litI t) = (if t = s then some v else f t).isSome ∧ ∀ u, (if t = s then some v else f t) = some u → ∀ z, (D.put (litI s) (.held v)).atKey (litI t) z = .held u := by
 intro t ht
 by_cases e : t = s
 ·subst e
  rw [if_pos rfl]
  exact ⟨has_put_same hm (by trivial) _, fun u hu z => by injection hu with hu; rw [← hu]; exact atKey_put_same hm (by trivial) _ _⟩
 ·rw [if_neg e]
  have e2 : litI t ≠ litI s := fun e3 => e (by injection e3)
  exact ⟨by rw [has_put_other e2]; exact (h t ht).1, fun u hu z => by rw [atKey_put_other e2]; exact (h t ht).2 u hu z⟩
theorem MI.put {w : World} {b n : Nat} {f : Int → Option Value} (h : MI w b n f) {t e : TypeId} (ht : Try.prog.underlying t = some (.map 3 e)) (hn : n < maxLen) {s : Int} (hs : I6 s) (v : Value) :
  ∃ w', (Instr.mapUpdate t (.map (some b)) (.int .i64 s) v).run Try.prog w = .ok () w' ∧ MI w' b (n + 1) (fun t => if t = s then some v else f t) ∧ w.grownBy w' (some b) ∧ w'.heap.size = w.heap.size := by
 obtain ⟨D, h1, h2⟩ := h
 obtain ⟨w', hr, h3, h4⟩ := h1.store lawI ht hn (key_i hs) (d := .held v) (ps := []) rfl
 refine ⟨w', hr, ⟨_, h3, mi_put h1.isMap h2⟩, h4.grown, ?_⟩
 obtain ⟨es, clock, es', clock', _, rfl⟩ := h4
 simp [Go.ChangeMaps.setBlock]
theorem wpList_put_mi (w : World) {ops : Array Oper} {rest : List Oper} {o : Oper} {a : Act} {Q : Exit → Act → World → Prop}
  (hg : o.guard = none) (m x v : Operand) (t : TypeId) (hop : o.op = Op.mapUpdate t m x v) (e : TypeId) (ht : Try.prog.underlying t = some (.map 3 e)) (b n : Nat) (f : Int → Option Value)
  (hm : a.eval m = .map (some b)) (hown : MI w b n f) (hn : n < maxLen) (s : Int) (hx : a.eval x = .int .i64 s) (hs : I6 s) (val : Value) (hv : a.eval v = val)
  (hK : ∀ w', MI w' b (n + 1) (fun t => if t = s then some val else f t) → w.grownBy w' (some b) → w'.heap.size = w.heap.size → wpList Try.prog ops Q rest (a.put o.dst undef) w') :
  wpList Try.prog ops Q (o :: rest) a w := by
 refine wpList_plain hg fun K' hK' => ?_
 obtain ⟨w', hrun, r1, r2, r3⟩ := hown.put ht hn hs val
 unfold Oper.wp
 simp [execOp, hop, hm, hx, hv, hrun, Result.andThen]
 exact hK' _ _ (hK w' r1 r2 r3)
end Go.Proofs.Ytbkeneadoccodaa
/- Maps of numbers: delete and clear. -/
namespace Go.Proofs.Ytbkeneadoccodaa
open Go.RowKit Go Go.Maps
set_option linter.unusedVariables false
theorem MI.drop {w : World} {b n : Nat} {f : Int → Option Value} (h : MI w b n f) {t e : TypeId} (ht : Try.prog.underlying t = some (.map 3 e)) {s : Int} (hs : I6 s) (ty : TypeId) :
  ∃ w', (Builtin.delete_ #[t, 3] ty #[.map (some b), .int .i64 s]).run Try.prog w = .ok (.tuple #[]) w' ∧ MI w' b n (fun t => if t = s then none else f t) ∧ w.grownBy w' (some b) ∧ w'.heap.size = w.heap.size := by
 obtain ⟨D, h1, h2⟩ := h
 obtain ⟨w', hr, h3, h4⟩ := h1.drop lawI ht (key_i hs) ty
 refine ⟨w', hr, ⟨_, h3, fun u hu => ?_⟩, h4.grown, ?_⟩
 ·dsimp only
  by_cases e : u = s
  ·subst e
   rw [if_pos rfl]
   exact ⟨has_del_same, fun v hv => by cases hv⟩
  ·rw [if_neg e]
   have e2 : litI u ≠ litI s := fun e3 => e (by injection e3)
   exact ⟨by rw [has_del_other e2]; exact (h2 u hu).1, fun v hv z => by rw [atKey_del_other e2]; exact (h2 u hu).2 v hv z⟩
 ·obtain ⟨es, clock, es', clock', _, rfl⟩ := h4
  simp [Go.ChangeMaps.setBlock]
theorem MI.clear {w : World} {b n : Nat} {f : Int → Option Value} (h : MI w b n f) {t e : TypeId} (ht : Try.prog.underlying t = some (.map 3 e)) (ty : TypeId) :
  ∃ w', (Builtin.clear_ #[t] ty #[.map (some b)]).run Try.prog w = .ok (.tuple #[]) w' ∧ MI w' b 0 (fun _ => none) ∧ w.grownBy w' (some b) ∧ w'.heap.size = w.heap.size := by
 obtain ⟨D, ⟨es, clock, hb, h1⟩, h2⟩ := h
 have hrun : (Builtin.clear_ #[t] ty #[.map (some b)]).run Try.prog w = .ok (.tuple #[]) (Go.ChangeMaps.setBlock w b (.map #[] clock)) := by
  simp [Builtin.clear_, run_underlying ht, MapKept.run_getObj_map hb, MapKept.run_setObj_map _ hb, Result.andThen, Go.ChangeMaps.setBlock]
 have ht2 : w.mapTurned (Go.ChangeMaps.setBlock w b (.map #[] clock)) b := ⟨es, clock, #[], clock, hb, rfl⟩
 refine ⟨_, hrun, ⟨.map [], ⟨#[], clock, Go.ChangeMaps.heap_setBlock_same hb _, ⟨by simp, MapKept.stamped_empty clock, by simp⟩, Nat.le_refl _, rfl⟩, fun s _ => ⟨rfl, fun v hv => by cases hv⟩⟩, ht2.grown, by simp [Go.ChangeMaps.setBlock]⟩
theorem wpList_drop_mi (w : World) {ops : Array Oper} {rest : List Oper} {o : Oper} {a : Act} {Q : Exit → Act → World → Prop}
  (hg : o.guard = none) (m x : Operand) (t : TypeId) (hop : o.op = Op.call { callee := Callee.builtin Builtin.delete, args := #[m, x], argTypes := #[t, 3] }) (e : TypeId) (ht : Try.prog.underlying t = some (.map 3 e)) (b n : Nat) (f : Int → Option Value)
  (hm : a.eval m = .map (some b)) (hown : MI w b n f) (s : Int) (hx : a.eval x = .int .i64 s) (hs : I6 s)
  (hK : ∀ w', MI w' b n (fun t => if t = s then none else f t) → w.grownBy w' (some b) → w'.heap.size = w.heap.size → wpList Try.prog ops Q rest (a.put o.dst (.tuple #[])) w') :
  wpList Try.prog ops Q (o :: rest) a w := by
 refine wpList_plain hg fun K' hK' => ?_
 obtain ⟨w', hrun, r1, r2, r3⟩ := hown.drop ht hs o.type
 unfold Oper.wp
 simp [execOp, hop, resolve, invoke, builtin, hm, hx, hrun, Result.andThen]
 exact hK' _ _ (hK w' r1 r2 r3)
theorem wpList_clear_mi (w : World) {ops : Array Oper} {rest : List Oper} {o : Oper} {a : Act} {Q : Exit → Act → World → Prop}
  (hg : o.guard = none) (m : Operand) (t : TypeId) (hop : o.op = Op.call { callee := Callee.builtin Builtin.clear, args := #[m], argTypes := #[t] }) (e : TypeId) (ht : Try.prog.underlying t = some (.map 3 e)) (b n : Nat) (f : Int → Option Value)
  (hm : a.eval m = .map (some b)) (hown : MI w b n f)
  (hK : ∀ w', MI w' b 0 (fun _ => none) → w.grownBy w' (some b) → w'.heap.size = w.heap.size → wpList Try.prog ops Q rest (a.put o.dst (.tuple #[])) w') :
  wpList Try.prog ops Q (o :: rest) a w := by
 refine wpList_plain hg fun K' hK' => ?_
 obtain ⟨w', hrun, r1, r2, r3⟩ := hown.clear ht o.type
 unfold Oper.wp
 simp [execOp, hop, resolve, invoke, builtin, hm, hrun, Result.andThen]
 exact hK' _ _ (hK w' r1 r2 r3)
end Go.Proofs.Ytbkeneadoccodaa
