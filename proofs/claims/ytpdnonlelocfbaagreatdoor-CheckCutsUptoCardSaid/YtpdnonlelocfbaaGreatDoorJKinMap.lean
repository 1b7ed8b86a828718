/- Maps of package kin: what stands at each text. -/
import Derived.Test.YtpdnonlelocfbaaGreatDoorM2
import Derived.Maps.Own
import Derived.Maps.OwnOps
import Derived.Maps.OwnSet
import Derived.Maps.Views
import Derived.Maps.RangeWalk
namespace Go.Proofs.YtpdnonlelocfbaaGreatDoor
open Go.RowKit Go Go.Maps
set_option linter.unusedVariables false

theorem lawS : Keyed Tryz.prog 9 := string_keyed Tryz.underlying9
/-- What stands in a map is the value itself. -/
def hv (v : Value) : Option (DataW Value × List MemPlace) := some (.held v, [])
theorem hv_eq {v : Value} {d : DataW Value} {ps : List MemPlace} (h : hv v = some (d, ps)) : d = .held v := by
  unfold hv at h
  injection h with h
  injection h with h _
  exact h.symm
abbrev litS (s : Bs) : Lit := .string s
theorem key_tx {s : Bs} (h : s.length ≤ maxLen) : keyOf Tryz.prog 9 (.string (tx s)) = some (litS s) := by
  have := Go.WideMaps.keyOf_string_mk (P := Tryz.prog) (k := 9) Tryz.underlying9 (s := tx s) (by rw [tx_size]; exact h)
  rw [tx_list] at this
  exact this
/-- Block b is a map of at most n entries: at the text s stands f s. -/
def MV (w : World) (b n : Nat) (f : Bs → Option Value) : Prop :=
  ∃ D : DataW Value, w.ownsMap Tryz.prog 9 hv b n D ∧ ∀ s : Bs, s.length ≤ maxLen → has D (litS s) = (f s).isSome ∧ ∀ v, f s = some v → ∀ z, D.atKey (litS s) z = .held v
theorem MV.lt {w : World} {b n : Nat} {f : Bs → Option Value} (h : MV w b n f) : b < w.heap.size := by
  obtain ⟨D, h1, _⟩ := h
  exact h1.lt
theorem MV.of {w w' : World} {b n : Nat} {f : Bs → Option Value} (h : MV w b n f) (e : w'.heap[b]? = w.heap[b]?) : MV w' b n f := by
  obtain ⟨D, ⟨es, clock, h1, h2⟩, h3⟩ := h
  exact ⟨D, ⟨es, clock, e.trans h1, h2⟩, h3⟩
theorem MV.ch {X : Nat → Prop} {w w' : World} {b n : Nat} {f : Bs → Option Value} (h : MV w b n f) (hc : Ch X w w') (hX : ¬ X b) : MV w' b n f := h.of (hc.block b h.lt hX)
theorem MV.below {w w' : World} {b n : Nat} {f : Bs → Option Value} (h : MV w b n f) (hb : Below w.heap.size w w') : MV w' b n f := h.of (hb.block b h.lt)
theorem MV.alloc {w : World} {b n : Nat} {f : Bs → Option Value} (h : MV w b n f) (o : Obj) : MV (w.alloc o) b n f := h.of (Below.heap_alloc _ _ _ h.lt)
theorem MV.set {w : World} {b n : Nat} {f : Bs → Option Value} (h : MV w b n f) {p : Addr} (hp : b ≠ p.block) (u : Value) : MV (w.setCell p u) b n f := h.of (Below.heap_setCell _ _ _ _ hp)
theorem MV.mono {w : World} {b n m : Nat} {f : Bs → Option Value} (h : MV w b n f) (hn : n ≤ m) : MV w b m f := by
  obtain ⟨D, h1, h2⟩ := h
  exact ⟨D, h1.mono hn, h2⟩
theorem MV.ext {w : World} {b n : Nat} {f f' : Bs → Option Value} (h : MV w b n f) (hf : ∀ s, f s = f' s) : MV w b n f' := by
  have : f = f' := funext hf
  rw [← this]
  exact h
theorem mv_made (w : World) : MV (w.alloc (.map #[] 0)) w.heap.size 0 (fun _ => none) :=
  ⟨_, World.ownsMap_made _ _ _ _, fun s _ => ⟨rfl, fun v h => by cases h⟩⟩
/-- 'm[k]' and 'v, ok := m[k]'. -/
theorem MV.look {w : World} {b n : Nat} {f : Bs → Option Value} (h : MV w b n f) {t e : TypeId} (ht : Tryz.prog.underlying t = some (.map 9 e)) {z : Value} (hz : (zeroValue e).run Tryz.prog w = .ok z w) {s : Bs} (hs : s.length ≤ maxLen) :
    (Instr.lookup t (.map (some b)) (.string (tx s)) false).run Tryz.prog w = .ok ((f s).getD z) w ∧ (Instr.lookup t (.map (some b)) (.string (tx s)) true).run Tryz.prog w = .ok (.tuple #[(f s).getD z, .bool (f s).isSome]) w := by
  obtain ⟨D, h1, h2⟩ := h
  obtain ⟨h3, h4⟩ := h2 s hs
  have hat : ∀ v, .held v = D.atKey (litS s) (.held z) → v = (f s).getD z := fun v hv' => by
    cases hf : f s with
    | none =>
      rw [hf] at h3
      rw [atKey_of_not_has h3] at hv'
      injection hv'
    | some u =>
      rw [h4 u hf] at hv'
      injection hv'
  constructor
  · obtain ⟨v, ps, hr, hv'⟩ := h1.lookup lawS ht hz (zd := .held z) (zp := []) rfl (key_tx hs)
    rw [hr, hat v (hv_eq hv').symm]
  · obtain ⟨v, ps, hr, hv'⟩ := h1.look_ok lawS ht hz (zd := .held z) (zp := []) rfl (key_tx hs)
    rw [hr, hat v (hv_eq hv').symm, h3]
theorem mv_put {f : Bs → Option Value} {D : DataW Value} {s : Bs} {v : Value} (hm : IsMap D) (h : ∀ t : Bs, t.length ≤ maxLen → has D (litS t) = (f t).isSome ∧ ∀ u, f t = some u → ∀ z, D.atKey (litS t) z = .held u) :
    ∀ t : Bs, t.length ≤ maxLen → has (D.put (litS s) (.held v)) (litS t) = (if t = s then some v else f t).isSome ∧ ∀ u, (if t = s then some v else f t) = some u → ∀ z, (D.put (litS s) (.held v)).atKey (litS t) z = .held u := by
  intro t ht
  by_cases e : t = s
  · subst e
    rw [if_pos rfl]
    exact ⟨has_put_same hm (by trivial) _, fun u hu z => by injection hu with hu; rw [← hu]; exact atKey_put_same hm (by trivial) _ _⟩
  · rw [if_neg e]
    have e2 : litS t ≠ litS s := fun e3 => e (by injection e3)
    exact ⟨by rw [has_put_other e2]; exact (h t ht).1, fun u hu z => by rw [atKey_put_other e2]; exact (h t ht).2 u hu z⟩
/-- 'm[k] = v'. -/
theorem MV.put {w : World} {b n : Nat} {f : Bs → Option Value} (h : MV w b n f) {t e : TypeId} (ht : Tryz.prog.underlying t = some (.map 9 e)) (hn : n < maxLen) {s : Bs} (hs : s.length ≤ maxLen) (v : Value) :
    ∃ w', (Instr.mapUpdate t (.map (some b)) (.string (tx s)) v).run Tryz.prog w = .ok () w' ∧ MV w' b (n + 1) (fun t => if t = s then some v else f t) ∧ w.grownBy w' (some b) ∧ w'.heap.size = w.heap.size := by
  obtain ⟨D, h1, h2⟩ := h
  obtain ⟨w', hr, h3, h4⟩ := h1.store lawS ht hn (key_tx hs) (d := .held v) (ps := []) rfl
  refine ⟨w', hr, ⟨_, h3, mv_put h1.isMap h2⟩, h4.grown, ?_⟩
  obtain ⟨es, clock, es', clock', _, rfl⟩ := h4
  simp [Go.ChangeMaps.setBlock]
/-- .. at the operation. -/
theorem wpList_put_mv (w : World) {ops : Array Oper} {rest : List Oper} {o : Oper} {a : Act} {Q : Exit → Act → World → Prop}
    (hg : o.guard = none) (m x v : Operand) (t : TypeId) (hop : o.op = Op.mapUpdate t m x v) (e : TypeId) (ht : Tryz.prog.underlying t = some (.map 9 e)) (b n : Nat) (f : Bs → Option Value)
    (hm : a.eval m = .map (some b)) (hown : MV w b n f) (hn : n < maxLen) (s : Bs) (hx : a.eval x = .string (tx s)) (hs : s.length ≤ maxLen) (val : Value) (hv : a.eval v = val)
    (hK : ∀ w', MV w' b (n + 1) (fun t => if t = s then some val else f t) → w.grownBy w' (some b) → w'.heap.size = w.heap.size → wpList Tryz.prog ops Q rest (a.put o.dst undef) w') :
    wpList Tryz.prog ops Q (o :: rest) a w := by
  refine wpList_plain hg fun K' hK' => ?_
  obtain ⟨w', hrun, r1, r2, r3⟩ := hown.put ht hn hs val
  unfold Oper.wp
  simp [execOp, hop, hm, hx, hv, hrun, Result.andThen]
  exact hK' _ _ (hK w' r1 r2 r3)
theorem wpList_look_mv (w : World) {ops : Array Oper} {rest : List Oper} {o : Oper} {a : Act} {Q : Exit → Act → World → Prop}
    (hg : o.guard = none) (m x : Operand) (t : TypeId) (hop : o.op = Op.lookup t m x false) (e : TypeId) (ht : Tryz.prog.underlying t = some (.map 9 e)) (z : Value) (hz : (zeroValue e).run Tryz.prog w = .ok z w) (b n : Nat) (f : Bs → Option Value)
    (hm : a.eval m = .map (some b)) (hown : MV w b n f) (s : Bs) (hx : a.eval x = .string (tx s)) (hs : s.length ≤ maxLen) (v : Value) (hv : (f s).getD z = v)
    (hK : wpList Tryz.prog ops Q rest (a.put o.dst v) w) :
    wpList Tryz.prog ops Q (o :: rest) a w := by
  refine wpList_plain hg fun K' hK' => ?_
  have hrun := (hown.look ht hz hs).1
  rw [hv] at hrun
  unfold Oper.wp
  simp [execOp, hop, hm, hx, hrun, Result.andThen]
  exact hK' _ _ hK
theorem wpList_lookok_mv (w : World) {ops : Array Oper} {rest : List Oper} {o : Oper} {a : Act} {Q : Exit → Act → World → Prop}
    (hg : o.guard = none) (m x : Operand) (t : TypeId) (hop : o.op = Op.lookup t m x true) (e : TypeId) (ht : Tryz.prog.underlying t = some (.map 9 e)) (z : Value) (hz : (zeroValue e).run Tryz.prog w = .ok z w) (b n : Nat) (f : Bs → Option Value)
    (hm : a.eval m = .map (some b)) (hown : MV w b n f) (s : Bs) (hx : a.eval x = .string (tx s)) (hs : s.length ≤ maxLen) (v : Value) (hv : (f s).getD z = v) (ok : Bool) (hok : (f s).isSome = ok)
    (hK : wpList Tryz.prog ops Q rest (a.put o.dst (.tuple #[v, .bool ok])) w) :
    wpList Tryz.prog ops Q (o :: rest) a w := by
  refine wpList_plain hg fun K' hK' => ?_
  have hrun := (hown.look ht hz hs).2
  rw [hv, hok] at hrun
  unfold Oper.wp
  simp [execOp, hop, hm, hx, hrun, Result.andThen]
  exact hK' _ _ hK
/-- Block b is a set of texts. -/
def SV (w : World) (b : Nat) (S : List Bs) : Prop := S.Nodup ∧ MV w b S.length (fun s => if s ∈ S then some (.agg #[]) else none)
theorem SV.lt {w : World} {b : Nat} {S : List Bs} (h : SV w b S) : b < w.heap.size := h.2.lt
theorem SV.of {w w' : World} {b : Nat} {S : List Bs} (h : SV w b S) (e : w'.heap[b]? = w.heap[b]?) : SV w' b S := ⟨h.1, h.2.of e⟩
theorem SV.ch {X : Nat → Prop} {w w' : World} {b : Nat} {S : List Bs} (h : SV w b S) (hc : Ch X w w') (hX : ¬ X b) : SV w' b S := ⟨h.1, h.2.ch hc hX⟩
theorem SV.below {w w' : World} {b : Nat} {S : List Bs} (h : SV w b S) (hb : Below w.heap.size w w') : SV w' b S := ⟨h.1, h.2.below hb⟩
theorem SV.alloc {w : World} {b : Nat} {S : List Bs} (h : SV w b S) (o : Obj) : SV (w.alloc o) b S := ⟨h.1, h.2.alloc o⟩
theorem sv_made (w : World) : SV (w.alloc (.map #[] 0)) w.heap.size [] := ⟨List.nodup_nil, (mv_made w).ext fun s => by simp⟩
theorem sv_put {w : World} {b : Nat} {S : List Bs} {s : Bs} (h : S.Nodup) (hs : s ∉ S) (hm : MV w b (S.length + 1) (fun t => if t = s then some (.agg #[]) else if t ∈ S then some (.agg #[]) else none)) : SV w b (s :: S) :=
  ⟨List.nodup_cons.2 ⟨hs, h⟩, hm.ext fun t => by
    by_cases e : t = s
    · simp [e]
    · simp [e]⟩
theorem zero_unit (w : World) : (zeroValue 226).run Tryz.prog w = .ok (.agg #[]) w := by kernel_rfl
theorem und_set : Tryz.prog.underlying 170 = some (.map 9 226) := by kernel_rfl
set_option maxHeartbeats 1000000 in
theorem has_any (b : Nat) (S : List Bs) (s : Bs) (w : World) (h : Hid (SV w b S)) (hs : s.length ≤ maxLen) :
    Calls Tryz.prog 91 #[.map (some b), .string (tx s)] w fun e w' => e = .returned (.bool (decide (s ∈ S))) ∧ Below w.heap.size w w' := by
  obtain ⟨r, hr⟩ : ∃ r, decide (s ∈ S) = r := ⟨_, rfl⟩
  have HR := lhid hr
  clear hr
  go_enter Tryz.func91, Tryz.ntmps91
  go_wp2_with (at_lookup; refine wpList_lookok_mv _ rfl _ _ 170 rfl _ und_set _ (zero_unit _) b _ _ rfl h.out.2 s rfl hs (.agg #[]) (by split <;> rfl) r (by rw [← HR.out]; by_cases e : s ∈ S <;> simp [e]) ?_)
  go_ret
  exact ⟨by rw [HR.out]; rfl, (Below.refl _ _).alloc (Nat.le_refl _) _⟩
set_option maxHeartbeats 1000000 in
theorem has_nil (s : Bs) (w : World) (hs : s.length ≤ maxLen) :
    Calls Tryz.prog 91 #[.map none, .string (tx s)] w fun e w' => e = .returned (.bool false) ∧ Below w.heap.size w w' := by
  have hl : ∀ w', (Instr.lookup 170 (.map none) (.string (tx s)) true).run Tryz.prog w' = .ok (.tuple #[.agg #[], .bool false]) w' := fun w' => look_nil true lawS und_set (zero_unit w') (key_tx hs)
  go_enter Tryz.func91, Tryz.ntmps91
  go_wp2_with fail
  go_ret
  exact ⟨rfl, (Below.refl _ _).alloc (Nat.le_refl _) _⟩
set_option maxHeartbeats 1000000 in
theorem add_any (b : Nat) (S : List Bs) (s : Bs) (w : World) (h : Hid (SV w b S)) (hs : s.length ≤ maxLen) (hS : Hid (s ∉ S)) (hn : S.length < maxLen) :
    Calls Tryz.prog 92 #[.map (some b), .string (tx s)] w fun e w' => e = .returned (.tuple #[]) ∧ SV w' b (s :: S) ∧ Ch (· = b) w w' := by
  go_enter Tryz.func92, Tryz.ntmps92
  go_wp2_with (at_mapUpdate; refine wpList_put_mv _ rfl _ _ _ 170 rfl _ und_set b _ _ rfl h.out.2 hn s rfl hs _ rfl ?_)
  intro w' h1 h2 h3
  go_wp2_with fail
  go_end0
  exact ⟨rfl, sv_put h.out.1 hS.out h1, (Ch.refl _ _).grown h2 (by rintro k e _; injection e with e; exact e.symm)⟩
end Go.Proofs.YtpdnonlelocfbaaGreatDoor
