/- A tree of classes in memory: its block, its map of classes; find. -/
import Derived.Test.YtkphpihggbbpkaaKinCopyM
import Derived.Test.YtkphpihggbbpkaaKinName
namespace Go.Proofs.Ytkphpihggbbpkaa
open Go.RowKit Go Go.Maps
set_option linter.unusedVariables false

theorem copyClass_cs (P : Nat → Prop) (x : ClI) (cs : List Value) (w : World) (h : Hid (ClE P w x cs)) :
    Calls Try.prog 26 #[.agg cs.toArray] w fun e w' => ∃ cs' : List Value, e = .returned (.agg cs'.toArray) ∧ ClE (fun g => w.heap.size ≤ g) w' x cs' ∧ Below w.heap.size w w' := by
  obtain ⟨a, p, b, d, rfl, ha, hp, hb, hd⟩ := h.out
  exact copyClass_any P x a p b d w (lhid ha) (lhid hp) (lhid hb) (lhid hd)
def findC (L : List ClI) (s : Bs) : Option ClI := L.find? (fun c => decide (c.name = s))
theorem findC_some {L : List ClI} {s : Bs} {c : ClI} (h : findC L s = some c) : c ∈ L ∧ c.name = s := ⟨List.mem_of_find?_eq_some h, by have := List.find?_some h; simpa using this⟩
theorem findC_none {L : List ClI} {s : Bs} : findC L s = none ↔ s ∉ L.map ClI.name := by
  unfold findC
  rw [List.find?_eq_none]
  simp
theorem findC_app (L : List ClI) (c : ClI) (s : Bs) : findC (L ++ [c]) s = (findC L s).or (if c.name = s then some c else none) := by
  unfold findC
  rw [List.find?_append]
  congr 1
  by_cases e : c.name = s <;> simp [e]
/-- Block cb is the map of the classes L by their names. -/
def CM (Q : Nat → Prop) (w : World) (cb : Nat) (L : List ClI) : Prop :=
  ∃ f, MV w cb L.length f ∧ ∀ s : Bs, (findC L s = none → f s = none) ∧ ∀ c, findC L s = some c → ∃ v, f s = some v ∧ ClV Q w c v
theorem CM.lt {Q : Nat → Prop} {w : World} {cb : Nat} {L : List ClI} (h : CM Q w cb L) : cb < w.heap.size := by
  obtain ⟨f, h1, _⟩ := h
  exact h1.lt
theorem CM.ch {Q X : Nat → Prop} {w w' : World} {cb : Nat} {L : List ClI} (h : CM Q w cb L) (hc : Ch X w w') (hX : ¬ X cb) (hQ : ∀ g, Q g → ¬ X g) : CM Q w' cb L := by
  obtain ⟨f, h1, h2⟩ := h
  refine ⟨f, h1.ch hc hX, fun s => ⟨(h2 s).1, fun c hs => ?_⟩⟩
  obtain ⟨v, h3, h4⟩ := (h2 s).2 c hs
  exact ⟨v, h3, h4.ch hc hQ⟩
theorem CM.below {Q : Nat → Prop} {w w' : World} {cb : Nat} {L : List ClI} (h : CM Q w cb L) (hb : Below w.heap.size w w') : CM Q w' cb L := by
  obtain ⟨f, h1, h2⟩ := h
  refine ⟨f, h1.below hb, fun s => ⟨(h2 s).1, fun c hs => ?_⟩⟩
  obtain ⟨v, h3, h4⟩ := (h2 s).2 c hs
  exact ⟨v, h3, h4.below hb⟩
theorem CM.mono {Q Q' : Nat → Prop} {w : World} {cb : Nat} {L : List ClI} (h : CM Q w cb L) (hQ : ∀ g, Q g → g < w.heap.size → Q' g) : CM Q' w cb L := by
  obtain ⟨f, h1, h2⟩ := h
  refine ⟨f, h1, fun s => ⟨(h2 s).1, fun c hs => ?_⟩⟩
  obtain ⟨v, h3, h4⟩ := (h2 s).2 c hs
  exact ⟨v, h3, h4.mono hQ⟩
theorem cm_made (Q : Nat → Prop) (w : World) : CM Q (w.alloc (.map #[] 0)) w.heap.size [] := ⟨_, mv_made w, fun s => ⟨fun _ => rfl, fun c h => (by cases h)⟩⟩
theorem cm_put {Q : Nat → Prop} {w w' : World} {cb : Nat} {L : List ClI} {f : Bs → Option Value} {c : ClI} {v : Value} (h : ∀ s : Bs, (findC L s = none → f s = none) ∧ ∀ c, findC L s = some c → ∃ v, f s = some v ∧ ClV Q w c v) (hc : Ch (· = cb) w w') (hQ : ¬ Q cb) (hn : findC L c.name = none) (hv : ClV Q w c v)
    (hm : MV w' cb (L.length + 1) (fun t => if t = c.name then some v else f t)) : CM Q w' cb (L ++ [c]) := by
  refine ⟨_, hm.mono (by simp), fun s => ?_⟩
  have hQ' : ∀ g, Q g → ¬ g = cb := fun g hg e => hQ (e ▸ hg)
  rw [findC_app]
  by_cases e : c.name = s
  · subst e
    rw [hn]
    simp only [if_true, Option.none_or]
    exact ⟨fun h => (by cases h), fun c' h' => by injection h' with h'; subst h'; exact ⟨v, rfl, hv.ch hc hQ'⟩⟩
  · have e2 : ¬ s = c.name := fun x => e x.symm
    simp only [if_neg e, if_neg e2, Option.or_none]
    refine ⟨(h s).1, fun c' h' => ?_⟩
    obtain ⟨u, h3, h4⟩ := (h s).2 c' h'
    exact ⟨u, h3, h4.ch hc hQ'⟩
/-- Block tb is a tree: its names' slice, its two maps. -/
def Tr (w : World) (tb cb ab : Nat) (v : Value) : Prop := w.heap[tb]? = some (.cells #[v, .map (some cb), .map (some ab)] 61 (0, 0))
theorem Tr.ch {X : Nat → Prop} {w w' : World} {tb cb ab : Nat} {v : Value} (h : Tr w tb cb ab v) (hc : Ch X w w') (hX : ¬ X tb) : Tr w' tb cb ab v := hc.keep h hX
theorem Tr.below {w w' : World} {tb cb ab : Nat} {v : Value} (h : Tr w tb cb ab v) (hb : Below w.heap.size w w') : Tr w' tb cb ab v := (hb.block _ (heap_lt h)).trans h
theorem und_cm : Try.prog.underlying 58 = some (.map 9 35) := by kernel_rfl
def zeroC : Value := .agg #[.int .i64 0, .string ⟨#[]⟩, .string ⟨#[]⟩, .slice none 0 0, .slice none 0 0, .slice none 0 0, .slice none 0 0]
theorem zero_cl (w : World) : (zeroValue 35).run Try.prog w = .ok zeroC w := by kernel_rfl
/-- What the map of classes says at a text. -/
theorem CM.look {Q : Nat → Prop} {w : World} {cb : Nat} {L : List ClI} (h : CM Q w cb L) {s : Bs} (hs : s.length ≤ maxLen) :
    (findC L s = none ∧ (Instr.lookup 58 (.map (some cb)) (.string (tx s)) false).run Try.prog w = .ok zeroC w ∧ (Instr.lookup 58 (.map (some cb)) (.string (tx s)) true).run Try.prog w = .ok (.tuple #[zeroC, .bool false]) w)
    ∨ ∃ c cs, findC L s = some c ∧ ClE Q w c cs ∧ (Instr.lookup 58 (.map (some cb)) (.string (tx s)) false).run Try.prog w = .ok (.agg cs.toArray) w ∧ (Instr.lookup 58 (.map (some cb)) (.string (tx s)) true).run Try.prog w = .ok (.tuple #[.agg cs.toArray, .bool true]) w := by
  obtain ⟨f, h1, h2⟩ := h
  have hl := h1.look und_cm (zero_cl w) hs
  cases hf : findC L s with
  | none =>
    rw [(h2 s).1 hf] at hl
    exact .inl ⟨rfl, hl⟩
  | some c =>
    obtain ⟨v, h3, cs, rfl, h4⟩ := (h2 s).2 c hf
    rw [h3] at hl
    exact .inr ⟨c, cs, rfl, h4, hl⟩
end Go.Proofs.Ytkphpihggbbpkaa
