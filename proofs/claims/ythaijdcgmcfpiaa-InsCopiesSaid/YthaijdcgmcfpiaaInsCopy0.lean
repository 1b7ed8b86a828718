/- A function's lists under way of being copied: what memory holds. No walk in this text. -/
import Derived.Test.YthaijdcgmcfpiaaInsChk6
import Derived.Test.YthaijdcgmcfpiaaInsRepl1
namespace Go.Proofs.Ythaijdcgmcfpiaa
open Go.RowKit Go
set_option linter.unusedVariables false
set_option linter.unusedSimpArgs false

def insC (x : InI) (v : Value) : List Value := [.int .i64 x.op, .int .i64 x.dst, .int .i64 x.a, .int .i64 x.b, .int .i64 x.c, .int .i64 x.num, .int .i64 x.too, .string (tx x.ref), v]
theorem insC_len (x : InI) (v : Value) : (insC x v).length = 9 := rfl
/-- The code under way: block g holds l's instructions; the first k have Args of the call's own. -/
def CoK (Q : Nat → Prop) (B : Nat) (w : World) (g cap : Nat) (l : List InI) (k : Nat) : Prop :=
  ∃ cur, w.heap[g]? = some (.cells cur 24 (0, 0)) ∧ ∀ (i : Nat) x, l[i]? = some x → ∃ v, (∀ (j : Nat) u, (insC x v)[j]? = some u → cur[i * 9 + j]? = some u) ∧ (i < k → OwN w B v x.args) ∧ (k ≤ i → RdX Q 1 NuE w v x.args)
theorem CoK.lt {Q : Nat → Prop} {B : Nat} {w : World} {g cap : Nat} {l : List InI} {k : Nat} (h : CoK Q B w g cap l k) : g < w.heap.size := by
  obtain ⟨cur, h1, _⟩ := h
  exact heap_lt h1
theorem CoK.start {P : Nat → Prop} {Q : Nat → Prop} {B : Nat} {w w0 : World} {g cap n : Nat} {cur : Array Value} {l : List InI} {xs : List Value} (hg : w.heap[g]? = some (.cells cur 24 (0, 0))) (ht : cur.toList.take n = xs) (hr : RowsE 9 (InE P w0) l xs) (hb : ∀ (v : Value) (a : List Int), RdX P 1 NuE w0 v a → RdX Q 1 NuE w v a) : CoK Q B w g cap l 0 := by
  refine ⟨cur, hg, fun i x hi => ?_⟩
  obtain ⟨c, ⟨v, rfl, hv⟩, h2⟩ := hr.2 i x hi
  refine ⟨v, fun j u hj => ?_, fun h => absurd h (Nat.not_lt_zero _), fun _ => hb _ _ hv⟩
  have h3 := h2 j u hj
  rw [← ht] at h3
  have h4 := (List.getElem?_eq_some_iff.1 h3).1
  rw [List.length_take] at h4
  rw [List.getElem?_take_of_lt (by omega)] at h3
  simpa using h3
theorem CoK.keep {Q : Nat → Prop} {B : Nat} {w w' : World} {g cap : Nat} {l : List InI} {k : Nat} (h : CoK Q B w g cap l k) (hg : w'.heap[g]? = w.heap[g]?) (ho : ∀ b, B ≤ b → b < w.heap.size → w'.heap[b]? = w.heap[b]?) (hq : ∀ b, Q b → b < w.heap.size → w'.heap[b]? = w.heap[b]?) : CoK Q B w' g cap l k := by
  obtain ⟨cur, h1, h2⟩ := h
  refine ⟨cur, hg.trans h1, fun i x hi => ?_⟩
  obtain ⟨v, h3, h4, h5⟩ := h2 i x hi
  exact ⟨v, h3, fun hk => own_of (h4 hk) fun b hb => ho b ((h4 hk).lt b hb).1 ((h4 hk).lt b hb).2, fun hk => (h5 hk).kept (keptX_nu _) hq⟩
theorem CoK.below {Q : Nat → Prop} {B : Nat} {w w' : World} {g cap : Nat} {l : List InI} {k : Nat} (h : CoK Q B w g cap l k) (hb : Below w.heap.size w w') : CoK Q B w' g cap l k :=
  h.keep (hb.block g h.lt) (fun b _ hl => hb.block b hl) (fun b _ hl => hb.block b hl)
theorem CoK.set {Q : Nat → Prop} {B : Nat} {w : World} {g cap : Nat} {l : List InI} {k : Nat} (h : CoK Q B w g cap l k) (R j : Nat) (u : Value) (hR : R < B) (hg : g ≠ R) (hq : ∀ b, Q b → b ≠ R) : CoK Q B (w.setCell ⟨R, j, none⟩ u) g cap l k :=
  h.keep (Below.heap_setCell _ _ _ _ hg) (fun b hb _ => Below.heap_setCell _ _ _ _ (by show b ≠ R; omega)) (fun b hb _ => Below.heap_setCell _ _ _ _ (hq b hb))
/-- A list of numbers of the call's own doesn't lie where instructions lie. -/
theorem own_apart {w : World} {B g : Nat} {cur : Array Value} {v : Value} {l : List Int} (h : OwN w B v l) (hg : w.heap[g]? = some (.cells cur 24 (0, 0))) : ∀ b, v.ownBlock = some b → b ≠ g := by
  intro b hb e
  subst e
  rcases h.2 with ⟨rfl, _⟩ | ⟨g', cap, c2, rfl, _, h3, _⟩
  · cases hb
  · injection hb with hb
    subst hb
    have h3 : w.heap[g']? = _ := h3
    rw [hg] at h3
    injection h3 with h3
    injection h3 with _ h3
    exact absurd h3 (by decide)
theorem CoK.store {Q : Nat → Prop} {B : Nat} {w : World} {g cap : Nat} {l : List InI} {k : Nat} {x : InI} {v' : Value} (h : CoK Q B w g cap l k) (hx : l[k]? = some x) (hv : OwN w B v' x.args) (hQ : ∀ b, Q b → b ≠ g) : CoK Q B (w.setCell ⟨g, k * 9 + 8, none⟩ v') g cap l (k + 1) := by
  obtain ⟨cur, h1, h2⟩ := h
  refine ⟨cur.setIfInBounds (k * 9 + 8) v', heap_set h1 v', fun i y hi => ?_⟩
  obtain ⟨v, h3, h4, h5⟩ := h2 i y hi
  have hlt : ∀ j, j < 9 → i * 9 + j < cur.size := fun j hj => by
    have := h3 j _ (List.getElem?_eq_getElem (by rw [insC_len]; exact hj))
    exact (Array.getElem?_eq_some_iff.1 this).1
  have keepO : ∀ {v : Value} {a : List Int}, OwN w B v a → OwN (w.setCell ⟨g, k * 9 + 8, none⟩ v') B v a := fun ho => own_of ho fun b hb => Below.heap_setCell _ _ _ _ (own_apart ho h1 b hb)
  by_cases e : i = k
  · subst e
    rw [hx] at hi
    injection hi with hi
    subst hi
    refine ⟨v', fun j u hj => ?_, fun _ => keepO hv, fun hk => absurd hk (by omega)⟩
    have hj9 : j < 9 := by have := (List.getElem?_eq_some_iff.1 hj).1; rwa [insC_len] at this
    rcases Nat.lt_or_ge j 8 with hlt8 | hge
    · rw [Array.getElem?_setIfInBounds_ne (by omega)]
      refine h3 j u ?_
      have : j = 0 ∨ j = 1 ∨ j = 2 ∨ j = 3 ∨ j = 4 ∨ j = 5 ∨ j = 6 ∨ j = 7 := by omega
      rcases this with rfl | rfl | rfl | rfl | rfl | rfl | rfl | rfl <;> exact hj
    · have : j = 8 := by omega
      subst this
      have hu : v' = u := by
        have : (insC x v')[8]? = some v' := rfl
        rw [this] at hj
        exact Option.some.inj hj
      subst hu
      rw [Array.getElem?_setIfInBounds_self_of_lt (hlt 8 (by omega))]
  · refine ⟨v, fun j u hj => ?_, fun hk => keepO (h4 (by omega)), fun hk => (h5 (by omega)).kept (keptX_nu _) fun b hb _ => Below.heap_setCell _ _ _ _ (hQ b hb)⟩
    have hj9 : j < 9 := by have := (List.getElem?_eq_some_iff.1 hj).1; rwa [insC_len] at this
    rw [Array.getElem?_setIfInBounds_ne (by omega)]
    exact h3 j u hj
theorem CoK.cells {Q : Nat → Prop} {B : Nat} {w : World} {g cap : Nat} {l : List InI} {k i : Nat} {x : InI} (h : CoK Q B w g cap l k) (hx : l[i]? = some x) (hk : k ≤ i) : ∃ v, RdX Q 1 NuE w v x.args ∧
    w.cell? ⟨g, i * 9, none⟩ = some (.int .i64 x.op) ∧ w.cell? ⟨g, i * 9 + 1, none⟩ = some (.int .i64 x.dst) ∧ w.cell? ⟨g, i * 9 + 2, none⟩ = some (.int .i64 x.a) ∧ w.cell? ⟨g, i * 9 + 3, none⟩ = some (.int .i64 x.b) ∧ w.cell? ⟨g, i * 9 + 4, none⟩ = some (.int .i64 x.c) ∧ w.cell? ⟨g, i * 9 + 5, none⟩ = some (.int .i64 x.num) ∧ w.cell? ⟨g, i * 9 + 6, none⟩ = some (.int .i64 x.too) ∧ w.cell? ⟨g, i * 9 + 7, none⟩ = some (.string (tx x.ref)) ∧ w.cell? ⟨g, i * 9 + 8, none⟩ = some v ∧ w.frozen? ⟨g, i * 9 + 8, none⟩ = false := by
  obtain ⟨cur, h1, h2⟩ := h
  obtain ⟨v, h3, _, h5⟩ := h2 i x hx
  exact ⟨v, h5 hk, heap_cell h1 (h3 0 _ rfl), heap_cell h1 (h3 1 _ rfl), heap_cell h1 (h3 2 _ rfl), heap_cell h1 (h3 3 _ rfl), heap_cell h1 (h3 4 _ rfl), heap_cell h1 (h3 5 _ rfl), heap_cell h1 (h3 6 _ rfl), heap_cell h1 (h3 7 _ rfl), heap_cell h1 (h3 8 _ rfl), heap_thaw h1 _⟩
/-- Code of the call's own: all of it. -/
def CodeO (B : Nat) (w : World) (v : Value) (l : List InI) : Prop :=
  (v = .slice none 0 0 ∧ l = []) ∨ ∃ g cap, v = .slice (some ⟨g, 0, none⟩) l.length cap ∧ B ≤ g ∧ l.length ≤ cap ∧ cap ≤ maxLen ∧ CoK (fun _ => False) B w g cap l l.length
theorem CoK.done {Q Q' : Nat → Prop} {B : Nat} {w : World} {g cap : Nat} {l : List InI} (h : CoK Q B w g cap l l.length) : CoK Q' B w g cap l l.length := by
  obtain ⟨cur, h1, h2⟩ := h
  refine ⟨cur, h1, fun i x hi => ?_⟩
  obtain ⟨v, h3, h4, h5⟩ := h2 i x hi
  exact ⟨v, h3, h4, fun hk => absurd (List.getElem?_eq_some_iff.1 hi).1 (by omega)⟩
theorem CodeO.below {B : Nat} {w w' : World} {v : Value} {l : List InI} (h : CodeO B w v l) (hb : Below w.heap.size w w') : CodeO B w' v l := by
  rcases h with h | ⟨g, cap, h1, h2, h3, h4, h5⟩
  · exact .inl h
  · exact .inr ⟨g, cap, h1, h2, h3, h4, h5.below hb⟩
theorem CodeO.keep {B : Nat} {w w' : World} {v : Value} {l : List InI} (h : CodeO B w v l) (hb : ∀ b, B ≤ b → b < w.heap.size → w'.heap[b]? = w.heap[b]?) : CodeO B w' v l := by
  rcases h with h | ⟨g, cap, h1, h2, h3, h4, h5⟩
  · exact .inl h
  · exact .inr ⟨g, cap, h1, h2, h3, h4, h5.keep (hb g h2 h5.lt) hb (fun b hb => hb.elim)⟩
theorem CodeO.base {B B' : Nat} {w : World} {v : Value} {l : List InI} (h : CodeO B w v l) (hB : B' ≤ B) : CodeO B' w v l := by
  rcases h with h | ⟨g, cap, h1, h2, h3, h4, cur, h5, h6⟩
  · exact .inl h
  · refine .inr ⟨g, cap, h1, Nat.le_trans hB h2, h3, h4, cur, h5, fun i x hi => ?_⟩
    obtain ⟨v, h7, h8, h9⟩ := h6 i x hi
    exact ⟨v, h7, fun hk => own_base (h8 hk) hB, h9⟩
theorem CodeO.rd {B : Nat} {w : World} {v : Value} {l : List InI} (h : CodeO B w v l) (hl : l.length ≤ 140737488355328) (ha : ∀ x ∈ l, x.args.length ≤ 140737488355328) : RdX (fun b => B ≤ b) 9 (InE fun b => B ≤ b) w v l := by
  rcases h with ⟨rfl, rfl⟩ | ⟨g, cap, rfl, h2, h3, h4, cur, h5, h6⟩
  · exact rdX_nil _ _ _ _ _ _ (fun _ => rfl)
  · refine ⟨_, cap, rfl, fun e => (by cases e), hl, fun i x hi => ?_⟩
    obtain ⟨v, h7, h8, _⟩ := h6 i x hi
    have ho := h8 (List.getElem?_eq_some_iff.1 hi).1
    refine ⟨g, 0, insC x v, rfl, h2, ⟨v, rfl, (ho.rd (ha x (List.mem_of_getElem? hi))).any fun b hb => hb.1⟩, fun j u hj => ?_⟩
    rw [Nat.zero_add]
    exact heap_cell h5 (h7 j u hj)
/-- A copy: all its lists are of the call's own. -/
structure CpV (B : Nat) (w : World) (f : FuI) (fa fb fd fe : Value) : Prop where
  a : OwN w B fa f.regs
  b : OwN w B fb f.params
  d : CodeO B w fd f.code
  e : ∃ xs, w.ownsRow B 45 4 fe f.rows.length xs ∧ RowsE 4 (RwE w) f.rows xs
theorem rwE_any (w w' : World) : RwE w = RwE w' := rfl
theorem CpV.below {B : Nat} {w w' : World} {f : FuI} {fa fb fd fe : Value} (h : CpV B w f fa fb fd fe) (hb : Below w.heap.size w w') : CpV B w' f fa fb fd fe := by
  obtain ⟨xs, h1, h2⟩ := h.e
  exact ⟨own_below h.a hb, own_below h.b hb, h.d.below hb, xs, own_below h1 hb, h2⟩
theorem CpV.fu {B : Nat} {w : World} {f : FuI} {fa fb fd fe : Value} (h : CpV B w f fa fb fd fe) (h1 : f.regs.length ≤ 140737488355328) (h2 : f.params.length ≤ 140737488355328) (h3 : f.code.length ≤ 140737488355328) (h4 : f.rows.length ≤ 140737488355328) (ha : ∀ x ∈ f.code, x.args.length ≤ 140737488355328) : FuV (fun b => B ≤ b) w f fa fb fd fe := by
  obtain ⟨xs, h5, h6⟩ := h.e
  exact ⟨(h.a.rd h1).any fun b hb => hb.1, (h.b.rd h2).any fun b hb => hb.1, h.d.rd h3 ha, (rdX_own h5 h4 h6).any fun b hb => hb.1⟩
end Go.Proofs.Ythaijdcgmcfpiaa
