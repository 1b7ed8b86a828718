/- Fold: memory under way. No walk in this text. -/
import Derived.Test.YtbkeneadoccodaaJCFolDo
import Derived.Test.YtbkeneadoccodaaM14
namespace Go.Proofs.Ytbkeneadoccodaa
open Go.RowKit Go Go.Maps
set_option linter.unusedVariables false
set_option linter.unusedSimpArgs false
abbrev set9 (w : World) (H o : Nat) (a b c d e f g i j : Value) : World := ((((((((w.setCell ⟨H, o, none⟩ a).setCell ⟨H, o + 1, none⟩ b).setCell ⟨H, o + 2, none⟩ c).setCell ⟨H, o + 3, none⟩ d).setCell ⟨H, o + 4, none⟩ e).setCell ⟨H, o + 5, none⟩ f).setCell ⟨H, o + 6, none⟩ g).setCell ⟨H, o + 7, none⟩ i).setCell ⟨H, o + 8, none⟩ j
abbrev arr9 (z : Array Value) (o : Nat) (a b c d e f g i j : Value) : Array Value := ((((((((z.setIfInBounds o a).setIfInBounds (o + 1) b).setIfInBounds (o + 2) c).setIfInBounds (o + 3) d).setIfInBounds (o + 4) e).setIfInBounds (o + 5) f).setIfInBounds (o + 6) g).setIfInBounds (o + 7) i).setIfInBounds (o + 8) j
theorem arr9_out (z : Array Value) (o m : Nat) (a b c d e f g i j : Value) (hm : m < o ∨ o + 9 ≤ m) : (arr9 z o a b c d e f g i j)[m]? = z[m]? := by
 unfold arr9
 repeat rw [Array.getElem?_setIfInBounds_ne (by omega)]
theorem arr9_in (z : Array Value) (o q : Nat) (u : Value) (a b c d e f g i j : Value) (hz : o + 8 < z.size) (hq : ([a, b, c, d, e, f, g, i, j] : List Value)[q]? = some u) : (arr9 z o a b c d e f g i j)[o + q]? = some u := by
  have hl := (List.getElem?_eq_some_iff.1 hq).1
  have h9 : q = 0 ∨ q = 1 ∨ q = 2 ∨ q = 3 ∨ q = 4 ∨ q = 5 ∨ q = 6 ∨ q = 7 ∨ q = 8 := by simp at hl; omega
  unfold arr9
  rcases h9 with rfl | rfl | rfl | rfl | rfl | rfl | rfl | rfl | rfl <;>
    (rw [← hq]
     try simp only [Nat.add_zero]
     repeat (first | rw [Array.getElem?_setIfInBounds_self_of_lt (by first | omega | (simp only [Array.size_setIfInBounds]; omega))] | rw [Array.getElem?_setIfInBounds_ne (by omega)])
     try rfl)
theorem set9_heap {w : World} {H o : Nat} {T : TypeId} {z : Array Value} (h : w.heap[H]? = some (.cells z T (0, 0))) (a b c d e f g i j : Value) : (set9 w H o a b c d e f g i j).heap[H]? = some (.cells (arr9 z o a b c d e f g i j) T (0, 0)) :=
 heap_set (heap_set (heap_set (heap_set (heap_set (heap_set (heap_set (heap_set (heap_set h a) b) c) d) e) f) g) i) j
theorem set9_other {w : World} {H o k : Nat} (hk : k ≠ H) (a b c d e f g i j : Value) : (set9 w H o a b c d e f g i j).heap[k]? = w.heap[k]? :=
 (Below.heap_setCell _ _ _ _ hk).trans ((Below.heap_setCell _ _ _ _ hk).trans ((Below.heap_setCell _ _ _ _ hk).trans ((Below.heap_setCell _ _ _ _ hk).trans ((Below.heap_setCell _ _ _ _ hk).trans ((Below.heap_setCell _ _ _ _ hk).trans ((Below.heap_setCell _ _ _ _ hk).trans ((Below.heap_setCell _ _ _ _ hk).trans (Below.heap_setCell _ _ _ _ hk))))))))
theorem set9_ch {X : Nat → Prop} {a0 w : World} (h : Ch X a0 w) {H o : Nat} (hX : H < a0.heap.size → X H) (a b c d e f g i j : Value) : Ch X a0 (set9 w H o a b c d e f g i j) :=
 ((((((((h.set (p := ⟨H, o, none⟩) hX a).set (p := ⟨H, o + 1, none⟩) hX b).set (p := ⟨H, o + 2, none⟩) hX c).set (p := ⟨H, o + 3, none⟩) hX d).set (p := ⟨H, o + 4, none⟩) hX e).set (p := ⟨H, o + 5, none⟩) hX f).set (p := ⟨H, o + 6, none⟩) hX g).set (p := ⟨H, o + 7, none⟩) hX i).set (p := ⟨H, o + 8, none⟩) hX j
abbrev CoO (B : Nat) (w : World) (g cap : Nat) (L : List InI) : Prop := CoK (fun _ => False) B w g cap L L.length
theorem CoK.at_ {B : Nat} {w : World} {g cap : Nat} {L : List InI} (h : CoO B w g cap L) {i : Nat} {x : InI} (hx : L[i]? = some x) : ∃ v, OwN w B v x.args ∧
  w.cell? ⟨g, i * 9, none⟩ = some (.int .i64 x.op) ∧ w.cell? ⟨g, i * 9 + 1, none⟩ = some (.int .i64 x.dst) ∧ w.cell? ⟨g, i * 9 + 2, none⟩ = some (.int .i64 x.a) ∧ w.cell? ⟨g, i * 9 + 3, none⟩ = some (.int .i64 x.b) ∧ w.cell? ⟨g, i * 9 + 4, none⟩ = some (.int .i64 x.c) ∧ w.cell? ⟨g, i * 9 + 5, none⟩ = some (.int .i64 x.num) ∧ w.cell? ⟨g, i * 9 + 6, none⟩ = some (.int .i64 x.too) ∧ w.cell? ⟨g, i * 9 + 7, none⟩ = some (.string (tx x.ref)) ∧ w.cell? ⟨g, i * 9 + 8, none⟩ = some v := by
 obtain ⟨cur, h1, h2⟩ := h
 obtain ⟨v, h3, h4, _⟩ := h2 i x hx
 exact ⟨v, h4 (List.getElem?_eq_some_iff.1 hx).1, heap_cell h1 (h3 0 _ rfl), heap_cell h1 (h3 1 _ rfl), heap_cell h1 (h3 2 _ rfl), heap_cell h1 (h3 3 _ rfl), heap_cell h1 (h3 4 _ rfl), heap_cell h1 (h3 5 _ rfl), heap_cell h1 (h3 6 _ rfl), heap_cell h1 (h3 7 _ rfl), heap_cell h1 (h3 8 _ rfl)⟩
theorem CoK.thaw {B : Nat} {w : World} {g cap : Nat} {L : List InI} (h : CoO B w g cap L) (i : Nat) : w.frozen? ⟨g, i, none⟩ = false := by
 obtain ⟨cur, h1, _⟩ := h
 exact heap_thaw h1 i
theorem CoK.blk {B : Nat} {w : World} {g cap : Nat} {L : List InI} (h : CoO B w g cap L) : ∃ cur, w.heap[g]? = some (.cells cur 29 (0, 0)) := by
 obtain ⟨cur, h1, _⟩ := h
 exact ⟨cur, h1⟩
theorem CoK.put9 {B : Nat} {w : World} {g cap : Nat} {L : List InI} {k : Nat} {y : InI} {v' : Value} (h : CoO B w g cap L) (hk : k < L.length) (hv : OwN w B v' y.args) :
  CoO B (set9 w g (k * 9) (.int .i64 y.op) (.int .i64 y.dst) (.int .i64 y.a) (.int .i64 y.b) (.int .i64 y.c) (.int .i64 y.num) (.int .i64 y.too) (.string (tx y.ref)) v') g cap (L.set k y) := by
 obtain ⟨cur, h1, h2⟩ := h
 have keepO : ∀ {u : Value} {a : List Int}, OwN w B u a → OwN (set9 w g (k * 9) (.int .i64 y.op) (.int .i64 y.dst) (.int .i64 y.a) (.int .i64 y.b) (.int .i64 y.c) (.int .i64 y.num) (.int .i64 y.too) (.string (tx y.ref)) v') B u a := fun ho => own_of ho fun b hb => set9_other (own_apart ho h1 b hb) _ _ _ _ _ _ _ _ _
 refine ⟨_, set9_heap h1 _ _ _ _ _ _ _ _ _, fun i x hi => ?_⟩
 have hil := (List.getElem?_eq_some_iff.1 hi).1
 rw [List.getElem?_set] at hi
 rw [List.length_set] at hil ⊢
 by_cases e : k = i
 ·subst e
  rw [if_pos rfl, if_pos hk] at hi
  injection hi with hi
  subst hi
  obtain ⟨u, h3, _⟩ := h2 k _ (List.getElem?_eq_getElem hk)
  have hsz : k * 9 + 8 < cur.size := by
   have := h3 8 _ rfl
   exact (Array.getElem?_eq_some_iff.1 this).1
  exact ⟨v', fun j z hj => arr9_in _ _ _ _ _ _ _ _ _ _ _ _ _ hsz hj, fun _ => keepO hv, fun h => absurd hk (by omega)⟩
 ·rw [if_neg e] at hi
  obtain ⟨u, h3, h4, _⟩ := h2 i x hi
  refine ⟨u, fun j z hj => ?_, fun _ => keepO (h4 hil), fun h => absurd hil (by omega)⟩
  have hj9 : j < 9 := by have := (List.getElem?_eq_some_iff.1 hj).1; rwa [insC_len] at this
  rw [arr9_out _ _ _ _ _ _ _ _ _ _ _ _ (by omega)]
  exact h3 j z hj
theorem CoK.ch {B : Nat} {w w' : World} {g cap : Nat} {L : List InI} {X : Nat → Prop} (h : CoO B w g cap L) (hc : Ch X w w') (hg : ¬ X g) (hB : ∀ b, X b → b < B) : CoO B w' g cap L :=
 h.keep (hc.block g h.lt hg) (fun b hb hl => hc.block b hl (fun hx => by have := hB b hx; omega)) (fun b hb => hb.elim)
theorem CoK.chm {B : Nat} {w w' : World} {g cap m n : Nat} {f : Int → Option Value} {L : List InI} (h : CoO B w g cap L) (hm : MI w m n f) (hc : Ch (fun k => k = m) w w') : CoO B w' g cap L := by
 have nm : ∀ {b : Nat} {c : Array Value} {T : TypeId} {z : Nat × Nat}, w.heap[b]? = some (.cells c T z) → b ≠ m := by
  rintro b c T z hb rfl
  obtain ⟨D, ⟨es, clock, h1, _⟩, _⟩ := hm
  rw [hb] at h1
  cases h1
 obtain ⟨cur, h1, h2⟩ := h
 refine ⟨cur, (hc.block g (heap_lt h1) (nm h1)).trans h1, fun i x hi => ?_⟩
 obtain ⟨v, h3, h4, h5⟩ := h2 i x hi
 refine ⟨v, h3, fun hl => own_of (h4 hl) fun b hb => ?_, fun hl => absurd (List.getElem?_eq_some_iff.1 hi).1 (by omega)⟩
 have ho := h4 hl
 refine hc.block b (ho.lt b hb).2 (fun e => ?_)
 rcases ho.2 with ⟨h6, _⟩ | ⟨g', cap', cur', h6, _, h7, _⟩
 ·rw [h6] at hb; cases hb
 ·rw [h6] at hb
  injection hb with hb
  have hb : g' = b := hb
  exact nm h7 (hb.trans e)
theorem CoK.chi {B : Nat} {w w' : World} {g cap X : Nat} {L : List InI} {c : Array Value} (h : CoO B w g cap L) (hx : w.heap[X]? = some (.cells c 29 (0, 0))) (hne : g ≠ X) (hc : Ch (fun k => k = X) w w') : CoO B w' g cap L := by
 obtain ⟨cur, h1, h2⟩ := h
 refine ⟨cur, (hc.block g (heap_lt h1) hne).trans h1, fun i x hi => ?_⟩
 obtain ⟨v, h3, h4, h5⟩ := h2 i x hi
 exact ⟨v, h3, fun hl => own_ch (h4 hl) hc (fun b hb e => own_apart (h4 hl) hx b hb e), fun hl => absurd (List.getElem?_eq_some_iff.1 hi).1 (by omega)⟩
theorem cells_no_map {w : World} {b m n : Nat} {f : Int → Option Value} {c : Array Value} {T : TypeId} {z : Nat × Nat} (hb : w.heap[b]? = some (.cells c T z)) (hm : MI w m n f) : b ≠ m := by
 rintro rfl
 obtain ⟨D, ⟨es, clock, h1, _⟩, _⟩ := hm
 rw [hb] at h1
 cases h1
theorem row_no_map {w : World} {B e size n m k : Nat} {v : Value} {xs : List Value} {f : Int → Option Value} (h : w.ownsRow B e size v n xs) (hm : MI w m k f) : ∀ b, v.ownBlock = some b → b ≠ m := by
 intro b hb
 rcases h.2 with ⟨rfl, _⟩ | ⟨g, cap, cur, rfl, _, h3, _⟩
 ·cases hb
 ·injection hb with hb
  have hb : g = b := hb
  subst hb
  exact cells_no_map h3 hm
theorem own_chm {w w' : World} {B e size n m k : Nat} {v : Value} {xs : List Value} {f : Int → Option Value} (h : w.ownsRow B e size v n xs) (hm : MI w m k f) (hc : Ch (fun b => b = m) w w') : w'.ownsRow B e size v n xs :=
 own_ch h hc fun b hb e => row_no_map h hm b hb e
theorem own_nilN (w : World) (B : Nat) : OwN w B (.slice none 0 0) [] := ⟨rfl, .inl ⟨rfl, rfl⟩⟩
def HdV (hv : Value) (hb n j : Nat) : Prop := ∃ A c, hv = .slice (some A) (n - j) c ∧ n - j ≤ c ∧ c ≤ maxLen ∧ (j < n → A = ⟨hb, j, none⟩)
theorem HdV.next {hb n j c : Nat} (h : HdV (.slice (some ⟨hb, j, none⟩) (n - j) c) hb n j) (hj : j < n) (v : Value) (hv : v = .slice (some (if c = 1 then ⟨hb, j, none⟩ else ⟨hb, j + 1, none⟩)) (n - (j + 1)) (c - 1)) : HdV v hb n (j + 1) := by
 obtain ⟨A, c', h1, h2, h3, _⟩ := h
 injection h1 with h1 _ e
 subst e
 refine ⟨_, _, hv, by omega, by omega, fun h => ?_⟩
 rw [if_neg (by omega)]
end Go.Proofs.Ytbkeneadoccodaa
