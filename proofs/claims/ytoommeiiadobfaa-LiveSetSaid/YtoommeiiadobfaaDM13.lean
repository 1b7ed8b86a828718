/- Texts of this claim, joined: DInsCopy0, DInsCopy, DInsMu, DInsCopies, DFlwTrim, DFlwHold, DFlwBlk0, DFlwLight, DFlwBit, DFlwUnset, DFlwRAll, DFlwRRch. -/
import Derived.Test.YtoommeiiadobfaaJDInsChk6
import Derived.Test.YtoommeiiadobfaaJDInsRepl0
import Derived.Test.YtoommeiiadobfaaDM7
import Derived.Test.YtoommeiiadobfaaDM5
import Derived.Laws.CopyOwn
import Derived.Deep.Cut
import Derived.Deep.CutRange
import Derived.Deep.RegionHeld3
import Derived.Deep.CutBlock
import Derived.Test.YtoommeiiadobfaaDM12
import Derived.Test.YtoommeiiadobfaaDM11
import Derived.Test.YtoommeiiadobfaaDM9
import Derived.Test.YtoommeiiadobfaaJDFlwIMap
import Derived.Laws.OwnMore
import Derived.Test.YtoommeiiadobfaaJDFlwSpreadS
import Derived.Test.YtoommeiiadobfaaDM2
import Derived.Test.YtoommeiiadobfaaDM10
/- A function's lists under way of being copied: what memory holds. No walk in this text. -/
namespace Go.Proofs.Ytoommeiiadobfaa
open Go.RowKit Go
set_option linter.unusedVariables false
set_option linter.unusedSimpArgs false
def insC (x : InI) (v : Value) : List Value := [.int .i64 x.op, .int .i64 x.dst, .int .i64 x.a, .int .i64 x.b, .int .i64 x.c, .int .i64 x.num, .int .i64 x.too, .string (tx x.ref), v]
theorem insC_len (x : InI) (v : Value) : (insC x v).length = 9 := rfl
def CoK (Q : Nat → Prop) (B : Nat) (w : World) (g cap : Nat) (l : List InI) (k : Nat) : Prop :=
 ∃ cur, w.heap[g]? = some (.cells cur 35 (0, 0)) ∧ ∀ (i : Nat) x, l[i]? = some x → ∃ v, (∀ (j : Nat) u, (insC x v)[j]? = some u → cur[i * 9 + j]? = some u) ∧ (i < k → OwN w B v x.args) ∧ (k ≤ i → RdX Q 1 NuE w v x.args)
theorem CoK.lt {Q : Nat → Prop} {B : Nat} {w : World} {g cap : Nat} {l : List InI} {k : Nat} (h : CoK Q B w g cap l k) : g < w.heap.size := by
 obtain ⟨cur, h1, _⟩ := h
 exact heap_lt h1
theorem CoK.start {P : Nat → Prop} {Q : Nat → Prop} {B : Nat} {w w0 : World} {g cap n : Nat} {cur : Array Value} {l : List InI} {xs : List Value} (hg : w.heap[g]? = some (.cells cur 35 (0, 0))) (ht : cur.toList.take n = xs) (hr : RowsE 9 (InE P w0) l xs) (hb : ∀ (v : Value) (a : List Int), RdX P 1 NuE w0 v a → RdX Q 1 NuE w v a) : CoK Q B w g cap l 0 := by
 refine ⟨cur, hg, fun i x hi => ?_⟩
 obtain ⟨c, ⟨v, rfl, hv⟩, h2⟩ := hr.2 i x hi
 refine ⟨v, fun j u hj => ?_, fun h => absurd h (Nat.not_lt_zero _), fun _ => hb _ _ hv⟩
 have h3 := h2 j u hj
 rw [← ht] at h3
 have h4 := (List.getElem?_eq_some_iff.1 h3).1
 rw [List.length_take] at h4
 rw [List.getElem?_take_of_lt (by omega)] at h3
 simpa using h3
theorem CoK.keep {Q : Nat → Prop} {B : Nat} {w w' : World} {g cap : Nat} {l : List InI} {k : Nat} (h : CoK Q B w g cap l k) (hg : w'.heap[g]? = w.heap[g]?) (ho : ∀ b, B ≤ b → b < w.heap.size → w'.heap[b]? = w.heap[b]?) (hq : ∀ b, Q b → b < w.heap.size → w'.heap[b]? = w.heap[b]?) : CoK Q B w' g cap l k := by
 obtain ⟨cur, h1, h2⟩ := h
 refine ⟨cur, hg.trans h1, fun i x hi => ?_⟩
 obtain ⟨v, h3, h4, h5⟩ := h2 i x hi
 exact ⟨v, h3, fun hk => own_of (h4 hk) fun b hb => ho b ((h4 hk).lt b hb).1 ((h4 hk).lt b hb).2, fun hk => (h5 hk).kept (keptX_nu _) hq⟩
theorem CoK.below {Q : Nat → Prop} {B : Nat} {w w' : World} {g cap : Nat} {l : List InI} {k : Nat} (h : CoK Q B w g cap l k) (hb : Below w.heap.size w w') : CoK Q B w' g cap l k :=
 h.keep (hb.block g h.lt) (fun b _ hl => hb.block b hl) (fun b _ hl => hb.block b hl)
theorem CoK.set {Q : Nat → Prop} {B : Nat} {w : World} {g cap : Nat} {l : List InI} {k : Nat} (h : CoK Q B w g cap l k) (R j : Nat) (u : Value) (hR : R < B) (hg : g ≠ R) (hq : ∀ b, Q b → b ≠ R) : CoK Q B (w.setCell ⟨R, j, none⟩ u) g cap l k :=
 h.keep (Below.heap_setCell _ _ _ _ hg) (fun b hb _ => Below.heap_setCell _ _ _ _ (by show b ≠ R; omega)) (fun b hb _ => Below.heap_setCell _ _ _ _ (hq b hb))
theorem own_apart {w : World} {B g : Nat} {cur : Array Value} {v : Value} {l : List Int} (h : OwN w B v l) (hg : w.heap[g]? = some (.cells cur 35 (0, 0))) : ∀ b, v.ownBlock = some b → b ≠ g := by
 intro b hb e
 subst e
 rcases h.2 with ⟨rfl, _⟩ | ⟨g', cap, c2, rfl, _, h3, _⟩
 ·cases hb
 ·injection hb with hb
  subst hb
  have h3 : w.heap[g']? = _ := h3
  rw [hg] at h3
  injection h3 with h3
  injection h3 with _ h3
  exact absurd h3 (by decide)
theorem CoK.store {Q : Nat → Prop} {B : Nat} {w : World} {g cap : Nat} {l : List InI} {k : Nat} {x : InI} {v' : Value} (h : CoK Q B w g cap l k) (hx : l[k]? = some x) (hv : OwN w B v' x.args) (hQ : ∀ b, Q b → b ≠ g) : CoK Q B (w.setCell ⟨g, k * 9 + 8, none⟩ v') g cap l (k + 1) := by
 obtain ⟨cur, h1, h2⟩ := h
 refine ⟨cur.setIfInBounds (k * 9 + 8) v', heap_set h1 v', fun i y hi => ?_⟩
 obtain ⟨v, h3, h4, h5⟩ := h2 i y hi
 have hlt : ∀ j, j < 9 → i * 9 + j < cur.size := fun j hj => by
  have := h3 j _ (List.getElem?_eq_getElem (by rw [insC_len]; exact hj))
  exact (Array.getElem?_eq_some_iff.1 this).1
 have keepO : ∀ {v : Value} {a : List Int}, OwN w B v a → OwN (w.setCell ⟨g, k * 9 + 8, none⟩ v') B v a := fun ho => own_of ho fun b hb => Below.heap_setCell _ _ _ _ (own_apart ho h1 b hb)
 by_cases e : i = k
 ·subst e
  rw [hx] at hi
  injection hi with hi
  subst hi
  refine ⟨v', fun j u hj => ?_, fun _ => keepO hv, fun hk => absurd hk (by omega)⟩
  have hj9 : j < 9 := by have := (List.getElem?_eq_some_iff.1 hj).1; rwa [insC_len] at this
  rcases Nat.lt_or_ge j 8 with hlt8 | hge
  ·rw [Array.getElem?_setIfInBounds_ne (by omega)]
   refine h3 j u ?_
   have : j = 0 ∨ j = 1 ∨ j = 2 ∨ j = 3 ∨ j = 4 ∨ j = 5 ∨ j = 6 ∨ j = 7 := by omega
   rcases this with rfl | rfl | rfl | rfl | rfl | rfl | rfl | rfl <;> exact hj
  ·have : j = 8 := by omega
   subst this
   have hu : v' = u := by
    have : (insC x v')[8]? = some v' := rfl
    rw [this] at hj
    exact Option.some.inj hj
   subst hu
   rw [Array.getElem?_setIfInBounds_self_of_lt (hlt 8 (by omega))]
 ·refine ⟨v, fun j u hj => ?_, fun hk => keepO (h4 (by omega)), fun hk => (h5 (by omega)).kept (keptX_nu _) fun b hb _ => Below.heap_setCell _ _ _ _ (hQ b hb)⟩
  have hj9 : j < 9 := by have := (List.getElem?_eq_some_iff.1 hj).1; rwa [insC_len] at this
  rw [Array.getElem?_setIfInBounds_ne (by omega)]
  exact h3 j u hj
theorem CoK.cells {Q : Nat → Prop} {B : Nat} {w : World} {g cap : Nat} {l : List InI} {k i : Nat} {x : InI} (h : CoK Q B w g cap l k) (hx : l[i]? = some x) (hk : k ≤ i) : ∃ v, RdX Q 1 NuE w v x.args ∧
  w.cell? ⟨g, i * 9, none⟩ = some (.int .i64 x.op) ∧ w.cell? ⟨g, i * 9 + 1, none⟩ = some (.int .i64 x.dst) ∧ w.cell? ⟨g, i * 9 + 2, none⟩ = some (.int .i64 x.a) ∧ w.cell? ⟨g, i * 9 + 3, none⟩ = some (.int .i64 x.b) ∧ w.cell? ⟨g, i * 9 + 4, none⟩ = some (.int .i64 x.c) ∧ w.cell? ⟨g, i * 9 + 5, none⟩ = some (.int .i64 x.num) ∧ w.cell? ⟨g, i * 9 + 6, none⟩ = some (.int .i64 x.too) ∧ w.cell? ⟨g, i * 9 + 7, none⟩ = some (.string (tx x.ref)) ∧ w.cell? ⟨g, i * 9 + 8, none⟩ = some v ∧ w.frozen? ⟨g, i * 9 + 8, none⟩ = false := by
 obtain ⟨cur, h1, h2⟩ := h
 obtain ⟨v, h3, _, h5⟩ := h2 i x hx
 exact ⟨v, h5 hk, heap_cell h1 (h3 0 _ rfl), heap_cell h1 (h3 1 _ rfl), heap_cell h1 (h3 2 _ rfl), heap_cell h1 (h3 3 _ rfl), heap_cell h1 (h3 4 _ rfl), heap_cell h1 (h3 5 _ rfl), heap_cell h1 (h3 6 _ rfl), heap_cell h1 (h3 7 _ rfl), heap_cell h1 (h3 8 _ rfl), heap_thaw h1 _⟩
def CodeO (B : Nat) (w : World) (v : Value) (l : List InI) : Prop :=
 (v = .slice none 0 0 ∧ l = []) ∨ ∃ g cap, v = .slice (some ⟨g, 0, none⟩) l.length cap ∧ B ≤ g ∧ l.length ≤ cap ∧ cap ≤ maxLen ∧ CoK (fun _ => False) B w g cap l l.length
theorem CoK.done {Q Q' : Nat → Prop} {B : Nat} {w : World} {g cap : Nat} {l : List InI} (h : CoK Q B w g cap l l.length) : CoK Q' B w g cap l l.length := by
 obtain ⟨cur, h1, h2⟩ := h
 refine ⟨cur, h1, fun i x hi => ?_⟩
 obtain ⟨v, h3, h4, h5⟩ := h2 i x hi
 exact ⟨v, h3, h4, fun hk => absurd (List.getElem?_eq_some_iff.1 hi).1 (by omega)⟩
theorem CodeO.below {B : Nat} {w w' : World} {v : Value} {l : List InI} (h : CodeO B w v l) (hb : Below w.heap.size w w') : CodeO B w' v l := by
 rcases h with h | ⟨g, cap, h1, h2, h3, h4, h5⟩
 ·exact .inl h
 ·exact .inr ⟨g, cap, h1, h2, h3, h4, h5.below hb⟩
theorem CodeO.keep {B : Nat} {w w' : World} {v : Value} {l : List InI} (h : CodeO B w v l) (hb : ∀ b, B ≤ b → b < w.heap.size → w'.heap[b]? = w.heap[b]?) : CodeO B w' v l := by
 rcases h with h | ⟨g, cap, h1, h2, h3, h4, h5⟩
 ·exact .inl h
 ·exact .inr ⟨g, cap, h1, h2, h3, h4, h5.keep (hb g h2 h5.lt) hb (fun b hb => hb.elim)⟩
theorem CodeO.base {B B' : Nat} {w : World} {v : Value} {l : List InI} (h : CodeO B w v l) (hB : B' ≤ B) : CodeO B' w v l := by
 rcases h with h | ⟨g, cap, h1, h2, h3, h4, cur, h5, h6⟩
 ·exact .inl h
 ·refine .inr ⟨g, cap, h1, Nat.le_trans hB h2, h3, h4, cur, h5, fun i x hi => ?_⟩
  obtain ⟨v, h7, h8, h9⟩ := h6 i x hi
  exact ⟨v, h7, fun hk => own_base (h8 hk) hB, h9⟩
theorem CodeO.rd {B : Nat} {w : World} {v : Value} {l : List InI} (h : CodeO B w v l) (hl : l.length ≤ 140737488355328) (ha : ∀ x ∈ l, x.args.length ≤ 140737488355328) : RdX (fun b => B ≤ b) 9 (InE fun b => B ≤ b) w v l := by
 rcases h with ⟨rfl, rfl⟩ | ⟨g, cap, rfl, h2, h3, h4, cur, h5, h6⟩
 ·exact rdX_nil _ _ _ _ _ _ (fun _ => rfl)
 ·refine ⟨_, cap, rfl, fun e => (by cases e), hl, fun i x hi => ?_⟩
  obtain ⟨v, h7, h8, _⟩ := h6 i x hi
  have ho := h8 (List.getElem?_eq_some_iff.1 hi).1
  refine ⟨g, 0, insC x v, rfl, h2, ⟨v, rfl, (ho.rd (ha x (List.mem_of_getElem? hi))).any fun b hb => hb.1⟩, fun j u hj => ?_⟩
  rw [Nat.zero_add]
  exact heap_cell h5 (h7 j u hj)
structure CpV (B : Nat) (w : World) (f : FuI) (fa fb fd fe : Value) : Prop where
 a : OwN w B fa f.regs
 b : OwN w B fb f.params
 d : CodeO B w fd f.code
 e : ∃ xs, w.ownsRow B 56 4 fe f.rows.length xs ∧ RowsE 4 (RwE w) f.rows xs
theorem CpV.below {B : Nat} {w w' : World} {f : FuI} {fa fb fd fe : Value} (h : CpV B w f fa fb fd fe) (hb : Below w.heap.size w w') : CpV B w' f fa fb fd fe := by
 obtain ⟨xs, h1, h2⟩ := h.e
 exact ⟨own_below h.a hb, own_below h.b hb, h.d.below hb, xs, own_below h1 hb, h2⟩
end Go.Proofs.Ytoommeiiadobfaa
/- The walk of Copy. -/
namespace Go.Proofs.Ytoommeiiadobfaa
open Go.RowKit Go
set_option linter.unusedVariables false
set_option linter.unusedSimpArgs false
theorem FuV.lt {P : Nat → Prop} {w : World} {f : FuI} {fa fb fd fe : Value} (h : FuV P w f fa fb fd fe) : FuV (fun g => g < w.heap.size) w f fa fb fd fe :=
 ⟨h.a.mono (fun _ _ h => h) (fun _ _ h => h) nu_ne, h.b.mono (fun _ _ h => h) (fun _ _ h => h) nu_ne, h.d.mono (inE_mono fun _ _ h => h) (fun _ _ h => h) in_ne, h.e.mono (fun _ _ h => h) (fun _ _ h => h) rw_ne⟩
end Go.Proofs.Ytoommeiiadobfaa
/- A copy that is written over: what stays. No walk in this text. -/
namespace Go.Proofs.Ytoommeiiadobfaa
open Go.RowKit Go
set_option linter.unusedVariables false
set_option linter.unusedSimpArgs false
theorem heap_any {w : World} {k : Nat} {cur : Array Value} {T : TypeId} {fz : Nat × Nat} (h : w.heap[k]? = some (.cells cur T fz)) (g j : Nat) (x : Value) : ∃ cur', (w.setCell ⟨g, j, none⟩ x).heap[k]? = some (.cells cur' T fz) ∧ cur'.size = cur.size ∧ ∀ i, (k = g → i ≠ j) → cur'[i]? = cur[i]? := by
 by_cases e : k = g
 ·subst e
  exact ⟨cur.setIfInBounds j x, heap_set h x, by simp, fun i hi => Array.getElem?_setIfInBounds_ne (fun e => hi rfl e.symm)⟩
 ·exact ⟨cur, (Below.heap_setCell _ _ _ _ e).trans h, rfl, fun _ _ => rfl⟩
def NumSh (B1 B2 : Nat) (w : World) (v : Value) (m : Nat) : Prop := ∃ A c, v = .slice A m c ∧ (0 < m → ∃ g cur, A = some ⟨g, 0, none⟩ ∧ B1 ≤ g ∧ g < B2 ∧ w.heap[g]? = some (.cells cur 3 (0, 0)) ∧ m ≤ cur.size ∧ m ≤ maxLen)
def RowSh (B1 B2 : Nat) (w : World) (v : Value) (m : Nat) : Prop := ∃ A c, v = .slice A m c ∧ (0 < m → ∃ g cur, A = some ⟨g, 0, none⟩ ∧ B1 ≤ g ∧ g < B2 ∧ w.heap[g]? = some (.cells cur 56 (0, 0)) ∧ m * 4 ≤ cur.size)
def CodeSh (B1 B2 : Nat) (w : World) (v : Value) (n : Nat) : Prop := ∃ A c, v = .slice A n c ∧ (0 < n → ∃ g cur, A = some ⟨g, 0, none⟩ ∧ B1 ≤ g ∧ g < B2 ∧ w.heap[g]? = some (.cells cur 35 (0, 0)) ∧ n * 9 ≤ cur.size ∧ ∀ i, i < n → ∃ u m, cur[i * 9 + 8]? = some u ∧ NumSh B1 B2 w u m)
theorem NumSh.set {B1 B2 : Nat} {w : World} {v : Value} {m : Nat} (h : NumSh B1 B2 w v m) (g j : Nat) (x : Value) : NumSh B1 B2 (w.setCell ⟨g, j, none⟩ x) v m := by
 obtain ⟨A, c, h1, h2⟩ := h
 refine ⟨A, c, h1, fun hm => ?_⟩
 obtain ⟨g', cur, h3, h4, h5, h6, h7, h7'⟩ := h2 hm
 obtain ⟨cur', h8, h9, _⟩ := heap_any h6 g j x
 exact ⟨g', cur', h3, h4, h5, h8, by omega, h7'⟩
theorem RowSh.set {B1 B2 : Nat} {w : World} {v : Value} {m : Nat} (h : RowSh B1 B2 w v m) (g j : Nat) (x : Value) : RowSh B1 B2 (w.setCell ⟨g, j, none⟩ x) v m := by
 obtain ⟨A, c, h1, h2⟩ := h
 refine ⟨A, c, h1, fun hm => ?_⟩
 obtain ⟨g', cur, h3, h4, h5, h6, h7⟩ := h2 hm
 obtain ⟨cur', h8, h9, _⟩ := heap_any h6 g j x
 exact ⟨g', cur', h3, h4, h5, h8, by omega⟩
def Spares (w : World) (g j : Nat) : Prop := j % 9 ≠ 8 ∨ ∃ cur T fz, w.heap[g]? = some (.cells cur T fz) ∧ T ≠ 35
theorem CodeSh.set {B1 B2 : Nat} {w : World} {v : Value} {n : Nat} (h : CodeSh B1 B2 w v n) (g j : Nat) (x : Value) (hs : Spares w g j) : CodeSh B1 B2 (w.setCell ⟨g, j, none⟩ x) v n := by
 obtain ⟨A, c, h1, h2⟩ := h
 refine ⟨A, c, h1, fun hm => ?_⟩
 obtain ⟨g', cur, h3, h4, h5, h6, h7, h8⟩ := h2 hm
 obtain ⟨cur', h9, h10, h11⟩ := heap_any h6 g j x
 refine ⟨g', cur', h3, h4, h5, h9, by omega, fun i hi => ?_⟩
 obtain ⟨u, m, h12, h13⟩ := h8 i hi
 refine ⟨u, m, (h11 _ fun e => ?_).trans h12, h13.set g j x⟩
 rcases hs with hs | ⟨cur2, T, fz, h14, h15⟩
 ·intro e2
  rw [← e2] at hs
  omega
 ·rw [e, h14] at h6
  injection h6 with h6
  injection h6 with _ h6
  exact absurd h6 h15
structure MuS (B0 B1 B2 : Nat) (w w7 : World) (ga gb gd ge : Value) (na nb nd ne : Nat) (wr : World) : Prop where
 below : Below B0 w wr
 keep : ∀ b, (b < B1 ∨ B2 ≤ b) → b < w7.heap.size → wr.heap[b]? = w7.heap[b]?
 a : NumSh B1 B2 wr ga na
 b : NumSh B1 B2 wr gb nb
 d : CodeSh B1 B2 wr gd nd
 e : RowSh B1 B2 wr ge ne
theorem MuS.set {B0 B1 B2 : Nat} {w w7 : World} {ga gb gd ge : Value} {na nb nd ne : Nat} {wr : World} (h : MuS B0 B1 B2 w w7 ga gb gd ge na nb nd ne wr) (g j : Nat) (x : Value) (hB : B0 ≤ B1) (h1 : B1 ≤ g) (h2 : g < B2) (hs : Spares wr g j) : MuS B0 B1 B2 w w7 ga gb gd ge na nb nd ne (wr.setCell ⟨g, j, none⟩ x) :=
 ⟨h.below.setCell (by show B0 ≤ g; omega) _, fun b hb hl => (Below.heap_setCell _ _ _ _ (by show b ≠ g; omega)).trans (h.keep b hb hl), h.a.set g j x, h.b.set g j x, h.d.set g j x hs, h.e.set g j x⟩
theorem MuS.drew {B0 B1 B2 : Nat} {w w7 : World} {ga gb gd ge : Value} {na nb nd ne : Nat} {wr : World} (h : MuS B0 B1 B2 w w7 ga gb gd ge na nb nd ne wr) : MuS B0 B1 B2 w w7 ga gb gd ge na nb nd ne wr.drew :=
 ⟨Below.drew' h.below, h.keep, h.a, h.b, h.d, h.e⟩
theorem MuS.num {B1 B2 : Nat} {wr : World} {A : Option Addr} {m c k : Nat} (h : NumSh B1 B2 wr (.slice A m c) m) (hk : k < m) : ∃ g, A = some ⟨g, 0, none⟩ ∧ B1 ≤ g ∧ g < B2 ∧ (∃ u, wr.cell? ⟨g, k, none⟩ = some u) ∧ wr.frozen? ⟨g, k, none⟩ = false ∧ Spares wr g k ∧ m ≤ maxLen := by
 obtain ⟨A', c', h1, h2⟩ := h
 injection h1 with e1 _ _
 subst e1
 obtain ⟨g, cur, h3, h4, h5, h6, h7, h7'⟩ := h2 (by omega)
 exact ⟨g, h3, h4, h5, ⟨_, heap_cell h6 (Array.getElem?_eq_getElem (by omega))⟩, heap_thaw h6 _, .inr ⟨cur, _, _, h6, by decide⟩, h7'⟩
theorem MuS.row {B1 B2 : Nat} {wr : World} {A : Option Addr} {m c k : Nat} (h : RowSh B1 B2 wr (.slice A m c) m) (hk : k < m) : ∃ g, A = some ⟨g, 0, none⟩ ∧ B1 ≤ g ∧ g < B2 ∧ (∃ u, wr.cell? ⟨g, k * 4 + 2, none⟩ = some u) ∧ wr.frozen? ⟨g, k * 4 + 2, none⟩ = false ∧ Spares wr g (k * 4 + 2) := by
 obtain ⟨A', c', h1, h2⟩ := h
 injection h1 with e1 _ _
 subst e1
 obtain ⟨g, cur, h3, h4, h5, h6, h7⟩ := h2 (by omega)
 exact ⟨g, h3, h4, h5, ⟨_, heap_cell h6 (Array.getElem?_eq_getElem (by omega))⟩, heap_thaw h6 _, .inr ⟨cur, _, _, h6, by decide⟩⟩
theorem MuS.code {B1 B2 : Nat} {wr : World} {A : Option Addr} {n c k : Nat} (h : CodeSh B1 B2 wr (.slice A n c) n) (hk : k < n) : ∃ g u m, A = some ⟨g, 0, none⟩ ∧ B1 ≤ g ∧ g < B2 ∧ (∃ u, wr.cell? ⟨g, k * 9, none⟩ = some u) ∧ (∃ u, wr.cell? ⟨g, k * 9 + 5, none⟩ = some u) ∧ wr.cell? ⟨g, k * 9 + 8, none⟩ = some u ∧ NumSh B1 B2 wr u m ∧ (∀ j, wr.frozen? ⟨g, j, none⟩ = false) ∧ Spares wr g (k * 9) ∧ (∀ x, Spares (wr.setCell ⟨g, k * 9, none⟩ x) g (k * 9 + 5)) ∧ Spares wr g (k * 9 + 5) ∧ ∀ x, Spares (wr.setCell ⟨g, k * 9 + 5, none⟩ x) g (k * 9) := by
 obtain ⟨A', c', h1, h2⟩ := h
 injection h1 with e1 _ _
 subst e1
 obtain ⟨g, cur, h3, h4, h5, h6, h7, h8⟩ := h2 (by omega)
 obtain ⟨u, m, h9, h10⟩ := h8 k hk
 have hlt := (Array.getElem?_eq_some_iff.1 h9).1
 exact ⟨g, u, m, h3, h4, h5, ⟨_, heap_cell h6 (Array.getElem?_eq_getElem (i := k * 9) (by omega))⟩, ⟨_, heap_cell h6 (Array.getElem?_eq_getElem (i := k * 9 + 5) (by omega))⟩, heap_cell h6 h9, h10, fun j => heap_thaw h6 j, .inl (by omega), fun _ => .inl (by omega), .inl (by omega), fun _ => .inl (by omega)⟩
theorem num_of {B1 B2 : Nat} {w : World} {v : Value} {l : List Int} (h : OwN w B1 v l) (hb : w.heap.size ≤ B2) : NumSh B1 B2 w v l.length := by
 obtain ⟨A, c, hv⟩ := own_shape h
 refine ⟨A, c, hv, fun hm => ?_⟩
 rcases h.2 with ⟨_, h2⟩ | ⟨g, cap, cur, h1, h3, h4, h5, h6, h7, h8⟩
 ·omega
 ·rw [hv] at h1
  injection h1 with e1 _ _
  have hl := heap_lt h4
  exact ⟨g, cur, e1, h3, by omega, h4, by omega, by omega⟩
theorem NumSh.grow {B1 B2 : Nat} {w w' : World} {v : Value} {m : Nat} (h : NumSh B1 B2 w v m) (hb : Below w.heap.size w w') : NumSh B1 B2 w' v m := by
 obtain ⟨A, c, h1, h2⟩ := h
 refine ⟨A, c, h1, fun hm => ?_⟩
 obtain ⟨g', cur, h3, h4, h5, h6, h7⟩ := h2 hm
 exact ⟨g', cur, h3, h4, h5, heap_keep h6 hb, h7⟩
theorem MuS.start {B0 B1 B2 : Nat} {w w2 w7 : World} {f : FuI} {ga gb gd ge : Value} (h : CpV B1 w2 f ga gb gd ge) (h2 : w2.heap.size = B2) (h7 : Below w2.heap.size w2 w7) (hb : Below B0 w w7) : MuS B0 B1 B2 w w7 ga gb gd ge f.regs.length f.params.length f.code.length f.rows.length w7 := by
 refine ⟨hb, fun _ _ _ => rfl, (num_of h.a (by omega)).grow h7, (num_of h.b (by omega)).grow h7, ?_, ?_⟩
 ·rcases h.d with ⟨h3, h4⟩ | ⟨g, cap, h3, h4, h5, h6, cur, h8, h9⟩
  ·exact ⟨none, 0, by rw [h3, h4]; rfl, fun hm => absurd hm (by rw [h4]; decide)⟩
  ·have hl := heap_lt h8
   refine ⟨some ⟨g, 0, none⟩, cap, h3, fun hm => ⟨g, cur, rfl, h4, by omega, heap_keep h8 h7, ?_, fun i hi => ?_⟩⟩
   ·obtain ⟨v, h10, _, _⟩ := h9 (f.code.length - 1) _ (List.getElem?_eq_getElem (by omega))
    have := (Array.getElem?_eq_some_iff.1 (h10 8 v rfl)).1
    omega
   ·obtain ⟨v, h10, h11, _⟩ := h9 i _ (List.getElem?_eq_getElem hi)
    exact ⟨v, _, h10 8 v rfl, (num_of (h11 hi) (by omega)).grow h7⟩
 ·obtain ⟨xs, h3, h4⟩ := h.e
  obtain ⟨A, c, hv⟩ := own_shape h3
  refine ⟨A, c, hv, fun hm => ?_⟩
  rcases h3.2 with ⟨_, h5⟩ | ⟨g, cap, cur, h1, h5, h6, h8, h9, h10, h11⟩
  ·omega
  ·rw [hv] at h1
   injection h1 with e1 _ _
   have hl := heap_lt h6
   exact ⟨g, cur, e1, h5, by omega, heap_keep h6 h7, by omega⟩
end Go.Proofs.Ytoommeiiadobfaa
/- The walk of law 10's InsCopies. -/
namespace Go.Proofs.Ytoommeiiadobfaa
open Go.RowKit Go
set_option linter.unusedVariables false
set_option linter.unusedSimpArgs false
theorem FuV.kept {P : Nat → Prop} {w w' : World} {f : FuI} {fa fb fd fe : Value} (h : FuV P w f fa fb fd fe) (hb : ∀ g, P g → g < w.heap.size → w'.heap[g]? = w.heap[g]?) : FuV P w' f fa fb fd fe :=
 ⟨h.a.kept (keptX_nu _) hb, h.b.kept (keptX_nu _) hb, h.d.kept (keptX_in _) hb, h.e.kept (keptX_rw _) hb⟩
theorem CodeO.shape {B : Nat} {w : World} {v : Value} {l : List InI} (h : CodeO B w v l) : ∃ A c, v = .slice A l.length c := by
 rcases h with ⟨rfl, rfl⟩ | ⟨g, cap, rfl, _⟩
 ·exact ⟨_, _, rfl⟩
 ·exact ⟨_, _, rfl⟩
end Go.Proofs.Ytoommeiiadobfaa
/- A function trimmed: the program's Trim. -/
namespace Go.Proofs.Ytoommeiiadobfaa
open Go.RowKit Go
set_option linter.unusedVariables false
set_option linter.unusedSimpArgs false
theorem chk_parts {f : FuI} (h : chkN f = 0) : codeB f = true ∧ rowsB f = true := by
 unfold chkN checkB at h
 cases h1 : (regsB f && codeB f && rowsB f) with
 | false => rw [h1] at h; simp at h
 | true => simp only [Bool.and_eq_true] at h1; exact ⟨h1.1.2, h1.2⟩
theorem chk_leads {f : FuI} (h : chkN f = 0) : ∀ x ∈ f.code, leadsB x.op = true → 0 ≤ x.too ∧ x.too < f.code.length := by
 intro x hx hl
 have hc := (chk_parts h).1
 unfold codeB at hc
 simp only [Bool.and_eq_true, List.all_eq_true, List.mem_range] at hc
 obtain ⟨i, hi, rfl⟩ := List.getElem_of_mem hx
 have h1 := hc.2 i hi
 rw [List.getElem?_eq_getElem hi] at h1
 simp only [oneB, Bool.and_eq_true, Bool.or_eq_true, hl] at h1
 have h2 := h1.1.2
 simp at h2
 exact ⟨h2.1.1, h2.1.2⟩
theorem chk_rows9 {f : FuI} (h : chkN f = 0) : ∀ r ∈ f.rows, (0 ≤ r.fr ∧ r.fr ≤ f.code.length) ∧ (0 ≤ r.too ∧ r.too ≤ f.code.length) ∧ 0 ≤ r.at_ ∧ r.at_ < f.code.length := by
 intro r hr
 have hc := (chk_parts h).2
 unfold rowsB at hc
 rw [List.all_eq_true] at hc
 have h1 := hc r hr
 unfold rowB at h1
 simp only [Bool.and_eq_true, decide_eq_true_eq] at h1
 omega
theorem OwC.rd {P : Nat → Prop} {w0 w w' : World} {B : Nat} {v : Value} {L : List InI} (h : OwC P w0 w B v L) (hb : ∀ b, P b → b < w0.heap.size → w'.heap[b]? = w0.heap[b]?) (hw : ∀ b, v.ownBlock = some b → w'.heap[b]? = w.heap[b]?) (hl : L.length ≤ 140737488355328) : RdX Tru 9 (InE Tru) w' v L := by
 obtain ⟨xs, h1, h2⟩ := h
 have h3 : RowsE 9 (InE Tru w') L xs := ⟨h2.1, fun i a hi => by
  obtain ⟨c, h4, h5⟩ := h2.2 i a hi
  refine ⟨c, ?_, h5⟩
  obtain ⟨u, h6, h7⟩ := h4
  exact ⟨u, h6, (h7.kept (keptX_nu _) hb).any fun _ _ => trivial⟩⟩
 exact (rdX_own (own_of h1 hw) hl h3).any fun _ _ => trivial
theorem OwR.rd {w0 w w' : World} {B : Nat} {v : Value} {L : List RwI} (h : OwR w0 w B v L) (hw : ∀ b, v.ownBlock = some b → w'.heap[b]? = w.heap[b]?) (hl : L.length ≤ 140737488355328) : RdX Tru 4 RwE w' v L := by
 obtain ⟨xs, h1, h2⟩ := h
 exact (rdX_own (own_of h1 hw) hl h2).any fun _ _ => trivial
end Go.Proofs.Ytoommeiiadobfaa
/- Law 11's own example: a way, nothing that is trimmed. -/
namespace Go.Proofs.Ytoommeiiadobfaa
open Go.RowKit Go
set_option linter.unusedVariables false
set_option linter.unusedSimpArgs false
abbrev bareC (x : InI) : List Value := [.int .i64 x.op, .int .i64 x.dst, .int .i64 x.a, .int .i64 x.b, .int .i64 x.c, .int .i64 x.num, .int .i64 x.too, .string ⟨#[]⟩, .slice none 0 0]
theorem bare_in {w : World} {x : InI} (hr : x.ref = []) (ha : x.args = []) : InE Tru w x (bareC x) := ⟨.slice none 0 0, by rw [hr]; rfl, by rw [ha]; exact rdX_nil _ _ _ _ _ _ (fun _ => rfl)⟩
theorem bare_rd {w : World} {l : List InI} {g : Nat} {T : TypeId} (hl : ∀ x ∈ l, x.ref = [] ∧ x.args = []) (hg : w.heap[g]? = some (.cells (l.flatMap bareC).toArray T (0, 0))) (hn : l.length ≤ 140737488355328) : RdX Tru 9 (InE Tru) w (.slice (some ⟨g, 0, none⟩) l.length l.length) l := by
 have key : ∀ (l : List InI) (i : Nat) (a : InI), l[i]? = some a → ∀ (j : Nat) u, (bareC a)[j]? = some u → (l.flatMap bareC)[i * 9 + j]? = some u := by
  intro l
  induction l with
  | nil => intro i a h; simp at h
  | cons x l ih =>
   intro i a hi j u hj
   rw [List.flatMap_cons]
   cases i with
   | zero =>
    simp at hi
    subst hi
    have hj9 : j < (bareC x).length := (List.getElem?_eq_some_iff.1 hj).1
    rw [Nat.zero_mul, Nat.zero_add, List.getElem?_append_left hj9]
    exact hj
   | succ i =>
    have h1 := ih i a (by simpa using hi) j u hj
    have e9 : (bareC x).length = 9 := rfl
    rw [List.getElem?_append_right (by rw [e9]; omega), e9, show (i + 1) * 9 + j - 9 = i * 9 + j by omega]
    exact h1
 refine ⟨_, _, rfl, fun e => (by cases e), hn, fun i a hi => ⟨g, 0, bareC a, rfl, trivial, ?_, fun j u hj => ?_⟩⟩
 ·have := hl a (List.mem_of_getElem? hi)
  exact bare_in this.1 this.2
 ·refine heap_cell hg ?_
  have := key l i a hi j u hj
  rw [Nat.zero_add]
  simpa using this
theorem rwn_nil : RwN [] := by
 unfold RwN
 simp
end Go.Proofs.Ytoommeiiadobfaa
/- FlowBlocks: plain facts on heads; an append of one own row to another. -/
namespace Go.Proofs.Ytoommeiiadobfaa
open Go.RowKit Go
set_option linter.unusedVariables false
set_option linter.unusedSimpArgs false
theorem catL_mem {rows : List RwI} {i s : Int} (h : s ∈ catL rows i) : ∃ r ∈ rows, r.at_ = s := by
 induction rows with
 | nil => cases h
 | cons r l ih =>
  cases ha : aboutB r i with
  | true =>
   rw [catL_yes ha] at h
   rcases List.mem_cons.1 h with rfl | h
   ·exact ⟨r, by simp, rfl⟩
   ·split at h
    ·cases h
    ·obtain ⟨q, hq, e⟩ := ih h
     exact ⟨q, List.mem_cons_of_mem _ hq, e⟩
  | false =>
   rw [catL_no ha] at h
   obtain ⟨q, hq, e⟩ := ih h
   exact ⟨q, List.mem_cons_of_mem _ hq, e⟩
theorem uniq_mem {xs : List Int} {s : Int} (h : s ∈ uniqL xs) : s ∈ xs := by
 have key : ∀ (xs l : List Int), s ∈ xs.foldl addU l → s ∈ l ∨ s ∈ xs := by
  intro xs
  induction xs with
  | nil => intro l h; exact .inl h
  | cons x r ih =>
   intro l h
   rcases ih _ h with h1 | h1
   ·unfold addU at h1
    split at h1
    ·exact .inl h1
    ·rcases List.mem_append.1 h1 with h2 | h2
     ·exact .inl h2
     ·simp at h2; subst h2; exact .inr (by simp)
   ·exact .inr (List.mem_cons_of_mem _ h1)
 rcases key xs [] h with h1 | h1
 ·cases h1
 ·exact h1
def mapH (l : List Int) : Int → Option Value := fun s => if s ∈ l then some (.int .i64 1) else none
theorem mapH_snoc (l : List Int) (x s : Int) : (if s = x then some (Value.int .i64 1) else mapH l s) = mapH (l ++ [x]) s := by
 unfold mapH
 by_cases h : s = x
 ·subst h; simp
 ·by_cases h2 : s ∈ l <;> simp [h, h2]
end Go.Proofs.Ytoommeiiadobfaa
/- Law 11: is a function light? And words on append of two. -/
namespace Go.Proofs.Ytoommeiiadobfaa
open Go.RowKit Go
set_option linter.unusedVariables false
set_option linter.unusedSimpArgs false
theorem catL_len (rows : List RwI) (i : Int) : (catL rows i).length ≤ rows.length := by
 induction rows with
 | nil => simp [catL]
 | cons r l ih =>
  cases ha : aboutB r i with
  | true =>
   rw [catL_yes ha]
   split
   ·simp
   ·simp only [List.length_cons]; omega
  | false =>
   rw [catL_no ha]
   simp only [List.length_cons]
   omega
end Go.Proofs.Ytoommeiiadobfaa
/- A register's bit among 64 from a first one on; what a place stops; which registers are unset at first. -/
namespace Go.Proofs.Ytoommeiiadobfaa
open Go.RowKit Go
set_option linter.unusedVariables false
set_option linter.unusedSimpArgs false
def bitN (r first : Int) : Mk := if 0 ≤ r - first then BitVec.ofNat 64 (2 ^ (r - first).toNat) else 0
theorem bitN_get (r first : Int) (b : Nat) : (bitN r first).getLsbD b = (decide (b < 64) && decide (r - first = b)) := by
 unfold bitN
 split
 ·rename_i h
  rw [BitVec.getLsbD_ofNat, Nat.testBit_two_pow]
  congr 1
  rw [decide_eq_decide]
  omega
 ·rename_i h
  have : decide (r - first = (b : Int)) = false := by simp; omega
  rw [this]
  simp
theorem def_w (x : InI) (v : Value) (w : World) (d : Int) (hd : Hid (defI x = d)) : Calls Try.prog 37 #[inA x v] w fun e w' => e = .returned (.int .i64 d) ∧ Below w.heap.size w w' := by
 have := def_any x v w
 rwa [hd.out] at this
theorem uses_w {P : Nat → Prop} (x : InI) (v : Value) (l : List Int) (w : World) (h : Hid (RdX P 1 NuE w v x.args)) (hby : Hid (x.args.length * 8 ≤ 140737488355328)) (hl : Hid (usesI x = l)) :
  Calls Try.prog 52 #[inA x v] w fun e w' => ∃ v', e = .returned v' ∧ OwN w' w.heap.size v' l ∧ Below w.heap.size w w' := by
 have := uses_any x v w h hby
 rwa [hl.out] at this
theorem u64_pow (n : Nat) : IntKind.u64.wrap ((2 : Int) ^ n) = ((BitVec.ofNat 64 (2 ^ n)).toNat : Int) := by
 have h : IntKind.u64.wrap ((2 : Int) ^ n) = (2 : Int) ^ n % 18446744073709551616 := by
  unfold IntKind.wrap
  simp [IntKind.bits, IntKind.signed]
 rw [h, BitVec.toNat_ofNat]
 have h2 : ((2 : Int) ^ n) = ((2 ^ n : Nat) : Int) := by simp
 rw [h2]
 omega
theorem u64_big (n : Nat) (hn : 64 ≤ n) : IntKind.u64.wrap ((2 : Int) ^ n) = 0 := by
 rw [u64_pow, BitVec.toNat_ofNat]
 have : 2 ^ n % 2 ^ 64 = 0 := by
  obtain ⟨k, rfl⟩ : ∃ k, n = 64 + k := ⟨n - 64, by omega⟩
  rw [Nat.pow_add]
  exact Nat.mul_mod_right _ _
 rw [this]
 rfl
theorem u64_min (n : Nat) : IntKind.u64.wrap ((2 : Int) ^ min n 64) = ((BitVec.ofNat 64 (2 ^ n)).toNat : Int) := by
 by_cases h : n < 64
 ·rw [Nat.min_eq_left (by omega)]
  exact u64_pow n
 ·rw [Nat.min_eq_right (by omega), u64_big 64 (Nat.le_refl _)]
  have h1 := u64_big n (by omega)
  rw [u64_pow] at h1
  exact h1.symm
theorem bit_c (r first : Int) (w : World) (hr : Hid (I64 r)) (h0 : Hid (0 ≤ first ∧ first ≤ 1099511627776)) : Calls Try.prog 72 #[.int .i64 r, .int .i64 first] w fun e w' => e = .returned (.int .u64 ((bitN r first).toNat : Int)) ∧ w' = w := by
 have hr2 := hr.out
 unfold I64 at hr2
 have h02 := h0.out
 obtain ⟨d, hd⟩ : ∃ d, r - first = d := ⟨_, rfl⟩
 by_cases hov : r - first < -9223372036854775808
 ·have h1 : wrap64 (r - first) = d + 18446744073709551616 := by unfold wrap64; omega
  obtain ⟨n, hn⟩ : ∃ n : Nat, d + 18446744073709551616 = n := ⟨(d + 18446744073709551616).toNat, by omega⟩
  rw [hn] at h1
  have h2 : IntKind.u64.wrap (n : Int) = (n : Int) := IntWalk.u64_in _ (by omega)
  have h3 := u64_big (min n 64) (by omega)
  have hb : ((bitN r first).toNat : Int) = 0 := by unfold bitN; rw [if_neg (by omega)]; rfl
  rw [hb]
  clear hb hov hd hn hr2 h02
  go_enter Try.func72, Try.ntmps72
  go_wp2_with fail
  go_ret
  exact ⟨rfl, rfl⟩
 ·have h1 : wrap64 (r - first) = d := by rw [hd]; exact IntWalk.wrap64_in _ (by omega)
  by_cases hp : 0 ≤ d
  ·obtain ⟨n, hn⟩ : ∃ n : Nat, d = n := ⟨d.toNat, by omega⟩
   rw [hn] at h1
   have h2 : IntKind.u64.wrap (n : Int) = (n : Int) := IntWalk.u64_in _ (by omega)
   have h3 := u64_min n
   obtain ⟨z, hz⟩ : ∃ z : Int, ((BitVec.ofNat 64 (2 ^ n)).toNat : Int) = z := ⟨_, rfl⟩
   rw [hz] at h3
   have hb : bitN r first = BitVec.ofNat 64 (2 ^ n) := by unfold bitN; rw [if_pos (by omega)]; congr 2; omega
   rw [hb, hz]
   clear hb hov hd hn hr2 h02 hp
   go_enter Try.func72, Try.ntmps72
   go_wp2_with fail
   go_ret
   exact ⟨rfl, rfl⟩
  ·obtain ⟨n, hn⟩ : ∃ n : Nat, d + 18446744073709551616 = n := ⟨(d + 18446744073709551616).toNat, by omega⟩
   have h2 : IntKind.u64.wrap d = (n : Int) := by unfold IntKind.wrap; simp [IntKind.bits, IntKind.signed]; omega
   have h3 := u64_big (min n 64) (by omega)
   have hb : ((bitN r first).toNat : Int) = 0 := by unfold bitN; rw [if_neg (by omega)]; rfl
   rw [hb]
   clear hb hov hd hn hr2 h02 hp
   go_enter Try.func72, Try.ntmps72
   go_wp2_with fail
   go_ret
   exact ⟨rfl, rfl⟩
set_option maxHeartbeats 8000000 in
set_option maxRecDepth 100000 in
theorem stop_c {P : Nat → Prop} (c : List InI) (n : Nat) (hn : Hid (c.length = n)) (fa fb fe nv sv : Value) (D : Option Addr) (dcap : Nat) (ret : Int) (WB FI : Nat) (first : Int) (i : Nat) (x : InI) (w : World) (hw : Hid (WBox w WB fa fb ret (.slice D n dcap) fe nv sv)) (hf : Hid (w.heap[FI]? = some (.cells #[.int .i64 first] 3 (0, 0)))) (hd : Hid (RdX P 9 (InE P) w (.slice D n dcap) c)) (hx : Hid (c[i]? = some x)) (hr : Hid (I64 (defI x))) (h0 : Hid (0 ≤ first ∧ first ≤ 1099511627776)) :
    Calls Try.prog 71 #[.int .i64 (i : Int), .pointer (some ⟨WB, 0, none⟩), .pointer (some ⟨FI, 0, none⟩)] w fun e w' => e = .returned (.int .u64 ((bitN (defI x) first).toNat : Int)) ∧ Below w.heap.size w w' := by
  obtain ⟨dg, od, v, hD, _, hva, c0, c1, c2, c3, c4, c5, c6, c7, c8⟩ := in_cells hd.out hx.out
  subst hD
  have hi : (i : Int) < n := by have := (List.getElem?_eq_some_iff.1 hx.out).1; have := hn.out; omega
  have HG : Hid (∀ w' : World, Below w.heap.size w w' → w'.cell? ⟨WB, 3, none⟩ = some (.slice (some ⟨dg, od, none⟩) n dcap) ∧ w'.cell? ⟨FI, 0, none⟩ = some (.int .i64 first) ∧ w'.cell? ⟨dg, od + i * 9, none⟩ = some (.int .i64 x.op) ∧ w'.cell? ⟨dg, od + i * 9 + 1, none⟩ = some (.int .i64 x.dst) ∧ w'.cell? ⟨dg, od + i * 9 + 2, none⟩ = some (.int .i64 x.a) ∧ w'.cell? ⟨dg, od + i * 9 + 3, none⟩ = some (.int .i64 x.b) ∧ w'.cell? ⟨dg, od + i * 9 + 4, none⟩ = some (.int .i64 x.c) ∧ w'.cell? ⟨dg, od + i * 9 + 5, none⟩ = some (.int .i64 x.num) ∧ w'.cell? ⟨dg, od + i * 9 + 6, none⟩ = some (.int .i64 x.too) ∧ w'.cell? ⟨dg, od + i * 9 + 7, none⟩ = some (.string (tx x.ref)) ∧ w'.cell? ⟨dg, od + i * 9 + 8, none⟩ = some v) := lhid (fun w' hw' => by
    have k1 : WBox w' WB fa fb ret (.slice (some ⟨dg, od, none⟩) n dcap) fe nv sv := heap_keep hw.out hw'
    have kc : ∀ {p : Addr} {u : Value}, w.cell? p = some u → w'.cell? p = some u := fun {p u} hq => (hw'.cell (p := p) (cell_lt hq)).trans hq
    exact ⟨k1.cells.2.2.2.1, heap_cell (heap_keep hf.out hw') rfl, kc c0, kc c1, kc c2, kc c3, kc c4, kc c5, kc c6, kc c7, kc c8⟩)
  clear c0 c1 c2 c3 c4 c5 c6 c7 c8 hva
  obtain ⟨d, hde⟩ : ∃ d, defI x = d := ⟨_, rfl⟩
  have HDE := lhid hde
  rw [hde] at hr ⊢
  clear hde
  go_enter Try.func71, Try.ntmps71
  go_upto_region 1 with fail
  refine wp_region_held_drew (S := fun w' => Below w.heap.size w w') (by kernel_rfl) (Below.drew' (Below.refl _ _)) ?_
  intro hS0
  refine wpAnyH_take (i := 0) (v := ?tv1) rfl (by kernel_rfl) (by kernel_rfl) (by kernel_rfl) (fun _ _ _ h => h) (Or.inl ⟨by rfl, ?ty1⟩) hS0 ?tr1
  case ty1 => (intro w' hw'; obtain ⟨p3, f0, c0, c1, c2, c3, c4, c5, c6, c7, c8⟩ := HG.out w' hw'; go_simp; try with_reducible rfl)
  try simp only [List.getElem_toArray, List.getElem_cons_zero, List.getElem_cons_succ]
  try simp only [Act.put, List.setIfInBounds_toArray, List.set_cons_zero, List.set_cons_succ]
  refine wpAnyH_take (i := 1) (v := ?tv2) rfl (by kernel_rfl) (by kernel_rfl) (by kernel_rfl) (fun _ _ _ h => h) (Or.inl ⟨by rfl, ?ty2⟩) hS0 ?tr2
  case ty2 => (intro w' hw'; obtain ⟨p3, f0, c0, c1, c2, c3, c4, c5, c6, c7, c8⟩ := HG.out w' hw'; go_simp; try with_reducible rfl)
  try simp only [List.getElem_toArray, List.getElem_cons_zero, List.getElem_cons_succ]
  try simp only [Act.put, List.setIfInBounds_toArray, List.set_cons_zero, List.set_cons_succ]
  refine wpAnyH_take (i := 2) (v := ?tv3) rfl (by kernel_rfl) (by kernel_rfl) (by kernel_rfl) (fun _ _ _ h => h) (Or.inl ⟨by rfl, ?ty3⟩) hS0 ?tr3
  case ty3 => (intro w' hw'; obtain ⟨p3, f0, c0, c1, c2, c3, c4, c5, c6, c7, c8⟩ := HG.out w' hw'; go_simp; try with_reducible rfl)
  try simp only [List.getElem_toArray, List.getElem_cons_zero, List.getElem_cons_succ]
  try simp only [Act.put, List.setIfInBounds_toArray, List.set_cons_zero, List.set_cons_succ]
  refine wpAnyH_take (i := 3) (v := ?tv4) rfl (by kernel_rfl) (by kernel_rfl) (by kernel_rfl) (fun _ _ _ h => h) (Or.inl ⟨by rfl, ?ty4⟩) hS0 ?tr4
  case ty4 => (intro w' hw'; obtain ⟨p3, f0, c0, c1, c2, c3, c4, c5, c6, c7, c8⟩ := HG.out w' hw'; go_simp; try with_reducible rfl)
  try simp only [List.getElem_toArray, List.getElem_cons_zero, List.getElem_cons_succ]
  try simp only [Act.put, List.setIfInBounds_toArray, List.set_cons_zero, List.set_cons_succ]
  refine wpAnyH_take (i := 4) (v := ?tv5) rfl (by kernel_rfl) (by kernel_rfl) (by kernel_rfl) (fun _ _ _ h => h) (Or.inl ⟨by rfl, ?ty5⟩) hS0 ?tr5
  case ty5 => (intro w' hw'; obtain ⟨p3, f0, c0, c1, c2, c3, c4, c5, c6, c7, c8⟩ := HG.out w' hw'; go_simp; try with_reducible rfl)
  try simp only [List.getElem_toArray, List.getElem_cons_zero, List.getElem_cons_succ]
  try simp only [Act.put, List.setIfInBounds_toArray, List.set_cons_zero, List.set_cons_succ]
  refine wpAnyH_take (i := 5) (v := ?tv6) rfl (by kernel_rfl) (by kernel_rfl) (by kernel_rfl) (fun _ _ _ h => h) (Or.inl ⟨by rfl, ?ty6⟩) hS0 ?tr6
  case ty6 => (intro w' hw'; obtain ⟨p3, f0, c0, c1, c2, c3, c4, c5, c6, c7, c8⟩ := HG.out w' hw'; go_simp; try with_reducible rfl)
  try simp only [List.getElem_toArray, List.getElem_cons_zero, List.getElem_cons_succ]
  try simp only [Act.put, List.setIfInBounds_toArray, List.set_cons_zero, List.set_cons_succ]
  refine wpAnyH_take (i := 7) (v := ?tv7) rfl (by kernel_rfl) (by kernel_rfl) (by kernel_rfl) (fun _ _ _ h => h) (Or.inl ⟨by rfl, ?ty7⟩) hS0 ?tr7
  case ty7 => (intro w' hw'; obtain ⟨p3, f0, c0, c1, c2, c3, c4, c5, c6, c7, c8⟩ := HG.out w' hw'; go_simp; try with_reducible rfl)
  try simp only [List.getElem_toArray, List.getElem_cons_zero, List.getElem_cons_succ]
  try simp only [Act.put, List.setIfInBounds_toArray, List.set_cons_zero, List.set_cons_succ]
  refine wpAnyH_ready (rs := [6]) (by kernel_rfl) (by simp) ?_
  refine AllReadyH.cons rfl (fun K hK => ?_) AllReadyH.nil
  go_simp
  refine (def_w x v _ d HDE).mono ?_
  rintro e wahS1 ⟨rfl, hb⟩
  have hS1 : Below w.heap.size w wahS1 := hS0.trans (hb.mono hS0.size)
  clear hb
  dsimp only
  refine hK.out _ _ hS1 (fun _ => ?_)
  clear hK K
  try simp only [Act.put, List.setIfInBounds_toArray, List.set_cons_zero, List.set_cons_succ]
  refine wpAnyH_ready (rs := [8]) (by kernel_rfl) (by simp) ?_
  refine AllReadyH.cons rfl (fun K hK => ?_) AllReadyH.nil
  go_simp
  refine (bit_c d first _ hr h0).mono ?_
  rintro e _ ⟨rfl, rfl⟩
  dsimp only
  refine hK.out _ _ hS1 (fun _ => ?_)
  clear hK K
  try simp only [Act.put, List.setIfInBounds_toArray, List.set_cons_zero, List.set_cons_succ]
  refine wpAnyH_quiet_tail 9 (by rfl) (by kernel_rfl) (by kernel_rfl) hS1 ?_
  simp only [List.drop_succ_cons, List.drop_zero]
  repeat (first
    | go_big_quiet_skip
    | (go_big_quiet_want
       refine quiet_of_run (v := ?_) (fun w' hw' => ?_) ?_
       rotate_left
       · (go_simp; try with_reducible rfl)
       go_big_quiet_on
       try simp only [Act.put, List.setIfInBounds_toArray, List.set_cons_zero, List.set_cons_succ]))
  refine wpQuiet_nil ?_
  intro wx hwx
  have HW := lhid hwx
  clear hwx
  go_wp2_with fail
  go_ret
  exact ⟨rfl, HW.out⟩
end Go.Proofs.Ytoommeiiadobfaa
/- Which of 64 registers no argument lies in: the program's unsetAtFirst. -/
namespace Go.Proofs.Ytoommeiiadobfaa
open Go.RowKit Go
set_option linter.unusedVariables false
set_option linter.unusedSimpArgs false
set_option maxHeartbeats 8000000 in
set_option maxRecDepth 100000 in
theorem unset_c {P : Nat → Prop} (f : FuI) (fa fb fd fe : Value) (F : Nat) (w : World) (h : Hid (FuV P w f fa fb fd fe)) (hF : Hid (F < f.regs.length)) (hl : Hid (f.regs.length ≤ 1099511627776)) (hp : Hid (∀ r ∈ f.params, I64 r)) :
  Calls Try.prog 70 #[fuL fa fb f.ret fd fe, .int .i64 (F : Int)] w fun e w' => ∃ U : Mk, e = .returned (.int .u64 (U.toNat : Int)) ∧ (∀ b, U.getLsbD b = true ↔ b < 64 ∧ F + b < f.regs.length ∧ ((F + b : Nat) : Int) ∉ f.params) ∧ Below w.heap.size w w' := by
 obtain ⟨FA, ac, hFA⟩ := h.out.a.shape
 subst hFA
 obtain ⟨FB, bc, hFB⟩ := h.out.b.shape
 subst hFB
 obtain ⟨R, hR⟩ : ∃ R, f.regs.length = R := ⟨_, rfl⟩
 have hF2 := hF.out
 have hl2 := hl.out
 have hu := h.out
 rw [hR] at hF2 hl2 hu ⊢
 have HFU := lhid hu
 have hpl := h.out.b.len
 clear hR hF hl hu h
 obtain ⟨cn, hcn⟩ : ∃ cn : Nat, min (F + 64) R = F + cn := ⟨min (F + 64) R - F, by omega⟩
 have hw64 : wrap64 ((F : Int) + 64) = (F : Int) + 64 := IntWalk.wrap64_in _ (by omega)
 have hmin : min ((F : Int) + 64) (R : Int) = (F : Int) + cn := by omega
 have HCN : Hid (cn ≤ 64 ∧ ∀ b, b < cn ↔ b < 64 ∧ F + b < R) := lhid ⟨by omega, fun b => by omega⟩
 clear hcn
 go_enter Try.func70, Try.ntmps70
 go_wp2_with fail
 generalize hW : World.alloc _ _ = w0
 have hb0 : Below w.heap.size w w0 := by rw [← hW]; exact (Below.refl _ _).alloc (Nat.le_refl _) _
 have hF0 : FBox w0 w.heap.size (.slice FA R ac) (.slice FB f.params.length bc) f.ret fd fe := by rw [← hW]; exact heap_alloc_new w _
 have HF0 := lhid hF0
 have HB0 := lhid hb0
 have HU0 := lhid (HFU.out.below hb0)
 obtain ⟨p0, p1, p2, p3, p4⟩ := hF0.cells
 clear hW hb0 hF0
 go_loopg [5, 6] cn (fun g u r wr => ∃ (U : Mk) (k : Nat), g = cn - k ∧ u = .int .u64 (U.toNat : Int) ∧ r = .int .i64 ((F : Int) + k) ∧ k ≤ cn ∧ Hid (∀ b, U.getLsbD b = true ↔ b < k) ∧ wr = w0)
 case atStart => exact ⟨0, 0, rfl, rfl, by simp, Nat.zero_le _, lhid (fun b => by simp), rfl⟩
 case round =>
  obtain ⟨U, k, rfl, rfl, rfl, hk, HUB, rfl⟩ := hrel
  by_cases hlt : k < cn
  ·have k3 : (F : Int) + k < (F : Int) + cn := by omega
   have hwk : wrap64 ((F : Int) + k + 1) = (F : Int) + k + 1 := IntWalk.wrap64_in _ (by omega)
   obtain ⟨z, hz⟩ : ∃ z, (F : Int) + k = z := ⟨_, rfl⟩
   rw [hz] at k3 hwk ⊢
   have HI : Hid (I64 z) := lhid ⟨by omega, by omega⟩
   have hor := or_u U (bitN z F)
   obtain ⟨V, hV⟩ : ∃ V, U ||| bitN z F = V := ⟨_, rfl⟩
   have HV : Hid (∀ b, V.getLsbD b = true ↔ b < k + 1) := lhid (fun b => by
    rw [← hV, BitVec.getLsbD_or, Bool.or_eq_true, HUB.out b, bitN_get]
    have := HCN.out.1
    simp only [Bool.and_eq_true, decide_eq_true_eq]
    omega)
   rw [hV] at hor
   have HZ := lhid hz
   have HWK := lhid hwk
   clear hV hz hwk
   go_wp2_with fail
   with_reducible refine (bit_c z F _ HI (lhid (by omega))).mono ?_
   rintro e _ ⟨rfl, rfl⟩
   go_wp2_with fail
   go_roundg (cn - (k + 1))
   case measure => omega
   case rel => exact ⟨V, k + 1, rfl, rfl, by congr 1; have h1 := HZ.out; have h2 := HWK.out; omega, by omega, HV, rfl⟩
  ·have k3 : ¬ (F : Int) + k < (F : Int) + cn := by omega
   have hke : k = cn := by omega
   subst hke
   clear hlt
   obtain ⟨w1, hw1⟩ : ∃ x, x = wr := ⟨_, rfl⟩
   subst hw1
   go_wp2_with fail
   go_loopg [5, 28] f.params.length (fun g u s wq => ∃ (U : Mk) (m : Nat), g = f.params.length - m ∧ u = .int .u64 (U.toNat : Int) ∧ s = .int .i64 m ∧ m ≤ f.params.length ∧ Hid (∀ b, U.getLsbD b = true ↔ b < k ∧ ((F + b : Nat) : Int) ∉ f.params.take m) ∧ wq = w1)
   case atStart => exact ⟨U, 0, rfl, rfl, rfl, Nat.zero_le _, lhid (fun b => by rw [HUB.out b]; simp), rfl⟩
   case round =>
    clear HUB
    obtain ⟨U, m, rfl, rfl, rfl, hm, HUB, rfl⟩ := hrel
    by_cases hlt : m < f.params.length
    ·obtain ⟨z, hz⟩ : ∃ z, f.params[m]? = some z := ⟨_, List.getElem?_eq_getElem hlt⟩
     obtain ⟨g, o, c1, h1, _, h2, h3⟩ := HU0.out.b.at' hz
     have h2 : c1 = [.int .i64 z] := h2
     subst h2 h1
     have c0 := h3 0 _ rfl
     rw [Nat.add_zero, Nat.mul_one] at c0
     have k3 : (m : Int) < f.params.length := by omega
     have hwk : wrap64 ((m : Int) + 1) = ((m + 1 : Nat) : Int) := by rw [IntWalk.wrap64_in _ (by omega)]; omega
     have HI := lhid (hp.out z (List.mem_of_getElem? hz))
     have han := andNot_u U (bitN z F)
     obtain ⟨V, hV⟩ : ∃ V, U &&& ~~~(bitN z F) = V := ⟨_, rfl⟩
     have HV : Hid (∀ b, V.getLsbD b = true ↔ b < k ∧ ((F + b : Nat) : Int) ∉ f.params.take (m + 1)) := lhid (fun b => by
      rw [← hV, BitVec.getLsbD_and, BitVec.getLsbD_not, bitN_get, take_snoc hz]
      have h4 := HCN.out.1
      have h5 := HUB.out b
      simp only [Bool.and_eq_true, h5, decide_eq_true_eq, Bool.not_eq_true', Bool.and_eq_false_iff, decide_eq_false_iff_not, List.mem_append, List.mem_singleton, not_or]
      constructor
      ·rintro ⟨⟨h6, h7⟩, h8, h9⟩
       exact ⟨h6, h7, by omega⟩
      ·rintro ⟨h6, h7, h8⟩
       exact ⟨⟨h6, h7⟩, by omega, .inr (by omega)⟩)
     rw [hV] at han
     clear hV hz h3
     go_wp2_with fail
     with_reducible refine (bit_c z F _ HI (lhid (by omega))).mono ?_
     rintro e _ ⟨rfl, rfl⟩
     go_wp2_with fail
     go_roundg (f.params.length - (m + 1))
     case measure => omega
     case rel => exact ⟨V, m + 1, rfl, rfl, by first | rfl | rw [hwk], by omega, HV, rfl⟩
    ·have k3 : ¬ (m : Int) < f.params.length := by omega
     have hke : m = f.params.length := by omega
     subst hke
     clear hlt
     go_wp2_with fail
     go_ret
     refine ⟨U, rfl, fun b => ?_, HB0.out⟩
     rw [HUB.out b, HCN.out.2 b, List.take_length]
     exact and_assoc
end Go.Proofs.Ytoommeiiadobfaa
/- All that follow a place: the document's All. -/
namespace Go.Proofs.Ytoommeiiadobfaa
open Go.RowKit Go
set_option linter.unusedVariables false
set_option linter.unusedSimpArgs false
def nxA (f : FuI) (i : Int) : List Int := nextL f i ++ caughtL f i
end Go.Proofs.Ytoommeiiadobfaa
/- What can be reached from the beginning: the document's Reach. -/
namespace Go.Proofs.Ytoommeiiadobfaa
open Go.RowKit Go
set_option linter.unusedVariables false
set_option linter.unusedSimpArgs false
def updB (S : Nat → Bool) (p : Nat) : Nat → Bool := fun j => if j = p then true else S j
def cntF (n : Nat) (S : Nat → Bool) : Nat := (List.range n).countP fun i => !S i
theorem cntF_upd {n p : Nat} {S : Nat → Bool} (hp : p < n) (h : S p = false) : cntF n (updB S p) + 1 ≤ cntF n S := by
 refine countP_lt (fun b _ hb => ?_) p (List.mem_range.2 hp) (by simp [updB]) (by simp [h])
 unfold updB at hb
 split at hb
 ·cases hb
 ·exact hb
theorem BooB.upd {w : World} {g n p : Nat} {S : Nat → Bool} (h : BooB w g n S n) : BooB (w.setCell ⟨g, p, none⟩ (.bool true)) g n (updB S p) n := by
 obtain ⟨c, h1, h2, h3⟩ := h
 refine ⟨_, heap_set h1 _, by simpa using h2, fun j hj => ?_⟩
 by_cases e : p = j
 ·subst e
  exact ⟨true, by rw [Array.getElem?_setIfInBounds, if_pos rfl, if_pos (by omega)], fun _ => by simp [updB]⟩
 ·obtain ⟨y, h4, h5⟩ := h3 j hj
  exact ⟨y, by rw [Array.getElem?_setIfInBounds, if_neg e]; exact h4, fun h => by rw [h5 h, updB, if_neg (fun e2 => e e2.symm)]⟩
theorem BooB.at' {w : World} {g n k i : Nat} {F : Nat → Bool} (h : BooB w g n F k) (hi : i < n) (hk : i < k) : w.cell? ⟨g, i, none⟩ = some (.bool (F i)) := by
 obtain ⟨c, h1, h2, h3⟩ := h
 obtain ⟨z, h4, h5⟩ := h3 i hi
 rw [← h5 hk]
 exact heap_cell h1 h4
theorem mem_uniq {xs : List Int} {s : Int} (h : s ∈ xs) : s ∈ uniqL xs := by
 have key : ∀ (xs l : List Int), (s ∈ l ∨ s ∈ xs) → s ∈ xs.foldl addU l := by
  intro xs
  induction xs with
  | nil =>
   rintro l (h | h)
   ·exact h
   ·cases h
  | cons x r ih =>
   rintro l h
   refine ih _ ?_
   unfold addU
   rcases h with h | h
   ·left; split
    ·exact h
    ·exact List.mem_append_left _ h
   ·rcases List.mem_cons.1 h with rfl | h
    ·left; split
     ·assumption
     ·simp
    ·exact .inr h
 exact key xs [] (.inr h)
theorem nxA_mem {f : FuI} {i : Nat} {s : Int} (hi : i < f.code.length) : s ∈ nxA f i ↔ s ∈ (webN f).nx i ∨ ((webN f).th i = true ∧ s ∈ (webN f).ct i) := by
 obtain ⟨x, hx⟩ : ∃ x, f.code[i]? = some x := ⟨_, List.getElem?_eq_getElem hi⟩
 have hth : (webN f).th i = throwsB x.op := by show (match f.code[i]? with | some x => throwsB x.op | none => false) = _; rw [hx]
 have hct : (webN f).ct i = catL f.rows i := rfl
 have hnx : (webN f).nx i = nextL f i := rfl
 have hcg : caughtL f i = if throwsB x.op then uniqL (catL f.rows i) else [] := by unfold caughtL; rw [atC_some hx]
 unfold nxA
 rw [List.mem_append, hth, hct, hnx, hcg]
 cases throwsB x.op with
 | true => simp only [if_true, true_and]; exact ⟨fun h => h.imp id uniq_mem, fun h => h.imp id mem_uniq⟩
 | false => simp
structure RchI (f : FuI) (S : Nat → Bool) : Prop where
 sound : ∀ i, i < f.code.length → S i = true → reachP f i
 first : 0 < f.code.length → S 0 = true
theorem RchI.upd {f : FuI} {S : Nat → Bool} (h : RchI f S) {i p : Nat} (hi : i < f.code.length) (hS : S i = true) (hp : (p : Int) ∈ nxA f i) (hpn : p < f.code.length) : RchI f (updB S p) where
 sound j hj hs := by
  unfold updB at hs
  split at hs
  ·rename_i e
   subst e
   rcases (nxA_mem hi).1 hp with h1 | ⟨h1, h2⟩
   ·exact .next (h.sound i hi hS) hi h1 hpn (by simp)
   ·exact .caught (h.sound i hi hS) hi h1 h2 hpn
  ·exact h.sound j hj hs
 first h0 := by
  unfold updB
  split
  ·rfl
  ·exact h.first h0
def ClsS (f : FuI) (S : Nat → Bool) (k : Nat) : Prop := ∀ i, i < k → S i = true → ∀ j : Nat, (j : Int) ∈ nxA f i → j < f.code.length → S j = true
theorem RchI.all {f : FuI} {S : Nat → Bool} (h : RchI f S) (hc : ClsS f S f.code.length) (i : Nat) (hi : i < f.code.length) : S i = true ↔ reachP f i := by
 refine ⟨h.sound i hi, fun hr => ?_⟩
 unfold reachP at hr
 clear hi
 induction hr with
 | first h0 _ => exact h.first h0
 | next _ hi hj hjn _ ih => exact hc _ hi ih _ ((nxA_mem hi).2 (.inl hj)) hjn
 | caught _ hi ht hj hjn ih => exact hc _ hi ih _ ((nxA_mem hi).2 (.inr ⟨ht, hj⟩)) hjn
end Go.Proofs.Ytoommeiiadobfaa
