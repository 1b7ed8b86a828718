/- Texts of this claim, joined: CInsRepl0, CInsRepl1, CInsCopy0, CInsCopy, CInsMu, CInsSame, CInsCopies. -/
import Derived.Test.YtbkeneadoccodaaM3
import Derived.Test.YtbkeneadoccodaaM8
import Derived.Laws.CopyOwn
import Derived.Test.YtbkeneadoccodaaJCInsChk6
import Derived.Deep.Cut
import Derived.Deep.CutRange
import Derived.Deep.RegionHeld3
import Derived.Deep.CutBlock
/- Replace in plain words: what goes back is what it was. No program in this text. -/
namespace Go.Proofs.Ytbkeneadoccodaa
open Go.RowKit Go
set_option linter.unusedVariables false
theorem u0 {x : InI} (h : rk x.op = 0) : usesI x = [] := by
 unfold usesI
 rw [h]
 rfl
theorem u1 {x : InI} (h : rk x.op = 1) : usesI x = [x.a] := by
 unfold usesI
 rw [h]
 rfl
def pl (l : List Int) (a b c : Int) : List Int := l ++ [a, b, c].drop l.length
end Go.Proofs.Ytbkeneadoccodaa
/- Contracts of Replace, and of the document's SameIns where both are alike. -/
namespace Go.Proofs.Ytbkeneadoccodaa
open Go.RowKit Go
set_option linter.unusedVariables false
set_option linter.unusedSimpArgs false
theorem sizeIns : (Try.prog.info? 29).map (·.size) = some 9 := by kernel_rfl
theorem nine_arr (z : Array Value) (hz : z.size = 9) (a b c d e f g i j : Value) : ((((((((z.setIfInBounds 0 a).setIfInBounds 1 b).setIfInBounds 2 c).setIfInBounds 3 d).setIfInBounds 4 e).setIfInBounds 5 f).setIfInBounds 6 g).setIfInBounds 7 i).setIfInBounds 8 j = #[a, b, c, d, e, f, g, i, j] := by
 obtain ⟨l⟩ := z
 match l, hz with
 | [_, _, _, _, _, _, _, _, _], _ => simp only [List.setIfInBounds_toArray, List.set_cons_zero, List.set_cons_succ]
theorem nine_set {w : World} {R : Nat} {T : TypeId} {z : Array Value} (h : w.heap[R]? = some (.cells z T (0, 0))) (hz : z.size = 9) (a b c d e f g i j : Value) :
  (((((((((w.setCell ⟨R, 0, none⟩ a).setCell ⟨R, 1, none⟩ b).setCell ⟨R, 2, none⟩ c).setCell ⟨R, 3, none⟩ d).setCell ⟨R, 4, none⟩ e).setCell ⟨R, 5, none⟩ f).setCell ⟨R, 6, none⟩ g).setCell ⟨R, 7, none⟩ i).setCell ⟨R, 8, none⟩ j).heap[R]? = some (.cells #[a, b, c, d, e, f, g, i, j] T (0, 0)) := by
 have h0 := heap_set (i := 0) h a
 have h1 := heap_set (i := 1) h0 b
 have h2 := heap_set (i := 2) h1 c
 have h3 := heap_set (i := 3) h2 d
 have h4 := heap_set (i := 4) h3 e
 have h5 := heap_set (i := 5) h4 f
 have h6 := heap_set (i := 6) h5 g
 have h7 := heap_set (i := 7) h6 i
 have h8 := heap_set (i := 8) h7 j
 rw [nine_arr z hz] at h8
 exact h8
theorem xset2 {w : World} {g : Nat} {c : Array Value} {T : TypeId} (h : w.heap[g]? = some (.cells c T (0, 0))) (i : Nat) (u : Value) {c' : Array Value} (hc : c.setIfInBounds i u = c') : (w.setCell ⟨g, i, none⟩ u).heap[g]? = some (.cells c' T (0, 0)) := by
 subst hc
 exact heap_set h u
theorem nine_below {B R : Nat} {a0 w : World} (h : Below B a0 w) (hR : B ≤ R) (a b c d e f g i j : Value) : Below B a0 (((((((((w.setCell ⟨R, 0, none⟩ a).setCell ⟨R, 1, none⟩ b).setCell ⟨R, 2, none⟩ c).setCell ⟨R, 3, none⟩ d).setCell ⟨R, 4, none⟩ e).setCell ⟨R, 5, none⟩ f).setCell ⟨R, 6, none⟩ g).setCell ⟨R, 7, none⟩ i).setCell ⟨R, 8, none⟩ j) :=
 ((((((((h.setCell hR a).setCell hR b).setCell hR c).setCell hR d).setCell hR e).setCell hR f).setCell hR g).setCell hR i).setCell hR j
set_option maxHeartbeats 2000000 in
set_option maxRecDepth 100000 in
theorem sameIns_t {P Q : Nat → Prop} (x : InI) (v u : Value) (w : World) (h : Hid (RdX P 1 NuE w v x.args)) (h2 : Hid (RdX Q 1 NuE w u x.args)) :
  Calls Try.prog 31 #[inA x v, inA x u] w fun e w' => e = .returned (.bool true) ∧ Below w.heap.size w w' := by
 go_enter Try.func31, Try.ntmps31
 go_wp2_with fail
 with_reducible refine (rints_b v u x.args _ (lhid ((h.out.below (keptX_nu _) ((Below.refl _ _).alloc (Nat.le_refl _) _)).below (keptX_nu _) ((Below.refl _ _).alloc (Nat.le_refl _) _))) (lhid ((h2.out.below (keptX_nu _) ((Below.refl _ _).alloc (Nat.le_refl _) _)).below (keptX_nu _) ((Below.refl _ _).alloc (Nat.le_refl _) _)))).mono ?_
 rintro e w1 ⟨rfl, hb⟩
 have HB := lhid ((((Below.refl w.heap.size w).alloc (Nat.le_refl _) _).alloc (by simp) _).trans (hb.mono (by simp; omega)))
 clear hb
 go_wp2_with fail
 go_ret
 exact ⟨rfl, HB.out⟩
end Go.Proofs.Ytbkeneadoccodaa
/- A function's lists under way of being copied: what memory holds. No walk in this text. -/
namespace Go.Proofs.Ytbkeneadoccodaa
open Go.RowKit Go
set_option linter.unusedVariables false
set_option linter.unusedSimpArgs false
def insC (x : InI) (v : Value) : List Value := [.int .i64 x.op, .int .i64 x.dst, .int .i64 x.a, .int .i64 x.b, .int .i64 x.c, .int .i64 x.num, .int .i64 x.too, .string (tx x.ref), v]
theorem insC_len (x : InI) (v : Value) : (insC x v).length = 9 := rfl
def CoK (Q : Nat → Prop) (B : Nat) (w : World) (g cap : Nat) (l : List InI) (k : Nat) : Prop :=
 ∃ cur, w.heap[g]? = some (.cells cur 29 (0, 0)) ∧ ∀ (i : Nat) x, l[i]? = some x → ∃ v, (∀ (j : Nat) u, (insC x v)[j]? = some u → cur[i * 9 + j]? = some u) ∧ (i < k → OwN w B v x.args) ∧ (k ≤ i → RdX Q 1 NuE w v x.args)
theorem CoK.lt {Q : Nat → Prop} {B : Nat} {w : World} {g cap : Nat} {l : List InI} {k : Nat} (h : CoK Q B w g cap l k) : g < w.heap.size := by
 obtain ⟨cur, h1, _⟩ := h
 exact heap_lt h1
theorem CoK.start {P : Nat → Prop} {Q : Nat → Prop} {B : Nat} {w w0 : World} {g cap n : Nat} {cur : Array Value} {l : List InI} {xs : List Value} (hg : w.heap[g]? = some (.cells cur 29 (0, 0))) (ht : cur.toList.take n = xs) (hr : RowsE 9 (InE P w0) l xs) (hb : ∀ (v : Value) (a : List Int), RdX P 1 NuE w0 v a → RdX Q 1 NuE w v a) : CoK Q B w g cap l 0 := by
 refine ⟨cur, hg, fun i x hi => ?_⟩
 obtain ⟨c, ⟨v, rfl, hv⟩, h2⟩ := hr.2 i x hi
 refine ⟨v, fun j u hj => ?_, fun h => absurd h (Nat.not_lt_zero _), fun _ => hb _ _ hv⟩
 have h3 := h2 j u hj
 rw [← ht] at h3
 have h4 := (List.getElem?_eq_some_iff.1 h3).1
 rw [List.length_take] at h4
 rw [List.getElem?_take_of_lt (by omega)] at h3
 simpa using h3
theorem CoK.keep {Q : Nat → Prop} {B : Nat} {w w' : World} {g cap : Nat} {l : List InI} {k : Nat} (h : CoK Q B w g cap l k) (hg : w'.heap[g]? = w.heap[g]?) (ho : ∀ b, B ≤ b → b < w.heap.size → w'.heap[b]? = w.heap[b]?) (hq : ∀ b, Q b → b < w.heap.size → w'.heap[b]? = w.heap[b]?) : CoK Q B w' g cap l k := by
 obtain ⟨cur, h1, h2⟩ := h
 refine ⟨cur, hg.trans h1, fun i x hi => ?_⟩
 obtain ⟨v, h3, h4, h5⟩ := h2 i x hi
 exact ⟨v, h3, fun hk => own_of (h4 hk) fun b hb => ho b ((h4 hk).lt b hb).1 ((h4 hk).lt b hb).2, fun hk => (h5 hk).kept (keptX_nu _) hq⟩
theorem CoK.below {Q : Nat → Prop} {B : Nat} {w w' : World} {g cap : Nat} {l : List InI} {k : Nat} (h : CoK Q B w g cap l k) (hb : Below w.heap.size w w') : CoK Q B w' g cap l k :=
 h.keep (hb.block g h.lt) (fun b _ hl => hb.block b hl) (fun b _ hl => hb.block b hl)
theorem CoK.set {Q : Nat → Prop} {B : Nat} {w : World} {g cap : Nat} {l : List InI} {k : Nat} (h : CoK Q B w g cap l k) (R j : Nat) (u : Value) (hR : R < B) (hg : g ≠ R) (hq : ∀ b, Q b → b ≠ R) : CoK Q B (w.setCell ⟨R, j, none⟩ u) g cap l k :=
 h.keep (Below.heap_setCell _ _ _ _ hg) (fun b hb _ => Below.heap_setCell _ _ _ _ (by show b ≠ R; omega)) (fun b hb _ => Below.heap_setCell _ _ _ _ (hq b hb))
theorem own_apart {w : World} {B g : Nat} {cur : Array Value} {v : Value} {l : List Int} (h : OwN w B v l) (hg : w.heap[g]? = some (.cells cur 29 (0, 0))) : ∀ b, v.ownBlock = some b → b ≠ g := by
 intro b hb e
 subst e
 rcases h.2 with ⟨rfl, _⟩ | ⟨g', cap, c2, rfl, _, h3, _⟩
 ·cases hb
 ·injection hb with hb
  subst hb
  have h3 : w.heap[g']? = _ := h3
  rw [hg] at h3
  injection h3 with h3
  injection h3 with _ h3
  exact absurd h3 (by decide)
theorem CoK.store {Q : Nat → Prop} {B : Nat} {w : World} {g cap : Nat} {l : List InI} {k : Nat} {x : InI} {v' : Value} (h : CoK Q B w g cap l k) (hx : l[k]? = some x) (hv : OwN w B v' x.args) (hQ : ∀ b, Q b → b ≠ g) : CoK Q B (w.setCell ⟨g, k * 9 + 8, none⟩ v') g cap l (k + 1) := by
 obtain ⟨cur, h1, h2⟩ := h
 refine ⟨cur.setIfInBounds (k * 9 + 8) v', heap_set h1 v', fun i y hi => ?_⟩
 obtain ⟨v, h3, h4, h5⟩ := h2 i y hi
 have hlt : ∀ j, j < 9 → i * 9 + j < cur.size := fun j hj => by
  have := h3 j _ (List.getElem?_eq_getElem (by rw [insC_len]; exact hj))
  exact (Array.getElem?_eq_some_iff.1 this).1
 have keepO : ∀ {v : Value} {a : List Int}, OwN w B v a → OwN (w.setCell ⟨g, k * 9 + 8, none⟩ v') B v a := fun ho => own_of ho fun b hb => Below.heap_setCell _ _ _ _ (own_apart ho h1 b hb)
 by_cases e : i = k
 ·subst e
  rw [hx] at hi
  injection hi with hi
  subst hi
  refine ⟨v', fun j u hj => ?_, fun _ => keepO hv, fun hk => absurd hk (by omega)⟩
  have hj9 : j < 9 := by have := (List.getElem?_eq_some_iff.1 hj).1; rwa [insC_len] at this
  rcases Nat.lt_or_ge j 8 with hlt8 | hge
  ·rw [Array.getElem?_setIfInBounds_ne (by omega)]
   refine h3 j u ?_
   have : j = 0 ∨ j = 1 ∨ j = 2 ∨ j = 3 ∨ j = 4 ∨ j = 5 ∨ j = 6 ∨ j = 7 := by omega
   rcases this with rfl | rfl | rfl | rfl | rfl | rfl | rfl | rfl <;> exact hj
  ·have : j = 8 := by omega
   subst this
   have hu : v' = u := by
    have : (insC x v')[8]? = some v' := rfl
    rw [this] at hj
    exact Option.some.inj hj
   subst hu
   rw [Array.getElem?_setIfInBounds_self_of_lt (hlt 8 (by omega))]
 ·refine ⟨v, fun j u hj => ?_, fun hk => keepO (h4 (by omega)), fun hk => (h5 (by omega)).kept (keptX_nu _) fun b hb _ => Below.heap_setCell _ _ _ _ (hQ b hb)⟩
  have hj9 : j < 9 := by have := (List.getElem?_eq_some_iff.1 hj).1; rwa [insC_len] at this
  rw [Array.getElem?_setIfInBounds_ne (by omega)]
  exact h3 j u hj
theorem CoK.cells {Q : Nat → Prop} {B : Nat} {w : World} {g cap : Nat} {l : List InI} {k i : Nat} {x : InI} (h : CoK Q B w g cap l k) (hx : l[i]? = some x) (hk : k ≤ i) : ∃ v, RdX Q 1 NuE w v x.args ∧
  w.cell? ⟨g, i * 9, none⟩ = some (.int .i64 x.op) ∧ w.cell? ⟨g, i * 9 + 1, none⟩ = some (.int .i64 x.dst) ∧ w.cell? ⟨g, i * 9 + 2, none⟩ = some (.int .i64 x.a) ∧ w.cell? ⟨g, i * 9 + 3, none⟩ = some (.int .i64 x.b) ∧ w.cell? ⟨g, i * 9 + 4, none⟩ = some (.int .i64 x.c) ∧ w.cell? ⟨g, i * 9 + 5, none⟩ = some (.int .i64 x.num) ∧ w.cell? ⟨g, i * 9 + 6, none⟩ = some (.int .i64 x.too) ∧ w.cell? ⟨g, i * 9 + 7, none⟩ = some (.string (tx x.ref)) ∧ w.cell? ⟨g, i * 9 + 8, none⟩ = some v ∧ w.frozen? ⟨g, i * 9 + 8, none⟩ = false := by
 obtain ⟨cur, h1, h2⟩ := h
 obtain ⟨v, h3, _, h5⟩ := h2 i x hx
 exact ⟨v, h5 hk, heap_cell h1 (h3 0 _ rfl), heap_cell h1 (h3 1 _ rfl), heap_cell h1 (h3 2 _ rfl), heap_cell h1 (h3 3 _ rfl), heap_cell h1 (h3 4 _ rfl), heap_cell h1 (h3 5 _ rfl), heap_cell h1 (h3 6 _ rfl), heap_cell h1 (h3 7 _ rfl), heap_cell h1 (h3 8 _ rfl), heap_thaw h1 _⟩
def CodeO (B : Nat) (w : World) (v : Value) (l : List InI) : Prop :=
 (v = .slice none 0 0 ∧ l = []) ∨ ∃ g cap, v = .slice (some ⟨g, 0, none⟩) l.length cap ∧ B ≤ g ∧ l.length ≤ cap ∧ cap ≤ maxLen ∧ CoK (fun _ => False) B w g cap l l.length
theorem CoK.done {Q Q' : Nat → Prop} {B : Nat} {w : World} {g cap : Nat} {l : List InI} (h : CoK Q B w g cap l l.length) : CoK Q' B w g cap l l.length := by
 obtain ⟨cur, h1, h2⟩ := h
 refine ⟨cur, h1, fun i x hi => ?_⟩
 obtain ⟨v, h3, h4, h5⟩ := h2 i x hi
 exact ⟨v, h3, h4, fun hk => absurd (List.getElem?_eq_some_iff.1 hi).1 (by omega)⟩
theorem CodeO.below {B : Nat} {w w' : World} {v : Value} {l : List InI} (h : CodeO B w v l) (hb : Below w.heap.size w w') : CodeO B w' v l := by
 rcases h with h | ⟨g, cap, h1, h2, h3, h4, h5⟩
 ·exact .inl h
 ·exact .inr ⟨g, cap, h1, h2, h3, h4, h5.below hb⟩
theorem CodeO.keep {B : Nat} {w w' : World} {v : Value} {l : List InI} (h : CodeO B w v l) (hb : ∀ b, B ≤ b → b < w.heap.size → w'.heap[b]? = w.heap[b]?) : CodeO B w' v l := by
 rcases h with h | ⟨g, cap, h1, h2, h3, h4, h5⟩
 ·exact .inl h
 ·exact .inr ⟨g, cap, h1, h2, h3, h4, h5.keep (hb g h2 h5.lt) hb (fun b hb => hb.elim)⟩
theorem CodeO.base {B B' : Nat} {w : World} {v : Value} {l : List InI} (h : CodeO B w v l) (hB : B' ≤ B) : CodeO B' w v l := by
 rcases h with h | ⟨g, cap, h1, h2, h3, h4, cur, h5, h6⟩
 ·exact .inl h
 ·refine .inr ⟨g, cap, h1, Nat.le_trans hB h2, h3, h4, cur, h5, fun i x hi => ?_⟩
  obtain ⟨v, h7, h8, h9⟩ := h6 i x hi
  exact ⟨v, h7, fun hk => own_base (h8 hk) hB, h9⟩
theorem CodeO.rd {B : Nat} {w : World} {v : Value} {l : List InI} (h : CodeO B w v l) (hl : l.length ≤ 140737488355328) (ha : ∀ x ∈ l, x.args.length ≤ 140737488355328) : RdX (fun b => B ≤ b) 9 (InE fun b => B ≤ b) w v l := by
 rcases h with ⟨rfl, rfl⟩ | ⟨g, cap, rfl, h2, h3, h4, cur, h5, h6⟩
 ·exact rdX_nil _ _ _ _ _ _ (fun _ => rfl)
 ·refine ⟨_, cap, rfl, fun e => (by cases e), hl, fun i x hi => ?_⟩
  obtain ⟨v, h7, h8, _⟩ := h6 i x hi
  have ho := h8 (List.getElem?_eq_some_iff.1 hi).1
  refine ⟨g, 0, insC x v, rfl, h2, ⟨v, rfl, (ho.rd (ha x (List.mem_of_getElem? hi))).any fun b hb => hb.1⟩, fun j u hj => ?_⟩
  rw [Nat.zero_add]
  exact heap_cell h5 (h7 j u hj)
structure CpV (B : Nat) (w : World) (f : FuI) (fa fb fd fe : Value) : Prop where
 a : OwN w B fa f.regs
 b : OwN w B fb f.params
 d : CodeO B w fd f.code
 e : ∃ xs, w.ownsRow B 52 4 fe f.rows.length xs ∧ RowsE 4 (RwE w) f.rows xs
theorem CpV.below {B : Nat} {w w' : World} {f : FuI} {fa fb fd fe : Value} (h : CpV B w f fa fb fd fe) (hb : Below w.heap.size w w') : CpV B w' f fa fb fd fe := by
 obtain ⟨xs, h1, h2⟩ := h.e
 exact ⟨own_below h.a hb, own_below h.b hb, h.d.below hb, xs, own_below h1 hb, h2⟩
theorem CpV.fu {B : Nat} {w : World} {f : FuI} {fa fb fd fe : Value} (h : CpV B w f fa fb fd fe) (h1 : f.regs.length ≤ 140737488355328) (h2 : f.params.length ≤ 140737488355328) (h3 : f.code.length ≤ 140737488355328) (h4 : f.rows.length ≤ 140737488355328) (ha : ∀ x ∈ f.code, x.args.length ≤ 140737488355328) : FuV (fun b => B ≤ b) w f fa fb fd fe := by
 obtain ⟨xs, h5, h6⟩ := h.e
 exact ⟨(h.a.rd h1).any fun b hb => hb.1, (h.b.rd h2).any fun b hb => hb.1, h.d.rd h3 ha, (rdX_own h5 h4 h6).any fun b hb => hb.1⟩
end Go.Proofs.Ytbkeneadoccodaa
/- The walk of Copy. -/
namespace Go.Proofs.Ytbkeneadoccodaa
open Go.RowKit Go
set_option linter.unusedVariables false
set_option linter.unusedSimpArgs false
theorem sizeFun : (Try.prog.info? 27).map (·.size) = some 5 := by kernel_rfl
theorem five_arr (z : Array Value) (hz : z.size = 5) (a b c d e : Value) : ((((z.setIfInBounds 0 a).setIfInBounds 1 b).setIfInBounds 2 c).setIfInBounds 3 d).setIfInBounds 4 e = #[a, b, c, d, e] := by
 obtain ⟨l⟩ := z
 match l, hz with
 | [_, _, _, _, _], _ => simp only [List.setIfInBounds_toArray, List.set_cons_zero, List.set_cons_succ]
theorem five_set {w : World} {R : Nat} {T : TypeId} {z : Array Value} (h : w.heap[R]? = some (.cells z T (0, 0))) (hz : z.size = 5) (a b c d e : Value) :
  (((((w.setCell ⟨R, 0, none⟩ a).setCell ⟨R, 1, none⟩ b).setCell ⟨R, 2, none⟩ c).setCell ⟨R, 3, none⟩ d).setCell ⟨R, 4, none⟩ e).heap[R]? = some (.cells #[a, b, c, d, e] T (0, 0)) := by
 have h0 := heap_set (i := 0) h a
 have h1 := heap_set (i := 1) h0 b
 have h2 := heap_set (i := 2) h1 c
 have h3 := heap_set (i := 3) h2 d
 have h4 := heap_set (i := 4) h3 e
 rw [five_arr z hz] at h4
 exact h4
theorem five_below {B R : Nat} {a0 w : World} (h : Below B a0 w) (hR : B ≤ R) (a b c d e : Value) : Below B a0 (((((w.setCell ⟨R, 0, none⟩ a).setCell ⟨R, 1, none⟩ b).setCell ⟨R, 2, none⟩ c).setCell ⟨R, 3, none⟩ d).setCell ⟨R, 4, none⟩ e) :=
 ((((h.setCell hR a).setCell hR b).setCell hR c).setCell hR d).setCell hR e
theorem five_other {w : World} {R k : Nat} (hk : k ≠ R) (a b c d e : Value) : (((((w.setCell ⟨R, 0, none⟩ a).setCell ⟨R, 1, none⟩ b).setCell ⟨R, 2, none⟩ c).setCell ⟨R, 3, none⟩ d).setCell ⟨R, 4, none⟩ e).heap[k]? = w.heap[k]? :=
 setCells_other hk [a, b, c, d, e] 0 w
def ZBox (w : World) (g : Nat) : Prop := w.heap[g]? = some (.cells #[.slice none 0 0, .slice none 0 0, .int .i64 0, .slice none 0 0, .slice none 0 0] 27 (0, 0))
theorem clone_o {P : Nat → Prop} (v : Value) (l : List Int) (w : World) (h : Hid (RdX P 1 NuE w v l)) (hby : Hid (l.length * 8 ≤ 140737488355328)) :
  Calls Try.prog 43 #[v] w fun e w' => ∃ v', e = .returned v' ∧ OwN w' w.heap.size v' l ∧ Below w.heap.size w w' := by
 refine (clone_nu row_nu v l w h hby.out).mono ?_
 rintro e w1 ⟨v', xs, rfl, ho, hr, hb⟩
 rw [rowsE_nu hr] at ho
 exact ⟨v', rfl, ho, hb⟩
structure CpQ (f : FuI) : Prop where
 regs : f.regs.length * 8 ≤ 140737488355328
 params : f.params.length * 8 ≤ 140737488355328
 code : f.code.length * 96 ≤ 140737488355328
 rows : f.rows.length * 40 ≤ 140737488355328
 args : ∀ x ∈ f.code, x.args.length * 8 ≤ 140737488355328
theorem FuV.lt {P : Nat → Prop} {w : World} {f : FuI} {fa fb fd fe : Value} (h : FuV P w f fa fb fd fe) : FuV (fun g => g < w.heap.size) w f fa fb fd fe :=
 ⟨h.a.mono (fun _ _ h => h) (fun _ _ h => h) nu_ne, h.b.mono (fun _ _ h => h) (fun _ _ h => h) nu_ne, h.d.mono (inE_mono fun _ _ h => h) (fun _ _ h => h) in_ne, h.e.mono (fun _ _ h => h) (fun _ _ h => h) rw_ne⟩
theorem own_apart_rw {w : World} {B g n : Nat} {cur : Array Value} {v : Value} {xs : List Value} (h : w.ownsRow B 52 4 v n xs) (hg : w.heap[g]? = some (.cells cur 29 (0, 0))) : ∀ b, v.ownBlock = some b → b ≠ g := by
 intro b hb e
 subst e
 rcases h.2 with ⟨rfl, _⟩ | ⟨g', cap, c2, rfl, _, h3, _⟩
 ·cases hb
 ·injection hb with hb
  subst hb
  have h3 : w.heap[g']? = _ := h3
  rw [hg] at h3
  injection h3 with h3
  injection h3 with _ h3
  exact absurd h3 (by decide)
set_option maxHeartbeats 16000000 in
set_option maxRecDepth 100000 in
theorem copy_any {P : Nat → Prop} (f : FuI) (fa fb fd fe : Value) (w : World) (h : Hid (FuV P w f fa fb fd fe)) (hq : Hid (CpQ f)) :
  Calls Try.prog 18 #[fuL fa fb f.ret fd fe] w fun e w' => ∃ a b d c, e = .returned (fuL a b f.ret d c) ∧ CpV w.heap.size w' f a b d c ∧ Below w.heap.size w w' := by
 obtain ⟨R, rcap, hR⟩ := h.out.a.shape
 subst hR
 obtain ⟨S, scap, hS⟩ := h.out.b.shape
 subst hS
 obtain ⟨D, dcap, hD⟩ := h.out.d.shape
 subst hD
 obtain ⟨E, ecap, hE⟩ := h.out.e.shape
 subst hE
 have hdl := h.out.d.len
 obtain ⟨n, hn⟩ : ∃ n, f.code.length = n := ⟨_, rfl⟩
 have HN := lhid hn
 have HQA := lhid hq.out.regs
 have HQB := lhid hq.out.params
 have h0 := h.out.lt
 rw [hn] at hdl h0 ⊢
 have HH := lhid h0
 clear hn h0 h
 obtain ⟨B0, hB0⟩ : ∃ B, B = w.heap.size := ⟨_, rfl⟩
 go_enter Try.func18, Try.ntmps18
 go_upto_region 1 with fail
 generalize hW : World.alloc _ _ = w1
 have hB : Below B0 w w1 := by rw [← hW, hB0]; exact ((Below.refl w.heap.size w).alloc (Nat.le_refl _) _).alloc (by simp) _
 have hF : FBox w1 B0 (.slice R f.regs.length rcap) (.slice S f.params.length scap) f.ret (.slice D n dcap) (.slice E f.rows.length ecap) := by rw [← hW, hB0]; exact (Below.heap_alloc _ _ _ (by simp)).trans (heap_alloc_new w _)
 have hZ : ZBox w1 (B0 + 1) := by rw [← hW, hB0]; exact heap_new2 w _ _
 rw [← hB0]
 have HB1 := lhid hB
 have HF1 := lhid hF
 have HZ1 := lhid hZ
 have HB0 := lhid hB0
 clear hB hF hZ hW hB0
 obtain ⟨p0, p1, p2, p3, p4⟩ := HF1.out.cells
 have zz := heap_thaw HF1.out
 go_wp2_with fail
 with_reducible refine (clone_o (.slice R f.regs.length rcap) f.regs _ (lhid (HH.out.a.below (keptX_nu _) (by have := HB1.out; rw [HB0.out] at this; exact this))) HQA).mono ?_
 rintro e w2 ⟨va, rfl, ho, hb⟩
 obtain ⟨VA, va, hv⟩ := own_shape ho
 subst hv
 have HB2 := lhid (HB1.out.trans (hb.mono (by have h1 := HB1.out.size; have h2 := HB0.out; omega)))
 have HF2 : Hid (FBox w2 B0 (.slice R f.regs.length rcap) (.slice S f.params.length scap) f.ret (.slice D n dcap) (.slice E f.rows.length ecap)) := lhid (heap_keep HF1.out hb)
 have HZ2 : Hid (ZBox w2 (B0 + 1)) := lhid (heap_keep HZ1.out hb)
 have HOA_2 : Hid (OwN w2 (B0 + 2) (.slice VA f.regs.length va) f.regs) := lhid (own_base ho (by have := heap_lt HZ1.out; omega))
 clear ho
 clear hb p0 p1 p2 p3 p4 zz HB1 HF1 HZ1
 obtain ⟨p0, p1, p2, p3, p4⟩ := HF2.out.cells
 have zz := heap_thaw HF2.out
 go_upto_region 2 with fail
 generalize hW : World.setCell _ _ _ = w3
 have HB3 : Hid (Below B0 w w3) := lhid (by rw [← hW]; exact HB2.out.setCell (by rw [HB0.out]; exact Nat.le_refl _) _)
 have HF3 : Hid (FBox w3 B0 (.slice VA f.regs.length va) (.slice S f.params.length scap) f.ret (.slice D n dcap) (.slice E f.rows.length ecap)) := lhid (by rw [← hW]; exact xset2 HF2.out 0 _ rfl)
 have HZ3 : Hid (ZBox w3 (B0 + 1)) := lhid (by rw [← hW]; exact (Below.heap_setCell _ _ _ _ (by show B0 + 1 ≠ B0; omega)).trans HZ2.out)
 have HOA_3 : Hid (OwN w3 (B0 + 2) (.slice VA f.regs.length va) f.regs) := lhid (by rw [← hW]; exact own_of HOA_2.out fun b hb => Below.heap_setCell _ _ _ _ (by have := own_lt HOA_2.out b hb; show b ≠ B0; omega))
 clear hW p0 p1 p2 p3 p4 zz HB2 HF2 HZ2 HOA_2
 obtain ⟨p0, p1, p2, p3, p4⟩ := HF3.out.cells
 have zz := heap_thaw HF3.out
 go_wp2_with fail
 with_reducible refine (clone_o (.slice S f.params.length scap) f.params _ (lhid (HH.out.b.below (keptX_nu _) (by have := HB3.out; rw [HB0.out] at this; exact this))) HQB).mono ?_
 rintro e w4 ⟨vb, rfl, ho, hb⟩
 obtain ⟨VB, vb, hv⟩ := own_shape ho
 subst hv
 have HB4 := lhid (HB3.out.trans (hb.mono (by have h1 := HB3.out.size; have h2 := HB0.out; omega)))
 have HF4 : Hid (FBox w4 B0 (.slice VA f.regs.length va) (.slice S f.params.length scap) f.ret (.slice D n dcap) (.slice E f.rows.length ecap)) := lhid (heap_keep HF3.out hb)
 have HZ4 : Hid (ZBox w4 (B0 + 1)) := lhid (heap_keep HZ3.out hb)
 have HOA_4 : Hid (OwN w4 (B0 + 2) (.slice VA f.regs.length va) f.regs) := lhid (own_below HOA_3.out hb)
 have HOB_4 : Hid (OwN w4 (B0 + 2) (.slice VB f.params.length vb) f.params) := lhid (own_base ho (by have := heap_lt HZ3.out; omega))
 clear ho
 clear hb p0 p1 p2 p3 p4 zz HB3 HF3 HZ3
 obtain ⟨p0, p1, p2, p3, p4⟩ := HF4.out.cells
 have zz := heap_thaw HF4.out
 go_upto_region 3 with fail
 generalize hW : World.setCell _ _ _ = w5
 have HB5 : Hid (Below B0 w w5) := lhid (by rw [← hW]; exact HB4.out.setCell (by rw [HB0.out]; exact Nat.le_refl _) _)
 have HF5 : Hid (FBox w5 B0 (.slice VA f.regs.length va) (.slice VB f.params.length vb) f.ret (.slice D n dcap) (.slice E f.rows.length ecap)) := lhid (by rw [← hW]; exact xset2 HF4.out 1 _ rfl)
 have HZ5 : Hid (ZBox w5 (B0 + 1)) := lhid (by rw [← hW]; exact (Below.heap_setCell _ _ _ _ (by show B0 + 1 ≠ B0; omega)).trans HZ4.out)
 have HOA_5 : Hid (OwN w5 (B0 + 2) (.slice VA f.regs.length va) f.regs) := lhid (by rw [← hW]; exact own_of HOA_4.out fun b hb => Below.heap_setCell _ _ _ _ (by have := own_lt HOA_4.out b hb; show b ≠ B0; omega))
 have HOB_5 : Hid (OwN w5 (B0 + 2) (.slice VB f.params.length vb) f.params) := lhid (by rw [← hW]; exact own_of HOB_4.out fun b hb => Below.heap_setCell _ _ _ _ (by have := own_lt HOB_4.out b hb; show b ≠ B0; omega))
 clear hW p0 p1 p2 p3 p4 zz HB4 HF4 HZ4 HOA_4 HOB_4
 obtain ⟨p0, p1, p2, p3, p4⟩ := HF5.out.cells
 have zz := heap_thaw HF5.out
 go_wp2_with fail
 with_reducible refine (clone_rw row_rw (.slice E f.rows.length ecap) f.rows _ (lhid (HH.out.e.below (keptX_rw _) (by have := HB5.out; rw [HB0.out] at this; exact this))) hq.out.rows).mono ?_
 rintro e w6 ⟨ve, xe, rfl, ho, hre, hb⟩
 obtain ⟨VE, ve, hv⟩ := own_shape ho
 subst hv
 have HRE : Hid (RowsE 4 (RwE w) f.rows xe) := lhid hre
 clear hre
 have HB6 := lhid (HB5.out.trans (hb.mono (by have h1 := HB5.out.size; have h2 := HB0.out; omega)))
 have HF6 : Hid (FBox w6 B0 (.slice VA f.regs.length va) (.slice VB f.params.length vb) f.ret (.slice D n dcap) (.slice E f.rows.length ecap)) := lhid (heap_keep HF5.out hb)
 have HZ6 : Hid (ZBox w6 (B0 + 1)) := lhid (heap_keep HZ5.out hb)
 have HOA_6 : Hid (OwN w6 (B0 + 2) (.slice VA f.regs.length va) f.regs) := lhid (own_below HOA_5.out hb)
 have HOB_6 : Hid (OwN w6 (B0 + 2) (.slice VB f.params.length vb) f.params) := lhid (own_below HOB_5.out hb)
 have HOE_6 : Hid (World.ownsRow w6 (B0 + 2) 52 4 (.slice VE f.rows.length ve) f.rows.length xe) := lhid (own_base ho (by have := heap_lt HZ5.out; omega))
 clear ho
 clear hb p0 p1 p2 p3 p4 zz HB5 HF5 HZ5
 obtain ⟨p0, p1, p2, p3, p4⟩ := HF6.out.cells
 have zz := heap_thaw HF6.out
 go_upto_region 4 with fail
 generalize hW : World.setCell _ _ _ = w7
 have HB7 : Hid (Below B0 w w7) := lhid (by rw [← hW]; exact HB6.out.setCell (by rw [HB0.out]; exact Nat.le_refl _) _)
 have HF7 : Hid (FBox w7 B0 (.slice VA f.regs.length va) (.slice VB f.params.length vb) f.ret (.slice D n dcap) (.slice VE f.rows.length ve)) := lhid (by rw [← hW]; exact xset2 HF6.out 4 _ rfl)
 have HZ7 : Hid (ZBox w7 (B0 + 1)) := lhid (by rw [← hW]; exact (Below.heap_setCell _ _ _ _ (by show B0 + 1 ≠ B0; omega)).trans HZ6.out)
 have HOA_7 : Hid (OwN w7 (B0 + 2) (.slice VA f.regs.length va) f.regs) := lhid (by rw [← hW]; exact own_of HOA_6.out fun b hb => Below.heap_setCell _ _ _ _ (by have := own_lt HOA_6.out b hb; show b ≠ B0; omega))
 have HOB_7 : Hid (OwN w7 (B0 + 2) (.slice VB f.params.length vb) f.params) := lhid (by rw [← hW]; exact own_of HOB_6.out fun b hb => Below.heap_setCell _ _ _ _ (by have := own_lt HOB_6.out b hb; show b ≠ B0; omega))
 have HOE_7 : Hid (World.ownsRow w7 (B0 + 2) 52 4 (.slice VE f.rows.length ve) f.rows.length xe) := lhid (by rw [← hW]; exact own_of HOE_6.out fun b hb => Below.heap_setCell _ _ _ _ (by have := own_lt HOE_6.out b hb; show b ≠ B0; omega))
 clear hW p0 p1 p2 p3 p4 zz HB6 HF6 HZ6 HOA_6 HOB_6 HOE_6
 obtain ⟨p0, p1, p2, p3, p4⟩ := HF7.out.cells
 have zz := heap_thaw HF7.out
 have HD0 : Hid (RdX (fun g => g < w.heap.size) 9 (InE fun g => g < w.heap.size) w7 (.slice D n dcap) f.code) := lhid (HH.out.d.below (keptX_in _) (by have := HB7.out; rw [HB0.out] at this; exact this))
 go_wp2_with fail
 with_reducible refine (clone_in (row_in _) (.slice D n dcap) f.code _ HD0 hq.out.code).mono ?_
 rintro e w8 ⟨vd, xd, rfl, ho, hrd, hb⟩
 rw [HN.out] at ho
 obtain ⟨VD, vdc, hv⟩ := own_shape ho
 subst hv
 have HB8 := lhid (HB7.out.trans (hb.mono (by have h1 := HB7.out.size; have h2 := HB0.out; omega)))
 have HF8 : Hid (FBox w8 B0 (.slice VA f.regs.length va) (.slice VB f.params.length vb) f.ret (.slice D n dcap) (.slice VE f.rows.length ve)) := lhid (heap_keep HF7.out hb)
 have HZ8 : Hid (ZBox w8 (B0 + 1)) := lhid (heap_keep HZ7.out hb)
 have hs0 : B0 + 2 ≤ w7.heap.size := by have := heap_lt HZ7.out; omega
 have HRK : Hid (∀ (v : Value) (a : List Int), RdX (fun g => g < w.heap.size) 1 NuE w7 v a → RdX (fun g => g < w.heap.size) 1 NuE w8 v a) := lhid (fun v a hv => hv.below (keptX_nu _) hb)
 have HOA_8 : Hid (OwN w8 (B0 + 2) (.slice VA f.regs.length va) f.regs) := lhid (own_below HOA_7.out hb)
 have HOB_8 : Hid (OwN w8 (B0 + 2) (.slice VB f.params.length vb) f.params) := lhid (own_below HOB_7.out hb)
 have HOE_8 : Hid (World.ownsRow w8 (B0 + 2) 52 4 (.slice VE f.rows.length ve) f.rows.length xe) := lhid (own_below HOE_7.out hb)
 have HOD := lhid ho
 have HRD := lhid hrd
 clear ho hrd hb p0 p1 p2 p3 p4 zz HB7 HF7 HZ7 HD0
 obtain ⟨p0, p1, p2, p3, p4⟩ := HF8.out.cells
 have zz := heap_thaw HF8.out
 go_upto_region 5 with fail
 generalize hW : World.setCell _ _ _ = wq
 have HB : Hid (Below B0 w wq) := lhid (by rw [← hW]; exact HB8.out.setCell (by rw [HB0.out]; exact Nat.le_refl _) _)
 have HF : Hid (FBox wq B0 (.slice VA f.regs.length va) (.slice VB f.params.length vb) f.ret (.slice VD n vdc) (.slice VE f.rows.length ve)) := lhid (by rw [← hW]; exact xset2 HF8.out 3 _ rfl)
 have HZ : Hid (ZBox wq (B0 + 1)) := lhid (by rw [← hW]; exact (Below.heap_setCell _ _ _ _ (by show B0 + 1 ≠ B0; omega)).trans HZ8.out)
 have HOA : Hid (OwN wq (B0 + 2) (.slice VA f.regs.length va) f.regs) := lhid (by rw [← hW]; exact own_of HOA_8.out fun b hb => Below.heap_setCell _ _ _ _ (by have := own_lt HOA_8.out b hb; show b ≠ B0; omega))
 have HOB : Hid (OwN wq (B0 + 2) (.slice VB f.params.length vb) f.params) := lhid (by rw [← hW]; exact own_of HOB_8.out fun b hb => Below.heap_setCell _ _ _ _ (by have := own_lt HOB_8.out b hb; show b ≠ B0; omega))
 have HOE : Hid (World.ownsRow wq (B0 + 2) 52 4 (.slice VE f.rows.length ve) f.rows.length xe) := lhid (by rw [← hW]; exact own_of HOE_8.out fun b hb => Below.heap_setCell _ _ _ _ (by have := own_lt HOE_8.out b hb; show b ≠ B0; omega))
 have HOQ : Hid (wq.ownsRow (B0 + 2) 29 9 (.slice VD n vdc) n xd) := lhid (by rw [← hW]; exact own_of (own_base HOD.out hs0) fun b hb => Below.heap_setCell _ _ _ _ (by have := own_lt HOD.out b hb; show b ≠ B0; omega))
 have HRQ : Hid (∀ (v : Value) (a : List Int), RdX (fun g => g < w.heap.size) 1 NuE w7 v a → RdX (fun g => g < w.heap.size) 1 NuE wq v a) := lhid (fun v a hv => by rw [← hW]; exact (HRK.out v a hv).kept (keptX_nu _) fun b hb _ => Below.heap_setCell _ _ _ _ (by show b ≠ B0; rw [HB0.out]; exact Nat.ne_of_lt hb))
 clear hW p0 p1 p2 p3 p4 zz HB8 HF8 HZ8 HOD HRK HOA_8 HOB_8 HOE_8
 obtain ⟨p0, p1, p2, p3, p4⟩ := HF.out.cells
 have hways : (VD = none ∧ vdc = 0 ∧ n = 0) ∨ ∃ g cu, VD = some ⟨g, 0, none⟩ ∧ B0 + 2 ≤ g ∧ n ≤ vdc ∧ vdc ≤ maxLen ∧ Hid (wq.heap[g]? = some (.cells cu 29 (0, 0)) ∧ cu.toList.take (n * 9) = xd) := by
  rcases HOQ.out.2 with ⟨h1, h2⟩ | ⟨g, cap, cu, h1, h2, h3, h4, h5, _, h7⟩
  ·injection h1 with e1 e2 e3
   exact .inl ⟨e1, e3, h2⟩
  ·injection h1 with e1 e2 e3
   subst e3
   exact .inr ⟨g, cu, e1, h2, h4, h5, lhid ⟨h3, h7⟩⟩
 clear HOQ
 rcases hways with ⟨hv1, hv2, hn0⟩ | ⟨g, cu, hv1, hg, hcap, hmax, HGC⟩
 ·
  subst hv1 hv2 hn0
  have HF' := HF
  have HN0 : Hid (f.code = []) := lhid (List.length_eq_zero_iff.1 HN.out)
  go_wp2_with fail
  go_loopw [24] (fun i wr => i = .int .i64 0 ∧ wr = wq) (fun _ _ => 0)
  case atStart => exact ⟨rfl, rfl⟩
  case round =>
   obtain ⟨rfl, hwr⟩ := hrel
   subst hwr
   clear p0 p1 p2 p3 p4
   obtain ⟨p0, p1, p2, p3, p4⟩ := HF.out.cells
   obtain ⟨q0, q1, q2, q3, q4⟩ : wr.cell? ⟨B0 + 1, 0, none⟩ = some (.slice none 0 0) ∧ wr.cell? ⟨B0 + 1, 1, none⟩ = some (.slice none 0 0) ∧ wr.cell? ⟨B0 + 1, 2, none⟩ = some (.int .i64 0) ∧ wr.cell? ⟨B0 + 1, 3, none⟩ = some (.slice none 0 0) ∧ wr.cell? ⟨B0 + 1, 4, none⟩ = some (.slice none 0 0) := ⟨heap_cell HZ.out rfl, heap_cell HZ.out rfl, heap_cell HZ.out rfl, heap_cell HZ.out rfl, heap_cell HZ.out rfl⟩
   have zz := heap_thaw HZ.out
   have HCD : Hid (CodeO (B0 + 2) wr (.slice none 0 0) f.code) := lhid (.inl ⟨rfl, HN0.out⟩)
   go_wp2_with fail
   refine bodyPost_ret (results_cell_row rfl _ _ (B0 + 1) 27 _ _ _ rfl (five_set HZ.out rfl _ _ _ _ _) Try.underlying27 rfl sizeFun) rfl ?_
   have keep : ∀ b, B0 + 2 ≤ b → b ≠ B0 + 1 := fun b hb => by omega
   have oA := HOA.out
   have oB := HOB.out
   have oE := HOE.out
   have oD := HCD.out
   refine ⟨_, _, _, _, rfl, ⟨own_base (own_of oA fun b hb => five_other (keep b (own_lt oA b hb)) _ _ _ _ _) (by rw [← HB0.out]; omega), own_base (own_of oB fun b hb => five_other (keep b (own_lt oB b hb)) _ _ _ _ _) (by rw [← HB0.out]; omega), (oD.keep fun b hb _ => five_other (keep b hb) _ _ _ _ _).base (by rw [← HB0.out]; omega), xe, own_base (own_of oE fun b hb => five_other (keep b (own_lt oE b hb)) _ _ _ _ _) (by rw [← HB0.out]; omega), HRE.out⟩, ?_⟩
   have hbf := five_below (R := B0 + 1) HB.out (by omega) (.slice VA f.regs.length va) (.slice VB f.params.length vb) (.int .i64 f.ret) (.slice none 0 0) (.slice VE f.rows.length ve)
   rw [HB0.out] at hbf ⊢
   exact hbf
 ·
  subst hv1
  have HC : Hid (CoK (fun b => b < w.heap.size) (B0 + 2) wq g vdc f.code 0) := lhid (CoK.start HGC.out.1 HGC.out.2 HRD.out HRQ.out)
  clear HGC HRD HRQ
  go_wp2_with fail
  go_loopw [24] (fun i wr => ∃ k : Nat, i = .int .i64 k ∧ k ≤ n ∧ Hid (CoK (fun b => b < w.heap.size) (B0 + 2) wr g vdc f.code k) ∧ Hid (Below B0 w wr) ∧ Hid (FBox wr B0 (.slice VA f.regs.length va) (.slice VB f.params.length vb) f.ret (.slice (some ⟨g, 0, none⟩) n vdc) (.slice VE f.rows.length ve)) ∧ Hid (ZBox wr (B0 + 1)) ∧ Hid (OwN wr (B0 + 2) (.slice VA f.regs.length va) f.regs) ∧ Hid (OwN wr (B0 + 2) (.slice VB f.params.length vb) f.params) ∧ Hid (World.ownsRow wr (B0 + 2) 52 4 (.slice VE f.rows.length ve) f.rows.length xe)) (fun i _ => n - (intOf i).toNat)
  case atStart => exact ⟨0, rfl, Nat.zero_le _, HC, HB, HF, HZ, HOA, HOB, HOE⟩
  case round =>
   clear HC HB HF HZ HOA HOB HOE p0 p1 p2 p3 p4
   obtain ⟨k, rfl, hk, HC, HB, HF, HZ, HOA, HOB, HOE⟩ := hrel
   by_cases hlt : k < n
   ·
    obtain ⟨x, hx⟩ : ∃ x, f.code[k]? = some x := ⟨_, List.getElem?_eq_getElem (by have := HN.out; omega)⟩
    obtain ⟨v, hv1, c0, c1, c2, c3, c4, c5, c6, c7, c8, zc⟩ := HC.out.cells hx (Nat.le_refl _)
    obtain ⟨VX, vx, rfl⟩ := hv1.shape
    have k3 : (k : Int) < n := by omega
    have HXX := lhid hx
    have HV0 := lhid hv1
    have HQX := lhid (hq.out.args x (List.mem_of_getElem? hx))
    clear hx hv1 zc
    go_upto_region 8 with fail
    generalize hW : World.alloc _ _ = w2
    have hb2 : Below wr.heap.size wr w2 := by rw [← hW]; exact (Below.refl _ _).alloc (Nat.le_refl _) _
    have hX : w2.heap[wr.heap.size]? = some (.cells (insC x (.slice VX x.args.length vx)).toArray 29 (0, 0)) := by rw [← hW]; exact heap_alloc_new wr _
    have HB2 := lhid (HB.out.trans (hb2.mono (by have h1 := HB.out.size; have h2 := HB0.out; omega)))
    have HF2 : Hid (FBox w2 B0 (.slice VA f.regs.length va) (.slice VB f.params.length vb) f.ret (.slice (some ⟨g, 0, none⟩) n vdc) (.slice VE f.rows.length ve)) := lhid (heap_keep HF.out hb2)
    have HZ2 : Hid (ZBox w2 (B0 + 1)) := lhid (heap_keep HZ.out hb2)
    have HOA2 := lhid (own_below HOA.out hb2)
    have HOB2 := lhid (own_below HOB.out hb2)
    have HOE2 := lhid (own_below HOE.out hb2)
    have HC2 := lhid (HC.out.below hb2)
    have HV2 := lhid (HV0.out.below (keptX_nu _) hb2)
    have HX2 := lhid hX
    have hgl : g < w2.heap.size := HC2.out.lt
    have hxl : wr.heap.size < w2.heap.size := heap_lt hX
    have hbl : B0 + 1 < wr.heap.size := heap_lt HZ.out
    have hgr : g < wr.heap.size := HC.out.lt
    clear c0 c1 c2 c3 c4 c5 c6 c7 c8 hW hb2 hX HB HF HZ HOA HOB HOE HC HV0
    have HG : Hid (∀ w' : World, Below w2.heap.size w2 w' → w'.cell? ⟨B0, 3, none⟩ = some (.slice (some ⟨g, 0, none⟩) n vdc) ∧ w'.cell? ⟨wr.heap.size, 8, none⟩ = some (.slice VX x.args.length vx)) := lhid (fun w' hw' => ⟨heap_cell (heap_keep HF2.out hw') rfl, heap_cell (heap_keep HX2.out hw') rfl⟩)
    obtain ⟨s0, s1⟩ := HG.out w2 (Below.refl _ _)
    go_region_held3 (fun w' => w'.cell? ⟨B0, 3, none⟩ = some (.slice (some ⟨g, 0, none⟩) n vdc) ∧ w'.cell? ⟨wr.heap.size, 8, none⟩ = some (.slice VX x.args.length vx)) (first | exact HG.out _ (Below.drew (Below.refl _ _)) | exact HG.out _ (Below.refl _ _) | exact HG.out _ hb7 | exact HG.out _ (Below.drew hb7) | exact ⟨heap_cell ((Below.heap_setCell _ _ _ _ (by show B0 ≠ g; omega)).trans (heap_keep HF2.out hb7)) rfl, heap_cell ((Below.heap_setCell _ _ _ _ (by show wr.heap.size ≠ g; omega)).trans (heap_keep HX2.out hb7)) rfl⟩) (first
     | ((with_reducible refine (clone_o (.slice VX x.args.length vx) x.args _ (lhid (HV2.out.below (keptX_nu _) (Below.drew (Below.refl _ _)))) HQX).mono ?_); rintro e w7 ⟨v7, rfl, ho7, hb7'⟩; obtain ⟨A7, c7, hv7⟩ := own_shape ho7; subst hv7; have hb7 : Below w2.heap.size w2 w7 := ⟨hb7'.os, hb7'.tape, hb7'.output, hb7'.size, hb7'.block⟩; have ho8 : OwN w7 w2.heap.size (.slice A7 x.args.length c7) x.args := ho7; obtain ⟨_, _, _, _, _, _, _, _, _, _, e8, ez⟩ := (HC2.out.below hb7).cells HXX.out (Nat.le_refl _)))
    all_goals
     obtain ⟨w3, hw3⟩ : ∃ w3, w3 = w7 := ⟨_, rfl⟩
     subst hw3
     have HW3 := lhid hb7
     have HO3 := lhid ho8
     obtain ⟨wc, hwc⟩ : ∃ wc, wc = (w3.setCell ⟨g, k * 9 + 8, none⟩ (.slice A7 x.args.length c7)) := ⟨_, rfl⟩
     have HCS : Hid (CoK (fun b => b < w.heap.size) (B0 + 2) wc g vdc f.code (k + 1)) := lhid (by rw [hwc]; exact (HC2.out.below HW3.out).store HXX.out (own_base HO3.out (by omega)) (fun b hb => by have := HB0.out; omega))
     have HBS : Hid (Below B0 w wc) := lhid (by rw [hwc]; exact (HB2.out.trans (HW3.out.mono (by have h1 := HB2.out.size; have h2 := HB0.out; omega))).setCell (by show B0 ≤ g; omega) _)
     have HFS : Hid (FBox wc B0 (.slice VA f.regs.length va) (.slice VB f.params.length vb) f.ret (.slice (some ⟨g, 0, none⟩) n vdc) (.slice VE f.rows.length ve)) := lhid (by rw [hwc]; exact (Below.heap_setCell _ _ _ _ (by show B0 ≠ g; omega)).trans (heap_keep HF2.out HW3.out))
     have HZS : Hid (ZBox wc (B0 + 1)) := lhid (by rw [hwc]; exact (Below.heap_setCell _ _ _ _ (by show B0 + 1 ≠ g; omega)).trans (heap_keep HZ2.out HW3.out))
     have HAP : Hid (∃ cur, w3.heap[g]? = some (.cells cur 29 (0, 0))) := lhid (by obtain ⟨cur, h1, _⟩ := HC2.out.below HW3.out; exact ⟨cur, h1⟩)
     have HOAS : Hid (OwN wc (B0 + 2) (.slice VA f.regs.length va) f.regs) := lhid (by rw [hwc]; obtain ⟨cur, h1⟩ := HAP.out; exact own_of (own_below HOA2.out HW3.out) fun b hb => Below.heap_setCell _ _ _ _ (own_apart (own_below HOA2.out HW3.out) h1 b hb))
     have HOBS : Hid (OwN wc (B0 + 2) (.slice VB f.params.length vb) f.params) := lhid (by rw [hwc]; obtain ⟨cur, h1⟩ := HAP.out; exact own_of (own_below HOB2.out HW3.out) fun b hb => Below.heap_setCell _ _ _ _ (own_apart (own_below HOB2.out HW3.out) h1 b hb))
     have HOES : Hid (World.ownsRow wc (B0 + 2) 52 4 (.slice VE f.rows.length ve) f.rows.length xe) := lhid (by rw [hwc]; obtain ⟨cur, h1⟩ := HAP.out; exact own_of (own_below HOE2.out HW3.out) fun b hb => Below.heap_setCell _ _ _ _ (own_apart_rw (own_below HOE2.out HW3.out) h1 b hb))
     clear HG s0 s1
     first | rw [← hwc] | skip
     clear hwc
     go_wp2_with fail
     go_roundw
     case rel => exact ⟨k + 1, by go_num, by omega, HCS, HBS, HFS, HZS, HOAS, HOBS, HOES⟩
     case measure => simp [intOf]; omega
   ·have k3 : ¬ (k : Int) < n := by omega
    have HCN : Hid (CoK (fun b => b < w.heap.size) (B0 + 2) wr g vdc f.code f.code.length) := lhid (by rw [HN.out, ← (show k = n by omega)]; exact HC.out)
    obtain ⟨p0, p1, p2, p3, p4⟩ := HF.out.cells
    obtain ⟨q0, q1, q2, q3, q4⟩ : wr.cell? ⟨B0 + 1, 0, none⟩ = some (.slice none 0 0) ∧ wr.cell? ⟨B0 + 1, 1, none⟩ = some (.slice none 0 0) ∧ wr.cell? ⟨B0 + 1, 2, none⟩ = some (.int .i64 0) ∧ wr.cell? ⟨B0 + 1, 3, none⟩ = some (.slice none 0 0) ∧ wr.cell? ⟨B0 + 1, 4, none⟩ = some (.slice none 0 0) := ⟨heap_cell HZ.out rfl, heap_cell HZ.out rfl, heap_cell HZ.out rfl, heap_cell HZ.out rfl, heap_cell HZ.out rfl⟩
    have zz := heap_thaw HZ.out
    have HCD : Hid (CodeO (B0 + 2) wr (.slice (some ⟨g, 0, none⟩) n vdc) f.code) := lhid (.inr ⟨g, vdc, by rw [HN.out], hg, by rw [HN.out]; exact hcap, hmax, HCN.out.done⟩)
    go_wp2_with fail
    refine bodyPost_ret (results_cell_row rfl _ _ (B0 + 1) 27 _ _ _ rfl (five_set HZ.out rfl _ _ _ _ _) Try.underlying27 rfl sizeFun) rfl ?_
    have keep : ∀ b, B0 + 2 ≤ b → b ≠ B0 + 1 := fun b hb => by omega
    have oA := HOA.out
    have oB := HOB.out
    have oE := HOE.out
    have oD := HCD.out
    refine ⟨_, _, _, _, rfl, ⟨own_base (own_of oA fun b hb => five_other (keep b (own_lt oA b hb)) _ _ _ _ _) (by rw [← HB0.out]; omega), own_base (own_of oB fun b hb => five_other (keep b (own_lt oB b hb)) _ _ _ _ _) (by rw [← HB0.out]; omega), (oD.keep fun b hb _ => five_other (keep b hb) _ _ _ _ _).base (by rw [← HB0.out]; omega), xe, own_base (own_of oE fun b hb => five_other (keep b (own_lt oE b hb)) _ _ _ _ _) (by rw [← HB0.out]; omega), HRE.out⟩, ?_⟩
    have hbf := five_below (R := B0 + 1) HB.out (by omega) (.slice VA f.regs.length va) (.slice VB f.params.length vb) (.int .i64 f.ret) (.slice (some ⟨g, 0, none⟩) n vdc) (.slice VE f.rows.length ve)
    rw [HB0.out] at hbf ⊢
    exact hbf
end Go.Proofs.Ytbkeneadoccodaa
/- A copy that is written over: what stays. No walk in this text. -/
namespace Go.Proofs.Ytbkeneadoccodaa
open Go.RowKit Go
set_option linter.unusedVariables false
set_option linter.unusedSimpArgs false
theorem heap_any {w : World} {k : Nat} {cur : Array Value} {T : TypeId} {fz : Nat × Nat} (h : w.heap[k]? = some (.cells cur T fz)) (g j : Nat) (x : Value) : ∃ cur', (w.setCell ⟨g, j, none⟩ x).heap[k]? = some (.cells cur' T fz) ∧ cur'.size = cur.size ∧ ∀ i, (k = g → i ≠ j) → cur'[i]? = cur[i]? := by
 by_cases e : k = g
 ·subst e
  exact ⟨cur.setIfInBounds j x, heap_set h x, by simp, fun i hi => Array.getElem?_setIfInBounds_ne (fun e => hi rfl e.symm)⟩
 ·exact ⟨cur, (Below.heap_setCell _ _ _ _ e).trans h, rfl, fun _ _ => rfl⟩
def NumSh (B1 B2 : Nat) (w : World) (v : Value) (m : Nat) : Prop := ∃ A c, v = .slice A m c ∧ (0 < m → ∃ g cur, A = some ⟨g, 0, none⟩ ∧ B1 ≤ g ∧ g < B2 ∧ w.heap[g]? = some (.cells cur 3 (0, 0)) ∧ m ≤ cur.size ∧ m ≤ maxLen)
def RowSh (B1 B2 : Nat) (w : World) (v : Value) (m : Nat) : Prop := ∃ A c, v = .slice A m c ∧ (0 < m → ∃ g cur, A = some ⟨g, 0, none⟩ ∧ B1 ≤ g ∧ g < B2 ∧ w.heap[g]? = some (.cells cur 52 (0, 0)) ∧ m * 4 ≤ cur.size)
def CodeSh (B1 B2 : Nat) (w : World) (v : Value) (n : Nat) : Prop := ∃ A c, v = .slice A n c ∧ (0 < n → ∃ g cur, A = some ⟨g, 0, none⟩ ∧ B1 ≤ g ∧ g < B2 ∧ w.heap[g]? = some (.cells cur 29 (0, 0)) ∧ n * 9 ≤ cur.size ∧ ∀ i, i < n → ∃ u m, cur[i * 9 + 8]? = some u ∧ NumSh B1 B2 w u m)
theorem NumSh.set {B1 B2 : Nat} {w : World} {v : Value} {m : Nat} (h : NumSh B1 B2 w v m) (g j : Nat) (x : Value) : NumSh B1 B2 (w.setCell ⟨g, j, none⟩ x) v m := by
 obtain ⟨A, c, h1, h2⟩ := h
 refine ⟨A, c, h1, fun hm => ?_⟩
 obtain ⟨g', cur, h3, h4, h5, h6, h7, h7'⟩ := h2 hm
 obtain ⟨cur', h8, h9, _⟩ := heap_any h6 g j x
 exact ⟨g', cur', h3, h4, h5, h8, by omega, h7'⟩
theorem RowSh.set {B1 B2 : Nat} {w : World} {v : Value} {m : Nat} (h : RowSh B1 B2 w v m) (g j : Nat) (x : Value) : RowSh B1 B2 (w.setCell ⟨g, j, none⟩ x) v m := by
 obtain ⟨A, c, h1, h2⟩ := h
 refine ⟨A, c, h1, fun hm => ?_⟩
 obtain ⟨g', cur, h3, h4, h5, h6, h7⟩ := h2 hm
 obtain ⟨cur', h8, h9, _⟩ := heap_any h6 g j x
 exact ⟨g', cur', h3, h4, h5, h8, by omega⟩
def Spares (w : World) (g j : Nat) : Prop := j % 9 ≠ 8 ∨ ∃ cur T fz, w.heap[g]? = some (.cells cur T fz) ∧ T ≠ 29
theorem CodeSh.set {B1 B2 : Nat} {w : World} {v : Value} {n : Nat} (h : CodeSh B1 B2 w v n) (g j : Nat) (x : Value) (hs : Spares w g j) : CodeSh B1 B2 (w.setCell ⟨g, j, none⟩ x) v n := by
 obtain ⟨A, c, h1, h2⟩ := h
 refine ⟨A, c, h1, fun hm => ?_⟩
 obtain ⟨g', cur, h3, h4, h5, h6, h7, h8⟩ := h2 hm
 obtain ⟨cur', h9, h10, h11⟩ := heap_any h6 g j x
 refine ⟨g', cur', h3, h4, h5, h9, by omega, fun i hi => ?_⟩
 obtain ⟨u, m, h12, h13⟩ := h8 i hi
 refine ⟨u, m, (h11 _ fun e => ?_).trans h12, h13.set g j x⟩
 rcases hs with hs | ⟨cur2, T, fz, h14, h15⟩
 ·intro e2
  rw [← e2] at hs
  omega
 ·rw [e, h14] at h6
  injection h6 with h6
  injection h6 with _ h6
  exact absurd h6 h15
structure MuS (B0 B1 B2 : Nat) (w w7 : World) (ga gb gd ge : Value) (na nb nd ne : Nat) (wr : World) : Prop where
 below : Below B0 w wr
 keep : ∀ b, (b < B1 ∨ B2 ≤ b) → b < w7.heap.size → wr.heap[b]? = w7.heap[b]?
 a : NumSh B1 B2 wr ga na
 b : NumSh B1 B2 wr gb nb
 d : CodeSh B1 B2 wr gd nd
 e : RowSh B1 B2 wr ge ne
theorem MuS.set {B0 B1 B2 : Nat} {w w7 : World} {ga gb gd ge : Value} {na nb nd ne : Nat} {wr : World} (h : MuS B0 B1 B2 w w7 ga gb gd ge na nb nd ne wr) (g j : Nat) (x : Value) (hB : B0 ≤ B1) (h1 : B1 ≤ g) (h2 : g < B2) (hs : Spares wr g j) : MuS B0 B1 B2 w w7 ga gb gd ge na nb nd ne (wr.setCell ⟨g, j, none⟩ x) :=
 ⟨h.below.setCell (by show B0 ≤ g; omega) _, fun b hb hl => (Below.heap_setCell _ _ _ _ (by show b ≠ g; omega)).trans (h.keep b hb hl), h.a.set g j x, h.b.set g j x, h.d.set g j x hs, h.e.set g j x⟩
theorem MuS.drew {B0 B1 B2 : Nat} {w w7 : World} {ga gb gd ge : Value} {na nb nd ne : Nat} {wr : World} (h : MuS B0 B1 B2 w w7 ga gb gd ge na nb nd ne wr) : MuS B0 B1 B2 w w7 ga gb gd ge na nb nd ne wr.drew :=
 ⟨Below.drew' h.below, h.keep, h.a, h.b, h.d, h.e⟩
theorem MuS.num {B1 B2 : Nat} {wr : World} {A : Option Addr} {m c k : Nat} (h : NumSh B1 B2 wr (.slice A m c) m) (hk : k < m) : ∃ g, A = some ⟨g, 0, none⟩ ∧ B1 ≤ g ∧ g < B2 ∧ (∃ u, wr.cell? ⟨g, k, none⟩ = some u) ∧ wr.frozen? ⟨g, k, none⟩ = false ∧ Spares wr g k ∧ m ≤ maxLen := by
 obtain ⟨A', c', h1, h2⟩ := h
 injection h1 with e1 _ _
 subst e1
 obtain ⟨g, cur, h3, h4, h5, h6, h7, h7'⟩ := h2 (by omega)
 exact ⟨g, h3, h4, h5, ⟨_, heap_cell h6 (Array.getElem?_eq_getElem (by omega))⟩, heap_thaw h6 _, .inr ⟨cur, _, _, h6, by decide⟩, h7'⟩
theorem MuS.row {B1 B2 : Nat} {wr : World} {A : Option Addr} {m c k : Nat} (h : RowSh B1 B2 wr (.slice A m c) m) (hk : k < m) : ∃ g, A = some ⟨g, 0, none⟩ ∧ B1 ≤ g ∧ g < B2 ∧ (∃ u, wr.cell? ⟨g, k * 4 + 2, none⟩ = some u) ∧ wr.frozen? ⟨g, k * 4 + 2, none⟩ = false ∧ Spares wr g (k * 4 + 2) := by
 obtain ⟨A', c', h1, h2⟩ := h
 injection h1 with e1 _ _
 subst e1
 obtain ⟨g, cur, h3, h4, h5, h6, h7⟩ := h2 (by omega)
 exact ⟨g, h3, h4, h5, ⟨_, heap_cell h6 (Array.getElem?_eq_getElem (by omega))⟩, heap_thaw h6 _, .inr ⟨cur, _, _, h6, by decide⟩⟩
theorem MuS.code {B1 B2 : Nat} {wr : World} {A : Option Addr} {n c k : Nat} (h : CodeSh B1 B2 wr (.slice A n c) n) (hk : k < n) : ∃ g u m, A = some ⟨g, 0, none⟩ ∧ B1 ≤ g ∧ g < B2 ∧ (∃ u, wr.cell? ⟨g, k * 9, none⟩ = some u) ∧ (∃ u, wr.cell? ⟨g, k * 9 + 5, none⟩ = some u) ∧ wr.cell? ⟨g, k * 9 + 8, none⟩ = some u ∧ NumSh B1 B2 wr u m ∧ (∀ j, wr.frozen? ⟨g, j, none⟩ = false) ∧ Spares wr g (k * 9) ∧ (∀ x, Spares (wr.setCell ⟨g, k * 9, none⟩ x) g (k * 9 + 5)) ∧ Spares wr g (k * 9 + 5) ∧ ∀ x, Spares (wr.setCell ⟨g, k * 9 + 5, none⟩ x) g (k * 9) := by
 obtain ⟨A', c', h1, h2⟩ := h
 injection h1 with e1 _ _
 subst e1
 obtain ⟨g, cur, h3, h4, h5, h6, h7, h8⟩ := h2 (by omega)
 obtain ⟨u, m, h9, h10⟩ := h8 k hk
 have hlt := (Array.getElem?_eq_some_iff.1 h9).1
 exact ⟨g, u, m, h3, h4, h5, ⟨_, heap_cell h6 (Array.getElem?_eq_getElem (i := k * 9) (by omega))⟩, ⟨_, heap_cell h6 (Array.getElem?_eq_getElem (i := k * 9 + 5) (by omega))⟩, heap_cell h6 h9, h10, fun j => heap_thaw h6 j, .inl (by omega), fun _ => .inl (by omega), .inl (by omega), fun _ => .inl (by omega)⟩
theorem num_of {B1 B2 : Nat} {w : World} {v : Value} {l : List Int} (h : OwN w B1 v l) (hb : w.heap.size ≤ B2) : NumSh B1 B2 w v l.length := by
 obtain ⟨A, c, hv⟩ := own_shape h
 refine ⟨A, c, hv, fun hm => ?_⟩
 rcases h.2 with ⟨_, h2⟩ | ⟨g, cap, cur, h1, h3, h4, h5, h6, h7, h8⟩
 ·omega
 ·rw [hv] at h1
  injection h1 with e1 _ _
  have hl := heap_lt h4
  exact ⟨g, cur, e1, h3, by omega, h4, by omega, by omega⟩
theorem NumSh.grow {B1 B2 : Nat} {w w' : World} {v : Value} {m : Nat} (h : NumSh B1 B2 w v m) (hb : Below w.heap.size w w') : NumSh B1 B2 w' v m := by
 obtain ⟨A, c, h1, h2⟩ := h
 refine ⟨A, c, h1, fun hm => ?_⟩
 obtain ⟨g', cur, h3, h4, h5, h6, h7⟩ := h2 hm
 exact ⟨g', cur, h3, h4, h5, heap_keep h6 hb, h7⟩
theorem MuS.start {B0 B1 B2 : Nat} {w w2 w7 : World} {f : FuI} {ga gb gd ge : Value} (h : CpV B1 w2 f ga gb gd ge) (h2 : w2.heap.size = B2) (h7 : Below w2.heap.size w2 w7) (hb : Below B0 w w7) : MuS B0 B1 B2 w w7 ga gb gd ge f.regs.length f.params.length f.code.length f.rows.length w7 := by
 refine ⟨hb, fun _ _ _ => rfl, (num_of h.a (by omega)).grow h7, (num_of h.b (by omega)).grow h7, ?_, ?_⟩
 ·rcases h.d with ⟨h3, h4⟩ | ⟨g, cap, h3, h4, h5, h6, cur, h8, h9⟩
  ·exact ⟨none, 0, by rw [h3, h4]; rfl, fun hm => absurd hm (by rw [h4]; decide)⟩
  ·have hl := heap_lt h8
   refine ⟨some ⟨g, 0, none⟩, cap, h3, fun hm => ⟨g, cur, rfl, h4, by omega, heap_keep h8 h7, ?_, fun i hi => ?_⟩⟩
   ·obtain ⟨v, h10, _, _⟩ := h9 (f.code.length - 1) _ (List.getElem?_eq_getElem (by omega))
    have := (Array.getElem?_eq_some_iff.1 (h10 8 v rfl)).1
    omega
   ·obtain ⟨v, h10, h11, _⟩ := h9 i _ (List.getElem?_eq_getElem hi)
    exact ⟨v, _, h10 8 v rfl, (num_of (h11 hi) (by omega)).grow h7⟩
 ·obtain ⟨xs, h3, h4⟩ := h.e
  obtain ⟨A, c, hv⟩ := own_shape h3
  refine ⟨A, c, hv, fun hm => ?_⟩
  rcases h3.2 with ⟨_, h5⟩ | ⟨g, cap, cur, h1, h5, h6, h8, h9, h10, h11⟩
  ·omega
  ·rw [hv] at h1
   injection h1 with e1 _ _
   have hl := heap_lt h6
   exact ⟨g, cur, e1, h5, by omega, heap_keep h6 h7, by omega⟩
end Go.Proofs.Ytbkeneadoccodaa
/- The document's Same at two functions that are alike. -/
namespace Go.Proofs.Ytbkeneadoccodaa
open Go.RowKit Go
set_option linter.unusedVariables false
set_option linter.unusedSimpArgs false
set_option maxHeartbeats 8000000 in
set_option maxRecDepth 100000 in
theorem rsame_t {P Q : Nat → Prop} (f : FuI) (fa fb fd fe ga gb gd ge : Value) (w : World) (h : Hid (FuV P w f fa fb fd fe)) (h2 : Hid (FuV Q w f ga gb gd ge)) :
    Calls Try.prog 12 #[fuL fa fb f.ret fd fe, fuL ga gb f.ret gd ge] w fun e w' => e = .returned (.bool true) ∧ Below w.heap.size w w' := by
  obtain ⟨R, rcap, hR⟩ := h.out.a.shape
  subst hR
  obtain ⟨S, scap, hS⟩ := h.out.b.shape
  subst hS
  obtain ⟨D, dcap, hD⟩ := h.out.d.shape
  subst hD
  obtain ⟨E, ecap, hE⟩ := h.out.e.shape
  subst hE
  obtain ⟨R2, rcap2, hR⟩ := h2.out.a.shape
  subst hR
  obtain ⟨S2, scap2, hS⟩ := h2.out.b.shape
  subst hS
  obtain ⟨D2, dcap2, hD⟩ := h2.out.d.shape
  subst hD
  obtain ⟨E2, ecap2, hE⟩ := h2.out.e.shape
  subst hE
  have hdl := h.out.d.len
  have hel := h.out.e.len
  obtain ⟨n, hn⟩ : ∃ n, f.code.length = n := ⟨_, rfl⟩
  have HN := lhid hn
  obtain ⟨m, hm⟩ : ∃ m, f.rows.length = m := ⟨_, rfl⟩
  have HM := lhid hm
  rw [hn] at hdl h h2 ⊢
  rw [hm] at hel h h2 ⊢
  clear hn hm
  go_enter Try.func12, Try.ntmps12
  go_upto_region 1 with fail
  generalize hW : World.alloc _ _ = wr
  have HB : Hid (Below w.heap.size w wr) := lhid (by rw [← hW]; exact ((Below.refl w.heap.size w).alloc (Nat.le_refl _) _).alloc (by simp) _)
  have HF : Hid (FBox wr w.heap.size (.slice R f.regs.length rcap) (.slice S f.params.length scap) f.ret (.slice D n dcap) (.slice E m ecap)) := lhid (by rw [← hW]; exact (Below.heap_alloc _ _ _ (by simp)).trans (heap_alloc_new w _))
  have HG : Hid (FBox wr (w.heap.size + 1) (.slice R2 f.regs.length rcap2) (.slice S2 f.params.length scap2) f.ret (.slice D2 n dcap2) (.slice E2 m ecap2)) := lhid (by rw [← hW]; exact heap_new2 w _ _)
  clear hW
  obtain ⟨p0, p1, p2, p3, p4⟩ := HF.out.cells
  obtain ⟨q0, q1, q2, q3, q4⟩ := HG.out.cells
  go_wp2_with fail
  with_reducible refine (rints_b (.slice R f.regs.length rcap) (.slice R2 f.regs.length rcap2) f.regs _ (lhid (h.out.a.below (keptX_nu _) HB.out)) (lhid (h2.out.a.below (keptX_nu _) HB.out))).mono ?_
  rintro e w1 ⟨rfl, hb⟩
  have HB1 := lhid (HB.out.trans (hb.mono HB.out.size))
  have HF1 : Hid (FBox w1 w.heap.size (.slice R f.regs.length rcap) (.slice S f.params.length scap) f.ret (.slice D n dcap) (.slice E m ecap)) := lhid (heap_keep HF.out hb)
  have HG1 : Hid (FBox w1 (w.heap.size + 1) (.slice R2 f.regs.length rcap2) (.slice S2 f.params.length scap2) f.ret (.slice D2 n dcap2) (.slice E2 m ecap2)) := lhid (heap_keep HG.out hb)
  clear hb p0 p1 p2 p3 p4 q0 q1 q2 q3 q4
  obtain ⟨p0, p1, p2, p3, p4⟩ := HF1.out.cells
  obtain ⟨q0, q1, q2, q3, q4⟩ := HG1.out.cells
  go_wp2_with fail
  with_reducible refine (rints_b (.slice S f.params.length scap) (.slice S2 f.params.length scap2) f.params _ (lhid (h.out.b.below (keptX_nu _) HB1.out)) (lhid (h2.out.b.below (keptX_nu _) HB1.out))).mono ?_
  rintro e w2 ⟨rfl, hb⟩
  have HB2 := lhid (HB1.out.trans (hb.mono HB1.out.size))
  have HF2 : Hid (FBox w2 w.heap.size (.slice R f.regs.length rcap) (.slice S f.params.length scap) f.ret (.slice D n dcap) (.slice E m ecap)) := lhid (heap_keep HF1.out hb)
  have HG2 : Hid (FBox w2 (w.heap.size + 1) (.slice R2 f.regs.length rcap2) (.slice S2 f.params.length scap2) f.ret (.slice D2 n dcap2) (.slice E2 m ecap2)) := lhid (heap_keep HG1.out hb)
  clear hb p0 p1 p2 p3 p4 q0 q1 q2 q3 q4
  obtain ⟨p0, p1, p2, p3, p4⟩ := HF2.out.cells
  obtain ⟨q0, q1, q2, q3, q4⟩ := HG2.out.cells
  clear HB HF HG HB1 HF1 HG1
  have e1 : ((n : Int) != (n : Int)) = false := by simp
  have e2 : ((m : Int) != (m : Int)) = false := by simp
  have e3 : (f.ret != f.ret) = false := by simp
  go_upto_block 0 with fail
  go_cut [] from 46 (fun wc => Hid (Below w.heap.size w wc) ∧ Hid (FBox wc w.heap.size (.slice R f.regs.length rcap) (.slice S f.params.length scap) f.ret (.slice D n dcap) (.slice E m ecap)) ∧ Hid (FBox wc (w.heap.size + 1) (.slice R2 f.regs.length rcap2) (.slice S2 f.params.length scap2) f.ret (.slice D2 n dcap2) (.slice E2 m ecap2)))
  case first =>
    go_wp2_with fail
    go_loopw [5] (fun i wr => ∃ k : Nat, i = .int .i64 k ∧ k ≤ n ∧ Hid (Below w.heap.size w wr) ∧ Hid (FBox wr w.heap.size (.slice R f.regs.length rcap) (.slice S f.params.length scap) f.ret (.slice D n dcap) (.slice E m ecap)) ∧ Hid (FBox wr (w.heap.size + 1) (.slice R2 f.regs.length rcap2) (.slice S2 f.params.length scap2) f.ret (.slice D2 n dcap2) (.slice E2 m ecap2))) (fun i _ => n - (intOf i).toNat)
    case atStart => exact ⟨0, rfl, Nat.zero_le _, HB2, HF2, HG2⟩
    case round =>
      clear HB2 HF2 HG2 p0 p1 p2 p3 p4 q0 q1 q2 q3 q4
      obtain ⟨k, rfl, hk, HB, HF, HG⟩ := hrel
      obtain ⟨p0, p1, p2, p3, p4⟩ := HF.out.cells
      obtain ⟨q0, q1, q2, q3, q4⟩ := HG.out.cells
      by_cases hlt : k < n
      · obtain ⟨x, hx⟩ : ∃ x, f.code[k]? = some x := ⟨_, List.getElem?_eq_getElem (by have := HN.out; omega)⟩
        obtain ⟨g, o, v, hD, _, hv, c0, c1, c2, c3, c4, c5, c6, c7, c8⟩ := in_cells (h.out.d.below (keptX_in _) HB.out) hx
        obtain ⟨g2, o2, v2, hD2, _, hv2, d0, d1, d2, d3, d4, d5, d6, d7, d8⟩ := in_cells (h2.out.d.below (keptX_in _) HB.out) hx
        subst hD hD2
        have k3 : (k : Int) < n := by omega
        have HV := lhid hv
        have HV2 := lhid hv2
        have HGG : Hid (∀ w' : World, Below wr.heap.size wr w' → (w'.cell? ⟨w.heap.size, 3, none⟩ = some (.slice (some ⟨g, o, none⟩) n dcap) ∧ w'.cell? ⟨w.heap.size + 1, 3, none⟩ = some (.slice (some ⟨g2, o2, none⟩) n dcap2)) ∧ (w'.cell? ⟨g, o + k * 9, none⟩ = some (.int .i64 x.op) ∧ w'.cell? ⟨g, o + k * 9 + 1, none⟩ = some (.int .i64 x.dst) ∧ w'.cell? ⟨g, o + k * 9 + 2, none⟩ = some (.int .i64 x.a) ∧ w'.cell? ⟨g, o + k * 9 + 3, none⟩ = some (.int .i64 x.b) ∧ w'.cell? ⟨g, o + k * 9 + 4, none⟩ = some (.int .i64 x.c) ∧ w'.cell? ⟨g, o + k * 9 + 5, none⟩ = some (.int .i64 x.num) ∧ w'.cell? ⟨g, o + k * 9 + 6, none⟩ = some (.int .i64 x.too) ∧ w'.cell? ⟨g, o + k * 9 + 7, none⟩ = some (.string (tx x.ref)) ∧ w'.cell? ⟨g, o + k * 9 + 8, none⟩ = some (v)) ∧ (w'.cell? ⟨g2, o2 + k * 9, none⟩ = some (.int .i64 x.op) ∧ w'.cell? ⟨g2, o2 + k * 9 + 1, none⟩ = some (.int .i64 x.dst) ∧ w'.cell? ⟨g2, o2 + k * 9 + 2, none⟩ = some (.int .i64 x.a) ∧ w'.cell? ⟨g2, o2 + k * 9 + 3, none⟩ = some (.int .i64 x.b) ∧ w'.cell? ⟨g2, o2 + k * 9 + 4, none⟩ = some (.int .i64 x.c) ∧ w'.cell? ⟨g2, o2 + k * 9 + 5, none⟩ = some (.int .i64 x.num) ∧ w'.cell? ⟨g2, o2 + k * 9 + 6, none⟩ = some (.int .i64 x.too) ∧ w'.cell? ⟨g2, o2 + k * 9 + 7, none⟩ = some (.string (tx x.ref)) ∧ w'.cell? ⟨g2, o2 + k * 9 + 8, none⟩ = some (v2))) := lhid (fun w' hw' => by
          have kc : ∀ {p : Addr} {u : Value}, wr.cell? p = some u → w'.cell? p = some u := fun {p u} hp => (hw'.cell (p := p) (cell_lt hp)).trans hp
          exact ⟨⟨kc p3, kc q3⟩, ⟨kc c0, kc c1, kc c2, kc c3, kc c4, kc c5, kc c6, kc c7, kc c8⟩, ⟨kc d0, kc d1, kc d2, kc d3, kc d4, kc d5, kc d6, kc d7, kc d8⟩⟩)
        clear hv hv2 c0 c1 c2 c3 c4 c5 c6 c7 c8 d0 d1 d2 d3 d4 d5 d6 d7 d8 hx
        go_upto_region 6 with fail
        clear p0 p1 p2 p3 p4 q0 q1 q2 q3 q4
        go_cut [64] from 53 to 64 (fun t64 wc => t64 = .bool false ∧ Hid (Below wr.heap.size wr wc))
        case first =>
          refine wp_region_quiet_c (C := fun w' => Below wr.heap.size wr w') (by kernel_rfl) (by kernel_rfl) (Below.drew' (Below.refl _ _)) ?_
          repeat (first
            | go_big_quiet_skip
            | (go_big_quiet_want
               first
                 | (refine quiet_of_run (v := ?_) (fun w' hw' => ?_) ?_
                    rotate_left
                    · (obtain ⟨⟨p3, q3⟩, ⟨c0, c1, c2, c3, c4, c5, c6, c7, c8⟩, d0, d1, d2, d3, d4, d5, d6, d7, d8⟩ := HGG.out w' hw'; go_simp; try with_reducible rfl)
                    go_big_quiet_on
                    try simp only [Act.put, List.setIfInBounds_toArray, List.set_cons_zero, List.set_cons_succ])
                 | (refine quiet_of_call (v := .bool true) (f := 31) (args := #[inA x v, inA x v2]) (fun w' hw' => ?_) (fun w' hw' => ?_) ?_
                    · (obtain ⟨⟨p3, q3⟩, ⟨c0, c1, c2, c3, c4, c5, c6, c7, c8⟩, d0, d1, d2, d3, d4, d5, d6, d7, d8⟩ := HGG.out w' hw'; go_simp; done)
                    · (refine (sameIns_t x v v2 w' (lhid (HV.out.below (keptX_nu _) hw')) (lhid (HV2.out.below (keptX_nu _) hw'))).mono ?_
                       rintro e w9 ⟨rfl, hb9⟩
                       exact ⟨rfl, hw'.trans (Below.less hb9 hw'.size)⟩)
                    go_big_quiet_on
                    try simp only [Act.put, List.setIfInBounds_toArray, List.set_cons_zero, List.set_cons_succ])))
          refine wpQuiet_nil ?_
          intro wx hwx
          have HWX := lhid hwx
          clear hwx
          go_wp2_with fail
          go_meet
          case rel => exact ⟨rfl, HWX⟩
        obtain ⟨rfl, HWC⟩ := hcut
        have HB3 := lhid (HB.out.trans (HWC.out.mono HB.out.size))
        have HF3 : Hid (FBox wc w.heap.size (.slice R f.regs.length rcap) (.slice S f.params.length scap) f.ret (.slice (some ⟨g, o, none⟩) n dcap) (.slice E m ecap)) := lhid (heap_keep HF.out HWC.out)
        have HG3 : Hid (FBox wc (w.heap.size + 1) (.slice R2 f.regs.length rcap2) (.slice S2 f.params.length scap2) f.ret (.slice (some ⟨g2, o2, none⟩) n dcap2) (.slice E2 m ecap2)) := lhid (heap_keep HG.out HWC.out)
        clear HGG
        go_wp2_with fail
        go_roundw
        case rel => exact ⟨k + 1, by go_num, by omega, HB3, HF3, HG3⟩
        case measure => simp [intOf]; omega
      · have k3 : ¬ (k : Int) < n := by omega
        go_wp2_with fail
        go_meet
        case rel => exact ⟨HB, HF, HG⟩
  clear HB2 HF2 HG2 p0 p1 p2 p3 p4 q0 q1 q2 q3 q4
  obtain ⟨HB2, HF2, HG2⟩ := hcut
  obtain ⟨p0, p1, p2, p3, p4⟩ := HF2.out.cells
  obtain ⟨q0, q1, q2, q3, q4⟩ := HG2.out.cells
  go_wp2_with fail
  go_loopw [6] (fun i wr => ∃ k : Nat, i = .int .i64 k ∧ k ≤ m ∧ Hid (Below w.heap.size w wr) ∧ Hid (FBox wr w.heap.size (.slice R f.regs.length rcap) (.slice S f.params.length scap) f.ret (.slice D n dcap) (.slice E m ecap)) ∧ Hid (FBox wr (w.heap.size + 1) (.slice R2 f.regs.length rcap2) (.slice S2 f.params.length scap2) f.ret (.slice D2 n dcap2) (.slice E2 m ecap2))) (fun i _ => m - (intOf i).toNat)
  case atStart => exact ⟨0, rfl, Nat.zero_le _, HB2, HF2, HG2⟩
  case round =>
    clear HB2 HF2 HG2 p0 p1 p2 p3 p4 q0 q1 q2 q3 q4
    obtain ⟨k, rfl, hk, HB, HF, HG⟩ := hrel
    obtain ⟨p0, p1, p2, p3, p4⟩ := HF.out.cells
    obtain ⟨q0, q1, q2, q3, q4⟩ := HG.out.cells
    by_cases hlt : k < m
    · obtain ⟨x, hx⟩ : ∃ x, f.rows[k]? = some x := ⟨_, List.getElem?_eq_getElem (by have := HM.out; omega)⟩
      obtain ⟨g, o, hE, c0, c1, c2, c3⟩ := rw_cells (h.out.e.below (keptX_rw _) HB.out) hx
      obtain ⟨g2, o2, hE2, d0, d1, d2, d3⟩ := rw_cells (h2.out.e.below (keptX_rw _) HB.out) hx
      subst hE hE2
      have k3 : (k : Int) < m := by omega
      clear hx
      go_upto_region 11 with fail
      go_cut [82] from 72 to 82 (fun t82 wc => t82 = .bool false ∧ Hid (Below wr.heap.size wr wc))
      case first =>
        go_quiet (fail)
        go_wp2_with fail
        go_meet
        case rel => exact ⟨rfl, lhid (Below.drewN' (Below.refl _ _) _)⟩
      obtain ⟨rfl, HWC⟩ := hcut
      have HB3 := lhid (HB.out.trans (HWC.out.mono HB.out.size))
      have HF3 : Hid (FBox wc w.heap.size (.slice R f.regs.length rcap) (.slice S f.params.length scap) f.ret (.slice D n dcap) (.slice (some ⟨g, o, none⟩) m ecap)) := lhid (heap_keep HF.out HWC.out)
      have HG3 : Hid (FBox wc (w.heap.size + 1) (.slice R2 f.regs.length rcap2) (.slice S2 f.params.length scap2) f.ret (.slice D2 n dcap2) (.slice (some ⟨g2, o2, none⟩) m ecap2)) := lhid (heap_keep HG.out HWC.out)
      go_wp2_with fail
      go_roundw
      case rel => exact ⟨k + 1, by go_num, by omega, HB3, HF3, HG3⟩
      case measure => simp [intOf]; omega
    · have k3 : ¬ (k : Int) < m := by omega
      go_wp2_with fail
      go_ret
      exact ⟨rfl, HB.out⟩
end Go.Proofs.Ytbkeneadoccodaa
/- The walk of law 10's InsCopies. -/
namespace Go.Proofs.Ytbkeneadoccodaa
open Go.RowKit Go
set_option linter.unusedVariables false
set_option linter.unusedSimpArgs false
theorem FuV.kept {P : Nat → Prop} {w w' : World} {f : FuI} {fa fb fd fe : Value} (h : FuV P w f fa fb fd fe) (hb : ∀ g, P g → g < w.heap.size → w'.heap[g]? = w.heap[g]?) : FuV P w' f fa fb fd fe :=
 ⟨h.a.kept (keptX_nu _) hb, h.b.kept (keptX_nu _) hb, h.d.kept (keptX_in _) hb, h.e.kept (keptX_rw _) hb⟩
theorem CodeO.shape {B : Nat} {w : World} {v : Value} {l : List InI} (h : CodeO B w v l) : ∃ A c, v = .slice A l.length c := by
 rcases h with ⟨rfl, rfl⟩ | ⟨g, cap, rfl, _⟩
 ·exact ⟨_, _, rfl⟩
 ·exact ⟨_, _, rfl⟩
end Go.Proofs.Ytbkeneadoccodaa
