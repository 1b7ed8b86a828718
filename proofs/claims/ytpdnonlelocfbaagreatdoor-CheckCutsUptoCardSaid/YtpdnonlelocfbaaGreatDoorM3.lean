/- Texts of this claim, joined: ChkEnv, ChkWord, ChkPop, ChkBack. -/
import Derived.Test.YtpdnonlelocfbaaGreatDoorM2
import Derived.Test.YtpdnonlelocfbaaGreatDoorJKinMap
import Derived.Deep.AppendLies
import Derived.Deep.RegionLaw
import Derived.Deep.RegionHeld3
import Derived.BigRegion
import Derived.WalkSmall
import Derived.RangeFuncNested
import Derived.RangeFuncBound
import Derived.RangeFuncCalls
import Derived.RangeFuncLeaves
import Derived.OwnWalkIn
import Derived.TacticsInMore
import Derived.LoopNIn
import Derived.LoopIn
/- Package check: what it calls (as its plain words have it), and its state in memory. -/
namespace Go.Proofs.YtpdnonlelocfbaaGreatDoor
open Go.RowKit Go Go.Maps
set_option linter.unusedVariables false

/-- No text is longer. -/
def ML : Nat := 8589934592
/-- What the tree and the words of types answer, in whatever world in which what was there stands. -/
structure Env (E : Chk) (tb : Nat) (wT : World) : Prop where
  known : ∀ (x : Bs) (w : World), x.length ≤ ML → Below wT.heap.size wT w → Calls Tryz.prog 16 #[.pointer (some ⟨tb, 0, none⟩), .string (tx x)] w fun e w' => e = .returned (.bool (E.known x)) ∧ Below w.heap.size w w'
  fits : ∀ (x y : Bs) (w : World), x.length ≤ ML → y.length ≤ ML → Below wT.heap.size wT w → Calls Tryz.prog 17 #[.pointer (some ⟨tb, 0, none⟩), .string (tx x), .string (tx y)] w fun e w' => e = .returned (.bool (E.fits x y)) ∧ Below w.heap.size w w'
  field : ∀ (x n d : Bs) (w : World), x.length ≤ ML → Below wT.heap.size wT w → Calls Tryz.prog 82 #[.pointer (some ⟨tb, 0, none⟩), .string (tx x), .string (tx n), .string (tx d)] w fun e w' => (∃ (o nm : Bs), e = .returned (.tuple #[.string (tx o), .agg #[.int .i64 ((E.field x n d).getD (0, [])).1, .string (tx nm), .string (tx ((E.field x n d).getD (0, [])).2)], .bool (E.field x n d).isSome])) ∧ Below w.heap.size w w'
  meth : ∀ (x n d : Bs) (w : World), x.length ≤ ML → Below wT.heap.size wT w → Calls Tryz.prog 71 #[.pointer (some ⟨tb, 0, none⟩), .string (tx x), .string (tx n), .string (tx d)] w fun e w' => (∃ (o a1 a2 : Bs) (a3 a4 : Int) (A B C : Option Addr) (l1 l2 l3 c1 c2 c3 : Nat), e = .returned (.tuple #[.string (tx o), .agg #[.int .i64 ((E.meth x n d).getD 0), .string (tx a1), .string (tx a2), .int .i64 a3, .int .i64 a4, .slice A l1 c1, .slice B l2 c2, .slice C l3 c3], .bool (E.meth x n d).isSome])) ∧ Below w.heap.size w w'
  cls : ∀ (x : Bs) (w : World), x.length ≤ ML → Below wT.heap.size wT w → Calls Tryz.prog 26 #[.pointer (some ⟨tb, 0, none⟩), .string (tx x)] w fun e w' => (∃ (a1 a2 : Bs) (A B C D : Option Addr) (l1 l2 l3 l4 c1 c2 c3 c4 : Nat), e = .returned (.tuple #[.agg #[.int .i64 ((E.cls x).getD 0), .string (tx a1), .string (tx a2), .slice A l1 c1, .slice B l2 c2, .slice C l3 c3, .slice D l4 c4], .bool (E.cls x).isSome])) ∧ Below w.heap.size w w'
  kind : ∀ (x : Bs) (w : World), Calls Tryz.prog 184 #[.string (tx x)] w fun e w' => e = .returned (.int .i64 (E.kind x)) ∧ w = w'
  elem : ∀ (x : Bs) (w : World), Calls Tryz.prog 116 #[.string (tx x)] w fun e w' => e = .returned (.string (tx (E.elem x))) ∧ w = w'
  of : ∀ (x : Bs) (w : World), x.length ≤ ML → Calls Tryz.prog 117 #[.string (tx x)] w fun e w' => e = .returned (.string (tx (E.of x))) ∧ w = w'
  metD : ∀ (x : Bs) (w : World), x.length ≤ ML → Calls Tryz.prog 95 #[.string (tx x)] w fun e w' => ∃ v g f, e = .returned (.tuple #[v, .string (tx g), .int .i64 f]) ∧ g = (E.metD x).2 ∧ w'.ownsRow w.heap.size 9 1 v (E.metD x).1.length ((E.metD x).1.map fun s => .string (tx s)) ∧ Below w.heap.size w w'
  kinds : ∀ (c : Int) (w : World), 0 ≤ c ∧ c ≤ 255 → Calls Tryz.prog 215 #[.int .i64 c] w fun e w' => e = .returned (.tuple #[.int .i64 (E.kinds c).1, .int .i64 (E.kinds c).2.1, .int .i64 (E.kinds c).2.2]) ∧ w = w'
  l_elem : ∀ x, (E.elem x).length ≤ x.length
  l_of : ∀ x, (E.of x).length ≤ x.length + 2
  l_field : ∀ x n d, ((E.field x n d).getD (0, [])).2.length ≤ 4294967296
  l_met : ∀ x, (∀ t ∈ (E.metD x).1, t.length ≤ x.length) ∧ (E.metD x).1.length ≤ 20 ∧ (E.metD x).2.length ≤ x.length + 1
  l_pool : ∀ c ∈ E.pool, c.text.length ≤ 4294967296 ∧ c.desc.length ≤ 4294967296
  l_own : E.own.length ≤ ML
  l_gives : E.gives.length ≤ ML
  l_room : E.room ≤ 20
/-- The cells of a checker that nothing changes while instructions are walked. -/
structure Fx where
  tb : Nat
  c1 : Value
  cn : Bs
  c3 : Value
  c4 : Value
  cp : Value
  c6 : Value
  c7 : Value
  mf : Int
  m1 : Value
  md : Bs
  ms : Int
  ml : Int
  mc : Value
  mr : Value
  mfr : Value
  ops : Value
  gives : Bs
  fb : Nat
  cb : Nat
abbrev ckA (F : Fx) (vl vs : Value) (kn : Bool) (fl : Int) (st : Value) : Array Value :=
  #[.pointer (some ⟨F.tb, 0, none⟩), F.c1, .string (tx F.cn), F.c3, F.c4, F.cp, F.c6, F.c7, .int .i64 F.mf, F.m1, .string (tx F.md), .int .i64 F.ms, .int .i64 F.ml, F.mc, F.mr, F.mfr, F.ops, .string (tx F.gives), .map (some F.fb), .map (some F.cb), vl, vs, .bool kn, .int .i64 fl, st]
def lnV (l : List Bs) : List Value := l.map fun s => .string (tx s)
theorem lnV_len (l : List Bs) : (lnV l).length = l.length := by simp [lnV]
theorem lnV_app (l m : List Bs) : lnV (l ++ m) = lnV l ++ lnV m := by simp [lnV]
theorem lnV_at {l : List Bs} {i : Nat} {t : Bs} (h : l[i]? = some t) : (lnV l)[i]? = some (.string (tx t)) := by simp [lnV, h]
/-- A list of types of the call's own. -/
structure Ow (Z : Nat → Prop) (T : Nat) (w : World) (v : Value) (l : List Bs) : Prop where
  row : w.ownsRow T 9 1 v l.length (lnV l)
  zone : ∀ k, v.ownBlock = some k → Z k
  small : ∀ t ∈ l, t.length ≤ ML
theorem Ow.of {Z : Nat → Prop} {T : Nat} {w w' : World} {v : Value} {l : List Bs} (h : Ow Z T w v l) (hb : ∀ g, v.ownBlock = some g → w'.heap[g]? = w.heap[g]?) : Ow Z T w' v l := ⟨own_of h.row hb, h.zone, h.small⟩
theorem Ow.below {Z : Nat → Prop} {T : Nat} {w w' : World} {v : Value} {l : List Bs} (h : Ow Z T w v l) (hb : Below w.heap.size w w') : Ow Z T w' v l := h.of fun g hg => hb.block g (h.row.lt g hg).2
theorem Ow.cell {Z : Nat → Prop} {T : Nat} {w : World} {A : Option Addr} {n cap : Nat} {l : List Bs} (h : Ow Z T w (.slice A n cap) l) {i : Nat} {t : Bs} (hi : l[i]? = some t) : ∃ g, A = some ⟨g, 0, none⟩ ∧ w.cell? ⟨g, i, none⟩ = some (.string (tx t)) := by
  have hlt := (List.getElem?_eq_some_iff.1 hi).1
  obtain ⟨g, cap', hv, _, _⟩ := h.row.form (by omega)
  injection hv with h1 h2 h3
  subst h1
  refine ⟨g, rfl, ?_⟩
  have := h.row.cells (g := g) rfl i _ (lnV_at hi)
  rwa [addr_add, Nat.zero_add] at this
/-- The classes that were asked for. -/
def AskV (E : Chk) (w : World) (b N : Nat) : Prop := ∃ n f, n ≤ N ∧ MV w b n f ∧ ∀ s, f s = none ∨ f s = some (.agg #[.bool (E.cls s).isSome, .int .i64 ((E.cls s).getD 0)])
theorem AskV.of {E : Chk} {w w' : World} {b N : Nat} (h : AskV E w b N) (e : w'.heap[b]? = w.heap[b]?) : AskV E w' b N := by
  obtain ⟨n, f, h1, h2, h3⟩ := h
  exact ⟨n, f, h1, h2.of e, h3⟩
theorem AskV.lt {E : Chk} {w : World} {b N : Nat} (h : AskV E w b N) : b < w.heap.size := by
  obtain ⟨n, f, h1, h2, h3⟩ := h
  exact h2.lt
/-- A checker in memory, at a state: its block, the state's two lists, the classes that were asked for. Z: the blocks that may change; wT: the world in which what it is made of stands. -/
structure Ck (E : Chk) (Z : Nat → Prop) (wT : World) (c : Nat) (F : Fx) (N : Nat) (s : Cs) (kn : Bool) (st : Value) (w : World) : Prop where
  std : Below wT.heap.size wT w
  low : ∀ k, Z k → wT.heap.size ≤ k
  new : ∀ k, w.heap.size ≤ k → Z k
  cz : Z c
  bz : Z F.cb
  it : ∃ vl vs, w.heap[c]? = some (.cells (ckA F vl vs kn s.flt st) 107 (0, 0)) ∧ Ow Z wT.heap.size w vl s.loc ∧ Ow Z wT.heap.size w vs s.stk ∧ ∀ k, vl.ownBlock = some k → vs.ownBlock ≠ some k
  ask : AskV E w F.cb N
theorem ow_ne {Z : Nat → Prop} {T c : Nat} {w : World} {v : Value} {l : List Bs} {cs : Array Value} (h : Ow Z T w v l) (hc : w.heap[c]? = some (.cells cs 107 (0, 0))) : v.ownBlock ≠ some c := by
  intro e
  rcases h.row.2 with ⟨rfl, _⟩ | ⟨g, cap, cur, rfl, _, h3, _⟩
  · cases e
  · injection e with e
    subst e
    rw [hc] at h3
    injection h3 with h3
    injection h3 with _ h3 _
    revert h3
    decide
theorem ask_ne {E : Chk} {w : World} {b N c : Nat} {cs : Array Value} {t : TypeId} {f : Nat × Nat} (h : AskV E w b N) (hc : w.heap[c]? = some (.cells cs t f)) : b ≠ c := by
  rintro rfl
  obtain ⟨n, f, _, ⟨D, ⟨es, clock, h1, _⟩, _⟩, _⟩ := h
  rw [hc] at h1
  injection h1 with h1
  cases h1
theorem ask_no {E : Chk} {Z : Nat → Prop} {T : Nat} {w : World} {b N : Nat} {v : Value} {l : List Bs} (h : AskV E w b N) (ho : Ow Z T w v l) : v.ownBlock ≠ some b := by
  intro e
  rcases ho.row.2 with ⟨rfl, _⟩ | ⟨g, cap, cur, rfl, _, h3, _⟩
  · cases e
  · injection e with e
    subst e
    exact ask_ne h h3 rfl
section
variable {E : Chk} {Z : Nat → Prop} {wT : World} {c : Nat} {F : Fx} {N : Nat} {s : Cs} {kn : Bool} {st : Value} {w w' : World}
theorem Ck.below (h : Ck E Z wT c F N s kn st w) (hb : Below w.heap.size w w') : Ck E Z wT c F N s kn st w' := by
  obtain ⟨vl, vs, hc, hl, hs, hd⟩ := h.it
  exact ⟨h.std.trans (Below.less hb h.std.size), h.low, fun k hk => h.new k (Nat.le_trans hb.size hk), h.cz, h.bz, ⟨vl, vs, (hb.block _ (heap_lt hc)).trans hc, hl.below hb, hs.below hb, hd⟩, h.ask.of (hb.block _ h.ask.lt)⟩
theorem Ck.to (h : Ck E Z wT c F N s kn st w) {a : World} (hc : Ch Z w a) : Below wT.heap.size wT a := h.std.trans (hc.to h.std.size h.low)
theorem Ch.tr {a b d : World} (h : Ch Z a b) (k : Ch Z b d) : Ch Z a d := h.trans k fun _ _ x => x
theorem ow_far {v : Value} {l : List Bs} (h : Ow Z wT.heap.size w v l) {b j : Nat} (hb : v.ownBlock ≠ some b) (u : Value) : Ow Z wT.heap.size (w.setCell ⟨b, j, none⟩ u) v l :=
  h.of fun g hg => Below.heap_setCell _ _ _ _ (fun e => hb (by rw [hg]; exact congrArg some e))
/-- A cell of the checker's own is written. -/
theorem Ck.store (h : Ck E Z wT c F N s kn st w) {j : Nat} {u : Value} {vl vs : Value} {kn' : Bool} {st' : Value} {s' : Cs} (hc : (w.setCell ⟨c, j, none⟩ u).heap[c]? = some (.cells (ckA F vl vs kn' s'.flt st') 107 (0, 0)))
    (hl : Ow Z wT.heap.size w vl s'.loc) (hs : Ow Z wT.heap.size w vs s'.stk) (hd : ∀ k, vl.ownBlock = some k → vs.ownBlock ≠ some k) : Ck E Z wT c F N s' kn' st' (w.setCell ⟨c, j, none⟩ u) ∧ Ch Z w (w.setCell ⟨c, j, none⟩ u) := by
  obtain ⟨_, _, hc0, _⟩ := h.it
  have hch : Ch Z w (w.setCell ⟨c, j, none⟩ u) := (Ch.refl Z w).set (p := ⟨c, j, none⟩) (fun _ => h.cz) u
  have hne := ask_ne h.ask hc0
  exact ⟨⟨h.to hch, h.low, fun k hk => h.new k (Nat.le_trans hch.size hk), h.cz, h.bz, ⟨vl, vs, hc, ow_far hl (ow_ne hl hc0) u, ow_far hs (ow_ne hs hc0) u, hd⟩, h.ask.of (Below.heap_setCell _ _ _ _ hne)⟩, hch⟩
theorem Ck.fault (h : Ck E Z wT c F N s kn st w) (e : Int) : Ck E Z wT c F N { s with flt := e } kn st (w.setCell ⟨c, 23, none⟩ (.int .i64 e)) ∧ Ch Z w (w.setCell ⟨c, 23, none⟩ (.int .i64 e)) := by
  obtain ⟨vl, vs, hc, hl, hs, hd⟩ := h.it
  exact h.store (s' := { s with flt := e }) (heap_set hc _) hl hs hd
/-- The stack's slice is written: a shorter one on the same row, or one that grew. -/
theorem Ck.stack (h : Ck E Z wT c F N s kn st w) {vl vs' : Value} {l : List Bs} (hc : w.heap[c]? = some (.cells (ckA F vl vs' kn s.flt st) 107 (0, 0))) {u : Value}
    (hl : Ow Z wT.heap.size w vl s.loc) (hs : Ow Z wT.heap.size w u l) (hd : ∀ k, vl.ownBlock = some k → u.ownBlock ≠ some k) : Ck E Z wT c F N { s with stk := l } kn st (w.setCell ⟨c, 21, none⟩ u) ∧ Ch Z w (w.setCell ⟨c, 21, none⟩ u) :=
  h.store (s' := { s with stk := l }) (heap_set hc _) hl hs hd
theorem own_max {T e size n : Nat} {v : Value} {xs : List Value} (h : w.ownsRow T e size v n xs) : n ≤ maxLen := by
  rcases h.2 with ⟨_, rfl⟩ | ⟨g, cap, cur, rfl, _, _, h1, h2, _⟩
  · exact Nat.zero_le _
  · exact Nat.le_trans h1 h2
theorem Ck.drew (h : Ck E Z wT c F N s kn st w) : Ck E Z wT c F N s kn st w.drew := h.below (Below.drew' (Below.refl _ _))
theorem Ck.cell (h : Ck E Z wT c F N s kn st w) : w.cell? ⟨c, 0, none⟩ = some (.pointer (some ⟨F.tb, 0, none⟩)) := by
  obtain ⟨vl, vs, hc, _⟩ := h.it
  exact heap_cell hc rfl
theorem Ck.flt (h : Ck E Z wT c F N s kn st w) : w.cell? ⟨c, 23, none⟩ = some (.int .i64 s.flt) := by
  obtain ⟨vl, vs, hc, _⟩ := h.it
  exact heap_cell hc rfl
theorem Ck.smallS (h : Ck E Z wT c F N s kn st w) : ∀ t ∈ s.stk, t.length ≤ ML := by
  obtain ⟨vl, vs, hc, hl, hs, _⟩ := h.it
  exact hs.small
theorem Ck.smallL (h : Ck E Z wT c F N s kn st w) : ∀ t ∈ s.loc, t.length ≤ ML := by
  obtain ⟨vl, vs, hc, hl, hs, _⟩ := h.it
  exact hl.small
theorem last_small {l : List Bs} (h : ∀ t ∈ l, t.length ≤ ML) : (l.getLastD []).length ≤ ML := by
  cases l with
  | nil => exact Nat.zero_le _
  | cons a r =>
    rw [List.getLastD_eq_getLast?, List.getLast?_eq_some_getLast (by simp)]
    exact h _ (List.getLast_mem _)
theorem Ck.smallT (h : Ck E Z wT c F N s kn st w) : s.take.1.length ≤ ML := by
  unfold Cs.take
  dsimp only
  split
  · exact last_small (l := (s.refuse s.stk.isEmpty 61).stk) (by rw [(refuse_cases s _ 61).2]; exact h.smallS)
  · exact Nat.zero_le _
/-- What grew by append becomes the stack. -/
theorem Ck.grow (h : Ck E Z wT c F N s kn st w) {vl vs : Value} (hc : w.heap[c]? = some (.cells (ckA F vl vs kn s.flt st) 107 (0, 0))) (hl : Ow Z wT.heap.size w vl s.loc) (hs : Ow Z wT.heap.size w vs s.stk) (hd : ∀ k, vl.ownBlock = some k → vs.ownBlock ≠ some k)
    {w1 w2 : World} (hb : Below w.heap.size w w1) (hg : w1.grownBy w2 vs.ownBlock) {g m cap : Nat} {t : Bs} (hm : m = (s.stk ++ [t]).length) (hown : w2.ownsRow wT.heap.size 9 1 (.slice (some ⟨g, 0, none⟩) m cap) m (lnV s.stk ++ [.string (tx t)])) (hat : vs.ownBlock = some g ∨ w.heap.size ≤ g) (ht : t.length ≤ ML) :
    Ck E Z wT c F N { s with stk := s.stk ++ [t] } kn st (w2.setCell ⟨c, 21, none⟩ (.slice (some ⟨g, 0, none⟩) m cap)) ∧ Ch Z w (w2.setCell ⟨c, 21, none⟩ (.slice (some ⟨g, 0, none⟩) m cap)) := by
  subst hm
  have hch2 : Ch Z w w2 := (Ch.of hb).grown hg (fun k hk _ => hs.zone k hk)
  have hsame : ∀ k, k < w.heap.size → vs.ownBlock ≠ some k → w2.heap[k]? = w.heap[k]? := fun k hk hne => (hg.block k (Nat.lt_of_lt_of_le hk hb.size) (fun e => hne e.symm)).trans (hb.block k hk)
  have hc2 : w2.heap[c]? = some (.cells (ckA F vl vs kn s.flt st) 107 (0, 0)) := (hsame c (heap_lt hc) (ow_ne hs hc)).trans hc
  have ho : Ow Z wT.heap.size w2 (.slice (some ⟨g, 0, none⟩) (s.stk ++ [t]).length cap) (s.stk ++ [t]) := ⟨by rw [lnV_app]; exact hown, fun k hk => by
    rcases hat with e | e
    · exact hs.zone k (by rw [e]; exact hk)
    · injection hk with hk
      exact h.new k (by rw [← hk]; exact e), fun u hu => by
    rcases List.mem_append.1 hu with hu | hu
    · exact hs.small u hu
    · rw [List.mem_singleton.1 hu]; exact ht⟩
  have hl2 : Ow Z wT.heap.size w2 vl s.loc := hl.of fun k hk => hsame k (hl.row.lt k hk).2 (hd k hk)
  have hk2 : Ck E Z wT c F N s kn st w2 → True := fun _ => trivial
  have hch : Ch Z w (w2.setCell ⟨c, 21, none⟩ (.slice (some ⟨g, 0, none⟩) (s.stk ++ [t]).length cap)) := hch2.set (p := ⟨c, 21, none⟩) (fun _ => h.cz) _
  have hask2 : AskV E w2 F.cb N := h.ask.of (hsame _ h.ask.lt (ask_no h.ask hs))
  refine ⟨⟨h.to hch, h.low, fun k hk => h.new k (Nat.le_trans hch.size hk), h.cz, h.bz, ⟨vl, _, heap_set hc2 _, ow_far hl2 (ow_ne hl2 hc2) _, ow_far ho (ow_ne ho hc2) _, fun k hk e => ?_⟩, hask2.of (Below.heap_setCell _ _ _ _ (ask_ne hask2 hc2))⟩, hch⟩
  injection e with e
  subst e
  rcases hat with e2 | e2
  · exact hd _ hk e2
  · exact absurd (hl.row.lt _ hk).2 (by show ¬ g < w.heap.size; omega)
end
/-- What a word of a checker leaves. -/
def CkOut (E : Chk) (Z : Nat → Prop) (wT : World) (c : Nat) (F : Fx) (N : Nat) (s : Cs) (kn : Bool) (st : Value) (w : World) (r e : Ending) (w' : World) : Prop := e = r ∧ Ck E Z wT c F N s kn st w' ∧ Ch Z w w'
end Go.Proofs.YtpdnonlelocfbaaGreatDoor
/- Package check: refuse, take, isUnknown, know, pop, popRef, popRefs, local. -/
namespace Go.Proofs.YtpdnonlelocfbaaGreatDoor
open Go.RowKit Go Go.Maps
set_option linter.unusedVariables false
section
variable {E : Chk} {Z : Nat → Prop} {wT : World} {c : Nat} {F : Fx} {N : Nat} {s : Cs} {kn : Bool} {st : Value} {w : World}
set_option maxHeartbeats 1000000 in
set_option maxRecDepth 100000 in
theorem refuse_c (HC : Hid (Ck E Z wT c F N s kn st w)) (b : Bool) (x : Int) :
    Calls Tryz.prog 165 #[.pointer (some ⟨c, 0, none⟩), .bool b, .int .i64 x] w (CkOut E Z wT c F N (s.refuse b x) kn st w (.returned (.tuple #[]))) := by
  obtain ⟨vl, vs, hc, _⟩ := HC.out.it
  have c23 := heap_cell (i := 23) hc rfl
  have z23 := heap_thaw hc 23
  clear hc
  cases b with
  | false =>
    have hr : s.refuse false x = s := by simp [Cs.refuse]
    rw [hr]
    go_enter Tryz.func165, Tryz.ntmps165
    go_wp2_with fail
    go_end0
    exact ⟨rfl, HC.out, Ch.refl _ _⟩
  | true =>
    by_cases h0 : s.flt = 0
    · have hr : s.refuse true x = { s with flt := x } := by simp [Cs.refuse, h0]
      rw [hr]
      have HF := lhid (HC.out.fault x)
      rw [h0] at c23
      clear hr h0
      go_enter Tryz.func165, Tryz.ntmps165
      go_wp2_with fail
      go_end0
      exact ⟨rfl, HF.out⟩
    · have hr : s.refuse true x = s := by simp [Cs.refuse, h0]
      rw [hr]
      clear hr
      go_enter Tryz.func165, Tryz.ntmps165
      go_wp2_with fail
      go_end0
      exact ⟨rfl, HC.out, Ch.refl _ _⟩
theorem set_cell_ne {w : World} {c i j : Nat} (h : j ≠ i) (u : Value) : (w.setCell ⟨c, i, none⟩ u).cell? ⟨c, j, none⟩ = w.cell? ⟨c, j, none⟩ := by
  exact World.cell?_setCell_other w _ _ _ (fun e => h (by injection e with _ e _; exact e.symm))
/-- .. and it writes in its own block alone. -/
theorem refuse_k (HC : Hid (Ck E Z wT c F N s kn st w)) {b b' : Bool} (hb : b = b') (x : Int) :
    Calls Tryz.prog 165 #[.pointer (some ⟨c, 0, none⟩), .bool b, .int .i64 x] w fun e w' => CkOut E Z wT c F N (s.refuse b' x) kn st w (.returned (.tuple #[])) e w' ∧ Ch (fun i => i = c) w w' ∧ ∀ j, j ≠ 23 → w'.cell? ⟨c, j, none⟩ = w.cell? ⟨c, j, none⟩ := by
  subst hb
  obtain ⟨vl, vs, hc, _⟩ := HC.out.it
  have c23 := heap_cell (i := 23) hc rfl
  have z23 := heap_thaw hc 23
  clear hc
  cases b with
  | false =>
    have hr : s.refuse false x = s := by simp [Cs.refuse]
    rw [hr]
    go_enter Tryz.func165, Tryz.ntmps165
    go_wp2_with fail
    go_end0
    exact ⟨⟨rfl, HC.out, Ch.refl _ _⟩, Ch.refl _ _, fun _ _ => rfl⟩
  | true =>
    by_cases h0 : s.flt = 0
    · have hr : s.refuse true x = { s with flt := x } := by simp [Cs.refuse, h0]
      rw [hr]
      have HF := lhid (HC.out.fault x)
      rw [h0] at c23
      clear hr h0
      go_enter Tryz.func165, Tryz.ntmps165
      go_wp2_with fail
      go_end0
      exact ⟨⟨rfl, HF.out⟩, Ch.set (X := fun i => i = c) (Ch.refl _ _) (p := ⟨c, 23, none⟩) (fun _ => rfl) _, fun j hj => set_cell_ne hj _⟩
    · have hr : s.refuse true x = s := by simp [Cs.refuse, h0]
      rw [hr]
      clear hr
      go_enter Tryz.func165, Tryz.ntmps165
      go_wp2_with fail
      go_end0
      exact ⟨⟨rfl, HC.out, Ch.refl _ _⟩, Ch.refl _ _, fun _ _ => rfl⟩
/-- .. with the test as it was reckoned. -/
theorem refuse_b (HC : Hid (Ck E Z wT c F N s kn st w)) {b b' : Bool} (hb : b = b') (x : Int) :
    Calls Tryz.prog 165 #[.pointer (some ⟨c, 0, none⟩), .bool b, .int .i64 x] w (CkOut E Z wT c F N (s.refuse b' x) kn st w (.returned (.tuple #[]))) := by
  subst hb
  exact refuse_c HC b x
/-- A shorter stack on the same row. -/
theorem ow_pop {Z : Nat → Prop} {T : Nat} {w : World} {A : Option Addr} {n cap : Nat} {l : List Bs} (h : Ow Z T w (.slice A n cap) l) (hn : l ≠ []) : Ow Z T w (.slice A (n - 1) cap) l.dropLast ∧ n ≤ cap := by
  obtain ⟨l', x, rfl⟩ : ∃ l' x, l = l' ++ [x] := ⟨l.dropLast, l.getLast hn, (List.dropLast_concat_getLast hn).symm⟩
  obtain ⟨g, cap', hv, _, _⟩ := h.row.form (by simp)
  have hr := h.row
  rcases hr.2 with ⟨hv2, _⟩ | ⟨g2, cap2, cur2, hv2, _, _, hcap, _⟩
  · rw [hv2] at hv; cases hv
  rw [hv] at hv2
  injection hv with h1 h2 h3
  injection hv2 with _ _ h4
  subst h1 h3 h4
  have hn' : n = l'.length + 1 := by rw [h2]; simp
  subst hn'
  rw [List.dropLast_concat]
  refine ⟨⟨?_, h.zone, fun t ht => h.small t (by simp [ht])⟩, by simpa using hcap⟩
  rw [lnV_app, List.length_append, List.length_singleton] at hr
  exact ownsRow_pop (by simp [lnV_len]) hr
set_option maxHeartbeats 2000000 in
set_option maxRecDepth 100000 in
theorem take_c (HC : Hid (Ck E Z wT c F N s kn st w)) :
    Calls Tryz.prog 214 #[.pointer (some ⟨c, 0, none⟩)] w (CkOut E Z wT c F N s.take.2 kn st w (.returned (.string (tx s.take.1)))) := by
  obtain ⟨vl, vs, hc, hl, hs, hd⟩ := HC.out.it
  obtain ⟨A, cap, rfl⟩ := own_shape hs.row
  have c21 := heap_cell (i := 21) hc rfl
  have hmax := own_max hs.row
  unfold maxLen at hmax
  clear hc hl hs hd
  obtain ⟨b, hb⟩ : ∃ b, s.stk.isEmpty = b := ⟨_, rfl⟩
  have hbl : decide ((s.stk.length : Int) - 1 < 0) = b := by
    rw [← hb, Bool.eq_iff_iff, decide_eq_true_iff, List.isEmpty_iff]
    cases s.stk with
    | nil => simp
    | cons a r => simp
  have HB := lhid hb
  have HBL := lhid hbl
  clear hb hbl
  go_enter Tryz.func214, Tryz.ntmps214
  go_wp2_with fail
  with_reducible refine (refuse_b HC HBL.out 61).mono ?_
  rintro e w1 ⟨rfl, hk1, hch1⟩
  have HK1 := lhid hk1
  have HCH1 := lhid hch1
  have c23 := hk1.flt
  obtain ⟨vl, vs, hc, hl, hs, hd⟩ := hk1.it
  have hst := (refuse_cases s b 61).2
  have hTK : s.take = if (s.refuse b 61).flt = 0 then ((s.refuse b 61).stk.getLastD [], { (s.refuse b 61) with stk := (s.refuse b 61).stk.dropLast }) else ([], s.refuse b 61) := by
    unfold Cs.take; rw [HB.out]
  have hbz : (s.refuse b 61).flt = 0 → b = false := fun h => (refuse_none (by decide) h).2
  generalize s.refuse b 61 = s1 at *
  rw [hst] at hs
  have HTK := lhid hTK
  have HBZ := lhid hbz
  have HST := lhid hst
  clear hk1 hch1 hTK hbz hst c21
  by_cases h0 : s1.flt = 0
  · have hne : s.stk ≠ [] := by
      have := HBZ.out h0
      rw [← HB.out] at this
      intro e
      rw [e] at this
      cases this
    have hpos : 0 < s.stk.length := List.length_pos_iff.2 hne
    obtain ⟨A, cap, rfl⟩ := own_shape hs.row
    have c21 := heap_cell (i := 21) hc rfl
    have z21 := heap_thaw hc 21
    have hgl : s.stk[s.stk.length - 1]? = some (s.stk.getLastD []) := by
      rw [List.getLastD_eq_getLast?, List.getLast?_eq_getElem?, List.getElem?_eq_getElem (by omega)]; rfl
    obtain ⟨g, rfl, c0⟩ := hs.cell hgl
    obtain ⟨hs2, hcap⟩ := ow_pop hs hne
    have hK := HK1.out.stack (vl := vl) (vs' := .slice (some ⟨g, 0, none⟩) s.stk.length cap) hc (u := .slice (some ⟨g, 0, none⟩) (s.stk.length - 1) cap) hl hs2 (fun k hk => hd k hk)
    have HK := lhid hK
    have hT : s.take = (s.stk.getLastD [], { s1 with stk := s.stk.dropLast }) := by rw [HTK.out, if_pos h0, HST.out]
    obtain ⟨x, hx⟩ : ∃ x, s.stk.getLastD [] = x := ⟨_, rfl⟩
    rw [hx] at c0 hT
    have HT := lhid hT
    rw [h0] at c23
    obtain ⟨m, hm⟩ : ∃ m, s.stk.length = m + 1 := ⟨s.stk.length - 1, by omega⟩
    rw [hm] at c0 c21 HK HBL hmax hcap
    rw [show m + 1 - 1 = m by omega] at c0 HK
    rw [hm]
    clear hc hl hs hd hs2 hK hT hgl hne hpos h0 hm hx
    go_wp2_with fail
    go_ret
    rw [HT.out]
    exact ⟨rfl, HK.out.1, HCH1.out.tr HK.out.2⟩
  · have hT : s.take = ([], s1) := by rw [HTK.out, if_neg h0]
    have HT := lhid hT
    clear hc hl hs hd hT
    go_wp2_with fail
    go_ret
    rw [HT.out]
    exact ⟨rfl, HK1.out, HCH1.out⟩
end
end Go.Proofs.YtpdnonlelocfbaaGreatDoor
/- Package check: isUnknown, know, pop, popRef, popRefs, local. -/
namespace Go.Proofs.YtpdnonlelocfbaaGreatDoor
open Go.RowKit Go Go.Maps
set_option linter.unusedVariables false
section
variable {E : Chk} {Z : Nat → Prop} {wT : World} {c : Nat} {F : Fx} {N : Nat} {s : Cs} {kn : Bool} {st : Value} {w : World}
theorem ckOut_tr {r e : Ending} {s1 s2 : Cs} {a b d : World} (h : CkOut E Z wT c F N s2 kn st b r e d) (hc : Ch Z a b) : CkOut E Z wT c F N s2 kn st a r e d := ⟨h.1, h.2.1, hc.tr h.2.2⟩
set_option maxHeartbeats 1000000 in
set_option maxRecDepth 100000 in
theorem unknown_c (HE : Hid (Env E F.tb wT)) (HC : Hid (Ck E Z wT c F N s kn st w)) (x : Bs) (hx : x.length ≤ ML) :
    Calls Tryz.prog 97 #[.pointer (some ⟨c, 0, none⟩), .string (tx x)] w (CkOut E Z wT c F N s kn st w (.returned (.bool (!E.known x)))) := by
  have c0 := HC.out.cell
  have HS := lhid HC.out.std
  go_enter Tryz.func97, Tryz.ntmps97
  go_wp2_with fail
  with_reducible refine (HE.out.known x _ hx HS.out).mono ?_
  rintro e w1 ⟨rfl, hb1⟩
  have HB := lhid hb1
  clear hb1
  go_wp2_with fail
  go_ret
  exact ⟨rfl, HC.out.below HB.out, Ch.of HB.out⟩
set_option maxHeartbeats 1000000 in
set_option maxRecDepth 100000 in
theorem know_c (HE : Hid (Env E F.tb wT)) (HC : Hid (Ck E Z wT c F N s kn st w)) (x : Bs) (hx : x.length ≤ ML) :
    Calls Tryz.prog 219 #[.pointer (some ⟨c, 0, none⟩), .string (tx x)] w (CkOut E Z wT c F N (s.know E x) kn st w (.returned (.tuple #[]))) := by
  go_enter Tryz.func219, Tryz.ntmps219
  go_wp2_with fail
  with_reducible refine (unknown_c HE HC x hx).mono ?_
  rintro e w1 ⟨rfl, hk1, hc1⟩
  have HK1 := lhid hk1
  have HC1 := lhid hc1
  clear hk1 hc1
  go_wp2_with fail
  with_reducible refine (refuse_c HK1 _ 50).mono ?_
  rintro e w2 ⟨rfl, hk2, hc2⟩
  have HK2 := lhid hk2
  have HC2 := lhid hc2
  clear hk2 hc2
  go_wp2_with fail
  go_end0
  exact ⟨rfl, HK2.out, HC1.out.tr HC2.out⟩
set_option maxHeartbeats 2000000 in
set_option maxRecDepth 100000 in
theorem pop_c (HE : Hid (Env E F.tb wT)) (HC : Hid (Ck E Z wT c F N s kn st w)) (x : Bs) (hx : x.length ≤ ML) :
    Calls Tryz.prog 211 #[.pointer (some ⟨c, 0, none⟩), .string (tx x)] w (CkOut E Z wT c F N (s.pop E x) kn st w (.returned (.tuple #[]))) := by
  have HD := lhid HC.out.drew
  have hT := HC.out.smallT
  go_enter Tryz.func211, Tryz.ntmps211
  go_wp2_with fail
  go_region_held3 (fun w' => w'.cell? ⟨c, 0, none⟩ = some (.pointer (some ⟨F.tb, 0, none⟩))) (first | exact HC.out.cell | exact HD.out.cell | exact hk1.cell | exact hk2.cell | exact hk3.cell) (first
    | ((with_reducible refine (take_c HD).mono ?_); rintro e w1 ⟨rfl, hk1, hc1⟩)
    | ((with_reducible refine (HE.out.fits _ x _ hT hx hk1.std).mono ?_); rintro e w2 ⟨rfl, hb2⟩; have hk2 := hk1.below hb2)
    | ((with_reducible refine (refuse_c (lhid hk2) _ 62).mono ?_); rintro e w3 ⟨rfl, hk3, hc3⟩))
  all_goals go_end0
  all_goals exact ⟨rfl, hk3, ((Ch.refl Z w).drew.tr hc1).tr ((Ch.of hb2).tr hc3)⟩
set_option maxHeartbeats 1000000 in
set_option maxRecDepth 100000 in
theorem popRef_c (HE : Hid (Env E F.tb wT)) (HC : Hid (Ck E Z wT c F N s kn st w)) :
    Calls Tryz.prog 213 #[.pointer (some ⟨c, 0, none⟩)] w (CkOut E Z wT c F N (s.popRef E).2 kn st w (.returned (.string (tx (s.popRef E).1)))) := by
  go_enter Tryz.func213, Tryz.ntmps213
  go_wp2_with fail
  with_reducible refine (take_c HC).mono ?_
  rintro e w1 ⟨rfl, hk1, hc1⟩
  have HK1 := lhid hk1
  have HC1 := lhid hc1
  clear hk1 hc1
  go_wp2_with fail
  with_reducible refine (HE.out.kind _ _).mono ?_
  rintro e w2 ⟨rfl, rfl⟩
  go_wp2_with fail
  with_reducible refine (refuse_c HK1 _ 62).mono ?_
  rintro e w2 ⟨rfl, hk2, hc2⟩
  have HK2 := lhid hk2
  have HC2 := lhid hc2
  clear hk2 hc2
  go_wp2_with fail
  go_ret
  exact ⟨rfl, HK2.out, HC1.out.tr HC2.out⟩
theorem Ck.smallP (h : Ck E Z wT c F N s kn st w) : (s.popRef E).1.length ≤ ML := h.smallT
set_option maxHeartbeats 2000000 in
set_option maxRecDepth 100000 in
theorem popRefs_c (HE : Hid (Env E F.tb wT)) (HC : Hid (Ck E Z wT c F N s kn st w)) :
    Calls Tryz.prog 212 #[.pointer (some ⟨c, 0, none⟩)] w (CkOut E Z wT c F N (s.popRefs E).2 kn st w (.returned (.string (tx (s.popRefs E).1)))) := by
  go_enter Tryz.func212, Tryz.ntmps212
  go_wp2_with fail
  with_reducible refine (popRef_c HE HC).mono ?_
  rintro e w1 ⟨rfl, hk1, hc1⟩
  have HK1 := lhid hk1
  have HC1 := lhid hc1
  clear hk1 hc1
  obtain ⟨x, hx⟩ : ∃ x, (s.popRef E).1 = x := ⟨_, rfl⟩
  have HX := lhid hx
  rw [hx]
  by_cases hN : x = [78]
  · have d0 : ((tx x).toList == [78]) = true := by rw [tx_toL, hN]; rfl
    have hr : s.popRefs E = ([78], (s.popRef E).2) := by unfold Cs.popRefs; rw [hx, if_pos hN]
    have HR := lhid hr
    clear hr hN hx
    go_wp2_with fail
    go_ret
    rw [HR.out]
    exact ⟨rfl, HK1.out, HC1.out⟩
  · have d0 : ((tx x).toList == [78]) = false := by rw [tx_toL, beq_eq_false_iff_ne]; exact hN
    have hr : s.popRefs E = (E.elem x, (s.popRef E).2.refuse (E.kind (E.elem x) != 3) 62) := by unfold Cs.popRefs; rw [hx, if_neg hN]
    have HR := lhid hr
    clear hr hN hx
    go_wp2_with fail
    with_reducible refine (HE.out.elem x _).mono ?_
    rintro e w2 ⟨rfl, rfl⟩
    go_wp2_with fail
    with_reducible refine (HE.out.kind _ _).mono ?_
    rintro e w2 ⟨rfl, rfl⟩
    go_wp2_with fail
    with_reducible refine (refuse_c HK1 _ 62).mono ?_
    rintro e w2 ⟨rfl, hk2, hc2⟩
    have HK2 := lhid hk2
    have HC2 := lhid hc2
    clear hk2 hc2
    go_wp2_with fail
    go_ret
    rw [HR.out]
    exact ⟨rfl, HK2.out, HC1.out.tr HC2.out⟩
set_option maxHeartbeats 2000000 in
set_option maxRecDepth 100000 in
theorem local_c (HC : Hid (Ck E Z wT c F N s kn st w)) (n : Nat) (hn : n ≤ 4294967296) :
    Calls Tryz.prog 166 #[.pointer (some ⟨c, 0, none⟩), .int .i64 n] w (CkOut E Z wT c F N (s.local n).2 kn st w (.returned (.string (tx (s.local n).1)))) := by
  obtain ⟨vl, vs, hc, hl, hs, hd⟩ := HC.out.it
  obtain ⟨A, cap, rfl⟩ := own_shape hl.row
  have c20 := heap_cell (i := 20) hc rfl
  have hmax := own_max hl.row
  unfold maxLen at hmax
  clear hc hl hs hd
  obtain ⟨b, hb⟩ : ∃ b, decide (s.loc.length ≤ n) = b := ⟨_, rfl⟩
  have HB := lhid hb
  clear hb
  go_enter Tryz.func166, Tryz.ntmps166
  go_wp2_with fail
  with_reducible refine (refuse_b HC HB.out 61).mono ?_
  rintro e w1 ⟨rfl, hk1, hch1⟩
  have HK1 := lhid hk1
  have HCH1 := lhid hch1
  have c23 := hk1.flt
  obtain ⟨vl, vs, hc, hl, hs, hd⟩ := hk1.it
  have hst := (refuse_cases s b 61).1
  have hTK : s.local n = if (s.refuse b 61).flt = 0 then ((s.refuse b 61).loc.getD n [], s.refuse b 61) else ([], s.refuse b 61) := by
    unfold Cs.local; rw [HB.out]
  have hbz : (s.refuse b 61).flt = 0 → b = false := fun h => (refuse_none (by decide) h).2
  generalize s.refuse b 61 = s1 at *
  rw [hst] at hl
  have HTK := lhid hTK
  have HBZ := lhid hbz
  have HST := lhid hst
  clear hk1 hch1 hTK hbz hst c20
  by_cases h0 : s1.flt = 0
  · have hlt : n < s.loc.length := by
      have := HBZ.out h0
      rw [← HB.out, decide_eq_false_iff_not] at this
      omega
    obtain ⟨A, cap, rfl⟩ := own_shape hl.row
    have c20 := heap_cell (i := 20) hc rfl
    obtain ⟨x, hx⟩ : ∃ x, s.loc.getD n [] = x := ⟨_, rfl⟩
    have hgl : s.loc[n]? = some x := by rw [← hx]; simp [List.getD, List.getElem?_eq_getElem hlt]
    obtain ⟨g, rfl, c0⟩ := hl.cell hgl
    have hT : s.local n = (x, s1) := by rw [HTK.out, if_pos h0, HST.out, hx]
    have HT := lhid hT
    rw [h0] at c23
    have k1 : (n : Int) < s.loc.length := by omega
    clear hc hl hs hd hT hgl hx h0
    go_wp2_with fail
    go_ret
    rw [HT.out]
    exact ⟨rfl, HK1.out, HCH1.out⟩
  · have hT : s.local n = ([], s1) := by rw [HTK.out, if_neg h0]
    have HT := lhid hT
    clear hc hl hs hd hT
    go_wp2_with fail
    go_ret
    rw [HT.out]
    exact ⟨rfl, HK1.out, HCH1.out⟩
end
end Go.Proofs.YtpdnonlelocfbaaGreatDoor
/- slices.Backward at texts: its contract for a range over it. -/
namespace Go.Proofs.YtpdnonlelocfbaaGreatDoor
open Go.RowKit Go Go.Maps
attribute [local go_sem] Oper.semAt_some
set_option linter.unusedVariables false
abbrev BwT := { x : Int × Bs // x.2.length ≤ ML }
def bwE (x : BwT) : Array Value := #[.int .i64 x.1.1, .string (tx x.1.2)]
theorem backward_c (A : Option Addr) (n cap : Nat) (w : World) : Calls Tryz.prog 221 #[.slice A n cap] w fun e w' => e = .returned (.func (.func 242) #[] #[.pointer (some ⟨w.heap.size, 0, none⟩)]) ∧ w' = w.alloc (.cells #[.slice A n cap] 34) := by
  go_enter Tryz.func221, Tryz.ntmps221
  go_wp2_with fail
  go_ret
  exact ⟨rfl, rfl⟩
/-- The blocks that the iterator reads. -/
def KpB (p b : Nat) (W W' : World) : Prop := ∀ k, k = p ∨ k = b → W'.heap[k]? = W.heap[k]?
set_option maxRecDepth 100000 in
set_option maxHeartbeats 2000000 in
theorem backward1_in (F : Fence) (n : Nat) (h7 : F.fn 242) (hro : F.round = none) (hn : 1 ≤ n) (l Bs0 g cap : Nat) (zs : List Bs) (hz : ∀ t ∈ zs, t.length ≤ ML) (hl : zs.length ≤ 20) (J Jx : List BwT → World → Prop)
    (hY : ∀ pre x W, J pre W → pre.length < zs.length → YieldAt F (n - 1) Tryz.prog l (bwE x) W fun e W' =>
      (e = .returned (.bool true) ∧ J (pre ++ [x]) W' ∧ KpB g Bs0 W W') ∨ (e = .returned (.bool false) ∧ Jx (pre ++ [x]) W'))
    (W : World) (hBs : W.cell? ⟨Bs0, 0, none⟩ = some (.slice (some ⟨g, 0, none⟩) zs.length cap)) (hc : ∀ j t, zs[j]? = some t → W.cell? ⟨g, j, none⟩ = some (.string (tx t))) (h0 : J [] W) :
    CallsIn F n Tryz.prog 242 #[.func (.yield l) #[] #[], .pointer (some ⟨Bs0, 0, none⟩)] W fun e W' => (∃ v, e = .returned v) ∧
      ((∃ ys : List BwT, ys.map (fun x => x.1.2) = zs.reverse ∧ J ys W') ∨ (∃ pre, True ∧ Jx pre W')) := by
  refine callsIn_of_wp Tryz.func242 rfl h7 ?_ hro
  simp only [Tryz.ntmps242, List.size_toArray, List.length_cons, List.length_nil, Nat.reduceAdd, Nat.reduceSub, Array.replicate_succ, Array.replicate_zero, List.push_toArray, List.append_toArray, List.nil_append, List.cons_append]
  gi_wp2
  gi_loopw [3] (fun i wr => ∃ m : Nat, m ≤ zs.length ∧ i = .int .i64 ((m : Int) - 1) ∧ ∃ pre : List BwT, Hid (pre.map (fun x => x.1.2) = (zs.drop m).reverse) ∧ Hid (pre.length = zs.length - m) ∧ J pre wr ∧ Hid (KpB g Bs0 W wr))
    (fun i _ => (intOf i + 1).toNat)
  case atStart => exact ⟨zs.length, Nat.le_refl _, by simp, [], lhid (by simp), lhid (by simp), h0, lhid (fun _ _ => rfl)⟩
  case round =>
    obtain ⟨m, hm, rfl, pre, HP, HL, hJs, HKp⟩ := hrel
    cases m with
    | zero =>
      have HP2 : Hid (pre.map (fun x => x.1.2) = zs.reverse) := lhid (by rw [HP.out]; rfl)
      gi_wp2
      go_end0
      exact ⟨⟨_, rfl⟩, .inl ⟨pre, HP2.out, hJs⟩⟩
    | succ m =>
      obtain ⟨t, ht⟩ : ∃ t, zs[m]? = some t := ⟨_, List.getElem?_eq_getElem (by omega)⟩
      have htl := hz t (List.mem_of_getElem? ht)
      have hcx : wr.cell? ⟨g, m, none⟩ = some (.string (tx t)) := (cell_heap (HKp.out g (.inl rfl)) m).trans (hc m t ht)
      have hbx : wr.cell? ⟨Bs0, 0, none⟩ = some (.slice (some ⟨g, 0, none⟩) zs.length cap) := (cell_heap (HKp.out Bs0 (.inr rfl)) 0).trans hBs
      obtain ⟨fn, tmps, assign, body, hy, hR⟩ := hY pre ⟨((m : Int), t), htl⟩ wr hJs (by rw [HL.out]; omega)
      dsimp only [bwE] at hy
      have HN : Hid ((pre ++ [(⟨((m : Int), t), htl⟩ : BwT)]).map (fun x : BwT => x.1.2) = (zs.drop m).reverse) := lhid (by
        rw [List.map_append, HP.out, List.drop_eq_getElem_cons (l := zs) (i := m) (by omega)]
        have : zs[m] = t := by have := List.getElem?_eq_getElem (l := zs) (i := m) (by omega); rw [ht] at this; injection this with this; exact this.symm
        simp [this])
      have HN2 : Hid ((pre ++ [(⟨((m : Int), t), htl⟩ : BwT)]).length = zs.length - m) := lhid (by rw [List.length_append, HL.out, List.length_singleton]; omega)
      have k3 : (m : Int) < zs.length := by omega
      clear ht
      gi_wp2
      refine hR.mono ?_
      rintro e W3 (⟨rfl, hJ3, hk3⟩ | ⟨rfl, hJx3⟩)
      · have HK3 : Hid (KpB g Bs0 W W3) := lhid (fun k hk => (hk3 k hk).trans (HKp.out k hk))
        gi_wp2
        go_roundw
        case rel => exact ⟨m, by omega, by simp, _, HN, HN2, hJ3, HK3⟩
        case measure => simp [intOf]
      · gi_wp2
        refine bodyPost_ret (results_none rfl _ _ _) rfl ?_
        exact ⟨⟨_, rfl⟩, .inr ⟨_, trivial, hJx3⟩⟩
set_option maxRecDepth 100000 in
set_option maxHeartbeats 1000000 in
/-- .. at the nil slice: no round. -/
theorem backward1_nil (F : Fence) (n : Nat) (h7 : F.fn 242) (hro : F.round = none) (l Bs0 : Nat) (J : List BwT → World → Prop) (W : World) (hBs : W.cell? ⟨Bs0, 0, none⟩ = some (.slice none 0 0)) (h0 : J [] W) :
    CallsIn F n Tryz.prog 242 #[.func (.yield l) #[] #[], .pointer (some ⟨Bs0, 0, none⟩)] W fun e W' => (∃ v, e = .returned v) ∧ J [] W' := by
  refine callsIn_of_wp Tryz.func242 rfl h7 ?_ hro
  simp only [Tryz.ntmps242, List.size_toArray, List.length_cons, List.length_nil, Nat.reduceAdd, Nat.reduceSub, Array.replicate_succ, Array.replicate_zero, List.push_toArray, List.append_toArray, List.nil_append, List.cons_append]
  gi_wp2
  gi_loopw [3] (fun i wr => i = .int .i64 (-1) ∧ J [] wr) (fun _ _ => 0)
  case atStart => exact ⟨rfl, h0⟩
  case round =>
    obtain ⟨rfl, hJs⟩ := hrel
    gi_wp2
    go_end0
    exact ⟨⟨_, rfl⟩, hJs⟩
/-- slices.Backward(s) hands back a value that yields s from its end on. -/
theorem backward_stops (F : Fence) (n : Nat) (h7 : F.fn 242) (hro : F.round = none) (hn : 1 ≤ n) (Bs0 g : Nat) (v : Value) (zs : List Bs) (hz : ∀ t ∈ zs, t.length ≤ ML) (hl : zs.length ≤ 20) (w : World) (hBl : Bs0 < w.heap.size)
    (hc : w.cell? ⟨Bs0, 0, none⟩ = some v) (hI : (v = .slice none 0 0 ∧ zs = []) ∨ ∃ cap, v = .slice (some ⟨g, 0, none⟩) zs.length cap ∧ g < w.heap.size ∧ ∀ j t, zs[j]? = some t → w.cell? ⟨g, j, none⟩ = some (.string (tx t))) :
    SeqStopsK F n Tryz.prog 242 #[.pointer (some ⟨Bs0, 0, none⟩)] bwE (KpB g Bs0) (fun ys => ys.map (fun x => x.1.2) = zs.reverse) (fun _ => True) zs.length w := fun l J Jx W hW _ _ hY h0 => by
  have hc' := (hW.cell (p := ⟨Bs0, 0, none⟩) hBl).trans hc
  rcases hI with ⟨rfl, rfl⟩ | ⟨cap, rfl, hg, hcs⟩
  · exact (backward1_nil F n h7 hro l Bs0 J W hc' h0).mono fun e W' ⟨he, hj⟩ => ⟨he, .inl ⟨[], rfl, hj⟩⟩
  · exact backward1_in F n h7 hro hn l Bs0 g cap zs hz hl J Jx hY W hc' (fun j t ht => (hW.cell (p := ⟨g, j, none⟩) hg).trans (hcs j t ht)) h0
end Go.Proofs.YtpdnonlelocfbaaGreatDoor
