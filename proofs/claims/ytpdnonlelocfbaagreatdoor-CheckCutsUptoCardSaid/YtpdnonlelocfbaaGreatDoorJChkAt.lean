/- The laws of check: a method that lies in a box of the law's own, and is changed there. -/
import Derived.Test.YtpdnonlelocfbaaGreatDoorM22
import Derived.Test.YtpdnonlelocfbaaGreatDoorM16
import Derived.Deep.AppendSrc
import Derived.Deep.RegionLaw
namespace Go.Proofs.YtpdnonlelocfbaaGreatDoor
open Go.RowKit Go Go.Maps
set_option linter.unusedVariables false
theorem mv_map {w : World} {b n : Nat} {f : Bs → Option Value} (h : MV w b n f) : ∃ es clock, w.heap[b]? = some (.map es clock) := by
  obtain ⟨D, ⟨es, clock, h1, h2⟩, h3⟩ := h
  exact ⟨_, _, h1⟩
theorem TreeOK.set {B : Nat} {w : World} {tb : Nat} {L : List ClI} (h : TreeOK B w tb L) {b : Nat} (hb : b < B) {c : Array Value} {t : TypeId} {f : Nat × Nat} (hc : w.heap[b]? = some (.cells c t f)) (i : Nat) (u : Value) : TreeOK B (w.setCell ⟨b, i, none⟩ u) tb L := by
  have hch : Ch (fun k => k = b) w (w.setCell ⟨b, i, none⟩ u) := (Ch.refl (fun k => k = b) w).set (p := ⟨b, i, none⟩) (fun _ => rfl) u
  obtain ⟨⟨cb, ab, n, v, h1, h2, h3, h4⟩, h6⟩ := h
  have hq : ∀ g, B ≤ g → ¬ g = b := fun g hg => by omega
  have hn : ∀ {a n : Nat} {f : Bs → Option Value}, MV w a n f → ¬ a = b := fun hm e => by
    obtain ⟨es, cl, h⟩ := mv_map hm
    rw [e, hc] at h
    injection h with h
    cases h
  refine ⟨⟨cb, ab, n, v, h1.ch hch (hq _ h6), h2.ch (keptX_st _) hch hq, ?_, ?_⟩, h6⟩
  · obtain ⟨f, h5, _⟩ := id h3
    exact h3.ch hch (hn h5) hq
  · obtain ⟨f, h5, _⟩ := id h4
    exact h4.ch hch (hn h5) hq
/-- A method in a box, a class in another, and the tree. -/
structure At (l : List ClI) (X : ClI) (xs : List Value) (S0 bc B tb : Nat) (W : World) (m : MeI) (ms : List Value) : Prop where
  box : W.heap[S0]? = some (.cells ms.toArray 27 (0, 0))
  cls : W.heap[bc]? = some (.cells xs.toArray 39 (0, 0))
  tree : TreeOK B W tb (ownL ++ l)
  meth : MeE (· ≠ S0) W m ms
  clE : ClE (· ≠ S0) W X xs
  lt : S0 < B
  ne : bc ≠ S0
section
variable {l : List ClI} {X : ClI} {xs ms : List Value} {S0 bc B tb : Nat} {W W' : World} {m : MeI}
theorem At.below (h : At l X xs S0 bc B tb W m ms) (hb : Below W.heap.size W W') : At l X xs S0 bc B tb W' m ms :=
  ⟨(hb.block _ (heap_lt h.box)).trans h.box, (hb.block _ (heap_lt h.cls)).trans h.cls, h.tree.below hb, keptX_me _ _ _ _ _ (fun g _ hl => hb.block g hl) h.meth, keptX_cl _ _ _ _ _ (fun g _ hl => hb.block g hl) h.clE, h.lt, h.ne⟩
theorem At.put (h : At l X xs S0 bc B tb W m ms) {i : Nat} {u : Value} {m' : MeI} {ms' : List Value} (hs : ms.toArray.setIfInBounds i u = ms'.toArray) (hm : MeE (· ≠ S0) W m' ms') : At l X xs S0 bc B tb (W.setCell ⟨S0, i, none⟩ u) m' ms' := by
  have hch : Ch (fun k => k = S0) W (W.setCell ⟨S0, i, none⟩ u) := (Ch.refl (fun k => k = S0) W).set (p := ⟨S0, i, none⟩) (fun _ => rfl) u
  have h1 := heap_set (i := i) h.box u
  rw [hs] at h1
  exact ⟨h1, (hch.block _ (heap_lt h.cls) h.ne).trans h.cls, h.tree.set h.lt h.box i u, keptX_me _ _ _ _ _ (fun g hg hl => hch.block g hl hg) hm, keptX_cl _ _ _ _ _ (fun g hg hl => hch.block g hl hg) h.clE, h.lt, h.ne⟩
theorem At.call (h : At l X xs S0 bc B tb W m ms) (hO : LOK (ownL ++ l)) (hm : l.any misB = false) (hS : MeS m) (hcap : ∀ A n cap, ms[5]? = some (.slice A n cap) → n ≤ cap ∧ cap ≤ maxLen) (hQ : ClQ X) (hf : ∃ c, findC (ownL ++ l) X.name = some c) {r : Mt} (hr : metR (ownL ++ l) X m = r) :
    Calls Tryz.prog 15 #[.pointer (some ⟨tb, 0, none⟩), .agg xs.toArray, .agg ms.toArray] W (MtOut W r) := by
  rw [← hr]
  exact method_e h.tree hO hm (clE_mono (fun _ _ _ => trivial) _ _ h.clE) (meE_mono (fun _ _ _ => trivial) _ _ h.meth) hS hcap (by have := hQ.2.1; exact this) (fun c hc => by
    have := hQ.2.2.2.2.1.1 c hc
    have h1 := this.2.2.1
    have h2 := this.2.2.2.2
    unfold T20 at h1 h2
    omega) (fun _ => hf)
end
theorem meE_stack {P : Nat → Prop} {W : World} {m : MeI} {ms : List Value} (h : MeE P W m ms) (s : Int) : MeE P W { m with stack := s } (ms.set 3 (.int .i64 s)) := by
  obtain ⟨a, b, d, rfl, q⟩ := h
  exact ⟨a, b, d, rfl, q⟩
theorem meE_code {P : Nat → Prop} {W : World} {m : MeI} {ms : List Value} (h : MeE P W m ms) {L : Bs} {v : Value} (hv : RdX P 1 ByE W v L) : MeE P W { m with code := L } (ms.set 5 v) := by
  obtain ⟨a, b, d, rfl, q⟩ := h
  exact ⟨v, b, d, rfl, hv, q.2⟩
/-- A byte behind code that fills its slice. -/
theorem app_full {W : World} {A : Option Addr} {L : Bs} (h : RdX Tru 1 ByE W (.slice A L.length L.length) L) (hl : L.length ≤ 1048576) {g : Nat} (hg : W.cell? ⟨g, 0, none⟩ = some (.int .u8 0)) (ty : TypeId) :
    ∃ cap W', (Builtin.append_ #[23, 23] ty #[.slice A L.length L.length, .slice (some ⟨g, 0, none⟩) 1 1]).run Tryz.prog W = .ok (.slice (some ⟨W.heap.size, 0, none⟩) (L.length + 1) cap) W' ∧ Below W.heap.size W W' ∧ RdX (fun k => k = W.heap.size) 1 ByE W' (.slice (some ⟨W.heap.size, 0, none⟩) (L ++ [0]).length cap) (L ++ [0]) ∧ L.length + 1 ≤ cap ∧ cap ≤ maxLen := by
  obtain ⟨i, hi, hz, hsz, hby⟩ := info_parts (show (Tryz.prog.info? 5).map (fun i => (i.zero, i.size, i.bytes)) = some (some (.int .u8 0), 1, 1) by kernel_rfl)
  have hold : ∃ olds : List Value, (Builtin.firstCells i.size L.length (.slice A L.length L.length)).run Tryz.prog W.drew = .ok olds.toArray W.drew ∧ RowsE 1 (ByE W) L olds := by
    cases A with
    | none =>
      obtain ⟨rfl, _, _⟩ := h.none0
      exact ⟨[], run_firstCells_none W.drew _ _ _ _, rowsE_nil _ _⟩
    | some ad =>
      obtain ⟨ys, h3, h4, h5⟩ := rdX_cells row_by h
      exact ⟨ys, run_firstCells_some W.drew _ _ _ _ _ ys (by rw [hsz, h3.1]) (by simpa using h4), h3⟩
  obtain ⟨olds, hold, hrows⟩ := hold
  have hsrc : Src Tryz.prog i.size 23 (.slice (some ⟨g, 0, none⟩) 1 1) 1 [.int .u8 0] W := Src.ofSlice W Tryz.underlying23 _ _ _ _ (by rw [hsz]; rfl) (fun j u hj => by
    rcases j with _ | j
    · simp at hj
      subst hj
      simpa [Addr.add] using hg
    · simp at hj) (fun u hu => by simp at hu; subst hu; rfl)
  have hrun := run_append_grow_src W 23 23 ty 5 i (.int .u8 0) Tryz.underlying23 hi hz A L.length L.length olds hold _ 1 [.int .u8 0] hsrc (by omega) (by omega) (growslice_fits (by omega) (by rw [hby]; omega))
  refine ⟨_, _, hrun, (Below.drew' (Below.refl _ _)).alloc (Nat.le_refl _) _, ?_, grownCap_ge _ _ _ _, grownCap_le_maxLen _ _ _ _ (by unfold maxLen; omega)⟩
  refine ⟨_, _, rfl, fun e => (by cases e), by simp; omega, fun j a hj => ?_⟩
  have hr2 : RowsE 1 (ByE W) (L ++ [0]) (olds ++ [Value.int .u8 0]) := hrows.app (rowsE_one rfl rfl)
  obtain ⟨c, h8, h9⟩ := hr2.2 j a hj
  refine ⟨W.heap.size, 0, c, rfl, rfl, h8, fun k u hk => ?_⟩
  have := h9 k u hk
  have e1 : ∀ x, (W.drew.alloc (.cells ((olds ++ [Value.int .u8 0]).toArray ++ Builtin.zeroCells (Value.int .u8 0).cells (grownCap W (L.length + 1) L.length 5 - (L.length + 1))) 5)).cell? ⟨W.heap.size, x, none⟩ = _ := World.cell?_alloc_new W.drew _ _
  have hlt := (List.getElem?_eq_some_iff.1 this).1
  rw [e1, Array.getElem?_append_left (by simpa using hlt), List.getElem?_toArray, show 0 + j * 1 + k = j * 1 + k by omega]
  exact this
theorem wpList_app_full {ops : Array Oper} {rest : List Oper} {o : Oper} {a : Act} {Q : Exit → Act → World → Prop} {W : World} {A : Option Addr} {L : Bs} {g : Nat} (hgd : o.guard = none) (s x : Operand)
    (ho : o.op = .call { callee := .builtin .append, args := #[s, x], argTypes := #[23, 23] }) (hs : a.eval s = .slice A L.length L.length) (hx : a.eval x = .slice (some ⟨g, 0, none⟩) 1 1)
    (h : RdX Tru 1 ByE W (.slice A L.length L.length) L) (hl : L.length ≤ 1048576) (hg : W.cell? ⟨g, 0, none⟩ = some (.int .u8 0))
    (k : ∀ cap W', Below W.heap.size W W' → RdX (fun k => k = W.heap.size) 1 ByE W' (.slice (some ⟨W.heap.size, 0, none⟩) (L ++ [0]).length cap) (L ++ [0]) → L.length + 1 ≤ cap → cap ≤ maxLen → wpList Tryz.prog ops Q rest (a.put o.dst (.slice (some ⟨W.heap.size, 0, none⟩) (L.length + 1) cap)) W') :
    wpList Tryz.prog ops Q (o :: rest) a W :=
  wpList_plain hgd fun K hK => by
    obtain ⟨cap, W', hr, h1, h2, h3, h4⟩ := app_full h hl hg o.type
    unfold Oper.wp execOp
    simp only [ho, resolve, invoke, builtin, Sem.run_bind, Sem.run_pure, Result.andThen_ok, List.map_toArray, List.map_cons, List.map_nil, hs, hx, hr]
    exact hK _ _ (k cap W' h1 h2 h3 h4)
theorem step_app_full {ops : Array Oper} {o : Oper} {a : Act} {K : Act → World → Prop} {Q : Exit → Act → World → Prop} {F : Prop} {W : World} {A : Option Addr} {L : Bs} {g : Nat} (hgd : o.guard = none) (s x : Operand)
    (ho : o.op = .call { callee := .builtin .append, args := #[s, x], argTypes := #[23, 23] }) (hs : a.eval s = .slice A L.length L.length) (hx : a.eval x = .slice (some ⟨g, 0, none⟩) 1 1)
    (h : RdX Tru 1 ByE W (.slice A L.length L.length) L) (hl : L.length ≤ 1048576) (hg : W.cell? ⟨g, 0, none⟩ = some (.int .u8 0))
    (k : ∀ cap W', Below W.heap.size W W' → RdX (fun k => k = W.heap.size) 1 ByE W' (.slice (some ⟨W.heap.size, 0, none⟩) (L ++ [0]).length cap) (L ++ [0]) → L.length + 1 ≤ cap → cap ≤ maxLen → K (a.put o.dst (.slice (some ⟨W.heap.size, 0, none⟩) (L.length + 1) cap)) W') :
    if Region.wanted o (yielded ops a.tmps) = true then Oper.wp Tryz.prog o a W K Q else F := by
  have hw : Region.wanted o (yielded ops a.tmps) = true := by simp [Region.wanted, hgd]
  rw [if_pos hw]
  obtain ⟨cap, W', hr, h1, h2, h3, h4⟩ := app_full h hl hg o.type
  unfold Oper.wp execOp
  simp only [ho, resolve, invoke, builtin, Sem.run_bind, Sem.run_pure, Result.andThen_ok, List.map_toArray, List.map_cons, List.map_nil, hs, hx, hr]
  exact k cap W' h1 h2 h3 h4
theorem rdX_cap {α : Type} {P : Nat → Prop} {k : Nat} {E : World → α → List Value → Prop} {w : World} {A : Option Addr} {n cap : Nat} {l : List α} (h : RdX P k E w (.slice A n cap) l) : RdX P k E w (.slice A l.length l.length) l := by
  cases A with
  | none =>
    obtain ⟨rfl, _, _⟩ := h.none0
    exact rdX_nil _ _ _ _ _ _ fun _ => rfl
  | some ad =>
    obtain ⟨A, c, h1, h2, h3, h4⟩ := h
    injection h1 with e1 e2 e3
    subst e1
    exact ⟨_, _, rfl, (fun e => by cases e), h3, h4⟩
end Go.Proofs.YtpdnonlelocfbaaGreatDoor
