/- 'append' of what can be read, in a region that draws its order. -/
import Derived.Test.YtkphpihggbbpkaaKinAbove0
import Derived.Deep.AppendLies
import Derived.Deep.RegionLaw
namespace Go.Proofs.Ytkphpihggbbpkaa
open Go.RowKit Go Go.Maps
set_option linter.unusedVariables false

set_option maxRecDepth 100000 in
theorem step_append_rd {ops : Array Oper} {o : Oper} {a : Act} {w : World} {K : Act → World → Prop} {Q : Exit → Act → World → Prop} {F : Prop} (hgd : o.guard = none) (s x : Operand) (t : TypeId)
    (ho : o.op = .call { callee := .builtin .append, args := #[s, x], argTypes := #[t, t] })
    (base : Nat) (e : TypeId) (i : TypeInfo) (z : Value) (size bytes : Nat) (ht : Try.prog.underlying t = some (.slice e)) (hi : Try.prog.info? e = some i) (hz : i.zero = some z)
    (hsize : i.size = size) (hby : i.bytes = bytes) (hzs : z.cells.size = size) (hsz : 0 < size)
    (v : Value) (n : Nat) (xs : List Value) (hs : a.eval s = v) (hown : w.ownsRow base e size v n xs)
    {α : Type} {P : Nat → Prop} {E : World → α → List Value → Prop} (hk : Row1 size E) (v2 : Value) (l2 : List α) (hx : a.eval x = v2) (h2 : RdX P size E w v2 l2)
    (hb : n + l2.length ≤ 8589934592) (hby2 : bytes ≤ 136) (hbase : base ≤ w.heap.size)
    (h : ∀ v' w' ys, w'.ownsRow base e size v' (n + l2.length) (xs ++ ys) → RowsE size (E w) l2 ys → w.grownBy w' v.ownBlock → K (a.put o.dst v') w') :
    if Region.wanted o (yielded ops a.tmps) = true then Oper.wp Try.prog o a w K Q else F := by
  have hw : Region.wanted o (yielded ops a.tmps) = true := by simp [Region.wanted, hgd]
  rw [if_pos hw]
  obtain ⟨A, cap, rfl⟩ := h2.shape
  cases A with
  | none =>
    obtain ⟨rfl, _, rfl⟩ := h2.none0
    have hrun := run_append_owned_none (P := Try.prog) (w := w) base t o.type e i size ht hi v n xs hown
    have hx' : a.eval x = .slice none 0 0 := hx
    unfold Oper.wp
    simp [execOp, ho, resolve, invoke, builtin, hs, hx', hrun, Result.andThen]
    exact h v w [] (by simpa using hown) (rowsE_nil _ _) ⟨rfl, rfl, rfl, Nat.le_refl _, fun _ _ _ => rfl⟩
  | some ad =>
    obtain ⟨ys, h3, h4, h5⟩ := rdX_cells hk h2
    have h6 : (n + l2.length) * bytes ≤ 8589934592 * 136 := Nat.mul_le_mul hb hby2
    exact wp_append_own w s x t ho base e i z size bytes ht hi hz hsize hby hzs hsz v n xs hs hown ad l2.length cap ys hx h3.1 h4 h5 (by unfold maxLen; omega) (by omega) hbase (fun v' w' r1 r2 _ => h v' w' ys r1 h3 r2)
end Go.Proofs.Ytkphpihggbbpkaa
