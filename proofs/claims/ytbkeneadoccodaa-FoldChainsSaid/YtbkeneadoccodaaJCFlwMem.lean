/- The memory of what spreads: marks a place, the list of what is to do; an append whose row is known. -/
import Derived.Test.YtbkeneadoccodaaM2
import Derived.Test.YtbkeneadoccodaaM3
import Derived.Test.YtbkeneadoccodaaM5
import Derived.Laws.AppendOwnNone
import Derived.Laws.MakeOwn
namespace Go.Proofs.Ytbkeneadoccodaa
open Go.RowKit Go
set_option linter.unusedVariables false
set_option linter.unusedSimpArgs false
theorem made_at0 (z : Array Value) (n x : Nat) (v : Value) (hx : x < n) (hz : z[x % z.size]? = some v) : (madeCells z n)[x]? = some v := by
 unfold madeCells
 rw [Array.getElem?_map, Array.getElem?_range, if_pos hx]
 simp only [Option.map_some]
 obtain ⟨h1, h2⟩ := Array.getElem?_eq_some_iff.1 hz
 rw [getElem!_pos z _ h1, h2]
theorem u64_in (a : Mk) : IntKind.u64.wrap ((a.toNat : Nat) : Int) = ((a.toNat : Nat) : Int) := by
 have h := a.isLt
 unfold IntKind.wrap
 simp [IntKind.bits, IntKind.signed] at h ⊢
 omega
theorem or_u (a b : Mk) : bits .or .u64 (a.toNat : Int) (b.toNat : Int) = ((a ||| b).toNat : Int) := by
 show IntKind.u64.wrap (((BitVec.ofInt 64 (a.toNat : Int) ||| BitVec.ofInt 64 (b.toNat : Int)).toNat : Nat) : Int) = _
 simp only [BitVec.ofInt_natCast, BitVec.ofNat_toNat, BitVec.setWidth_eq]
 exact u64_in _
theorem andNot_u (a b : Mk) : bits .andNot .u64 (a.toNat : Int) (b.toNat : Int) = ((a &&& ~~~b).toNat : Int) := by
 show IntKind.u64.wrap (((BitVec.ofInt 64 (a.toNat : Int) &&& ~~~(BitVec.ofInt 64 (b.toNat : Int))).toNat : Nat) : Int) = _
 simp only [BitVec.ofInt_natCast, BitVec.ofNat_toNat, BitVec.setWidth_eq]
 exact u64_in _
theorem ne_u (a : Mk) : (((a.toNat : Int)) != 0) = decide (a ≠ 0) := by
 rw [Bool.eq_iff_iff]
 simp only [bne_iff_ne, ne_eq, decide_eq_true_eq]
 constructor
 ·intro h e
  subst e
  exact h rfl
 ·intro h e
  apply h
  apply BitVec.eq_of_toNat_eq
  show a.toNat = 0
  omega
def Msk (w : World) (g n : Nat) (m : Nat → Mk) : Prop := ∃ c : Array Value, w.heap[g]? = some (.cells c 108 (0, 0)) ∧ c.size = n ∧ ∀ j, j < n → c[j]? = some (.int .u64 ((m j).toNat : Int))
theorem Msk.fz {w : World} {g n : Nat} {m : Nat → Mk} (h : Msk w g n m) (i : Nat) : w.frozen? ⟨g, i, none⟩ = false := by
 obtain ⟨c, h1, _⟩ := h
 exact heap_thaw h1 i
theorem Msk.lt {w : World} {g n : Nat} {m : Nat → Mk} (h : Msk w g n m) : g < w.heap.size := by
 obtain ⟨c, h1, _⟩ := h
 exact heap_lt h1
theorem Msk.at' {w : World} {g n i : Nat} {m : Nat → Mk} (h : Msk w g n m) (hi : i < n) : w.cell? ⟨g, i, none⟩ = some (.int .u64 ((m i).toNat : Int)) := by
 obtain ⟨c, h1, h2, h3⟩ := h
 exact heap_cell h1 (h3 i hi)
theorem Msk.of {w w' : World} {g n : Nat} {m : Nat → Mk} (h : Msk w g n m) (e : w'.heap[g]? = w.heap[g]?) : Msk w' g n m := by
 obtain ⟨c, h1, h2⟩ := h
 exact ⟨c, e.trans h1, h2⟩
theorem Msk.below {w w' : World} {g n : Nat} {m : Nat → Mk} (h : Msk w g n m) (hb : Below w.heap.size w w') : Msk w' g n m := h.of (hb.block g h.lt)
theorem Msk.put {w : World} {g n p : Nat} {m : Nat → Mk} (h : Msk w g n m) (x : Mk) : Msk (w.setCell ⟨g, p, none⟩ (.int .u64 (x.toNat : Int))) g n (fun j => if j = p then x else m j) := by
 obtain ⟨c, h1, h2, h3⟩ := h
 refine ⟨_, heap_set h1 _, by simpa using h2, fun j hj => ?_⟩
 by_cases e : p = j
 ·subst e
  rw [Array.getElem?_setIfInBounds, if_pos rfl, if_pos (by omega)]
  simp
 ·rw [Array.getElem?_setIfInBounds, if_neg e]
  have e2 : ¬ j = p := fun h => e h.symm
  simp only [if_neg e2]
  exact h3 j hj
theorem Msk.congr {w : World} {g n : Nat} {m m' : Nat → Mk} (h : Msk w g n m) (e : ∀ j, j < n → m j = m' j) : Msk w g n m' := by
 obtain ⟨c, h1, h2, h3⟩ := h
 exact ⟨c, h1, h2, fun j hj => by rw [← e j hj]; exact h3 j hj⟩
theorem Msk.made (w : World) (n : Nat) : Msk (w.alloc (.cells (madeCells #[.int .u64 0] n) 108)) w.heap.size n (fun _ => 0) :=
 ⟨_, heap_alloc_new w _, by rw [size_madeCells], fun i hi => made_at0 _ _ _ _ hi (by rw [show i % (#[Value.int .u64 0] : Array Value).size = 0 from Nat.mod_one i]; rfl)⟩
theorem info_u64 : (Try.prog.info? 108).map (fun i => (i.zero, i.size, i.bytes)) = some (some (.int .u64 0), 1, 8) := by kernel_rfl
theorem make_marks (n : Nat) (hn : n * 8 ≤ 140737488355328) (w : World) :
  (Instr.makeSlice 90 (.int .i64 (n : Int)) (.int .i64 (n : Int))).run Try.prog w = .ok (.slice (some ⟨w.heap.size, 0, none⟩) n n) (w.alloc (.cells (madeCells #[.int .u64 0] n) 108)) := by
 obtain ⟨i0, hi0, hz0, hz1, hz2⟩ := info_parts info_u64
 have h := run_make (P := Try.prog) w 90 108 i0 _ Try.underlying90 hi0 hz0 .i64 .i64 n n (by omega) (Int.le_refl _) (by rw [hz2]; omega) (by omega)
 rw [h, hz1, Nat.mul_one]
 rfl
theorem run_append_fresh {w : World} {B : Nat} {v : Value} {l : List Int} (t : TypeId) (h : OwN w B v l) (a : Addr) (c : Nat) (x : Int) (hx : w.cell? a = some (.int .i64 x)) (hb : B ≤ w.heap.size) (hl : (l.length + 1) * 8 ≤ 140737488355328) :
  ∃ v' w', (Builtin.append_ #[23, 23] t #[v, .slice (some a) 1 c]).run Try.prog w = .ok v' w' ∧ OwN w' B v' (l ++ [x]) ∧ w.grownBy w' v.ownBlock ∧ (v'.ownBlock = v.ownBlock ∨ v'.ownBlock = some w.heap.size) := by
 obtain ⟨i0, hi0, hz0, hz1, hz2⟩ := info_parts info_nuP
 have hnews : ∀ (j : Nat) (u : Value), [vI x][j]? = some u → w.cell? (a.add j) = some u := by
  intro j u hj
  cases j with
  | zero => simp at hj; subst hj; rw [show a.add 0 = a by cases a; rfl]; exact hx
  | succ j => simp at hj
 have h1 : ∀ u ∈ [vI x], u.oneCell' = true := by intro u hu; simp at hu; subst hu; rfl
 have hm : l.length + 1 ≤ maxLen := by unfold maxLen; omega
 obtain ⟨v', w', hr, h2, h3, _⟩ := run_append_own (P := Try.prog) w B 23 t 3 i0 (.int .i64 0) 1 8 Try.underlying23 hi0 hz0 hz1 hz2 rfl (by decide) v l.length (l.map vI) h a 1 c [vI x] rfl hnews h1 hm hl hb
 refine ⟨v', w', hr, ?_, h3, ?_⟩
 ·unfold OwN
  simpa using h2
 ·rcases h.2 with ⟨hv, hn⟩ | ⟨g, cap, cur, hv, hbg, hg, hnc, hcm, hcs, htake⟩
  ·have hnil : l = [] := List.eq_nil_of_length_eq_zero hn
   subst hv hnil
   have hr2 := run_append_nil (P := Try.prog) w 23 t 3 i0 (.int .i64 0) Try.underlying23 hi0 hz0 a 1 c [vI x] (by rw [hz1]; rfl) hnews (by omega) (by omega) (by rw [hz2]; omega)
   rw [hr] at hr2
   injection hr2 with e1 e2
   right
   rw [e1]
   rfl
  ·subst hv
   by_cases hroom : l.length + 1 ≤ cap
   ·have hr2 := run_append_room (P := Try.prog) w 23 t 3 i0 Try.underlying23 hi0 g l.length cap cur hg a 1 c [vI x] (by rw [hz1]; rfl) hnews h1 hroom (by rw [hz1]; simp; omega)
    rw [hr] at hr2
    injection hr2 with e1 e2
    left
    rw [e1]
    rfl
   ·have holds : ∀ (j : Nat) (u : Value), (l.map vI)[j]? = some u → w.cell? ((⟨g, 0, none⟩ : Addr).add j) = some u := World.ownsRow.cells h (g := g) rfl
    have hr2 := run_append_grow (P := Try.prog) w 23 t 3 i0 (.int .i64 0) Try.underlying23 hi0 hz0 ⟨g, 0, none⟩ l.length cap (l.map vI) (by rw [hz1]; simp) holds a 1 c [vI x] (by rw [hz1]; rfl) hnews (by omega) (by unfold maxLen at hm; omega) (growslice_fits (by unfold maxLen at hm; omega) (by rw [hz2]; omega))
    rw [hr] at hr2
    injection hr2 with e1 e2
    right
    rw [e1]
    rfl
theorem wpList_append_fresh {w : World} {ops : Array Oper} {rest : List Oper} {o : Oper} {a : Act} {Q : Exit → Act → World → Prop} (hgd : o.guard = none) (s x : Operand)
  (ho : o.op = .call { callee := .builtin .append, args := #[s, x], argTypes := #[23, 23] })
  (B : Nat) (v : Value) (l : List Int) (hs : a.eval s = v) (hown : OwN w B v l) (ad : Addr) (c : Nat) (z : Int) (hx : a.eval x = .slice (some ad) 1 c) (hz : w.cell? ad = some (.int .i64 z)) (hb : B ≤ w.heap.size) (hl : (l.length + 1) * 8 ≤ 140737488355328)
  (h : ∀ v' w', OwN w' B v' (l ++ [z]) → w.grownBy w' v.ownBlock → (v'.ownBlock = v.ownBlock ∨ v'.ownBlock = some w.heap.size) → wpList Try.prog ops Q rest (a.put o.dst v') w') : wpList Try.prog ops Q (o :: rest) a w := by
 refine wpList_plain hgd fun K hK => ?_
 obtain ⟨v', w', hr, h2, h3, h4⟩ := run_append_fresh o.type hown ad c z hz hb hl
 unfold Oper.wp execOp
 simp only [ho, resolve, invoke, builtin, Sem.run_bind, Sem.run_pure, Result.andThen_ok, List.map_toArray, List.map_cons, List.map_nil, hs, hx, hr]
 exact hK _ _ (h v' w' h2 h3 h4)
end Go.Proofs.Ytbkeneadoccodaa
