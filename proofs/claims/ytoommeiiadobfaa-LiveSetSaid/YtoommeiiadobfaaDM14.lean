/- Texts of this claim, joined: DLivSet, DLivBring, DLivMem, DFlwSet, DFlwDfs, DFlwRSet, DLivFrom, DLivLL. -/
import Derived.Test.YtoommeiiadobfaaJDFlwReads
import Derived.Test.YtoommeiiadobfaaJDLivSp0
import Derived.Test.YtoommeiiadobfaaDM12
import Derived.Test.YtoommeiiadobfaaJDFlwMem
import Derived.Test.YtoommeiiadobfaaDM13
import Derived.Laws.OwnMore
/- Sets of registers that stand together: the program's setOf, without, has; isAt. -/
namespace Go.Proofs.Ytoommeiiadobfaa
open Go.RowKit Go
set_option linter.unusedVariables false
set_option linter.unusedSimpArgs false
theorem without_c (a b : Mk) (w : World) : Calls Try.prog 57 #[.int .u64 (a.toNat : Int), .int .u64 (b.toNat : Int)] w fun e w' => e = .returned (.int .u64 ((a &&& ~~~b).toNat : Int)) ∧ w' = w := by
 have h := andNot_u a b
 obtain ⟨z, hz⟩ : ∃ z : Int, ((a &&& ~~~b).toNat : Int) = z := ⟨_, rfl⟩
 rw [hz] at h ⊢
 clear hz
 go_enter Try.func57, Try.ntmps57
 go_wp2_with fail
 go_ret
 exact ⟨rfl, rfl⟩
theorem isAt_c (i n : Int) (z : Bool) (w : World) (hz : Hid ((decide (0 ≤ i) && decide (i < n)) = z)) : Calls Try.prog 31 #[.int .i64 i, .int .i64 n] w fun e w' => e = .returned (.bool z) ∧ w' = w := by
 by_cases h0 : 0 ≤ i
 ·by_cases h1 : i < n
  ·have e : z = true := by rw [← hz.out]; simp [h0, h1]
   subst e
   go_enter Try.func31, Try.ntmps31
   go_wp2_with fail
   go_ret
   exact ⟨rfl, rfl⟩
  ·have e : z = false := by rw [← hz.out]; simp [h1]
   subst e
   go_enter Try.func31, Try.ntmps31
   go_wp2_with fail
   go_ret
   exact ⟨rfl, rfl⟩
 ·have e : z = false := by rw [← hz.out]; simp [h0]
  subst e
  go_enter Try.func31, Try.ntmps31
  go_wp2_with fail
  go_ret
  exact ⟨rfl, rfl⟩
theorem has_bit (s : Mk) (i : Nat) : (bits .and .u64 ((s.toNat : Int) / 2 ^ i) 1 == 1) = s.getLsbD i := by
 have h1 : ((s.toNat : Int) / 2 ^ i) = ((s >>> i).toNat : Int) := by
  rw [BitVec.toNat_ushiftRight, Nat.shiftRight_eq_div_pow]
  simp
 have h2 := and_u (s >>> i) 1
 have h3 : (((1 : Mk).toNat : Nat) : Int) = 1 := rfl
 rw [h3] at h2
 rw [h1, h2, Bool.eq_iff_iff]
 simp only [beq_iff_eq]
 have h4 : (s >>> i &&& 1).getLsbD 0 = s.getLsbD i := by
  rw [BitVec.getLsbD_and, BitVec.getLsbD_ushiftRight]
  simp
 have h5 : (s >>> i &&& 1).toNat = if s.getLsbD i then 1 else 0 := by
  rw [← h4]
  have h6 : s >>> i &&& 1 = (if (s >>> i &&& 1).getLsbD 0 then (1 : Mk) else 0) := by
   apply BitVec.eq_of_getLsbD_eq
   intro k hk
   by_cases e : k = 0
   ·subst e
    cases (s >>> i &&& 1).getLsbD 0 <;> rfl
   ·rw [BitVec.getLsbD_and]
    have h7 : (1 : Mk).getLsbD k = false := by
     cases hb : (1 : Mk).getLsbD k with
     | false => rfl
     | true => exact absurd (one_bit hb) e
    rw [h7, Bool.and_false]
    split
    ·exact h7.symm
    ·simp
  conv => lhs; rw [h6]
  cases (s >>> i &&& 1).getLsbD 0 <;> rfl
 rw [h5]
 cases s.getLsbD i <;> simp
theorem has_c (s : Mk) (i : Nat) (hi : i < 64) (w : World) : Calls Try.prog 32 #[.int .u64 (s.toNat : Int), .int .i64 (i : Int)] w fun e w' => e = .returned (.bool (s.getLsbD i)) ∧ w' = w := by
 have h2 : IntKind.u64.wrap (i : Int) = (i : Int) := IntWalk.u64_in _ (by omega)
 have HB := lhid (has_bit s i)
 go_enter Try.func32, Try.ntmps32
 go_wp2_with fail
 go_ret
 exact ⟨by rw [← HB.out]; rfl, rfl⟩
set_option maxHeartbeats 8000000 in
set_option maxRecDepth 100000 in
theorem setOf_c {P : Nat → Prop} (F : Nat) (rv : Value) (l : List Int) (w : World) (h : Hid (RdX P 1 NuE w rv l)) (hF : Hid (F ≤ 1099511627776)) (hp : Hid (∀ r ∈ l, I64 r)) :
  Calls Try.prog 54 #[.int .i64 (F : Int), rv] w fun e w' => ∃ U : Mk, e = .returned (.int .u64 (U.toNat : Int)) ∧ (∀ b, U.getLsbD b = true ↔ b < 64 ∧ ((F + b : Nat) : Int) ∈ l) ∧ w' = w := by
 obtain ⟨A, cap, hA⟩ := h.out.shape
 subst hA
 have hll := h.out.len
 have hF2 := hF.out
 have hw64 : wrap64 ((F : Int) + 64) = (F : Int) + 64 := IntWalk.wrap64_in _ (by omega)
 go_enter Try.func54, Try.ntmps54
 go_wp2_with fail
 go_loopg [5, 10] l.length (fun g u s wr => ∃ (U : Mk) (k : Nat), g = l.length - k ∧ u = .int .u64 (U.toNat : Int) ∧ s = .int .i64 k ∧ k ≤ l.length ∧ Hid (∀ b, U.getLsbD b = true ↔ b < 64 ∧ ((F + b : Nat) : Int) ∈ l.take k) ∧ wr = w)
 case atStart => exact ⟨0, 0, rfl, rfl, rfl, Nat.zero_le _, lhid (fun b => by simp), rfl⟩
 case round =>
  obtain ⟨U, k, rfl, rfl, rfl, hk, HUB, rfl⟩ := hrel
  by_cases hlt : k < l.length
  ·obtain ⟨z, hz⟩ : ∃ z, l[k]? = some z := ⟨_, List.getElem?_eq_getElem hlt⟩
   obtain ⟨g, o, c1, h1, _, h2, h3⟩ := h.out.at' hz
   have h2 : c1 = [.int .i64 z] := h2
   subst h2 h1
   have c0 := h3 0 _ rfl
   rw [Nat.add_zero, Nat.mul_one] at c0
   have k3 : (k : Int) < l.length := by omega
   have hwk : wrap64 ((k : Int) + 1) = ((k + 1 : Nat) : Int) := by rw [IntWalk.wrap64_in _ (by omega)]; omega
   have hzi := hp.out z (List.mem_of_getElem? hz)
   have HZ := lhid hz
   clear h3 hz
   unfold I64 at hzi
   by_cases hin : (F : Int) ≤ z ∧ z < F + 64
   ·obtain ⟨d, hd⟩ : ∃ d : Nat, z = (F : Int) + d := ⟨(z - F).toNat, by omega⟩
    have hd64 : d < 64 := by omega
    have t1 : (F : Int) ≤ z := hin.1
    have t2 : z < (F : Int) + 64 := hin.2
    have t3 : wrap64 (z - F) = (d : Int) := by rw [IntWalk.wrap64_in _ (by omega)]; omega
    have t4 : IntKind.u64.wrap (d : Int) = (d : Int) := IntWalk.u64_in _ (by omega)
    have t5 := u64_pow d
    have hb : BitVec.ofNat 64 (2 ^ d) = bitN z F := by unfold bitN; rw [if_pos (by omega)]; congr 2; omega
    rw [hb] at t5
    have t6 : IntKind.u64.wrap ((2 : Int) ^ (z.toNat - F)) = ((bitN z F).toNat : Int) := by rw [show z.toNat - F = d by omega]; exact t5
    have hor := or_u U (bitN z F)
    obtain ⟨V, hV⟩ : ∃ V, U ||| bitN z F = V := ⟨_, rfl⟩
    have HV : Hid (∀ b, V.getLsbD b = true ↔ b < 64 ∧ ((F + b : Nat) : Int) ∈ l.take (k + 1)) := lhid (fun b => by
     rw [← hV, BitVec.getLsbD_or, Bool.or_eq_true, HUB.out b, bitN_get, take_snoc HZ.out]
     simp only [Bool.and_eq_true, decide_eq_true_eq, List.mem_append, List.mem_singleton]
     constructor
     ·rintro (⟨h1, h2⟩ | ⟨h1, h2⟩)
      ·exact ⟨h1, .inl h2⟩
      ·exact ⟨h1, .inr (by omega)⟩
     ·rintro ⟨h1, h2 | h2⟩
      ·exact .inl ⟨h1, h2⟩
      ·exact .inr ⟨h1, by omega⟩)
    rw [hV] at hor
    clear hV hb hin hzi hd
    go_wp2_with fail
    go_roundg (l.length - (k + 1))
    case measure => omega
    case rel => exact ⟨V, k + 1, rfl, by first | rfl | rw [hor], by first | rfl | rw [hwk], by omega, HV, rfl⟩
   ·have HV : Hid (∀ b, U.getLsbD b = true ↔ b < 64 ∧ ((F + b : Nat) : Int) ∈ l.take (k + 1)) := lhid (fun b => by
     rw [HUB.out b, take_snoc HZ.out]
     simp only [List.mem_append, List.mem_singleton]
     constructor
     ·rintro ⟨h1, h2⟩; exact ⟨h1, .inl h2⟩
     ·rintro ⟨h1, h2 | h2⟩
      ·exact ⟨h1, h2⟩
      ·exact absurd ⟨by omega, by omega⟩ hin)
    by_cases t1 : (F : Int) ≤ z
    ·have t2 : ¬ z < (F : Int) + 64 := fun h => hin ⟨t1, h⟩
     clear hin hzi
     go_wp2_with fail
     go_roundg (l.length - (k + 1))
     case measure => omega
     case rel => exact ⟨U, k + 1, rfl, rfl, by first | rfl | rw [hwk], by omega, HV, rfl⟩
    ·clear hin hzi
     go_wp2_with fail
     go_roundg (l.length - (k + 1))
     case measure => omega
     case rel => exact ⟨U, k + 1, rfl, rfl, by first | rfl | rw [hwk], by omega, HV, rfl⟩
  ·have k3 : ¬ (k : Int) < l.length := by omega
   have hke : k = l.length := by omega
   subst hke
   clear hlt
   go_wp2_with fail
   go_ret
   exact ⟨U, rfl, fun b => by have h1 := HUB.out b; rwa [List.take_length] at h1, rfl⟩
end Go.Proofs.Ytoommeiiadobfaa
/- Memory while live registers spread; what brings marks to a place: the program's closure. -/
namespace Go.Proofs.Ytoommeiiadobfaa
open Go.RowKit Go
set_option linter.unusedVariables false
set_option linter.unusedSimpArgs false
def Mks (w : World) (g n : Nat) (m : Nat → Mk) : Prop := ∃ c : Array Value, w.heap[g]? = some (.cells c 59 (0, 0)) ∧ c.size = n ∧ ∀ j, j < n → c[j]? = some (.int .u64 ((m j).toNat : Int))
theorem Mks.fz {w : World} {g n : Nat} {m : Nat → Mk} (h : Mks w g n m) (i : Nat) : w.frozen? ⟨g, i, none⟩ = false := by
 obtain ⟨c, h1, _⟩ := h
 exact heap_thaw h1 i
theorem Mks.lt {w : World} {g n : Nat} {m : Nat → Mk} (h : Mks w g n m) : g < w.heap.size := by
 obtain ⟨c, h1, _⟩ := h
 exact heap_lt h1
theorem Mks.at' {w : World} {g n i : Nat} {m : Nat → Mk} (h : Mks w g n m) (hi : i < n) : w.cell? ⟨g, i, none⟩ = some (.int .u64 ((m i).toNat : Int)) := by
 obtain ⟨c, h1, h2, h3⟩ := h
 exact heap_cell h1 (h3 i hi)
theorem Mks.of {w w' : World} {g n : Nat} {m : Nat → Mk} (h : Mks w g n m) (e : w'.heap[g]? = w.heap[g]?) : Mks w' g n m := by
 obtain ⟨c, h1, h2⟩ := h
 exact ⟨c, e.trans h1, h2⟩
theorem Mks.below {w w' : World} {g n : Nat} {m : Nat → Mk} (h : Mks w g n m) (hb : Below w.heap.size w w') : Mks w' g n m := h.of (hb.block g h.lt)
theorem Mks.put {w : World} {g n p : Nat} {m : Nat → Mk} (h : Mks w g n m) (x : Mk) : Mks (w.setCell ⟨g, p, none⟩ (.int .u64 (x.toNat : Int))) g n (fun j => if j = p then x else m j) := by
 obtain ⟨c, h1, h2, h3⟩ := h
 refine ⟨_, heap_set h1 _, by simpa using h2, fun j hj => ?_⟩
 by_cases e : p = j
 ·subst e
  rw [Array.getElem?_setIfInBounds, if_pos rfl, if_pos (by omega)]
  simp
 ·rw [Array.getElem?_setIfInBounds, if_neg e]
  have e2 : ¬ j = p := fun h => e h.symm
  simp only [if_neg e2]
  exact h3 j hj
theorem Mks.congr {w : World} {g n : Nat} {m m' : Nat → Mk} (h : Mks w g n m) (e : ∀ j, j < n → m j = m' j) : Mks w g n m' := by
 obtain ⟨c, h1, h2, h3⟩ := h
 exact ⟨c, h1, h2, fun j hj => by rw [← e j hj]; exact h3 j hj⟩
theorem Mks.made (w : World) (n : Nat) : Mks (w.alloc (.cells (madeCells #[.int .u64 0] n) 59)) w.heap.size n (fun _ => 0) :=
 ⟨_, heap_alloc_new w _, by rw [size_madeCells], fun i hi => made_at0 _ _ _ _ hi (by rw [show i % (#[Value.int .u64 0] : Array Value).size = 0 from Nat.mod_one i]; rfl)⟩
theorem info_set : (Try.prog.info? 59).map (fun i => (i.zero, i.size, i.bytes)) = some (some (.int .u64 0), 1, 8) := by kernel_rfl
theorem make_sets (n : Nat) (hn : n * 8 ≤ 140737488355328) (w : World) :
  (Instr.makeSlice 50 (.int .i64 (n : Int)) (.int .i64 (n : Int))).run Try.prog w = .ok (.slice (some ⟨w.heap.size, 0, none⟩) n n) (w.alloc (.cells (madeCells #[.int .u64 0] n) 59)) := by
 obtain ⟨i0, hi0, hz0, hz1, hz2⟩ := info_parts info_set
 have h := run_make (P := Try.prog) w 50 59 i0 _ Try.underlying50 hi0 hz0 .i64 .i64 n n (by omega) (Int.le_refl _) (by rw [hz2]; omega) (by omega)
 rw [h, hz1, Nat.mul_one]
 rfl
theorem blk_ne {w : World} {a b : Nat} {c1 c2 : Array Value} {t1 t2 : TypeId} {f1 f2 : Nat × Nat} (h1 : w.heap[a]? = some (.cells c1 t1 f1)) (h2 : w.heap[b]? = some (.cells c2 t2 f2)) (ht : t1 ≠ t2) : a ≠ b := by
 intro e
 subst e
 rw [h1] at h2
 injection h2 with h2
 injection h2 with _ h2
 exact ht h2
theorem own_net {w : World} {B k : Nat} {v : Value} {l : List Int} {c : Array Value} {T : TypeId} (h : OwN w B v l) (hk : w.heap[k]? = some (.cells c T (0, 0))) (hT : T ≠ 3) : v.ownBlock ≠ some k := by
 rcases h.2 with ⟨rfl, _⟩ | ⟨g, cap, cur, rfl, _, hg, _⟩
 ·intro e; cases e
 ·intro e
  injection e with e
  subst e
  rw [hg] at hk
  injection hk with hk
  injection hk with _ hk
  exact hT hk.symm
theorem BooB.net {w : World} {H n k B : Nat} {W : Nat → Bool} {v : Value} {l : List Int} (h : BooB w H n W k) (ho : OwN w B v l) : v.ownBlock ≠ some H := by
 obtain ⟨c, h1, _⟩ := h
 exact own_net ho h1 (by decide)
structure LvM (LB WB TB G H B n : Nat) (m : Nat → Mk) (W : Nat → Bool) (T : List Nat) (w : World) : Prop where
 lb : w.heap[LB]? = some (.cells #[.slice (some ⟨G, 0, none⟩) n n] 50 (0, 0))
 wb : w.heap[WB]? = some (.cells #[.slice (some ⟨H, 0, none⟩) n n] 81 (0, 0))
 marks : Mks w G n m
 waits : BooB w H n W n
 todo : ∃ v, w.heap[TB]? = some (.cells #[v] 22 (0, 0)) ∧ OwN w B v (T.map fun i : Nat => (i : Int))
 wts : Wts W T
 big : B ≤ w.heap.size
 low : LB < B ∧ TB < B ∧ G < B
def LvX (TB G H B k : Nat) : Prop := k = G ∨ k = H ∨ k = TB ∨ B ≤ k
theorem LvM.ne {LB WB TB G H B n : Nat} {m : Nat → Mk} {W : Nat → Bool} {T : List Nat} {w : World} (h : LvM LB WB TB G H B n m W T w) : G ≠ LB ∧ G ≠ WB ∧ G ≠ TB ∧ G ≠ H ∧ H ≠ LB ∧ H ≠ WB ∧ H ≠ TB ∧ TB ≠ LB ∧ TB ≠ WB := by
 obtain ⟨c, h1, _⟩ := h.marks
 obtain ⟨d, h2, _⟩ := h.waits
 obtain ⟨v, h3, _⟩ := h.todo
 exact ⟨blk_ne h1 h.lb (by decide), blk_ne h1 h.wb (by decide), blk_ne h1 h3 (by decide), blk_ne h1 h2 (by decide), blk_ne h2 h.lb (by decide), blk_ne h2 h.wb (by decide), blk_ne h2 h3 (by decide), blk_ne h3 h.lb (by decide), blk_ne h3 h.wb (by decide)⟩
theorem LvM.below {LB WB TB G H B n : Nat} {m : Nat → Mk} {W : Nat → Bool} {T : List Nat} {w w' : World} (h : LvM LB WB TB G H B n m W T w) (hb : Below w.heap.size w w') : LvM LB WB TB G H B n m W T w' where
 lb := heap_keep h.lb hb
 wb := heap_keep h.wb hb
 marks := h.marks.below hb
 waits := h.waits.of (hb.block H h.waits.lt)
 todo := by obtain ⟨v, h1, h2⟩ := h.todo; exact ⟨v, heap_keep h1 hb, own_below h2 hb⟩
 wts := h.wts
 big := Nat.le_trans h.big hb.size
 low := h.low
set_option maxHeartbeats 8000000 in
set_option maxRecDepth 100000 in
theorem bring_l (LB WB TB G H B n : Nat) (m : Nat → Mk) (W : Nat → Bool) (T : List Nat) (p : Nat) (more : Mk) (w : World) (h : Hid (LvM LB WB TB G H B n m W T w)) (hp : Hid (p < n)) (hT : Hid ((T.length + 1) * 8 ≤ 140737488355328)) :
  Calls Try.prog 91 #[.int .i64 (p : Int), .int .u64 (more.toNat : Int), .pointer (some ⟨LB, 0, none⟩), .pointer (some ⟨WB, 0, none⟩), .pointer (some ⟨TB, 0, none⟩)] w fun e w' => e = .returned (.tuple #[]) ∧ ∃ (m' : Nat → Mk) (W' : Nat → Bool) (T' : List Nat), Brg n (p : Int) more m T m' T' ∧ LvM LB WB TB G H B n m' W' T' w' ∧ Ch (LvX TB G H B) w w' := by
 obtain ⟨n1, n2, n3, n4, n5, n6, n7, n8, n9⟩ := h.out.ne
 have n1' : ¬ LB = G := fun e => n1 e.symm
 have n2' : ¬ WB = G := fun e => n2 e.symm
 have n3' : ¬ TB = G := fun e => n3 e.symm
 have n4' : ¬ H = G := fun e => n4 e.symm
 have n5' : ¬ LB = H := fun e => n5 e.symm
 have n6' : ¬ WB = H := fun e => n6 e.symm
 have n7' : ¬ TB = H := fun e => n7 e.symm
 have n8' : ¬ LB = TB := fun e => n8 e.symm
 have n9' : ¬ WB = TB := fun e => n9 e.symm
 have hpn : (p : Int) < n := by have := hp.out; omega
 have q0 := heap_cell (i := 0) h.out.lb rfl
 have q1 := heap_cell (i := 0) h.out.wb rfl
 have q2 := h.out.marks.at' hp.out
 have q3 := h.out.waits.at' hp.out hp.out
 have z1 := h.out.marks.fz p
 have z2 := h.out.waits.fz p
 have g1 := h.out.marks.lt
 have g2 := h.out.waits.lt
 obtain ⟨x, hx⟩ : ∃ x, m p = x := ⟨_, rfl⟩
 rw [hx] at q2
 obtain ⟨y, hy⟩ : ∃ y, more &&& ~~~x = y := ⟨_, rfl⟩
 have hz0 := msk_zero (x := y)
 have han := andNot_u more x
 rw [hy] at han
 by_cases hz : y = 0
 ·have hzb : decide (y = 0) = true := by simpa using hz
  rw [hzb] at hz0
  have HB : Hid (Brg n (p : Int) more m T m T) := lhid (Brg.no fun q hq _ => by
   have e : p = q := by omega
   subst e
   rw [hx, hy]
   exact hz)
  clear hz hzb hx hy
  go_enter Try.func91, Try.ntmps91
  go_wp2_with fail
  exact ⟨rfl, _, results_none rfl _ _ _, rfl, m, W, T, HB.out, h.out, Ch.refl _ _⟩
 ·have hzb : decide (y = 0) = false := by simpa using hz
  rw [hzb] at hz0
  obtain ⟨u, hu⟩ : ∃ u : Mk, x ||| more = u := ⟨_, rfl⟩
  have hor : bits .or .u64 (x.toNat : Int) (more.toNat : Int) = (u.toNat : Int) := by rw [or_u, hu]
  have HNZ : Hid (more &&& ~~~(m p) ≠ 0) := lhid (by rw [hx, hy]; exact hz)
  have HMK : Hid (∀ j, j < n → (fun j => if j = p then u else m j) j = brM m p more j) := lhid (fun j _ => by
   show (if j = p then u else m j) = if j = p then m j ||| more else m j
   split
   ·rename_i e; subst e; rw [hx, hu]
   ·rfl)
  have hmk1 : Mks (w.setCell ⟨G, p, none⟩ (.int .u64 (u.toNat : Int))) G n (fun j => if j = p then u else m j) := h.out.marks.put u
  have HM1 := lhid (hmk1.congr HMK.out)
  clear hz hzb hx hy hu hmk1 HMK
  cases hw : W p with
  | true =>
   rw [hw] at q3
   have HB := lhid (Brg.again (T := T) hp.out HNZ.out ((h.out.wts.iff p).1 hw))
   clear hw
   go_enter Try.func91, Try.ntmps91
   go_wp2_with fail
   have hc := (Ch.refl (fun k => k = G) w).set (p := ⟨G, p, none⟩) (fun _ => rfl) (.int .u64 (u.toNat : Int))
   refine ⟨rfl, _, results_none rfl _ _ _, rfl, brM m p more, W, T, HB.out, ⟨hc.keep h.out.lb n1', hc.keep h.out.wb n2', HM1.out, h.out.waits.of (hc.block H g2 n4'), ?_, h.out.wts, by simpa [World.setCell] using h.out.big, h.out.low⟩, hc.mono fun k _ e => .inl e⟩
   obtain ⟨v, h1, h2⟩ := h.out.todo
   exact ⟨v, hc.keep h1 n3', own_ch h2 hc (fun g hg e => by have := own_lt h2 g hg; have := h.out.low; omega)⟩
  | false =>
   rw [hw] at q3
   have HB := lhid (Brg.yes (T := T) hp.out HNZ.out)
   have HWT := lhid (h.out.wts.push hw)
   obtain ⟨v, hv, ho⟩ := h.out.todo
   obtain ⟨L, hL⟩ : ∃ L, (T.map fun i : Nat => (i : Int)) = L := ⟨_, rfl⟩
   have hLl : L.length = T.length := by rw [← hL]; simp
   have HLL := lhid hLl
   rw [hL] at ho
   have HL := lhid hL
   obtain ⟨A, ac, hva⟩ := own_shape ho
   subst hva
   have q4 := heap_cell (i := 0) hv rfl
   have z4 := heap_thaw hv 0
   have g4 := heap_lt hv
   have hnH := h.out.waits.net ho
   have hnW := own_net ho h.out.wb (by decide)
   have HNH : Hid (∀ g, (Value.slice A L.length ac).ownBlock = some g → g ≠ H ∧ g ≠ WB) := lhid (fun g hg => ⟨fun e => hnH (by rw [hg, e]), fun e => hnW (by rw [hg, e])⟩)
   have HO := lhid ho
   have HV := lhid hv
   clear hw hv ho hL hLl hnH hnW
   go_enter Try.func91, Try.ntmps91
   go_upto_region 4 with fail
   obtain ⟨w1, hw1⟩ : ∃ w1, w1 = w.setCell ⟨G, p, none⟩ (.int .u64 (u.toNat : Int)) := ⟨_, rfl⟩
   obtain ⟨w2, hw2⟩ : ∃ w2, w2 = w1.setCell ⟨H, p, none⟩ (.bool true) := ⟨_, rfl⟩
   rw [← hw1] at HM1 ⊢
   rw [← hw2]
   have hc1 : Ch (fun k => k = G) w w1 := by rw [hw1]; exact (Ch.refl (fun k => k = G) w).set (p := ⟨G, p, none⟩) (fun _ => rfl) _
   have hc2 : Ch (fun k => k = H) w1 w2 := by rw [hw2]; exact (Ch.refl (fun k => k = H) w1).set (p := ⟨H, p, none⟩) (fun _ => rfl) _
   have hs1 : w1.heap.size = w.heap.size := by rw [hw1]; simp
   have hs2 : w2.heap.size = w.heap.size := by rw [hw2]; simp [hs1]
   have hW1 : BooB w1 H n W n := h.out.waits.of (hc1.block H g2 n4')
   have HW2 : Hid (BooB w2 H n (fun j => if j = p then true else W j) n) := lhid (by rw [hw2]; exact hW1.upd)
   have HM2 : Hid (Mks w2 G n (brM m p more)) := lhid (HM1.out.of (hc2.block G (by omega) n4))
   have HV2 : Hid (w2.heap[TB]? = some (.cells #[.slice A L.length ac] 22 (0, 0))) := lhid (hc2.keep (hc1.keep HV.out n3') n7')
   have HO2 : Hid (OwN w2 B (.slice A L.length ac) L) := lhid (own_ch (own_ch HO.out hc1 (fun g hg e => by have := own_lt HO.out g hg; have := h.out.low; omega)) hc2 (fun g hg e => (HNH.out g hg).1 e))
   have HC2 : Hid (Ch (LvX TB G H B) w w2) := lhid ((hc1.mono (Y := LvX TB G H B) fun k _ e => .inl e).trans (hc2.mono (Y := LvX TB G H B) fun k _ e => .inr (.inl e)) (fun _ _ e => e))
   have HLB2 : Hid (w2.heap[LB]? = some (.cells #[.slice (some ⟨G, 0, none⟩) n n] 50 (0, 0)) ∧ w2.heap[WB]? = some (.cells #[.slice (some ⟨H, 0, none⟩) n n] 81 (0, 0))) := lhid ⟨hc2.keep (hc1.keep h.out.lb n1') n5', hc2.keep (hc1.keep h.out.wb n2') n6'⟩
   have q5 := heap_cell (i := 0) HV2.out rfl
   have z5 := heap_thaw HV2.out 0
   have g5 := heap_lt HV2.out
   have hB2 : B ≤ w2.heap.size := by have := h.out.big; omega
   clear hw1 hw2 hc1 hc2 hs1 hs2 hW1 HM1 q0 q1 q2 q3 q4 z1 z2 z4 g1 g2 g4 hor hz0 han
   go_wp2_with (at_builtin; refine wpList_append_fresh rfl (.tmp 29) (.tmp 31) rfl B (.slice A L.length ac) L rfl (HO2.out.alloc _) ⟨w2.heap.size, 0, none⟩ 1 (p : Int) rfl ?cell ?big ?len ?_)
   case cell => exact heap_cell (i := 0) (heap_alloc_new w2 (.cells #[.int .i64 (p : Int)] 3)) rfl
   case big => simp; omega
   case len => rw [HLL.out]; exact hT.out
   intro v' w4 ho4 hg4 _
   have hTB4 : w4.heap[TB]? = some (.cells #[.slice A L.length ac] 22 (0, 0)) := (hg4.block TB (by simp; omega) (fun e => by have := own_lt HO2.out TB e.symm; have := h.out.low; omega)).trans ((Below.heap_alloc _ _ _ g5).trans HV2.out)
   have q6 := heap_cell (i := 0) hTB4 rfl
   have z6 := heap_thaw hTB4 0
   have g6 := heap_lt hTB4
   obtain ⟨A4, c4, rfl⟩ := own_shape ho4
   have HO4 := lhid ho4
   have HG4 := lhid hg4
   have HT4 := lhid hTB4
   clear ho4 hg4 hTB4
   go_wp2_with fail
   have hc4 : Ch (fun k => k = TB ∨ (Value.slice A L.length ac).ownBlock = some k) w2 w4 := ((Ch.refl (fun k => k = TB ∨ (Value.slice A L.length ac).ownBlock = some k) w2).alloc _).grown HG4.out (fun k e _ => .inr e)
   have hc : Ch (fun k => k = TB ∨ (Value.slice A L.length ac).ownBlock = some k) w2 (w4.setCell ⟨TB, 0, none⟩ (.slice A4 (L ++ [(p : Int)]).length c4)) := hc4.set (p := ⟨TB, 0, none⟩) (fun _ => .inl rfl) _
   have hlow := h.out.low
   have hno : ∀ k, k < B → ¬ (Value.slice A L.length ac).ownBlock = some k := fun k hk e => by have := own_lt HO2.out k e; omega
   have hno2 : ¬ (Value.slice A L.length ac).ownBlock = some H := fun e => (HNH.out H e).1 rfl
   have hno3 : ¬ (Value.slice A L.length ac).ownBlock = some WB := fun e => (HNH.out WB e).2 rfl
   rw [show L.length + 1 = (L ++ [(p : Int)]).length by simp]
   refine ⟨rfl, _, results_none rfl _ _ _, rfl, brM m p more, _, T ++ [p], HB.out, ⟨hc.keep HLB2.out.1 (fun e => e.elim n8' (hno LB hlow.1)), hc.keep HLB2.out.2 (fun e => e.elim n9' hno3), HM2.out.of (hc.block G HM2.out.lt (fun e => e.elim n3 (hno G hlow.2.2))), HW2.out.of (hc.block H HW2.out.lt (fun e => e.elim n7 hno2)), ⟨_, by have := heap_set (i := 0) HT4.out (.slice A4 (L ++ [(p : Int)]).length c4); simpa using this, ?_⟩, HWT.out, Nat.le_trans hB2 hc.size, hlow⟩, HC2.out.trans (hc.mono (Y := LvX TB G H B) fun k _ e => e.elim (fun e => .inr (.inr (.inl e))) (fun e => .inr (.inr (.inr (own_lt HO2.out k e))))) (fun _ _ e => e)⟩
   rw [List.map_append, HL.out]
   have h9 := HO4.out
   rw [show (L ++ [(p : Int)]).length = L.length + 1 by simp] at h9
   show OwN _ B (.slice A4 (L.length + 1) c4) (L ++ [(p : Int)])
   exact own_ch h9 ((Ch.refl (fun k => k = TB) w4).set (p := ⟨TB, 0, none⟩) (fun _ => rfl) _) (fun g hg e => by have := own_lt h9 g hg; omega)
end Go.Proofs.Ytoommeiiadobfaa
/- The memory of live's spread: lists of lists that can be read; what stands while live registers spread. -/
namespace Go.Proofs.Ytoommeiiadobfaa
open Go.RowKit Go
set_option linter.unusedVariables false
set_option linter.unusedSimpArgs false
def LsE (P : Nat → Prop) (w : World) (l : List Int) (c : List Value) : Prop := ∃ u, c = [u] ∧ RdX P 1 NuE w u l
theorem keptX_ls (P : Nat → Prop) : KeptX P (LsE P) := by
 rintro w w' x c hb ⟨v, rfl, h⟩
 exact ⟨v, rfl, h.kept (keptX_nu P) hb⟩
theorem ls_ne {P : Nat → Prop} {w : World} (a : List Int) (c : List Value) (h : LsE P w a c) : c ≠ [] := by obtain ⟨_, rfl, _⟩ := h; simp
theorem ls_cell {P : Nat → Prop} {w : World} {A : Option Addr} {n cap i : Nat} {L : List (List Int)} {l : List Int} (h : RdX P 1 (LsE P) w (.slice A n cap) L) (hi : L[i]? = some l) : ∃ g o UA uc, A = some ⟨g, o, none⟩ ∧ w.cell? ⟨g, o + i, none⟩ = some (.slice UA l.length uc) ∧ RdX P 1 NuE w (.slice UA l.length uc) l := by
 obtain ⟨g, o, c, h1, _, ⟨u, h2, h3⟩, h4⟩ := h.at' hi
 subst h2
 obtain ⟨UA, uc, h5⟩ := h3.shape
 subst h5
 have h6 := h4 0 _ rfl
 rw [Nat.add_zero, Nat.mul_one] at h6
 exact ⟨g, o, UA, uc, h1, h6, h3⟩
theorem nu_cell {P : Nat → Prop} {w : World} {A : Option Addr} {n cap i : Nat} {L : List Int} {z : Int} (h : RdX P 1 NuE w (.slice A n cap) L) (hi : L[i]? = some z) : ∃ g o, A = some ⟨g, o, none⟩ ∧ w.cell? ⟨g, o + i, none⟩ = some (.int .i64 z) := by
 obtain ⟨g, o, c, h1, _, h2, h4⟩ := h.at' hi
 have h2 : c = [.int .i64 z] := h2
 subst h2
 have h6 := h4 0 _ rfl
 rw [Nat.add_zero, Nat.mul_one] at h6
 exact ⟨g, o, h1, h6⟩
def regM (F : Int) : List Int → Mk
 | [] => 0
 | r :: l => bitN r F ||| regM F l
theorem regM_get (F : Nat) (l : List Int) (b : Nat) : (regM F l).getLsbD b = true ↔ b < 64 ∧ ((F + b : Nat) : Int) ∈ l := by
 induction l with
 | nil => simp [regM]
 | cons r l ih =>
  rw [regM, BitVec.getLsbD_or, Bool.or_eq_true, ih, bitN_get]
  simp only [Bool.and_eq_true, decide_eq_true_eq, List.mem_cons]
  constructor
  ·rintro (⟨h1, h2⟩ | ⟨h1, h2⟩)
   ·exact ⟨h1, .inl (by omega)⟩
   ·exact ⟨h1, .inr h2⟩
  ·rintro ⟨h1, h2 | h2⟩
   ·exact .inl ⟨h1, by omega⟩
   ·exact .inr ⟨h1, h2⟩
theorem setOf_r {P : Nat → Prop} (F : Nat) (rv : Value) (l : List Int) (U : Mk) (w : World) (h : Hid (RdX P 1 NuE w rv l)) (hF : Hid (F ≤ 1099511627776)) (hp : Hid (∀ r ∈ l, I64 r)) (hU : Hid (regM F l = U)) :
  Calls Try.prog 54 #[.int .i64 (F : Int), rv] w fun e w' => e = .returned (.int .u64 (U.toNat : Int)) ∧ w' = w := by
 refine (setOf_c F rv l w h hF hp).mono ?_
 rintro e w' ⟨V, rfl, hV, rfl⟩
 refine ⟨?_, rfl⟩
 have : V = U := by
  rw [← hU.out]
  apply BitVec.eq_of_getLsbD_eq
  intro b _
  rw [Bool.eq_iff_iff, hV b, regM_get]
 rw [this]
structure LvD (TB G H R TW B : Nat) (wd : World) : Prop where
 rg : R ≠ G
 tg : TW ≠ G
 rt : R ≠ TW
 rh : R ≠ H
 th : TW ≠ H
 rb : R ≠ TB
 tb : TW ≠ TB
 rB : R < B
 tB : TW < B
 big : B = wd.heap.size
def LvY (TB G H R TW B k : Nat) : Prop := LvX TB G H B k ∨ k = R ∨ k = TW
structure LvS (wd : World) (LB WB TB G H R TW B n S : Nat) (m : Nat → Mk) (W : Nat → Bool) (T : List Nat) (wm tm : Nat → Mk) (wr : World) : Prop where
 num : LvD TB G H R TW B wd
 mem : LvM LB WB TB G H B n m W T wr
 wrt : Mks wr R n wm
 thr : Mks wr TW S tm
 ch : Ch (LvY TB G H R TW B) wd wr
section
variable {wd wr : World} {LB WB TB G H R TW B n S : Nat} {m : Nat → Mk} {W : Nat → Bool} {T : List Nat} {wm tm : Nat → Mk}
theorem LvS.bring {m' : Nat → Mk} {W' : Nat → Bool} {T' : List Nat} {w5 : World} (h : LvS wd LB WB TB G H R TW B n S m W T wm tm wr) (hm : LvM LB WB TB G H B n m' W' T' w5) (hc : Ch (LvX TB G H B) wr w5) : LvS wd LB WB TB G H R TW B n S m' W' T' wm tm w5 where
 num := h.num
 mem := hm
 wrt := h.wrt.of (hc.block R h.wrt.lt (by have := h.num; rintro (e | e | e | e); exact this.rg e; exact this.rh e; exact this.rb e; have := this.rB; omega))
 thr := h.thr.of (hc.block TW h.thr.lt (by have := h.num; rintro (e | e | e | e); exact this.tg e; exact this.th e; exact this.tb e; have := this.tB; omega))
 ch := h.ch.trans (hc.mono (Y := LvY TB G H R TW B) fun _ _ e => .inl e) (fun _ _ e => e)
theorem LvS.below {w5 : World} (h : LvS wd LB WB TB G H R TW B n S m W T wm tm wr) (hb : Below wr.heap.size wr w5) : LvS wd LB WB TB G H R TW B n S m W T wm tm w5 where
 num := h.num
 mem := h.mem.below hb
 wrt := h.wrt.below hb
 thr := h.thr.below hb
 ch := h.ch.below hb
theorem LvS.setT {p : Nat} (h : LvS wd LB WB TB G H R TW B n S m W T wm tm wr) (u : Mk) : LvS wd LB WB TB G H R TW B n S m W T wm (fun j => if j = p then u else tm j) (wr.setCell ⟨TW, p, none⟩ (.int .u64 (u.toNat : Int))) where
 num := h.num
 mem := by
  have hc := (Ch.refl (fun k => k = TW) wr).set (p := ⟨TW, p, none⟩) (fun _ => rfl) (.int .u64 (u.toNat : Int))
  obtain ⟨c, h1, _⟩ := h.thr
  obtain ⟨v, h2, h3⟩ := h.mem.todo
  exact ⟨hc.keep h.mem.lb (fun e => blk_ne h1 h.mem.lb (by decide) e.symm), hc.keep h.mem.wb (fun e => blk_ne h1 h.mem.wb (by decide) e.symm), h.mem.marks.of (hc.block G h.mem.marks.lt (fun e => h.num.tg e.symm)), h.mem.waits.of (hc.block H h.mem.waits.lt (fun e => h.num.th e.symm)), ⟨v, hc.keep h2 (fun e => h.num.tb e.symm), own_ch h3 hc (fun g hg e => by have := own_lt h3 g hg; have := h.num.tB; omega)⟩, h.mem.wts, by simpa [World.setCell] using h.mem.big, h.mem.low⟩
 wrt := h.wrt.of (Below.heap_setCell _ _ _ _ h.num.rt)
 thr := h.thr.put u
 ch := h.ch.set (p := ⟨TW, p, none⟩) (fun _ => .inr (.inr rfl)) _
theorem LvS.keep {k : Nat} {c : Array Value} {t : TypeId} {f : Nat × Nat} (h : LvS wd LB WB TB G H R TW B n S m W T wm tm wr) (hk : wd.heap[k]? = some (.cells c t f)) (h1 : k ≠ G) (h2 : k ≠ H) (h3 : k ≠ TB) (h4 : k ≠ R) (h5 : k ≠ TW) : wr.heap[k]? = some (.cells c t f) :=
 h.ch.keep hk (by rintro ((e | e | e | e) | e | e); exact h1 e; exact h2 e; exact h3 e; (have := heap_lt hk; have := h.num.big; omega); exact h4 e; exact h5 e)
theorem LvS.to {b : Nat} (h : LvS wd LB WB TB G H R TW B n S m W T wm tm wr) (hb : b ≤ G ∧ b ≤ H ∧ b ≤ TB ∧ b ≤ R ∧ b ≤ TW ∧ b ≤ B) : Below b wd wr :=
 h.ch.to (by have := h.num.big; omega) (by rintro k ((e | e | e | e) | e | e) <;> omega)
theorem LvS.pop {i g N cap : Nat} {T' : List Nat} (h : LvS wd LB WB TB G H R TW B n S m W (T' ++ [i]) wm tm wr) {M : Nat} (hv : wr.heap[TB]? = some (.cells #[.slice (some ⟨g, 0, none⟩) M cap] 22 (0, 0))) (ho : OwN wr B (.slice (some ⟨g, 0, none⟩) N cap) (T'.map fun i : Nat => (i : Int))) (hi : i < n) :
  LvS wd LB WB TB G H R TW B n S m (fun j => if j = i then false else W j) T' wm tm ((wr.setCell ⟨TB, 0, none⟩ (.slice (some ⟨g, 0, none⟩) N cap)).setCell ⟨H, i, none⟩ (.bool false)) := by
 obtain ⟨n1, n2, n3, n4, n5, n6, n7, n8, n9⟩ := h.mem.ne
 have hc1 := (Ch.refl (fun k => k = TB) wr).set (p := ⟨TB, 0, none⟩) (fun _ => rfl) (.slice (some ⟨g, 0, none⟩) N cap)
 have hc2 := (Ch.refl (fun k => k = H) (wr.setCell ⟨TB, 0, none⟩ (.slice (some ⟨g, 0, none⟩) N cap))).set (p := ⟨H, i, none⟩) (fun _ => rfl) (.bool false)
 have hs1 : (wr.setCell ⟨TB, 0, none⟩ (.slice (some ⟨g, 0, none⟩) N cap)).heap.size = wr.heap.size := by simp
 have hlow := h.mem.low
 have hgB : ∀ b, (Value.slice (some ⟨g, 0, none⟩) N cap).ownBlock = some b → B ≤ b := fun b hb => own_lt ho b hb
 have hW1 : BooB (wr.setCell ⟨TB, 0, none⟩ (.slice (some ⟨g, 0, none⟩) N cap)) H n W n := h.mem.waits.of (hc1.block H h.mem.waits.lt n7)
 have hW2 : BooB ((wr.setCell ⟨TB, 0, none⟩ (.slice (some ⟨g, 0, none⟩) N cap)).setCell ⟨H, i, none⟩ (.bool false)) H n (fun j => if j = i then false else W j) n := by
  obtain ⟨c, h1, h2, h3⟩ := hW1
  refine ⟨_, heap_set h1 _, by simpa using h2, fun j hj => ?_⟩
  by_cases e : i = j
  ·subst e
   exact ⟨false, by rw [Array.getElem?_setIfInBounds, if_pos rfl, if_pos (by omega)], fun _ => by simp⟩
  ·obtain ⟨y, h4, h5⟩ := h3 j hj
   exact ⟨y, by rw [Array.getElem?_setIfInBounds, if_neg e]; exact h4, fun h => by rw [h5 h]; show W j = if j = i then false else W j; rw [if_neg (fun e2 => e e2.symm)]⟩
 have kk : ∀ {k : Nat} {o : Obj}, wr.heap[k]? = some o → k ≠ TB → k ≠ H → ((wr.setCell ⟨TB, 0, none⟩ (.slice (some ⟨g, 0, none⟩) N cap)).setCell ⟨H, i, none⟩ (.bool false)).heap[k]? = some o := fun hk h1 h2 => hc2.keep (hc1.keep hk h1) h2
 have kb : ∀ k, k < wr.heap.size → k ≠ TB → k ≠ H → ((wr.setCell ⟨TB, 0, none⟩ (.slice (some ⟨g, 0, none⟩) N cap)).setCell ⟨H, i, none⟩ (.bool false)).heap[k]? = wr.heap[k]? := fun k hk h1 h2 => (hc2.block k (by omega) h2).trans (hc1.block k hk h1)
 refine ⟨h.num, ⟨kk h.mem.lb (fun e => n8 e.symm) (fun e => n5 e.symm), kk h.mem.wb (fun e => n9 e.symm) (fun e => n6 e.symm), h.mem.marks.of (kb G h.mem.marks.lt n3 n4), hW2, ⟨_, ?_, own_of ho fun b hb => kb b ((ho.lt b hb).2) (by have := hgB b hb; omega) (fun e => h.mem.waits.net ho (by rw [hb, e]))⟩, h.mem.wts.pop, by simpa [World.setCell] using h.mem.big, h.mem.low⟩, h.wrt.of (kb R h.wrt.lt h.num.rb h.num.rh), h.thr.of (kb TW h.thr.lt h.num.tb h.num.th), (h.ch.set (p := ⟨TB, 0, none⟩) (fun _ => .inl (.inr (.inr (.inl rfl)))) _).set (p := ⟨H, i, none⟩) (fun _ => .inl (.inr (.inl rfl))) _⟩
 have h9 := heap_set (i := 0) hv (.slice (some ⟨g, 0, none⟩) N cap)
 exact hc2.keep (by simpa using h9) (fun e => n7 e.symm)
end
end Go.Proofs.Ytoommeiiadobfaa
/- Is each register written ahead of all that reads it: the program's Set. -/
namespace Go.Proofs.Ytoommeiiadobfaa
open Go.RowKit Go
set_option linter.unusedVariables false
set_option linter.unusedSimpArgs false
def RdUn (f : FuI) (r : Nat) : Prop := ((r : Nat) : Int) ∉ f.params ∧ ∃ i x, f.code[i]? = some x ∧ ((r : Nat) : Int) ∈ usesI x ∧ UnR f ((r : Nat) : Int) i
def SetN (f : FuI) : Prop := chkN f = 0 ∧ ∀ r : Nat, r < f.regs.length → ¬ RdUn f r
def SetOut (f : FuI) (w : World) (e : Ending) (w' : World) : Prop := ∃ z : Bool, e = .returned (.bool z) ∧ (z = true ↔ SetN f) ∧ Below w.heap.size w w'
theorem chk_sizes {f : FuI} (h : chkN f = 0) : f.regs.length ≤ 20000 ∧ f.code.length ≤ 20000 ∧ ∀ r ∈ f.params, 0 ≤ r ∧ r < f.regs.length := by
 unfold chkN checkB at h
 cases h1 : (regsB f && codeB f && rowsB f) with
 | false => rw [h1] at h; simp at h
 | true =>
  simp only [Bool.and_eq_true] at h1
  have h2 := h1.1.1
  have h3 := h1.1.2
  unfold regsB at h2
  unfold codeB at h3
  simp only [Bool.and_eq_true, decide_eq_true_eq, List.all_eq_true, List.mem_range] at h2 h3
  refine ⟨h2.1.1.1.1, h3.1.1.2, fun r hr => ?_⟩
  obtain ⟨i, hi, rfl⟩ := List.getElem_of_mem hr
  have h4 := h2.2 i hi
  unfold parB at h4
  rw [List.getElem?_eq_getElem hi] at h4
  simp only [inB, Bool.and_eq_true, decide_eq_true_eq] at h4
  exact h4.1
theorem webOf_n {P : Nat → Prop} (f : FuI) (n : Nat) (hn : f.code.length = n) (fa fb fd fe : Value) (w : World) (h : Hid (FuV P w f fa fb fd fe)) (hcl : Hid (f.code.length * 96 ≤ 140737488355328)) :
  Calls Try.prog 43 #[fuL fa fb f.ret fd fe] w fun e w' => ∃ gn gs : Nat, e = .returned (.agg #[fa, fb, .int .i64 f.ret, fd, fe, .slice (some ⟨gn, 0, none⟩) n n, .slice (some ⟨gs, 0, none⟩) n n]) ∧ w.heap.size ≤ gn ∧ w.heap.size ≤ gs ∧ LstB w' gn n w.heap.size (fun i => nextL f i) n ∧ NumB w' gs n (strN f.rows) n ∧ Below w.heap.size w w' := by
 subst hn
 exact webOf_any f fa fb fd fe w h hcl
theorem reads_n {P : Nat → Prop} (f : FuI) (n R : Nat) (hn : f.code.length = n) (hR : f.regs.length = R) (fa fb fd fe : Value) (gn gs F : Nat) (w : World) (h : Hid (FuV P w f fa fb fd fe)) (hcl : Hid ((f.code.length + 1) * 1024 ≤ 140737488355328)) (hrn : Hid (RwN f.rows)) (hrl : Hid (f.rows.length * 8 ≤ 140737488355328)) (hLn : Hid (LstB w gn n 0 (fun i => nextL f i) n)) (hSn : Hid (NumB w gs n (strN f.rows) n))
  (hF : Hid (F < R)) (hl : Hid (R ≤ 1099511627776)) (hp : Hid (∀ r ∈ f.params, I64 r)) (hI : Hid (∀ x ∈ f.code, I64 (defI x) ∧ (∀ u ∈ usesI x, I64 u) ∧ x.args.length * 8 ≤ 140737488355328 ∧ (usesI x).length * 8 ≤ 140737488355328)) :
  Calls Try.prog 44 #[.agg #[fa, fb, .int .i64 f.ret, fd, fe, .slice (some ⟨gn, 0, none⟩) n n, .slice (some ⟨gs, 0, none⟩) n n], .int .i64 (F : Int)] w fun e w' => ∃ z : Bool, e = .returned (.bool z) ∧ (z = true ↔ ∃ r, F ≤ r ∧ r < F + 64 ∧ r < R ∧ RdUn f r) ∧ Below w.heap.size w w' := by
 subst hn hR
 refine (reads_c f fa fb fd fe gn gs F w h hcl hrn hrl hLn hSn hF hl hp hI).mono ?_
 rintro e w1 ⟨z, rfl, hz, hb⟩
 refine ⟨z, rfl, hz.trans ⟨?_, ?_⟩, hb⟩
 ·rintro ⟨b, h1, h2, h3, h4⟩
  exact ⟨F + b, by omega, by omega, h2, h3, h4⟩
 ·rintro ⟨r, h1, h2, h3, h4, h5⟩
  obtain ⟨b, rfl⟩ : ∃ b, r = F + b := ⟨r - F, by omega⟩
  exact ⟨b, by omega, h3, h4, h5⟩
set_option maxHeartbeats 8000000 in
set_option maxRecDepth 100000 in
theorem set_any {P : Nat → Prop} (f : FuI) (fa fb fd fe : Value) (w : World) (h : Hid (FuV P w f fa fb fd fe)) (hq : Hid (FuQ f)) (hcap : Hid (∀ A n cap, fb = .slice A n cap → n ≤ cap ∧ cap ≤ maxLen)) (hcl : Hid ((f.code.length + 1) * 1024 ≤ 140737488355328)) (hrn : Hid (RwN f.rows)) (hrl : Hid (f.rows.length * 8 ≤ 140737488355328)) (hI : Hid (∀ x ∈ f.code, I64 (defI x) ∧ (∀ u ∈ usesI x, I64 u) ∧ x.args.length * 8 ≤ 140737488355328 ∧ (usesI x).length * 8 ≤ 140737488355328)) :
  Calls Try.prog 19 #[fuL fa fb f.ret fd fe] w fun e w' => SetOut f w e w' := by
 obtain ⟨FA, ac, hFA⟩ := h.out.a.shape
 subst hFA
 obtain ⟨FB, bc, hFB⟩ := h.out.b.shape
 subst hFB
 obtain ⟨D, dcap, hD⟩ := h.out.d.shape
 subst hD
 obtain ⟨E, ecap, hE⟩ := h.out.e.shape
 subst hE
 obtain ⟨n, hn⟩ : ∃ n, f.code.length = n := ⟨_, rfl⟩
 obtain ⟨R, hR⟩ : ∃ R, f.regs.length = R := ⟨_, rfl⟩
 have HN := lhid hn
 have HR := lhid hR
 have hf2 := h.out
 rw [hn, hR] at hf2 ⊢
 have HFU := lhid hf2
 clear hn hf2 h hR
 obtain ⟨c, hc⟩ : ∃ c, chkN f = c := ⟨_, rfl⟩
 have HC := lhid hc
 clear hc
 go_enter Try.func19, Try.ntmps19
 go_wp2_with fail
 generalize hW : World.alloc _ _ = w0
 obtain ⟨B0, hB0⟩ : ∃ B, B = w.heap.size := ⟨_, rfl⟩
 have hb0 : Below B0 w w0 := by rw [← hW, hB0]; exact (Below.refl _ _).alloc (Nat.le_refl _) _
 have hF0 : FBox w0 B0 (.slice FA R ac) (.slice FB f.params.length bc) f.ret (.slice D n dcap) (.slice E f.rows.length ecap) := by rw [← hW, hB0]; exact heap_alloc_new w _
 rw [← hB0]
 have HB0 := lhid hB0
 have HF0 := lhid hF0
 have HBw := lhid hb0
 have HU0 := lhid (HFU.out.below (by rw [← hB0]; exact hb0))
 obtain ⟨p0, p1, p2, p3, p4⟩ := hF0.cells
 clear hW hb0 hF0 hB0
 with_reducible refine (check_r f _ _ _ _ c w0 HU0 hq hcap HC).mono ?_
 rintro e w1 ⟨rfl, hb⟩
 have HF1 : Hid (FBox w1 B0 (.slice FA R ac) (.slice FB f.params.length bc) f.ret (.slice D n dcap) (.slice E f.rows.length ecap)) := lhid (heap_keep HF0.out hb)
 have HB1 : Hid (Below B0 w w1) := lhid (HBw.out.trans (hb.mono (by have := heap_lt HF0.out; omega)))
 have HU1 := lhid (HFU.out.below (by rw [← HB0.out]; exact HB1.out))
 clear hb HF0 HBw HU0 p0 p1 p2 p3 p4
 obtain ⟨p0, p1, p2, p3, p4⟩ := HF1.out.cells
 by_cases hc0 : c = 0
 ·have hcb : (c != 0) = false := by rw [hc0]; rfl
  have HC0 : Hid (chkN f = 0) := lhid (HC.out.trans hc0)
  clear hc0
  go_wp2_with fail
  with_reducible refine (webOf_n f n HN.out _ _ _ _ w1 HU1 (lhid (by have := hcl.out; omega))).mono ?_
  rintro e w2 ⟨gn, gs, rfl, hgn, hgs, hl, hs, hb⟩
  have HF2 : Hid (FBox w2 B0 (.slice FA R ac) (.slice FB f.params.length bc) f.ret (.slice D n dcap) (.slice E f.rows.length ecap)) := lhid (heap_keep HF1.out hb)
  have HB2 : Hid (Below B0 w w2) := lhid (HB1.out.trans (hb.mono (by have := heap_lt HF1.out; omega)))
  have HL := lhid (hl.base (Nat.zero_le _))
  have HS := lhid hs
  clear hb hgn hgs hl hs HF1 HB1 HU1 p0 p1 p2 p3 p4
  go_wp2_with fail
  generalize hW : World.alloc _ _ = w3
  obtain ⟨WB, hWB⟩ : ∃ WB, WB = w2.heap.size := ⟨_, rfl⟩
  have hb3 : Below w2.heap.size w2 w3 := by rw [← hW]; exact (Below.refl _ _).alloc (Nat.le_refl _) _
  have HW3 : Hid (WBox w3 WB (.slice FA R ac) (.slice FB f.params.length bc) f.ret (.slice D n dcap) (.slice E f.rows.length ecap) (.slice (some ⟨gn, 0, none⟩) n n) (.slice (some ⟨gs, 0, none⟩) n n)) := lhid (by rw [← hW, hWB]; exact heap_alloc_new w2 _)
  rw [← hWB]
  have HF3 : Hid (FBox w3 B0 (.slice FA R ac) (.slice FB f.params.length bc) f.ret (.slice D n dcap) (.slice E f.rows.length ecap)) := lhid (heap_keep HF2.out hb3)
  have HB3 : Hid (Below B0 w w3) := lhid (HB2.out.trans (hb3.mono (by have := heap_lt HF2.out; omega)))
  have HL3 := lhid (HL.out.below hb3)
  have HS3 := lhid (HS.out.of (hb3.block gs HS.out.lt))
  have HRL : Hid (R ≤ 20000) := lhid (by rw [← HR.out]; exact (chk_sizes HC0.out).1)
  have HP : Hid (∀ r ∈ f.params, I64 r) := lhid (fun r hr => by have := (chk_sizes HC0.out).2.2 r hr; have := (chk_sizes HC0.out).1; unfold I64; omega)
  clear hb3 hW hWB HF2 HB2 HL HS
  go_loopg [4] (R + 1) (fun g s wr => ∃ F : Nat, g = R + 1 - F ∧ s = .int .i64 F ∧ F ≤ R + 64 ∧ Hid (∀ r, r < F → r < R → ¬ RdUn f r) ∧ Hid (Below w3.heap.size w3 wr))
  case atStart => exact ⟨0, by omega, rfl, by omega, lhid (fun r hr => by omega), lhid (Below.refl _ _)⟩
  case round =>
   obtain ⟨F, rfl, rfl, hF, HNO, HBr⟩ := hrel
   have hB0s : B0 ≤ w3.heap.size := by have := heap_lt HF3.out; omega
   have hBq : Below B0 w wr := HB3.out.trans (HBr.out.mono hB0s)
   have hF4 : FBox wr B0 (.slice FA R ac) (.slice FB f.params.length bc) f.ret (.slice D n dcap) (.slice E f.rows.length ecap) := heap_keep HF3.out HBr.out
   obtain ⟨p0, p1, p2, p3, p4⟩ := hF4.cells
   have hW4 : WBox wr WB (.slice FA R ac) (.slice FB f.params.length bc) f.ret (.slice D n dcap) (.slice E f.rows.length ecap) (.slice (some ⟨gn, 0, none⟩) n n) (.slice (some ⟨gs, 0, none⟩) n n) := heap_keep HW3.out HBr.out
   obtain ⟨q0, q1, q2, q3, q4, q5, q6⟩ := hW4.cells
   have HBq := lhid hBq
   have HUr := lhid (HFU.out.below (by rw [← HB0.out]; exact hBq))
   clear hB0s hBq hF4 hW4
   have hrl2 := HRL.out
   have hwf : wrap64 ((F : Int) + 64) = ((F + 64 : Nat) : Int) := by rw [IntWalk.wrap64_in _ (by omega)]; omega
   by_cases hlt : F < R
   ·have k3 : (F : Int) < R := by omega
    go_wp2_with fail
    with_reducible refine (reads_n f n R HN.out HR.out _ _ _ _ gn gs F wr HUr hcl hrn hrl (lhid (HL3.out.below HBr.out)) (lhid (HS3.out.of (HBr.out.block gs HS3.out.lt))) (lhid hlt) (lhid (by omega)) HP hI).mono ?_
    rintro e w5 ⟨z, rfl, hz, hb⟩
    have HB5 := lhid (HBr.out.trans (hb.mono HBr.out.size))
    have HBq5 : Hid (Below B0 w w5) := lhid (HBq.out.trans (hb.mono (by have := HBq.out.size; have := HB0.out; omega)))
    have HZ := lhid hz
    clear hz hb p0 p1 p2 p3 p4 q0 q1 q2 q3 q4 q5 q6
    cases z with
    | true =>
     go_wp2_with fail
     go_ret
     refine ⟨false, rfl, ?_, by rw [← HB0.out]; exact HBq5.out⟩
     obtain ⟨r, h1, h2, h3, h4⟩ := HZ.out.1 (by trivial)
     refine ⟨fun h => (by cases h), fun h => absurd h4 (h.2 r (by rw [HR.out]; exact h3))⟩
    | false =>
     have HNO2 : Hid (∀ r, r < F + 64 → r < R → ¬ RdUn f r) := lhid (fun r h1 h2 h3 => by
      by_cases e : r < F
      ·exact HNO.out r e h2 h3
      ·exact absurd (HZ.out.2 ⟨r, by omega, h1, h2, h3⟩) (by simp))
     go_wp2_with fail
     go_roundg (R + 1 - (F + 64))
     case measure => omega
     case rel => exact ⟨F + 64, rfl, by first | rfl | rw [hwf], by omega, HNO2, HB5⟩
   ·have k3 : ¬ (F : Int) < R := by omega
    go_wp2_with fail
    go_ret
    exact ⟨true, rfl, ⟨fun _ => ⟨HC0.out, fun r hr => HNO.out r (by rw [HR.out] at hr; omega) (by rw [HR.out] at hr; exact hr)⟩, fun _ => rfl⟩, by rw [← HB0.out]; exact HBq.out⟩
 ·have hcb : (c != 0) = true := by simpa using hc0
  have HNS : Hid (¬ SetN f) := lhid (fun h => hc0 (HC.out.symm.trans h.1))
  clear hc0
  go_wp2_with fail
  go_ret
  exact ⟨false, rfl, ⟨fun h => (by cases h), fun h => absurd h HNS.out⟩, by rw [← HB0.out]; exact HB1.out⟩
end Go.Proofs.Ytoommeiiadobfaa
/- The document's search for a read, with a list of open places: plain words, and an append of one own list to another. -/
namespace Go.Proofs.Ytoommeiiadobfaa
open Go.RowKit Go
set_option linter.unusedVariables false
set_option linter.unusedSimpArgs false
def sucL (f : FuI) (r : Int) (i : Nat) (x : InI) : List Int := caughtL f i ++ (if defI x = r then [] else nextL f i)
inductive PR (f : FuI) (r : Int) (st : List Int) : Nat → Prop
 | first {j : Nat} : (j : Int) ∈ st → j < f.code.length → PR f r st j
 | step {i j : Nat} {x : InI} : PR f r st i → f.code[i]? = some x → (j : Int) ∈ sucL f r i x → j < f.code.length → PR f r st j
theorem caught_iff {f : FuI} {i : Nat} {x : InI} (hx : f.code[i]? = some x) (j : Int) : j ∈ caughtL f i ↔ throwsB x.op = true ∧ j ∈ catL f.rows i := by
 have hcg : caughtL f i = if throwsB x.op then uniqL (catL f.rows i) else [] := by unfold caughtL; rw [atC_some hx]
 rw [hcg]
 cases throwsB x.op with
 | true => simp only [if_true, true_and]; exact ⟨uniq_mem, mem_uniq⟩
 | false => simp
theorem unr_pr {f : FuI} {r : Int} (i : Nat) : UnR f r i ↔ PR f r [0] i := by
 constructor
 ·intro h
  induction h with
  | first h0 => exact .first (by simp) h0
  | next _ hx hj hjn hs ih => exact .step ih hx (List.mem_append_right _ (by rw [if_neg hs]; exact hj)) hjn
  | caught _ hx ht hj hjn ih => exact .step ih hx (List.mem_append_left _ ((caught_iff hx _).2 ⟨ht, hj⟩)) hjn
 ·intro h
  induction h with
  | @first j hj hjn =>
   have : j = 0 := by simpa using hj
   subst this
   exact .first hjn
  | step _ hx hj hjn ih =>
   rcases List.mem_append.1 hj with h1 | h1
   ·obtain ⟨h2, h3⟩ := (caught_iff hx _).1 h1
    exact .caught ih hx h2 h3 hjn
   ·split at h1
    ·cases h1
    ·rename_i hs
     exact .next ih hx h1 hjn hs
theorem caughtL_len (f : FuI) (i : Int) : (caughtL f i).length ≤ f.rows.length := by
 unfold caughtL
 split
 ·simp
 ·split
  ·exact Nat.le_trans (uniq_len _) (catL_len _ _)
  ·simp
theorem sucL_len (f : FuI) (r : Int) (i : Nat) (x : InI) : (sucL f r i x).length ≤ f.rows.length + 2 := by
 have h1 := caughtL_len f i
 have h2 := nextL_two f i
 unfold sucL
 rw [List.length_append]
 split
 ·simp; omega
 ·omega
structure Dfs (f : FuI) (r : Int) (st : List Int) (S : Nat → Bool) (T : List Int) : Prop where
 sound : ∀ i, i < f.code.length → S i = true → PR f r st i
 opn : ∀ t ∈ T, ∀ j : Nat, t = j → j < f.code.length → PR f r st j
 noread : ∀ i x, f.code[i]? = some x → S i = true → r ∉ usesI x
 closed : ∀ i x, f.code[i]? = some x → S i = true → ∀ j : Nat, (j : Int) ∈ sucL f r i x → j < f.code.length → S j = true ∨ (j : Int) ∈ T
 start : ∀ j : Nat, (j : Int) ∈ st → j < f.code.length → S j = true ∨ (j : Int) ∈ T
theorem Dfs.begin (f : FuI) (r : Int) (st : List Int) : Dfs f r st (fun _ => false) st :=
 ⟨fun _ _ h => (by cases h), fun t ht j e hj => .first (e ▸ ht) hj, fun _ _ _ h => (by cases h), fun _ _ _ h => (by cases h), fun j hj _ => .inr hj⟩
theorem Dfs.skip {f : FuI} {r : Int} {st : List Int} {S : Nat → Bool} {T : List Int} {i : Int} (h : Dfs f r st S (T ++ [i])) (hi : ∀ j : Nat, i = j → j < f.code.length → S j = true) : Dfs f r st S T where
 sound := h.sound
 opn t ht := h.opn t (List.mem_append_left _ ht)
 noread := h.noread
 closed a x hx ha j hj hjn := by
  rcases h.closed a x hx ha j hj hjn with h1 | h1
  ·exact .inl h1
  ·rcases List.mem_append.1 h1 with h2 | h2
   ·exact .inr h2
   ·exact .inl (hi j (List.mem_singleton.1 h2).symm hjn)
 start j hj hjn := by
  rcases h.start j hj hjn with h1 | h1
  ·exact .inl h1
  ·rcases List.mem_append.1 h1 with h2 | h2
   ·exact .inr h2
   ·exact .inl (hi j (List.mem_singleton.1 h2).symm hjn)
theorem Dfs.done {f : FuI} {r : Int} {st : List Int} {S : Nat → Bool} (h : Dfs f r st S []) : ∀ i x, f.code[i]? = some x → r ∈ usesI x → ¬ PR f r st i := by
 have key : ∀ i, PR f r st i → S i = true := by
  intro i hp
  induction hp with
  | first hj hjn => rcases h.start _ hj hjn with h1 | h1; exact h1; cases h1
  | step _ hx hj hjn ih => rcases h.closed _ _ hx ih _ hj hjn with h1 | h1; exact h1; cases h1
 exact fun i x hx hr hp => h.noread i x hx (key i hp) hr
theorem Dfs.less {f : FuI} {r : Int} {S : Nat → Bool} {T : List Int} {i n : Nat} {x : InI} (hi : i < n) (hs : S i = false) : cntF n (updB S i) * (f.rows.length + 3) + (T ++ sucL f r i x).length + 1 ≤ cntF n S * (f.rows.length + 3) + (T ++ [(i : Int)]).length := by
 have h1 := cntF_upd hi hs
 have h2 := sucL_len f r i x
 have h3 : (cntF n (updB S i) + 1) * (f.rows.length + 3) ≤ cntF n S * (f.rows.length + 3) := Nat.mul_le_mul_right _ h1
 rw [Nat.add_mul] at h3
 simp only [List.length_append, List.length_cons, List.length_nil]
 omega
end Go.Proofs.Ytoommeiiadobfaa
/- Is each register written ahead of all that reads it: the document's Set. -/
namespace Go.Proofs.Ytoommeiiadobfaa
open Go.RowKit Go
set_option linter.unusedVariables false
set_option linter.unusedSimpArgs false
theorem nextL_pos {f : FuI} (h : chkN f = 0) (i : Nat) : ∀ t ∈ nextL f i, 0 ≤ t := by
 intro t ht
 by_cases hi : i < f.code.length
 ·obtain ⟨x, hx⟩ : ∃ x, f.code[i]? = some x := ⟨_, List.getElem?_eq_getElem hi⟩
  unfold nextL at ht
  rw [atC_some hx] at ht
  have hg : t ∈ goOn x i → 0 ≤ t := by
   unfold goOn
   split
   ·intro h; cases h
   ·intro h; have := List.mem_singleton.1 h; omega
  simp only [nextX] at ht
  split at ht
  ·rename_i hl
   simp only [Bool.and_eq_true] at hl
   rcases List.mem_append.1 ht with h1 | h1
   ·exact hg h1
   ·have := chk_leads h x (List.mem_of_getElem? hx) hl.1
    have := List.mem_singleton.1 h1
    omega
  ·exact hg ht
 ·unfold nextL at ht
  rw [atC_none (by omega)] at ht
  cases ht
end Go.Proofs.Ytoommeiiadobfaa
/- Is there a way to a read: the document's search. -/
namespace Go.Proofs.Ytoommeiiadobfaa
open Go.RowKit Go
set_option linter.unusedVariables false
set_option linter.unusedSimpArgs false
theorem own_ne {w : World} {B k : Nat} {v : Value} {l : List Int} {c : Array Value} {T : TypeId} (h : OwN w B v l) (hk : w.heap[k]? = some (.cells c T (0, 0))) (hT : T ≠ 3) : v.ownBlock ≠ some k := by
 rcases h.2 with ⟨rfl, _⟩ | ⟨g, cap, cur, rfl, _, hg, _⟩
 ·intro e; cases e
 ·intro e
  injection e with e
  subst e
  rw [hg] at hk
  injection hk with hk
  injection hk with _ hk
  exact hT hk.symm
structure FrI (B B0 G n : Nat) (F : Array Value) (T : List Int) (v : Value) (S : Nat → Bool) (w wr : World) : Prop where
 row : OwN wr B v T
 seen : BooB wr G n S n
 box : wr.heap[B0]? = some (.cells F 26 (0, 0))
 bel : Below B w wr
 big : B ≤ wr.heap.size
theorem FrI.below {B B0 G n : Nat} {F : Array Value} {T : List Int} {v : Value} {S : Nat → Bool} {w wr w' : World} (h : FrI B B0 G n F T v S w wr) (hb : Below wr.heap.size wr w') : FrI B B0 G n F T v S w w' :=
 ⟨own_below h.row hb, h.seen.of (hb.block G h.seen.lt), heap_keep h.box hb, h.bel.trans (hb.mono h.big), Nat.le_trans h.big hb.size⟩
theorem FrI.grown {B B0 G n : Nat} {F : Array Value} {T T' : List Int} {v v' : Value} {S : Nat → Bool} {w wr w' : World} (h : FrI B B0 G n F T v S w wr) (hg : wr.grownBy w' v.ownBlock) (hr : OwN w' B v' T') : FrI B B0 G n F T' v' S w w' := by
 have hGt : v.ownBlock ≠ some G := by obtain ⟨c, h1, _⟩ := h.seen; exact own_ne h.row h1 (by decide)
 have hBt : v.ownBlock ≠ some B0 := own_ne h.row h.box (by decide)
 exact ⟨hr, h.seen.of (hg.block G h.seen.lt (fun e => hGt e.symm)), (hg.block B0 (heap_lt h.box) (fun e => hBt e.symm)).trans h.box, h.bel.grown hg h.big (fun k e => own_lt h.row k e), Nat.le_trans h.big hg.size⟩
end Go.Proofs.Ytoommeiiadobfaa
/- Lists of lists of the call's own. -/
namespace Go.Proofs.Ytoommeiiadobfaa
open Go.RowKit Go
set_option linter.unusedVariables false
set_option linter.unusedSimpArgs false
def OwLL (w : World) (B : Nat) (v : Value) (L : List (List Int)) : Prop := ∃ vs : List Value, w.ownsRow B 22 1 v L.length vs ∧ (∀ (i : Nat) l, L[i]? = some l → ∃ u, vs[i]? = some u ∧ OwN w B u l) ∧ (∀ (i j : Nat) u u', vs[i]? = some u → vs[j]? = some u' → i ≠ j → ∀ b, u.ownBlock = some b → u'.ownBlock ≠ some b)
theorem oll_ne {w : World} {B B' n : Nat} {v u : Value} {vs : List Value} {l : List Int} (h : w.ownsRow B 22 1 v n vs) (h2 : OwN w B' u l) : ∀ g, v.ownBlock = some g → u.ownBlock ≠ some g := by
 intro g hg
 rcases h.2 with ⟨rfl, _⟩ | ⟨g', cap, cur, rfl, _, hc, _⟩
 ·cases hg
 ·injection hg with hg
  subst hg
  exact own_ne h2 hc (by decide)
theorem OwLL.nil (w : World) (B : Nat) : OwLL w B (.slice none 0 0) [] := ⟨[], World.ownsRow_nil _ _ _ _, fun i l h => by simp at h, fun i j u u' h => by simp at h⟩
theorem OwLL.shape {w : World} {B : Nat} {v : Value} {L : List (List Int)} (h : OwLL w B v L) : ∃ A c, v = .slice A L.length c := by
 obtain ⟨vs, h1, _⟩ := h
 exact own_shape h1
theorem OwLL.below {w w' : World} {B : Nat} {v : Value} {L : List (List Int)} (h : OwLL w B v L) (hb : Below w.heap.size w w') : OwLL w' B v L := by
 obtain ⟨vs, h1, h2, h3⟩ := h
 refine ⟨vs, own_below h1 hb, fun i l hi => ?_, h3⟩
 obtain ⟨u, h4, h5⟩ := h2 i l hi
 exact ⟨u, h4, own_below h5 hb⟩
theorem OwLL.base {w : World} {B B' : Nat} {v : Value} {L : List (List Int)} (h : OwLL w B v L) (hB : B' ≤ B) : OwLL w B' v L := by
 obtain ⟨vs, h1, h2, h3⟩ := h
 refine ⟨vs, own_base h1 hB, fun i l hi => ?_, h3⟩
 obtain ⟨u, h4, h5⟩ := h2 i l hi
 exact ⟨u, h4, own_base h5 hB⟩
theorem OwLL.ch {w w' : World} {B : Nat} {v : Value} {L : List (List Int)} {X : Nat → Prop} (h : OwLL w B v L) (hc : Ch X w w') (hX : ∀ k, B ≤ k → k < w.heap.size → ∀ c T, w.heap[k]? = some (.cells c T (0, 0)) → (T = 22 ∨ T = 3) → ¬ X k) : OwLL w' B v L := by
 obtain ⟨vs, h1, h2, h3⟩ := h
 have key : ∀ {e n : Nat} {u : Value} {xs : List Value}, w.ownsRow B e 1 u n xs → (e = 22 ∨ e = 3) → w'.ownsRow B e 1 u n xs := by
  intro e n u xs ho he
  refine own_of ho fun b hb => ?_
  rcases ho.2 with ⟨rfl, _⟩ | ⟨g', cap, cur, rfl, hB', hg, _⟩
  ·cases hb
  ·injection hb with hb
   subst hb
   exact hc.block _ (heap_lt hg) (hX _ hB' (heap_lt hg) _ _ hg he)
 refine ⟨vs, key h1 (.inl rfl), fun i l hi => ?_, h3⟩
 obtain ⟨u, h4, h5⟩ := h2 i l hi
 exact ⟨u, h4, key h5 (.inr rfl)⟩
theorem OwLL.at' {w : World} {B i : Nat} {A : Option Addr} {n cap : Nat} {L : List (List Int)} {l : List Int} (h : OwLL w B (.slice A n cap) L) (hi : L[i]? = some l) : ∃ g c UA uc, A = some ⟨g, 0, none⟩ ∧ B ≤ g ∧ w.heap[g]? = some (.cells c 22 (0, 0)) ∧ w.cell? ⟨g, i, none⟩ = some (.slice UA l.length uc) ∧ OwN w B (.slice UA l.length uc) l := by
 obtain ⟨vs, h1, h2, h3⟩ := h
 obtain ⟨u, h4, h5⟩ := h2 i l hi
 obtain ⟨UA, uc, rfl⟩ := own_shape h5
 have hl := (List.getElem?_eq_some_iff.1 hi).1
 rcases h1.2 with ⟨_, h6⟩ | ⟨g, cp, cur, h6, hB, hg, _⟩
 ·omega
 ·injection h6 with e1 e2 e3
  subst e1 e2 e3
  refine ⟨g, cur, UA, uc, rfl, hB, hg, ?_, h5⟩
  rw [h1.cellAt i (by omega)]
  exact h4
theorem OwLL.set {w w4 : World} {B g i n cap : Nat} {L : List (List Int)} {l l' : List Int} {UA : Option Addr} {un uc : Nat} {u' : Value} (h : OwLL w B (.slice (some ⟨g, 0, none⟩) n cap) L) (hi : L[i]? = some l) (hu : w.cell? ⟨g, i, none⟩ = some (.slice UA un uc)) (hc : Ch (fun k => (Value.slice UA un uc).ownBlock = some k) w w4) (ho : OwN w4 B u' l') (hf : ∀ b, u'.ownBlock = some b → (Value.slice UA un uc).ownBlock = some b ∨ w.heap.size ≤ b) : OwLL (w4.setCell ⟨g, i, none⟩ u') B (.slice (some ⟨g, 0, none⟩) n cap) (L.set i l') := by
 obtain ⟨vs, h1, h2, h3⟩ := h
 have hnl : n = L.length := by
  rcases h1.2 with ⟨h6, _⟩ | ⟨g', cp, cur, h6, _⟩
  ·cases h6
  ·injection h6 with e1 e2 e3
 subst hnl
 obtain ⟨u, h4, h5⟩ := h2 i l hi
 have hl := (List.getElem?_eq_some_iff.1 hi).1
 have hlv := (List.getElem?_eq_some_iff.1 h4).1
 have e : u = .slice UA un uc := by
  have h6 := h1.cellAt i (by omega)
  rw [hu, h4] at h6
  injection h6 with h6
  exact h6.symm
 subst e
 have hg1 : w4.ownsRow B 22 1 (.slice (some ⟨g, 0, none⟩) L.length cap) L.length vs := own_of h1 fun b hb => hc.block b ((h1.lt b hb).2) (fun e => oll_ne h1 h5 b hb e)
 have hgg : (Value.slice (some ⟨g, 0, none⟩) L.length cap).ownBlock = some g := rfl
 have hs := (hg1.stored i u').1
 refine ⟨vs.set i u', by rw [List.length_set]; exact hs, fun j m hj => ?_, fun a b x y ha hb hab bb hx => ?_⟩
 ·by_cases e : i = j
  ·subst e
   rw [List.getElem?_set_self hl] at hj
   injection hj with hj
   subst hj
   exact ⟨u', List.getElem?_set_self hlv, own_of ho fun b hb => Below.heap_setCell _ _ _ _ (fun e => oll_ne hg1 ho g hgg (by rw [hb, e]))⟩
  ·rw [List.getElem?_set_ne e] at hj
   obtain ⟨x, h6, h7⟩ := h2 j m hj
   refine ⟨x, by rw [List.getElem?_set_ne e]; exact h6, ?_⟩
   have h8 : OwN w4 B x m := own_of h7 fun b hb => hc.block b ((h7.lt b hb).2) (fun e2 => h3 i j _ x h4 h6 e b e2 hb)
   exact own_of h8 fun b hb => Below.heap_setCell _ _ _ _ (fun e => oll_ne hg1 h8 g hgg (by rw [hb, e]))
 ·have old : ∀ j x, j ≠ i → vs[j]? = some x → ∀ b, x.ownBlock = some b → b < w.heap.size ∧ (Value.slice UA un uc).ownBlock ≠ some b := fun j x hj hx b hb => by
   have hjl : j < L.length := by
    have h6 := (List.getElem?_eq_some_iff.1 hx).1
    have h7 := h1.1
    omega
   obtain ⟨x', h6, h7⟩ := h2 j _ (List.getElem?_eq_getElem hjl)
   rw [hx] at h6
   injection h6 with h6
   subst h6
   exact ⟨(h7.lt b hb).2, fun e => h3 j i x _ hx h4 hj b hb e⟩
  by_cases ea : i = a
  ·subst ea
   rw [List.getElem?_set_self hlv] at ha
   injection ha with ha
   subst ha
   rw [List.getElem?_set_ne hab] at hb
   intro hy
   obtain ⟨h6, h7⟩ := old b y (fun e => hab e.symm) hb bb hy
   rcases hf bb hx with h8 | h8
   ·exact h7 h8
   ·omega
  ·rw [List.getElem?_set_ne ea] at ha
   by_cases eb : i = b
   ·subst eb
    rw [List.getElem?_set_self hlv] at hb
    injection hb with hb
    subst hb
    intro hy
    obtain ⟨h6, h7⟩ := old a x (fun e => ea e.symm) ha bb hx
    rcases hf bb hy with h8 | h8
    ·exact h7 h8
    ·omega
   ·rw [List.getElem?_set_ne eb] at hb
    exact h3 a b x y ha hb hab bb hx
theorem OwLL.push {w w4 : World} {B : Nat} {v v' : Value} {L : List (List Int)} {vs : List Value} (h : w.ownsRow B 22 1 v L.length vs ∧ (∀ (i : Nat) l, L[i]? = some l → ∃ u, vs[i]? = some u ∧ OwN w B u l) ∧ (∀ (i j : Nat) u u', vs[i]? = some u → vs[j]? = some u' → i ≠ j → ∀ b, u.ownBlock = some b → u'.ownBlock ≠ some b)) (hg : w.grownBy w4 v.ownBlock) (ho : w4.ownsRow B 22 1 v' (L.length + 1) (vs ++ [.slice none 0 0])) : OwLL w4 B v' (L ++ [[]]) := by
 obtain ⟨h1, h2, h3⟩ := h
 have hvl : vs.length = L.length := by have := h1.1; omega
 refine ⟨vs ++ [.slice none 0 0], by rw [List.length_append]; exact ho, fun i l hi => ?_, fun i j u u' hi hj hij b hb => ?_⟩
 ·by_cases e : i < L.length
  ·rw [List.getElem?_append_left e] at hi
   obtain ⟨u, h4, h5⟩ := h2 i l hi
   refine ⟨u, by rw [List.getElem?_append_left (by omega)]; exact h4, own_of h5 fun b hb => hg.block b ((h5.lt b hb).2) (fun e2 => oll_ne h1 h5 b e2.symm hb)⟩
  ·have hl := (List.getElem?_eq_some_iff.1 hi).1
   have hil : i = L.length := by simp at hl; omega
   subst hil
   rw [List.getElem?_append_right (Nat.le_refl _)] at hi
   simp at hi
   subst hi
   exact ⟨.slice none 0 0, by rw [List.getElem?_append_right (by omega), hvl]; simp, World.ownsRow_nil _ _ _ _⟩
 ·have nn : ∀ (k : Nat) (x : Value), (vs ++ [Value.slice none 0 0])[k]? = some x → x.ownBlock = some b → vs[k]? = some x := by
   intro k x hk hx
   by_cases e : k < vs.length
   ·rwa [List.getElem?_append_left e] at hk
   ·rw [List.getElem?_append_right (by omega)] at hk
    have hl := (List.getElem?_eq_some_iff.1 hk).1
    have : k - vs.length = 0 := by simp at hl; omega
    rw [this] at hk
    simp at hk
    subst hk
    cases hx
  intro hy
  exact h3 i j u u' (nn i u hi hb) (nn j u' hj hy) hij b hb hy
theorem OwLL.made {w : World} {B g n : Nat} (h : w.heap[g]? = some (.cells (madeCells #[.slice none 0 0] n) 22 (0, 0))) (hB : B ≤ g) (hn : n ≤ maxLen) : OwLL w B (.slice (some ⟨g, 0, none⟩) n n) (List.replicate n []) := by
 have hm : (madeCells #[Value.slice none 0 0] n).toList = List.replicate n (.slice none 0 0) := by
  apply List.ext_getElem?
  intro j
  by_cases hj : j < n
  ·rw [Array.getElem?_toList, made_at0 _ _ _ (.slice none 0 0) hj (by rw [show j % (#[Value.slice none 0 0] : Array Value).size = 0 from Nat.mod_one j]; rfl), List.getElem?_replicate, if_pos hj]
  ·rw [Array.getElem?_toList, Array.getElem?_eq_none (by rw [size_madeCells]; omega)]
   exact (List.getElem?_eq_none_iff.2 (by simp; omega)).symm
 refine ⟨List.replicate n (.slice none 0 0), ⟨by simp, .inr ⟨g, n, _, by simp, hB, h, by simp, hn, by rw [size_madeCells]; simp, ?_⟩⟩, fun i l hi => ?_, fun i j u u' hi hj hij b hb => ?_⟩
 ·rw [hm, List.length_replicate, Nat.mul_one, List.take_of_length_le (by simp)]
 ·rw [List.getElem?_replicate] at hi
  split at hi
  ·injection hi with hi
   subst hi
   exact ⟨_, by rw [List.getElem?_replicate, if_pos (by assumption)], World.ownsRow_nil _ _ _ _⟩
  ·cases hi
 ·rw [List.getElem?_replicate] at hi
  split at hi
  ·injection hi with hi
   subst hi
   cases hb
  ·cases hi
theorem OwLL.rd {w : World} {B : Nat} {v : Value} {L : List (List Int)} (h : OwLL w B v L) (hl : L.length ≤ 140737488355328) (hi : ∀ l ∈ L, l.length ≤ 140737488355328) : RdX Tru 1 (LsE Tru) w v L := by
 obtain ⟨A, c, hv⟩ := h.shape
 subst hv
 have hnil : A = none → c = 0 := by
  intro e
  obtain ⟨vs, h1, _⟩ := h
  rcases h1.2 with ⟨h2, _⟩ | ⟨g, cap, cur, h2, _⟩
  ·injection h2
  ·injection h2 with h2
   rw [e] at h2
   cases h2
 refine ⟨A, c, rfl, hnil, hl, fun i l hil => ?_⟩
 obtain ⟨g, cc, UA, uc, rfl, hB, hg, h1, h2⟩ := h.at' hil
 refine ⟨g, 0, [.slice UA l.length uc], rfl, trivial, ⟨_, rfl, (OwN.rd h2 (hi l (List.mem_of_getElem? hil))).any fun _ _ => trivial⟩, fun j u hj => ?_⟩
 cases j with
 | succ j => simp at hj
 | zero =>
  simp at hj
  subst hj
  simpa using h1
end Go.Proofs.Ytoommeiiadobfaa
