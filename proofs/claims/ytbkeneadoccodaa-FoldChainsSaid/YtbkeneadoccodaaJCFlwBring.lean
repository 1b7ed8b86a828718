/- Marks brought to a place: the closure of the program's spread. -/
import Derived.Test.YtbkeneadoccodaaJCFlwMem
import Derived.Test.YtbkeneadoccodaaM10
import Derived.RangeFuncWrites
namespace Go.Proofs.Ytbkeneadoccodaa
open Go.RowKit Go
set_option linter.unusedVariables false
set_option linter.unusedSimpArgs false
def WBox (w : World) (F : Nat) (fa fb : Value) (ret : Int) (fd fe nv sv : Value) : Prop := w.heap[F]? = some (.cells #[fa, fb, .int .i64 ret, fd, fe, nv, sv] 63 (0, 0))
theorem WBox.cells {w : World} {F : Nat} {fa fb fd fe nv sv : Value} {ret : Int} (h : WBox w F fa fb ret fd fe nv sv) : w.cell? ⟨F, 0, none⟩ = some fa ∧ w.cell? ⟨F, 1, none⟩ = some fb ∧ w.cell? ⟨F, 2, none⟩ = some (.int .i64 ret) ∧ w.cell? ⟨F, 3, none⟩ = some fd ∧ w.cell? ⟨F, 4, none⟩ = some fe ∧ w.cell? ⟨F, 5, none⟩ = some nv ∧ w.cell? ⟨F, 6, none⟩ = some sv :=
 ⟨heap_cell h rfl, heap_cell h rfl, heap_cell h rfl, heap_cell h rfl, heap_cell h rfl, heap_cell h rfl, heap_cell h rfl⟩
structure SpM (F MB TB G B n : Nat) (fa fb : Value) (ret : Int) (fd fe nv sv : Value) (Pr : Nat → Prop) (m : Nat → Mk) (T : List Nat) (w : World) : Prop where
 web : WBox w F fa fb ret fd fe nv sv
 mb : w.heap[MB]? = some (.cells #[.slice (some ⟨G, 0, none⟩) n n] 90 (0, 0))
 marks : Msk w G n m
 todo : ∃ v, w.heap[TB]? = some (.cells #[v] 23 (0, 0)) ∧ OwN w B v (T.map fun i : Nat => (i : Int)) ∧ ∀ k, Pr k → v.ownBlock ≠ some k
 prot : ∀ k, Pr k → k < w.heap.size ∧ k ≠ G ∧ k ≠ TB
 big : B ≤ w.heap.size
def SpD (F MB TB G B : Nat) : Prop := F < B ∧ MB < B ∧ TB < B ∧ G < B ∧ F ≠ MB ∧ F ≠ TB ∧ F ≠ G ∧ MB ≠ TB ∧ MB ≠ G ∧ TB ≠ G
structure SpK (G TB B : Nat) (Pr : Nat → Prop) (w w' : World) : Prop where
 os : w'.os = w.os
 tape : w'.tape = w.tape
 output : w'.output = w.output
 size : w.heap.size ≤ w'.heap.size
 low : ∀ k, k < B → k ≠ G → k ≠ TB → w'.heap[k]? = w.heap[k]?
 prot : ∀ k, Pr k → w'.heap[k]? = w.heap[k]?
 obj : ∀ (k : Nat) (o : Obj), w.heap[k]? = some o → o.isCells = false → w'.heap[k]? = some o
 rows : ∀ (k : Nat) (cs : Array Value) (fz : Nat × Nat), w.heap[k]? = some (.cells cs 52 fz) → w'.heap[k]? = w.heap[k]?
theorem SpK.refl (G TB B : Nat) (Pr : Nat → Prop) (w : World) : SpK G TB B Pr w w := ⟨rfl, rfl, rfl, Nat.le_refl _, fun _ _ _ _ => rfl, fun _ _ => rfl, fun _ _ h _ => h, fun _ _ _ _ => rfl⟩
theorem SpK.trans {G TB B : Nat} {Pr : Nat → Prop} {a b c : World} (h : SpK G TB B Pr a b) (k : SpK G TB B Pr b c) : SpK G TB B Pr a c where
 os := k.os.trans h.os
 tape := k.tape.trans h.tape
 output := k.output.trans h.output
 size := Nat.le_trans h.size k.size
 low i h1 h2 h3 := (k.low i h1 h2 h3).trans (h.low i h1 h2 h3)
 prot i hi := (k.prot i hi).trans (h.prot i hi)
 obj i o ho hc := k.obj i o (h.obj i o ho hc) hc
 rows i cs fz hi := by have h1 := h.rows i cs fz hi; exact (k.rows i cs fz (h1.trans hi)).trans h1
theorem SpK.of_ch {G TB B n : Nat} {Pr : Nat → Prop} {m : Nat → Mk} {F MB : Nat} {fa fb fd fe nv sv v : Value} {ret : Int} {T : List Nat} {w w' : World} (h : SpM F MB TB G B n fa fb ret fd fe nv sv Pr m T w)
  (hv : w.heap[TB]? = some (.cells #[v] 23 (0, 0))) (ho : OwN w B v (T.map fun i : Nat => (i : Int))) (hp : ∀ k, Pr k → v.ownBlock ≠ some k) (hc : Ch (fun k => k = G ∨ k = TB ∨ v.ownBlock = some k) w w') : SpK G TB B Pr w w' where
 os := hc.os
 tape := hc.tape
 output := hc.output
 size := hc.size
 low k h1 h2 h3 := hc.block k (Nat.lt_of_lt_of_le h1 h.big) (by
  rintro (e | e | e)
  ·exact h2 e
  ·exact h3 e
  ·have := own_lt ho k e; omega)
 prot k hk := hc.block k (h.prot k hk).1 (by
  rintro (e | e | e)
  ·exact (h.prot k hk).2.1 e
  ·exact (h.prot k hk).2.2 e
  ·exact hp k hk e)
 obj k o hk hco := hc.keep hk (by
  rintro (e | e | e)
  ·subst e
   obtain ⟨c, h1, _⟩ := h.marks
   rw [h1] at hk
   injection hk with hk
   subst hk
   cases hco
  ·subst e
   rw [hv] at hk
   injection hk with hk
   subst hk
   cases hco
  ·rcases ho.2 with ⟨e2, _⟩ | ⟨g, cap, cur, e2, _, h3, _⟩
   ·subst e2; cases e
   ·subst e2
    injection e with e
    subst e
    rw [h3] at hk
    injection hk with hk
    subst hk
    cases hco)
 rows k cs fz hk := hc.block k (heap_lt hk) (by
  rintro (e | e | e)
  ·subst e
   obtain ⟨c, h1, _⟩ := h.marks
   rw [h1] at hk
   injection hk with hk
   injection hk with _ hk
   exact absurd hk (by decide)
  ·subst e
   rw [hv] at hk
   injection hk with hk
   injection hk with _ hk
   exact absurd hk (by decide)
  ·rcases ho.2 with ⟨e2, _⟩ | ⟨g, cap, cur, e2, _, h3, _⟩
   ·subst e2; cases e
   ·subst e2
    injection e with e
    subst e
    rw [h3] at hk
    injection hk with hk
    injection hk with _ hk
    exact absurd hk (by decide))
theorem SpM.below {G TB B n : Nat} {Pr : Nat → Prop} {m : Nat → Mk} {F MB : Nat} {fa fb fd fe nv sv : Value} {ret : Int} {T : List Nat} {w w' : World} (h : SpM F MB TB G B n fa fb ret fd fe nv sv Pr m T w) (hb : Below w.heap.size w w') : SpM F MB TB G B n fa fb ret fd fe nv sv Pr m T w' where
 web := heap_keep h.web hb
 mb := heap_keep h.mb hb
 marks := h.marks.below hb
 todo := by
  obtain ⟨v, h1, h2, h3⟩ := h.todo
  exact ⟨v, heap_keep h1 hb, own_below h2 hb, h3⟩
 prot k hk := ⟨Nat.lt_of_lt_of_le (h.prot k hk).1 hb.size, (h.prot k hk).2⟩
 big := Nat.le_trans h.big hb.size
theorem SpK.of_below {G TB B : Nat} {Pr : Nat → Prop} {w w' : World} (hb : Below w.heap.size w w') (hB : B ≤ w.heap.size) (hp : ∀ k, Pr k → k < w.heap.size) : SpK G TB B Pr w w' where
 os := hb.os
 tape := hb.tape
 output := hb.output
 size := hb.size
 low k h1 _ _ := hb.block k (by omega)
 prot k hk := hb.block k (hp k hk)
 obj k o hk _ := heap_keep hk hb
 rows k cs fz hk := hb.block k (heap_lt hk)
theorem SpM.brought {G TB B n : Nat} {Pr : Nat → Prop} {m : Nat → Mk} {F MB : Nat} {fa fb fd fe nv sv v v' : Value} {ret : Int} {T : List Nat} {w w1 w4 : World} {o : Obj} {p : Nat} {more : Mk} (h : SpM F MB TB G B n fa fb ret fd fe nv sv Pr m T w) (hD : SpD F MB TB G B)
  (hv : w.heap[TB]? = some (.cells #[v] 23 (0, 0))) (ho : OwN w B v (T.map fun i : Nat => (i : Int))) (hp : ∀ k, Pr k → v.ownBlock ≠ some k) (hb : Below w.heap.size w w1) (hpn : p < n)
  (ho4 : OwN w4 B v' ((T.map fun i : Nat => (i : Int)) ++ [(p : Int)])) (hg : ((w1.setCell ⟨G, p, none⟩ (.int .u64 ((m p ||| more).toNat : Int))).alloc o).grownBy w4 v.ownBlock) (hf : v'.ownBlock = v.ownBlock ∨ v'.ownBlock = some ((w1.setCell ⟨G, p, none⟩ (.int .u64 ((m p ||| more).toNat : Int))).alloc o).heap.size) :
  SpM F MB TB G B n fa fb ret fd fe nv sv Pr (brM m p more) (T ++ [p]) (w4.setCell ⟨TB, 0, none⟩ v') ∧ SpK G TB B Pr w (w4.setCell ⟨TB, 0, none⟩ v') := by
 obtain ⟨d1, d2, d3, d4, d5, d6, d7, d8, d9, d10⟩ := hD
 have hc4 : Ch (fun k => k = G ∨ k = TB ∨ v.ownBlock = some k) w w4 := (((Ch.of hb).set (p := ⟨G, p, none⟩) (fun _ => .inl rfl) _).alloc o).grown hg (fun k hk _ => .inr (.inr hk))
 have hc : Ch (fun k => k = G ∨ k = TB ∨ v.ownBlock = some k) w (w4.setCell ⟨TB, 0, none⟩ v') := hc4.set (p := ⟨TB, 0, none⟩) (fun _ => .inr (.inl rfl)) _
 have hK := SpK.of_ch h hv ho hp hc
 have hrow : ∀ k, v.ownBlock = some k → B ≤ k := own_lt ho
 have hS : w.heap.size ≤ w1.heap.size := hb.size
 have hTB4 : w4.heap[TB]? = some (.cells #[v] 23 (0, 0)) := by
  refine (hg.block TB (by simp; have := h.big; omega) (fun e => by have := hrow TB e.symm; omega)).trans ?_
  refine (Below.heap_alloc _ _ _ (by simp; have := h.big; omega)).trans ?_
  refine ((Ch.refl (fun k => k = G) w1).set (p := ⟨G, p, none⟩) (fun _ => rfl) _).keep (heap_keep hv hb) d10
 refine ⟨⟨?_, ?_, ?_, ?_, ?_, ?_⟩, hK⟩
 ·exact (hK.low F d1 d7 d6).trans h.web
 ·exact (hK.low MB d2 d9 d8).trans h.mb
 ·have hm1 := (h.marks.below hb).put (p := p) (m p ||| more)
  have hm4 : Msk w4 G n _ := hm1.of ((hg.block G (by simp; have := h.big; omega) (fun e => by have := hrow G e.symm; omega)).trans (Below.heap_alloc _ _ _ (by simp; have := h.big; omega)))
  refine (hm4.of (((Ch.refl (fun k => k = TB) w4).set (p := ⟨TB, 0, none⟩) (fun _ => rfl) v').block G (by have := hm4.lt; omega) (fun e => d10 e.symm))).congr fun j _ => ?_
  unfold brM
  split
  ·rename_i e; subst e; rfl
  ·rfl
 ·refine ⟨v', ?_, ?_, ?_⟩
  ·have := heap_set (i := 0) hTB4 v'
   simpa using this
  ·have h9 : OwN w4 B v' ((T ++ [p]).map fun i : Nat => (i : Int)) := by rw [List.map_append]; exact ho4
   exact own_ch h9 ((Ch.refl (fun k => k = TB) w4).set (p := ⟨TB, 0, none⟩) (fun _ => rfl) v') (fun g hg2 e => by have := own_lt h9 g hg2; omega)
  ·intro k hk
   rcases hf with e | e
   ·rw [e]; exact hp k hk
   ·rw [e]
    intro e2
    injection e2 with e2
    have := (h.prot k hk).1
    simp at e2
    omega
 ·exact fun k hk => ⟨Nat.lt_of_lt_of_le (h.prot k hk).1 hK.size, (h.prot k hk).2⟩
 ·exact Nat.le_trans h.big hK.size
theorem isPlace_w (fa fb : Value) (ret : Int) (D : Option Addr) (n dcap : Nat) (fe : Value) (i : Int) (z : Bool) (w : World) (hz : Hid ((decide (0 ≤ i) && decide (i < (n : Int))) = z)) :
  Calls Try.prog 56 #[.agg #[fa, fb, .int .i64 ret, .slice D n dcap, fe], .int .i64 i] w fun e w' => e = .returned (.bool z) ∧ Below w.heap.size w w' :=
 isPlace_r ⟨[], [], ret, [], []⟩ fa fb D n dcap fe i z w hz
set_option maxHeartbeats 4000000 in
set_option maxRecDepth 100000 in
theorem bring_c (F MB TB G B n : Nat) (fa fb : Value) (ret : Int) (D : Option Addr) (dcap : Nat) (fe nv sv : Value) (Pr : Nat → Prop) (m : Nat → Mk) (T : List Nat) (p : Int) (more : Mk) (w : World) (hD : Hid (SpD F MB TB G B)) (h : Hid (SpM F MB TB G B n fa fb ret (.slice D n dcap) fe nv sv Pr m T w)) (hT : Hid ((T.length + 1) * 8 ≤ 140737488355328)) :
  Calls Try.prog 99 #[.int .i64 p, .int .u64 (more.toNat : Int), .pointer (some ⟨F, 0, none⟩), .pointer (some ⟨MB, 0, none⟩), .pointer (some ⟨TB, 0, none⟩)] w fun e w' => e = .returned (.tuple #[]) ∧ ∃ m' T', Brg n p more m T m' T' ∧ SpM F MB TB G B n fa fb ret (.slice D n dcap) fe nv sv Pr m' T' w' ∧ SpK G TB B Pr w w' := by
 obtain ⟨c0, c1, c2, c3, c4, c5, c6⟩ := h.out.web.cells
 obtain ⟨d1, d2, d3, d4, d5, d6, d7, d8, d9, d10⟩ := hD.out
 by_cases hp : 0 ≤ p ∧ p < n
 ·obtain ⟨k, rfl⟩ : ∃ k : Nat, p = k := ⟨p.toNat, by omega⟩
  have hk : k < n := by omega
  have hk2 : (k : Int) < n := hp.2
  have HP : Hid ((decide (0 ≤ (k : Int)) && decide ((k : Int) < (n : Int))) = true) := lhid (by simp [hp.2])
  clear hp
  obtain ⟨x, hx⟩ : ∃ x, m k = x := ⟨_, rfl⟩
  by_cases hz : more &&& ~~~x = 0
  ·have hne : (bits .andNot .u64 (more.toNat : Int) (x.toNat : Int) != 0) = false := by rw [andNot_u, ne_u, hz]; rfl
   have HB : Hid (Brg n (k : Int) more m T m T) := lhid (Brg.no fun q hq _ => by
    have e : k = q := by omega
    subst e
    rw [hx]
    exact hz)
   have HX := lhid hx
   clear hz hx
   go_enter Try.func99, Try.ntmps99
   go_wp2_with fail
   with_reducible refine (isPlace_w fa fb ret D n dcap fe (k : Int) true _ HP).mono ?_
   rintro e w1 ⟨rfl, hb⟩
   have HM1 := lhid (h.out.below hb)
   have HBL := lhid hb
   have q0 := heap_cell (i := 0) HM1.out.mb rfl
   have q1 := HM1.out.marks.at' hk
   rw [HX.out] at q1
   clear hb c0 c1 c2 c3 c4 c5 c6
   go_wp2_with fail
   exact ⟨rfl, _, results_none rfl _ _ _, rfl, m, T, HB.out, HM1.out, SpK.of_below HBL.out h.out.big fun i hi => (h.out.prot i hi).1⟩
  ·have hne : (bits .andNot .u64 (more.toNat : Int) (x.toNat : Int) != 0) = true := by rw [andNot_u, ne_u]; exact decide_eq_true hz
   obtain ⟨y, hy⟩ : ∃ y : Mk, x ||| more = y := ⟨_, rfl⟩
   have hor : bits .or .u64 (x.toNat : Int) (more.toNat : Int) = (y.toNat : Int) := by rw [or_u, hy]
   have HY := lhid hy
   clear hy
   have HB : Hid (Brg n (k : Int) more m T (brM m k more) (T ++ [k])) := lhid (Brg.yes hk (by rw [hx]; exact hz))
   have HX := lhid hx
   have HK := lhid hk
   clear hz hx
   go_enter Try.func99, Try.ntmps99
   go_wp2_with fail
   with_reducible refine (isPlace_w fa fb ret D n dcap fe (k : Int) true _ HP).mono ?_
   rintro e w1 ⟨rfl, hb⟩
   have HM1 := lhid (h.out.below hb)
   have HBL := lhid hb
   have q0 := heap_cell (i := 0) HM1.out.mb rfl
   have q1 := HM1.out.marks.at' HK.out
   have z1 := HM1.out.marks.fz k
   rw [HX.out] at q1
   obtain ⟨v, hv, ho, hpr⟩ := h.out.todo
   obtain ⟨L, hL⟩ : ∃ L, (T.map fun i : Nat => (i : Int)) = L := ⟨_, rfl⟩
   have hLl : L.length = T.length := by rw [← hL]; simp
   have HLL := lhid hLl
   rw [hL] at ho
   have HL := lhid hL
   clear hL hLl
   obtain ⟨A, ac, hva⟩ := own_shape ho
   subst hva
   have q2 := heap_cell (i := 0) (heap_keep hv hb) rfl
   have z2 := heap_thaw (heap_keep hv hb) 0
   have HO := lhid ho
   have HV := lhid hv
   have HPR := lhid hpr
   have hB1 : B ≤ w1.heap.size := Nat.le_trans h.out.big hb.size
   have hg1 : G < w1.heap.size := by omega
   have ht1 : TB < w1.heap.size := by omega
   clear hb c0 c1 c2 c3 c4 c5 c6 ho hv hpr
   go_wp2_with (at_builtin; refine wpList_append_fresh rfl (.tmp 27) (.tmp 29) rfl B (.slice A L.length ac) L rfl ?own ⟨w1.heap.size, 0, none⟩ 1 (k : Int) rfl ?cell ?big ?len ?_)
   case own => exact (own_ch (own_below HO.out HBL.out) ((Ch.refl (fun i => i = G) w1).set (p := ⟨G, k, none⟩) (fun _ => rfl) _) (fun g hg e => by have := own_lt HO.out g hg; omega)).alloc _
   case cell => exact heap_cell (i := 0) (by have := heap_alloc_new (w1.setCell ⟨G, k, none⟩ (.int .u64 (y.toNat : Int))) (.cells #[.int .i64 (k : Int)] 3); simpa using this) rfl
   case big => simp; omega
   case len => rw [HLL.out]; exact hT.out
   intro v' w4 ho4 hg hf
   obtain ⟨A', ac', hva'⟩ := own_shape ho4
   subst hva'
   have hrow := own_lt HO.out
   have h4 : w4.heap[TB]? = some (.cells #[.slice A L.length ac] 23 (0, 0)) := (hg.block TB (by simp; omega) (fun e => by have := hrow TB e.symm; omega)).trans ((Below.heap_alloc _ _ _ (by simp; omega)).trans (((Ch.refl (fun i => i = G) w1).set (p := ⟨G, k, none⟩) (fun _ => rfl) _).keep (heap_keep HV.out HBL.out) d10))
   have r0 := heap_cell (i := 0) h4 rfl
   have rz := heap_thaw h4 0
   have ht4 : TB < w4.heap.size := heap_lt h4
   have HFIN := lhid (SpM.brought (w1 := w1) (w4 := w4) (o := .cells #[.int .i64 (k : Int)] 3) (p := k) (more := more) (v := .slice A L.length ac) (v' := .slice A' (L ++ [(k : Int)]).length ac') h.out hD.out HV.out (by rw [HL.out]; exact HO.out) HPR.out HBL.out HK.out (by rw [HL.out]; exact ho4) (by rw [HX.out, HY.out]; exact hg) (by simpa using hf))
   clear hg ho4 hf h4 q0 q1 z1 q2 z2 hrow
   go_wp2_with fail
   exact ⟨rfl, _, results_none rfl _ _ _, rfl, _, _, HB.out, by simpa only [List.length_append, List.length_singleton] using HFIN.out⟩
 ·have HP : Hid ((decide (0 ≤ p) && decide (p < (n : Int))) = false) := lhid (by rw [Bool.and_eq_false_iff, decide_eq_false_iff_not, decide_eq_false_iff_not]; omega)
  have HB : Hid (Brg n p more m T m T) := lhid (Brg.no fun q hq hqn => absurd ⟨by omega, by omega⟩ hp)
  clear hp
  go_enter Try.func99, Try.ntmps99
  go_wp2_with fail
  with_reducible refine (isPlace_w fa fb ret D n dcap fe p false _ HP).mono ?_
  rintro e w1 ⟨rfl, hb⟩
  have HM1 := lhid (h.out.below hb)
  have HBL := lhid hb
  clear hb c0 c1 c2 c3 c4 c5 c6
  go_wp2_with fail
  exact ⟨rfl, _, results_none rfl _ _ _, rfl, m, T, HB.out, HM1.out, SpK.of_below HBL.out h.out.big fun i hi => (h.out.prot i hi).1⟩
end Go.Proofs.Ytbkeneadoccodaa
