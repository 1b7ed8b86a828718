/- Contracts of Replace, and of the document's SameIns where both are alike. -/
import Derived.Test.YthaijdcgmcfpiaaInsRepl0
import Derived.Test.YthaijdcgmcfpiaaInsTells
import Derived.Laws.CopyOwn
namespace Go.Proofs.Ythaijdcgmcfpiaa
open Go.RowKit Go
set_option linter.unusedVariables false
set_option linter.unusedSimpArgs false

theorem sizeIns : (Try.prog.info? 24).map (·.size) = some 9 := by kernel_rfl
theorem nine_arr (z : Array Value) (hz : z.size = 9) (a b c d e f g i j : Value) : ((((((((z.setIfInBounds 0 a).setIfInBounds 1 b).setIfInBounds 2 c).setIfInBounds 3 d).setIfInBounds 4 e).setIfInBounds 5 f).setIfInBounds 6 g).setIfInBounds 7 i).setIfInBounds 8 j = #[a, b, c, d, e, f, g, i, j] := by
  obtain ⟨l⟩ := z
  match l, hz with
  | [_, _, _, _, _, _, _, _, _], _ => simp only [List.setIfInBounds_toArray, List.set_cons_zero, List.set_cons_succ]
theorem nine_set {w : World} {R : Nat} {T : TypeId} {z : Array Value} (h : w.heap[R]? = some (.cells z T (0, 0))) (hz : z.size = 9) (a b c d e f g i j : Value) :
    (((((((((w.setCell ⟨R, 0, none⟩ a).setCell ⟨R, 1, none⟩ b).setCell ⟨R, 2, none⟩ c).setCell ⟨R, 3, none⟩ d).setCell ⟨R, 4, none⟩ e).setCell ⟨R, 5, none⟩ f).setCell ⟨R, 6, none⟩ g).setCell ⟨R, 7, none⟩ i).setCell ⟨R, 8, none⟩ j).heap[R]? = some (.cells #[a, b, c, d, e, f, g, i, j] T (0, 0)) := by
  have h0 := heap_set (i := 0) h a
  have h1 := heap_set (i := 1) h0 b
  have h2 := heap_set (i := 2) h1 c
  have h3 := heap_set (i := 3) h2 d
  have h4 := heap_set (i := 4) h3 e
  have h5 := heap_set (i := 5) h4 f
  have h6 := heap_set (i := 6) h5 g
  have h7 := heap_set (i := 7) h6 i
  have h8 := heap_set (i := 8) h7 j
  rw [nine_arr z hz] at h8
  exact h8
theorem xset2 {w : World} {g : Nat} {c : Array Value} {T : TypeId} (h : w.heap[g]? = some (.cells c T (0, 0))) (i : Nat) (u : Value) {c' : Array Value} (hc : c.setIfInBounds i u = c') : (w.setCell ⟨g, i, none⟩ u).heap[g]? = some (.cells c' T (0, 0)) := by
  subst hc
  exact heap_set h u
theorem nine_below {B R : Nat} {a0 w : World} (h : Below B a0 w) (hR : B ≤ R) (a b c d e f g i j : Value) : Below B a0 (((((((((w.setCell ⟨R, 0, none⟩ a).setCell ⟨R, 1, none⟩ b).setCell ⟨R, 2, none⟩ c).setCell ⟨R, 3, none⟩ d).setCell ⟨R, 4, none⟩ e).setCell ⟨R, 5, none⟩ f).setCell ⟨R, 6, none⟩ g).setCell ⟨R, 7, none⟩ i).setCell ⟨R, 8, none⟩ j) :=
  ((((((((h.setCell hR a).setCell hR b).setCell hR c).setCell hR d).setCell hR e).setCell hR f).setCell hR g).setCell hR i).setCell hR j
theorem nine_other {w : World} {R k : Nat} (hk : k ≠ R) (a b c d e f g i j : Value) : (((((((((w.setCell ⟨R, 0, none⟩ a).setCell ⟨R, 1, none⟩ b).setCell ⟨R, 2, none⟩ c).setCell ⟨R, 3, none⟩ d).setCell ⟨R, 4, none⟩ e).setCell ⟨R, 5, none⟩ f).setCell ⟨R, 6, none⟩ g).setCell ⟨R, 7, none⟩ i).setCell ⟨R, 8, none⟩ j).heap[k]? = w.heap[k]? :=
  setCells_other hk [a, b, c, d, e, f, g, i, j] 0 w
set_option maxHeartbeats 2000000 in
set_option maxRecDepth 100000 in
theorem sameIns_t {P Q : Nat → Prop} (x : InI) (v u : Value) (w : World) (h : Hid (RdX P 1 NuE w v x.args)) (h2 : Hid (RdX Q 1 NuE w u x.args)) :
    Calls Try.prog 30 #[inA x v, inA x u] w fun e w' => e = .returned (.bool true) ∧ Below w.heap.size w w' := by
  go_enter Try.func30, Try.ntmps30
  go_wp2_with fail
  with_reducible refine (rints_b v u x.args _ (lhid ((h.out.below (keptX_nu _) ((Below.refl _ _).alloc (Nat.le_refl _) _)).below (keptX_nu _) ((Below.refl _ _).alloc (Nat.le_refl _) _))) (lhid ((h2.out.below (keptX_nu _) ((Below.refl _ _).alloc (Nat.le_refl _) _)).below (keptX_nu _) ((Below.refl _ _).alloc (Nat.le_refl _) _)))).mono ?_
  rintro e w1 ⟨rfl, hb⟩
  have HB := lhid ((((Below.refl w.heap.size w).alloc (Nat.le_refl _) _).alloc (by simp) _).trans (hb.mono (by simp; omega)))
  clear hb
  go_wp2_with fail
  go_ret
  exact ⟨rfl, HB.out⟩
theorem repl_calls {x : InI} {l : List Int} (hl : l.length = (usesI x).length) (hc : callsB x.op = true) : replI x l = { x with args := l } := by
  unfold replI
  rw [if_pos hl, if_pos hc]
theorem repl_ne {x : InI} {l : List Int} (hl : ¬ l.length = (usesI x).length) : replI x l = x := by
  unfold replI
  rw [if_neg hl]
/-- A list of a call's own, written over by one as long. -/
theorem own_over {w w' : World} {B g cap : Nat} {l m : List Int} {cur : Array Value} (h : w.ownsRow B 3 1 (.slice (some ⟨g, 0, none⟩) l.length cap) l.length (l.map vI)) (hg : w.heap[g]? = some (.cells cur 3 (0, 0))) (hm : m.length = l.length) (hw : w'.heap[g]? = some (.cells (splice cur.toList 0 (m.map vI)).toArray 3 (0, 0))) :
    w'.ownsRow B 3 1 (.slice (some ⟨g, 0, none⟩) m.length cap) m.length (m.map vI) := by
  refine ⟨by simp, ?_⟩
  rcases h.2 with ⟨h1, _⟩ | ⟨g', cap', cur', h1, h2, h3, h4, h5, h6, h7⟩
  · cases h1
  · injection h1 with e1 e2 e3
    injection e1 with e1
    injection e1 with e1 _
    subst e1 e3
    rw [hg] at h3
    injection h3 with h3
    injection h3 with h3
    subst h3
    refine .inr ⟨g, cap, _, rfl, h2, hw, by omega, h5, ?_, ?_⟩
    · simp [splice]
      have : m.length ≤ cur.size := by omega
      omega
    · simp [splice]
theorem szInt : (Try.prog.info? 3).map (·.size) = some 1 := by kernel_rfl
theorem pl3 (l : List Int) (a b c : Int) (h : l.length ≤ 3) : ∃ p0 p1 p2, pl l a b c = [p0, p1, p2] := by
  match l, h with
  | [], _ => exact ⟨_, _, _, rfl⟩
  | [p], _ => exact ⟨_, _, _, rfl⟩
  | [p, q], _ => exact ⟨_, _, _, rfl⟩
  | [p, q, r], _ => exact ⟨_, _, _, rfl⟩
theorem pl_splice (l : List Int) (a b c : Int) : splice [vI a, vI b, vI c] 0 (l.map vI) = (pl l a b c).map vI := by
  unfold splice pl
  rw [List.map_append, List.map_drop]
  simp
theorem calls_r (x : InI) (v : Value) (w : World) (z : Bool) (hz : Hid (callsB x.op = z)) : Calls Try.prog 18 #[inA x v] w fun e w' => e = .returned (.bool z) ∧ Below w.heap.size w w' := by
  have := calls_any x v w
  rwa [hz.out] at this
set_option maxHeartbeats 4000000 in
set_option maxRecDepth 100000 in
theorem replace_ne {P Q : Nat → Prop} (x : InI) (v lv : Value) (l : List Int) (w : World) (h : Hid (RdX P 1 NuE w v x.args)) (hl : Hid (RdX Q 1 NuE w lv l)) (hx : Hid (x.args.length ≤ 2000)) (hll : Hid (l.length ≤ 2000)) (hlen : ¬ l.length = (usesI x).length) :
    Calls Try.prog 31 #[inA x v, lv] w fun e w' => ∃ v', e = .returned (inA x v') ∧ OwN w' w.heap.size v' x.args ∧ Below w.heap.size w w' := by
  obtain ⟨LA, lc, hlv⟩ := hl.out.shape
  subst hlv
  obtain ⟨VA, vc, hva⟩ := h.out.shape
  subst hva
  obtain ⟨un, hun⟩ : ∃ un, (usesI x).length = un := ⟨_, rfl⟩
  have HUN := lhid hun
  have ln : l.length ≤ 2000 := hll.out
  have un3 : un ≤ 2003 := by have := usesI_len x; have := hx.out; omega
  rw [hun] at hlen
  clear hun
  have HV1 := lhid ((h.out.below (keptX_nu _) ((Below.refl w.heap.size w).alloc (Nat.le_refl _) (.cells #[.int .i64 x.op, .int .i64 x.dst, .int .i64 x.a, .int .i64 x.b, .int .i64 x.c, .int .i64 x.num, .int .i64 x.too, .string (tx x.ref), .slice VA x.args.length vc] 24))).below (keptX_nu _) ((Below.refl _ _).alloc (Nat.le_refl _) (.cells #[.int .i64 0, .int .i64 0, .int .i64 0, .int .i64 0, .int .i64 0, .int .i64 0, .int .i64 0, .string ⟨#[]⟩, .slice none 0 0] 24)))
  have k0 : ¬ (l.length : Int) = un := by omega
  have k1 : ((l.length : Int) == (un : Int)) = false := by rw [beq_eq_false_iff_ne]; exact k0
  clear hlen
  go_enter Try.func31, Try.ntmps31
  go_wp2_with fail
  with_reducible refine (clone_nu row_nu _ _ _ HV1 (by have := hx.out; omega)).mono ?_
  rintro e w1 ⟨u, xs, rfl, ho, hr, hb⟩
  rw [rowsE_nu hr] at ho
  clear hr xs
  have hB1 : Below w.heap.size w w1 := ((((Below.refl w.heap.size w).alloc (Nat.le_refl _) _).alloc (by simp) _).trans (hb.mono (by simp; omega)))
  have hX1 : XBox w1 w.heap.size x.op x.dst x.a x.b x.c x.num x.too x.ref (.slice VA x.args.length vc) := heap_keep ((Below.heap_alloc _ _ _ (by simp)).trans (heap_alloc_new w _)) hb
  have hZ1 : XBox w1 (w.heap.size + 1) 0 0 0 0 0 0 0 [] (.slice none 0 0) := heap_keep (heap_new2 w _ _) hb
  obtain ⟨UA, uc, hu⟩ := own_shape ho
  subst hu
  have HO1 : Hid (OwN w1 (w.heap.size + 2) (.slice UA x.args.length uc) x.args) := lhid (own_base ho (by simp))
  have z8 := heap_thaw hX1 8
  obtain ⟨y0, y1, y2, y3, y4, y5, y6, y7, y8⟩ := hX1.cells
  have HB1 := lhid hB1
  have HX1 := lhid hX1
  have HZ1 := lhid hZ1
  clear ho hb hB1 hX1 hZ1
  go_upto_region 2 with fail
  generalize hW2 : World.setCell _ _ _ = w2
  have hB2 : Below w.heap.size w w2 := by rw [← hW2]; exact HB1.out.setCell (Nat.le_refl _) _
  have hX2 : XBox w2 w.heap.size x.op x.dst x.a x.b x.c x.num x.too x.ref (.slice UA x.args.length uc) := by rw [← hW2]; exact xset2 HX1.out 8 _ rfl
  have hZ2 : XBox w2 (w.heap.size + 1) 0 0 0 0 0 0 0 [] (.slice none 0 0) := by rw [← hW2]; exact (Below.heap_setCell _ _ _ _ (by show w.heap.size + 1 ≠ w.heap.size; omega)).trans HZ1.out
  have HO2 : Hid (OwN w2 (w.heap.size + 2) (.slice UA x.args.length uc) x.args) := lhid (by
    rw [← hW2]
    refine own_of HO1.out fun g hg => ?_
    have := own_lt HO1.out g hg
    exact Below.heap_setCell _ _ _ _ (by show g ≠ w.heap.size; omega))
  clear HB1 HX1 HZ1 HO1 hW2 y0 y1 y2 y3 y4 y5 y6 y7 y8 z8
  obtain ⟨y0, y1, y2, y3, y4, y5, y6, y7, y8⟩ := hX2.cells
  have HB2 := lhid hB2
  have HX2 := lhid hX2
  have HZ2 := lhid hZ2
  clear hB2 hX2 hZ2
  go_wp2_with fail
  with_reducible refine (uses_any x (.slice UA x.args.length uc) _ (lhid (HO2.out.rd (by have := hx.out; omega))) (lhid (by have := hx.out; omega))).mono ?_
  rintro e w3 ⟨uv, rfl, ho, hb⟩
  obtain ⟨OA, oc, ho2⟩ := own_shape ho
  rw [HUN.out] at ho2
  subst ho2
  have hB3 : Below w.heap.size w w3 := HB2.out.trans (hb.mono HB2.out.size)
  have hX3 : XBox w3 w.heap.size x.op x.dst x.a x.b x.c x.num x.too x.ref (.slice UA x.args.length uc) := heap_keep HX2.out hb
  have hZ3 : XBox w3 (w.heap.size + 1) 0 0 0 0 0 0 0 [] (.slice none 0 0) := heap_keep HZ2.out hb
  have HO3 := lhid (own_below HO2.out hb)
  clear ho hb HB2 HX2 HZ2 HO2 y0 y1 y2 y3 y4 y5 y6 y7 y8
  obtain ⟨y0, y1, y2, y3, y4, y5, y6, y7, y8⟩ := hX3.cells
  obtain ⟨q0, q1, q2, q3, q4, q5, q6, q7, q8⟩ := hZ3.cells
  have zz := heap_thaw hZ3
  have HB3 := lhid hB3
  have HX3 := lhid hX3
  have HZ3 := lhid hZ3
  clear hB3 hX3 hZ3
  go_wp2_with fail
  refine bodyPost_ret (results_cell_row rfl _ _ (w.heap.size + 1) 24 _ _ _ rfl (nine_set HZ3.out rfl _ _ _ _ _ _ _ _ _) Try.underlying24 rfl sizeIns) rfl ?_
  refine ⟨_, rfl, ?_, nine_below HB3.out (Nat.le_succ _) _ _ _ _ _ _ _ _ _⟩
  have HOW := HO3.out
  exact own_base (own_of HOW fun g hg => nine_other (by have := own_lt HOW g hg; omega) _ _ _ _ _ _ _ _ _) (by omega)
set_option maxHeartbeats 4000000 in
set_option maxRecDepth 100000 in
theorem replace_calls {P Q : Nat → Prop} (x : InI) (v lv : Value) (l : List Int) (w : World) (h : Hid (RdX P 1 NuE w v x.args)) (hl : Hid (RdX Q 1 NuE w lv l)) (hx : Hid (x.args.length ≤ 2000)) (hll : Hid (l.length ≤ 2000)) (hlen : l.length = (usesI x).length) (HC : Hid (callsB x.op = true)) :
    Calls Try.prog 31 #[inA x v, lv] w fun e w' => ∃ v', e = .returned (inA { x with args := l } v') ∧ OwN w' w.heap.size v' { x with args := l }.args ∧ Below w.heap.size w w' := by
  obtain ⟨LA, lc, hlv⟩ := hl.out.shape
  subst hlv
  obtain ⟨VA, vc, hva⟩ := h.out.shape
  subst hva
  obtain ⟨un, hun⟩ : ∃ un, (usesI x).length = un := ⟨_, rfl⟩
  have HUN := lhid hun
  have ln : l.length ≤ 2000 := hll.out
  have un3 : un ≤ 2003 := by have := usesI_len x; have := hx.out; omega
  rw [hun] at hlen
  clear hun
  have HV1 := lhid ((h.out.below (keptX_nu _) ((Below.refl w.heap.size w).alloc (Nat.le_refl _) (.cells #[.int .i64 x.op, .int .i64 x.dst, .int .i64 x.a, .int .i64 x.b, .int .i64 x.c, .int .i64 x.num, .int .i64 x.too, .string (tx x.ref), .slice VA x.args.length vc] 24))).below (keptX_nu _) ((Below.refl _ _).alloc (Nat.le_refl _) (.cells #[.int .i64 0, .int .i64 0, .int .i64 0, .int .i64 0, .int .i64 0, .int .i64 0, .int .i64 0, .string ⟨#[]⟩, .slice none 0 0] 24)))
  have k0 : (l.length : Int) = un := by omega
  have k1 : ((l.length : Int) == (un : Int)) = true := by rw [k0]; simp
  have k2 : ((l.length : Int) != (un : Int)) = false := by rw [bne, k1]; rfl
  have HK := lhid k0
  clear k0
  have HLEN := lhid hlen
  clear hlen
  go_enter Try.func31, Try.ntmps31
  go_wp2_with fail
  with_reducible refine (clone_nu row_nu _ _ _ HV1 (by have := hx.out; omega)).mono ?_
  rintro e w1 ⟨u, xs, rfl, ho, hr, hb⟩
  rw [rowsE_nu hr] at ho
  clear hr xs
  have hB1 : Below w.heap.size w w1 := ((((Below.refl w.heap.size w).alloc (Nat.le_refl _) _).alloc (by simp) _).trans (hb.mono (by simp; omega)))
  have hX1 : XBox w1 w.heap.size x.op x.dst x.a x.b x.c x.num x.too x.ref (.slice VA x.args.length vc) := heap_keep ((Below.heap_alloc _ _ _ (by simp)).trans (heap_alloc_new w _)) hb
  have hZ1 : XBox w1 (w.heap.size + 1) 0 0 0 0 0 0 0 [] (.slice none 0 0) := heap_keep (heap_new2 w _ _) hb
  obtain ⟨UA, uc, hu⟩ := own_shape ho
  subst hu
  have HO1 : Hid (OwN w1 (w.heap.size + 2) (.slice UA x.args.length uc) x.args) := lhid (own_base ho (by simp))
  have z8 := heap_thaw hX1 8
  obtain ⟨y0, y1, y2, y3, y4, y5, y6, y7, y8⟩ := hX1.cells
  have HB1 := lhid hB1
  have HX1 := lhid hX1
  have HZ1 := lhid hZ1
  clear ho hb hB1 hX1 hZ1
  go_upto_region 2 with fail
  generalize hW2 : World.setCell _ _ _ = w2
  have hB2 : Below w.heap.size w w2 := by rw [← hW2]; exact HB1.out.setCell (Nat.le_refl _) _
  have hX2 : XBox w2 w.heap.size x.op x.dst x.a x.b x.c x.num x.too x.ref (.slice UA x.args.length uc) := by rw [← hW2]; exact xset2 HX1.out 8 _ rfl
  have hZ2 : XBox w2 (w.heap.size + 1) 0 0 0 0 0 0 0 [] (.slice none 0 0) := by rw [← hW2]; exact (Below.heap_setCell _ _ _ _ (by show w.heap.size + 1 ≠ w.heap.size; omega)).trans HZ1.out
  have HO2 : Hid (OwN w2 (w.heap.size + 2) (.slice UA x.args.length uc) x.args) := lhid (by
    rw [← hW2]
    refine own_of HO1.out fun g hg => ?_
    have := own_lt HO1.out g hg
    exact Below.heap_setCell _ _ _ _ (by show g ≠ w.heap.size; omega))
  clear HB1 HX1 HZ1 HO1 hW2 y0 y1 y2 y3 y4 y5 y6 y7 y8 z8
  obtain ⟨y0, y1, y2, y3, y4, y5, y6, y7, y8⟩ := hX2.cells
  have HB2 := lhid hB2
  have HX2 := lhid hX2
  have HZ2 := lhid hZ2
  clear hB2 hX2 hZ2
  go_wp2_with fail
  with_reducible refine (uses_any x (.slice UA x.args.length uc) _ (lhid (HO2.out.rd (by have := hx.out; omega))) (lhid (by have := hx.out; omega))).mono ?_
  rintro e w3 ⟨uv, rfl, ho, hb⟩
  obtain ⟨OA, oc, ho2⟩ := own_shape ho
  rw [HUN.out] at ho2
  subst ho2
  have hB3 : Below w.heap.size w w3 := HB2.out.trans (hb.mono HB2.out.size)
  have hX3 : XBox w3 w.heap.size x.op x.dst x.a x.b x.c x.num x.too x.ref (.slice UA x.args.length uc) := heap_keep HX2.out hb
  have hZ3 : XBox w3 (w.heap.size + 1) 0 0 0 0 0 0 0 [] (.slice none 0 0) := heap_keep HZ2.out hb
  have HO3 := lhid (own_below HO2.out hb)
  clear ho hb HB2 HX2 HZ2 HO2 y0 y1 y2 y3 y4 y5 y6 y7 y8
  obtain ⟨y0, y1, y2, y3, y4, y5, y6, y7, y8⟩ := hX3.cells
  obtain ⟨q0, q1, q2, q3, q4, q5, q6, q7, q8⟩ := hZ3.cells
  have zz := heap_thaw hZ3
  have HB3 := lhid hB3
  have HX3 := lhid hX3
  have HZ3 := lhid hZ3
  clear hB3 hX3 hZ3
  go_wp2_with fail
  with_reducible refine (calls_r x (.slice UA x.args.length uc) _ _ HC).mono ?_
  rintro e w4 ⟨rfl, hb⟩
  have hB4 : Below w.heap.size w w4 := HB3.out.trans (hb.mono HB3.out.size)
  have hX4 : XBox w4 w.heap.size x.op x.dst x.a x.b x.c x.num x.too x.ref (.slice UA x.args.length uc) := heap_keep HX3.out hb
  have hZ4 : XBox w4 (w.heap.size + 1) 0 0 0 0 0 0 0 [] (.slice none 0 0) := heap_keep HZ3.out hb
  have HO4 := lhid (own_below HO3.out hb)
  clear hb HB3 HX3 HZ3 HO3 y0 y1 y2 y3 y4 y5 y6 y7 y8 q0 q1 q2 q3 q4 q5 q6 q7 q8 zz
  obtain ⟨y0, y1, y2, y3, y4, y5, y6, y7, y8⟩ := hX4.cells
  obtain ⟨q0, q1, q2, q3, q4, q5, q6, q7, q8⟩ := hZ4.cells
  have zz := heap_thaw hZ4
  have zx := heap_thaw hX4
  have HB4 := lhid hB4
  have HX4 := lhid hX4
  have HZ4 := lhid hZ4
  clear hB4 hX4 hZ4
  have hel : l.length = x.args.length := by rw [HLEN.out, ← HUN.out, u6 (calls_rk HC.out)]
  rcases HO4.out.2 with ⟨h1, h2⟩ | ⟨g, cap, cur, h1, hBg, hg, hnc, hcm, hcs, htk⟩
  · injection h1 with e1 e2 e3
    subst e1 e3
    have hxa : x.args = [] := List.length_eq_zero_iff.1 h2
    have hl0 : l = [] := List.length_eq_zero_iff.1 (by omega)
    have HXA := lhid hxa
    have HL0 := lhid hl0
    clear hxa hl0 h2 e2
    go_wp2_with (refine wpList_copy_nothing rfl _ _ 22 22 rfl 3 Try.underlying22 szInt _ _ _ _ _ _ rfl rfl ?h0 ?_)
    case h0 => (rw [HXA.out]; simp)
    go_wp2_with fail
    refine bodyPost_ret (results_cell_row rfl _ _ (w.heap.size + 1) 24 _ _ _ rfl (nine_set HZ4.out rfl _ _ _ _ _ _ _ _ _) Try.underlying24 rfl sizeIns) rfl ?_
    refine ⟨_, rfl, ?_, nine_below HB4.out (Nat.le_succ _) _ _ _ _ _ _ _ _ _⟩
    have HOW := (show OwN w4 (w.heap.size + 2) (.slice none x.args.length 0) l by have := HO4.out; rw [HXA.out] at this; rw [HXA.out, HL0.out]; exact this)
    exact own_base (own_of HOW fun g hg => nine_other (by have := own_lt HOW g hg; omega) _ _ _ _ _ _ _ _ _) (by omega)
  · injection h1 with e1 e2 e3
    subst e1 e3
    have HEL := lhid hel
    have HG := lhid hg
    have HGL : Hid (w4.heap[g]? = some (.cells cur.toList.toArray 3 (0, 0))) := lhid hg
    have HCS := lhid hcs
    have hnc' := hnc
    have HN : Hid ((l.map vI).length = Nat.min l.length x.args.length) := lhid (by
      rw [List.length_map]
      exact (Nat.min_eq_left (by omega)).symm)
    have HPOS : Hid (0 < (l.map vI).length → ∃ ad, LA = some ad ∧ ∀ j t, (l.map vI)[j]? = some t → w4.cell? (ad.add j) = some t) := lhid (fun hp0 => by
      have hl4 := hl.out
      cases LA with
      | none =>
        have := hl4.none0.1
        rw [this] at hp0
        simp at hp0
      | some ad =>
        obtain ⟨ys, hy1, hy2, _⟩ := rdX_cells row_nu hl4
        rw [rowsE_nu hy1] at hy2
        refine ⟨ad, rfl, fun j t ht => ?_⟩
        have h1 := hy2 j t ht
        rw [Go.RowKit.Below.cell HB4.out (cell_lt h1)]
        exact h1)
    have HFIT : Hid (0 + (l.map vI).length ≤ (cur.toList).length) := lhid (by have h9 : cur.toList.length = cur.size := Array.length_toList; rw [List.length_map, h9]; omega)
    have HONE : Hid (∀ t ∈ l.map vI, t.oneCell' = true) := lhid (fun t ht => by
      obtain ⟨z, _, rfl⟩ := List.mem_map.1 ht
      rfl)
    clear htk hcs hg hel
    go_wp2_with (refine wpList_copy_splice rfl _ _ 22 22 rfl 3 Try.underlying22 szInt _ _ _ _ _ _ rfl rfl g 0 cur.toList 3 HGL.out (l.map vI) HN.out (fun h0 => ⟨rfl, HPOS.out h0⟩) HFIT.out HONE.out (w.heap.size + 2) w4 (Below.refl _ _) hBg ?_)
    intro w5 hg5 hb5
    have hB5 : Below w.heap.size w w5 := HB4.out.trans (hb5.mono (by omega))
    have hX5 : XBox w5 w.heap.size x.op x.dst x.a x.b x.c x.num x.too x.ref (.slice (some ⟨g, 0, none⟩) x.args.length uc) := (hb5.block w.heap.size (by omega)).trans HX4.out
    have hZ5 : XBox w5 (w.heap.size + 1) 0 0 0 0 0 0 0 [] (.slice none 0 0) := (hb5.block (w.heap.size + 1) (by omega)).trans HZ4.out
    have HO5 : Hid (OwN w5 (w.heap.size + 2) (.slice (some ⟨g, 0, none⟩) x.args.length uc) l) := lhid (by
      have := own_over HO4.out HG.out HEL.out hg5.out
      rw [HEL.out] at this
      show w5.ownsRow _ _ _ _ l.length _
      rw [HEL.out]
      exact this)
    clear hb5 hg5 y0 y1 y2 y3 y4 y5 y6 y7 y8 q0 q1 q2 q3 q4 q5 q6 q7 q8 zz zx
    obtain ⟨y0, y1, y2, y3, y4, y5, y6, y7, y8⟩ := hX5.cells
    obtain ⟨q0, q1, q2, q3, q4, q5, q6, q7, q8⟩ := hZ5.cells
    have zz := heap_thaw hZ5
    have HB5 := lhid hB5
    have HX5 := lhid hX5
    have HZ5 := lhid hZ5
    clear hB5 hX5 hZ5
    go_wp2_with fail
    refine bodyPost_ret (results_cell_row rfl _ _ (w.heap.size + 1) 24 _ _ _ rfl (nine_set HZ5.out rfl _ _ _ _ _ _ _ _ _) Try.underlying24 rfl sizeIns) rfl ?_
    refine ⟨_, rfl, ?_, nine_below HB5.out (Nat.le_succ _) _ _ _ _ _ _ _ _ _⟩
    have HOW := HO5.out
    exact own_base (own_of HOW fun g hg => nine_other (by have := own_lt HOW g hg; omega) _ _ _ _ _ _ _ _ _) (by omega)
set_option maxHeartbeats 4000000 in
set_option maxRecDepth 100000 in
theorem replace_plain {P Q : Nat → Prop} (x : InI) (v lv : Value) (l : List Int) (w : World) (h : Hid (RdX P 1 NuE w v x.args)) (hl : Hid (RdX Q 1 NuE w lv l)) (hx : Hid (x.args.length ≤ 2000)) (hll : Hid (l.length ≤ 2000)) (hlen : l.length = (usesI x).length) (HC : Hid (callsB x.op = false)) :
    Calls Try.prog 31 #[inA x v, lv] w fun e w' => ∃ v', e = .returned (inA { x with a := (pl l x.a x.b x.c).getD 0 0, b := (pl l x.a x.b x.c).getD 1 0, c := (pl l x.a x.b x.c).getD 2 0 } v') ∧ OwN w' w.heap.size v' { x with a := (pl l x.a x.b x.c).getD 0 0, b := (pl l x.a x.b x.c).getD 1 0, c := (pl l x.a x.b x.c).getD 2 0 }.args ∧ Below w.heap.size w w' := by
  obtain ⟨p0, p1, p2, hp⟩ := pl3 l x.a x.b x.c (by rw [hlen]; exact uses3 HC.out)
  have hl3 : l.length ≤ 3 := by rw [hlen]; exact uses3 HC.out
  rw [hp]
  have HPL := lhid hp
  clear hp
  obtain ⟨LA, lc, hlv⟩ := hl.out.shape
  subst hlv
  obtain ⟨VA, vc, hva⟩ := h.out.shape
  subst hva
  obtain ⟨un, hun⟩ : ∃ un, (usesI x).length = un := ⟨_, rfl⟩
  have HUN := lhid hun
  have ln : l.length ≤ 2000 := hll.out
  have un3 : un ≤ 2003 := by have := usesI_len x; have := hx.out; omega
  rw [hun] at hlen
  clear hun
  have HV1 := lhid ((h.out.below (keptX_nu _) ((Below.refl w.heap.size w).alloc (Nat.le_refl _) (.cells #[.int .i64 x.op, .int .i64 x.dst, .int .i64 x.a, .int .i64 x.b, .int .i64 x.c, .int .i64 x.num, .int .i64 x.too, .string (tx x.ref), .slice VA x.args.length vc] 24))).below (keptX_nu _) ((Below.refl _ _).alloc (Nat.le_refl _) (.cells #[.int .i64 0, .int .i64 0, .int .i64 0, .int .i64 0, .int .i64 0, .int .i64 0, .int .i64 0, .string ⟨#[]⟩, .slice none 0 0] 24)))
  have k0 : (l.length : Int) = un := by omega
  have k1 : ((l.length : Int) == (un : Int)) = true := by rw [k0]; simp
  have k2 : ((l.length : Int) != (un : Int)) = false := by rw [bne, k1]; rfl
  have HK := lhid k0
  clear k0
  have HLEN := lhid hlen
  clear hlen
  go_enter Try.func31, Try.ntmps31
  go_wp2_with fail
  with_reducible refine (clone_nu row_nu _ _ _ HV1 (by have := hx.out; omega)).mono ?_
  rintro e w1 ⟨u, xs, rfl, ho, hr, hb⟩
  rw [rowsE_nu hr] at ho
  clear hr xs
  have hB1 : Below w.heap.size w w1 := ((((Below.refl w.heap.size w).alloc (Nat.le_refl _) _).alloc (by simp) _).trans (hb.mono (by simp; omega)))
  have hX1 : XBox w1 w.heap.size x.op x.dst x.a x.b x.c x.num x.too x.ref (.slice VA x.args.length vc) := heap_keep ((Below.heap_alloc _ _ _ (by simp)).trans (heap_alloc_new w _)) hb
  have hZ1 : XBox w1 (w.heap.size + 1) 0 0 0 0 0 0 0 [] (.slice none 0 0) := heap_keep (heap_new2 w _ _) hb
  obtain ⟨UA, uc, hu⟩ := own_shape ho
  subst hu
  have HO1 : Hid (OwN w1 (w.heap.size + 2) (.slice UA x.args.length uc) x.args) := lhid (own_base ho (by simp))
  have z8 := heap_thaw hX1 8
  obtain ⟨y0, y1, y2, y3, y4, y5, y6, y7, y8⟩ := hX1.cells
  have HB1 := lhid hB1
  have HX1 := lhid hX1
  have HZ1 := lhid hZ1
  clear ho hb hB1 hX1 hZ1
  go_upto_region 2 with fail
  generalize hW2 : World.setCell _ _ _ = w2
  have hB2 : Below w.heap.size w w2 := by rw [← hW2]; exact HB1.out.setCell (Nat.le_refl _) _
  have hX2 : XBox w2 w.heap.size x.op x.dst x.a x.b x.c x.num x.too x.ref (.slice UA x.args.length uc) := by rw [← hW2]; exact xset2 HX1.out 8 _ rfl
  have hZ2 : XBox w2 (w.heap.size + 1) 0 0 0 0 0 0 0 [] (.slice none 0 0) := by rw [← hW2]; exact (Below.heap_setCell _ _ _ _ (by show w.heap.size + 1 ≠ w.heap.size; omega)).trans HZ1.out
  have HO2 : Hid (OwN w2 (w.heap.size + 2) (.slice UA x.args.length uc) x.args) := lhid (by
    rw [← hW2]
    refine own_of HO1.out fun g hg => ?_
    have := own_lt HO1.out g hg
    exact Below.heap_setCell _ _ _ _ (by show g ≠ w.heap.size; omega))
  clear HB1 HX1 HZ1 HO1 hW2 y0 y1 y2 y3 y4 y5 y6 y7 y8 z8
  obtain ⟨y0, y1, y2, y3, y4, y5, y6, y7, y8⟩ := hX2.cells
  have HB2 := lhid hB2
  have HX2 := lhid hX2
  have HZ2 := lhid hZ2
  clear hB2 hX2 hZ2
  go_wp2_with fail
  with_reducible refine (uses_any x (.slice UA x.args.length uc) _ (lhid (HO2.out.rd (by have := hx.out; omega))) (lhid (by have := hx.out; omega))).mono ?_
  rintro e w3 ⟨uv, rfl, ho, hb⟩
  obtain ⟨OA, oc, ho2⟩ := own_shape ho
  rw [HUN.out] at ho2
  subst ho2
  have hB3 : Below w.heap.size w w3 := HB2.out.trans (hb.mono HB2.out.size)
  have hX3 : XBox w3 w.heap.size x.op x.dst x.a x.b x.c x.num x.too x.ref (.slice UA x.args.length uc) := heap_keep HX2.out hb
  have hZ3 : XBox w3 (w.heap.size + 1) 0 0 0 0 0 0 0 [] (.slice none 0 0) := heap_keep HZ2.out hb
  have HO3 := lhid (own_below HO2.out hb)
  clear ho hb HB2 HX2 HZ2 HO2 y0 y1 y2 y3 y4 y5 y6 y7 y8
  obtain ⟨y0, y1, y2, y3, y4, y5, y6, y7, y8⟩ := hX3.cells
  obtain ⟨q0, q1, q2, q3, q4, q5, q6, q7, q8⟩ := hZ3.cells
  have zz := heap_thaw hZ3
  have HB3 := lhid hB3
  have HX3 := lhid hX3
  have HZ3 := lhid hZ3
  clear hB3 hX3 hZ3
  go_wp2_with fail
  with_reducible refine (calls_r x (.slice UA x.args.length uc) _ _ HC).mono ?_
  rintro e w4 ⟨rfl, hb⟩
  have hB4 : Below w.heap.size w w4 := HB3.out.trans (hb.mono HB3.out.size)
  have hX4 : XBox w4 w.heap.size x.op x.dst x.a x.b x.c x.num x.too x.ref (.slice UA x.args.length uc) := heap_keep HX3.out hb
  have hZ4 : XBox w4 (w.heap.size + 1) 0 0 0 0 0 0 0 [] (.slice none 0 0) := heap_keep HZ3.out hb
  have HO4 := lhid (own_below HO3.out hb)
  clear hb HB3 HX3 HZ3 HO3 y0 y1 y2 y3 y4 y5 y6 y7 y8 q0 q1 q2 q3 q4 q5 q6 q7 q8 zz
  obtain ⟨y0, y1, y2, y3, y4, y5, y6, y7, y8⟩ := hX4.cells
  obtain ⟨q0, q1, q2, q3, q4, q5, q6, q7, q8⟩ := hZ4.cells
  have zz := heap_thaw hZ4
  have zx := heap_thaw hX4
  have HB4 := lhid hB4
  have HX4 := lhid hX4
  have HZ4 := lhid hZ4
  clear hB4 hX4 hZ4
  go_upto_region 8 with fail
  generalize hW5 : World.alloc _ _ = w5
  obtain ⟨P3, hP3⟩ : ∃ p, p = w4.heap.size := ⟨_, rfl⟩
  have h45 : Below P3 w4 w5 := by rw [← hW5, hP3]; exact (Below.refl _ _).alloc (Nat.le_refl _) _
  have hG5 : w5.heap[P3]? = some (.cells #[vI x.a, vI x.b, vI x.c] 3 (0, 0)) := by rw [← hW5, hP3]; exact heap_alloc_new w4 _
  have hBP : w.heap.size + 2 ≤ P3 := by rw [hP3]; have := heap_lt HZ4.out; omega
  rw [← hP3]
  clear hW5
  have HG5 := lhid hG5
  have H45 := lhid h45
  have HP3 := lhid hP3
  clear hG5 h45 hP3
  have HN : Hid ((l.map vI).length = Nat.min l.length 3) := lhid (by
    rw [List.length_map]
    exact (Nat.min_eq_left (by omega)).symm)
  have HPOS : Hid (0 < (l.map vI).length → ∃ ad, LA = some ad ∧ ∀ j t, (l.map vI)[j]? = some t → w5.cell? (ad.add j) = some t) := lhid (fun hp0 => by
    have hl4 := hl.out
    cases LA with
    | none =>
      have := hl4.none0.1
      rw [this] at hp0
      simp at hp0
    | some ad =>
      obtain ⟨ys, hy1, hy2, _⟩ := rdX_cells row_nu hl4
      rw [rowsE_nu hy1] at hy2
      refine ⟨ad, rfl, fun j t ht => ?_⟩
      have h1 := hy2 j t ht
      rw [Go.RowKit.Below.cell (HB4.out.trans (H45.out.mono (by omega))) (cell_lt h1)]
      exact h1)
  have HFIT : Hid (0 + (l.map vI).length ≤ ([vI x.a, vI x.b, vI x.c]).length) := lhid (by rw [List.length_map]; simp; omega)
  have HONE : Hid (∀ t ∈ l.map vI, t.oneCell' = true) := lhid (fun t ht => by
    obtain ⟨z, _, rfl⟩ := List.mem_map.1 ht
    rfl)
  go_wp2_with (refine wpList_copy_splice rfl _ _ 22 22 rfl 3 Try.underlying22 szInt _ _ _ _ _ _ rfl rfl P3 0 [vI x.a, vI x.b, vI x.c] 3 HG5.out (l.map vI) HN.out (fun h0 => ⟨rfl, HPOS.out h0⟩) HFIT.out HONE.out P3 w4 H45.out (Nat.le_refl _) ?_)
  intro w6 hg6 hb6
  have hG6 : w6.heap[P3]? = some (.cells #[vI p0, vI p1, vI p2] 3 (0, 0)) := by
    have := hg6.out
    rw [pl_splice, HPL.out] at this
    exact this
  have hB6 : Below w.heap.size w w6 := HB4.out.trans (hb6.mono (by omega))
  have hX6 : XBox w6 w.heap.size x.op x.dst x.a x.b x.c x.num x.too x.ref (.slice UA x.args.length uc) := (hb6.block w.heap.size (by omega)).trans HX4.out
  have hZ6 : XBox w6 (w.heap.size + 1) 0 0 0 0 0 0 0 [] (.slice none 0 0) := (hb6.block (w.heap.size + 1) (by omega)).trans HZ4.out
  have HO6 : Hid (OwN w6 (w.heap.size + 2) (.slice UA x.args.length uc) x.args) := lhid (own_of HO4.out fun g hg => hb6.block g (by rw [HP3.out]; exact (HO4.out.lt g hg).2))
  clear hg6 hb6 y0 y1 y2 y3 y4 y5 y6 y7 y8 q0 q1 q2 q3 q4 q5 q6 q7 q8 zz zx HB4 HX4 HZ4 HO4 HG5 H45
  obtain ⟨y0, y1, y2, y3, y4, y5, y6, y7, y8⟩ := hX6.cells
  have zx := heap_thaw hX6
  have r0 := heap_cell (i := 0) hG6 rfl
  have r1 := heap_cell (i := 1) hG6 rfl
  have r2 := heap_cell (i := 2) hG6 rfl
  have HB6 := lhid hB6
  have HX6 := lhid hX6
  have HZ6 := lhid hZ6
  clear hB6 hX6 hZ6 hG6
  go_upto_region 9 with fail
  go_region
  generalize hW7 : World.drew _ = w7
  have hB7 : Below w.heap.size w w7 := by rw [← hW7]; exact Below.drew' (((HB6.out.setCell (Nat.le_refl _) _).setCell (Nat.le_refl _) _).setCell (Nat.le_refl _) _)
  have hX7 : XBox w7 w.heap.size x.op x.dst p0 p1 p2 x.num x.too x.ref (.slice UA x.args.length uc) := by rw [← hW7]; exact xset2 (xset2 (xset2 HX6.out 2 _ rfl) 3 _ rfl) 4 _ rfl
  have hZ7 : XBox w7 (w.heap.size + 1) 0 0 0 0 0 0 0 [] (.slice none 0 0) := by rw [← hW7]; exact (Below.heap_setCell _ _ _ _ (by show w.heap.size + 1 ≠ w.heap.size; omega)).trans ((Below.heap_setCell _ _ _ _ (by show w.heap.size + 1 ≠ w.heap.size; omega)).trans ((Below.heap_setCell _ _ _ _ (by show w.heap.size + 1 ≠ w.heap.size; omega)).trans HZ6.out))
  have HO7 : Hid (OwN w7 (w.heap.size + 2) (.slice UA x.args.length uc) x.args) := lhid (by
    rw [← hW7]
    refine own_of HO6.out fun g hg => ?_
    have hgl := own_lt HO6.out g hg
    exact (Below.heap_setCell _ _ _ _ (by show g ≠ w.heap.size; omega)).trans ((Below.heap_setCell _ _ _ _ (by show g ≠ w.heap.size; omega)).trans (Below.heap_setCell _ _ _ _ (by show g ≠ w.heap.size; omega))))
  clear hW7 y0 y1 y2 y3 y4 y5 y6 y7 y8 zx r0 r1 r2 HB6 HX6 HZ6 HO6
  obtain ⟨y0, y1, y2, y3, y4, y5, y6, y7, y8⟩ := hX7.cells
  obtain ⟨q0, q1, q2, q3, q4, q5, q6, q7, q8⟩ := hZ7.cells
  have zz := heap_thaw hZ7
  have HB7 := lhid hB7
  have HX7 := lhid hX7
  have HZ7 := lhid hZ7
  clear hB7 hX7 hZ7
  go_wp2_with fail
  refine bodyPost_ret (results_cell_row rfl _ _ (w.heap.size + 1) 24 _ _ _ rfl (nine_set HZ7.out rfl _ _ _ _ _ _ _ _ _) Try.underlying24 rfl sizeIns) rfl ?_
  refine ⟨_, rfl, ?_, nine_below HB7.out (Nat.le_succ _) _ _ _ _ _ _ _ _ _⟩
  have HOW := HO7.out
  exact own_base (own_of HOW fun g hg => nine_other (by have := own_lt HOW g hg; omega) _ _ _ _ _ _ _ _ _) (by omega)
theorem replace_r {P Q : Nat → Prop} (x : InI) (v lv : Value) (l : List Int) (y : InI) (w : World) (h : Hid (RdX P 1 NuE w v x.args)) (hl : Hid (RdX Q 1 NuE w lv l)) (hx : Hid (x.args.length ≤ 2000)) (hll : Hid (l.length ≤ 2000)) (hy : Hid (replI x l = y)) :
    Calls Try.prog 31 #[inA x v, lv] w fun e w' => ∃ v', e = .returned (inA y v') ∧ OwN w' w.heap.size v' y.args ∧ Below w.heap.size w w' := by
  rw [← hy.out]
  by_cases hlen : l.length = (usesI x).length
  · cases hc : callsB x.op with
    | true =>
      rw [repl_calls hlen hc]
      exact replace_calls x v lv l w h hl hx hll hlen (lhid hc)
    | false =>
      rw [replI_eq hlen hc]
      exact replace_plain x v lv l w h hl hx hll hlen (lhid hc)
  · rw [repl_ne hlen]
    exact replace_ne x v lv l w h hl hx hll hlen
end Go.Proofs.Ythaijdcgmcfpiaa
