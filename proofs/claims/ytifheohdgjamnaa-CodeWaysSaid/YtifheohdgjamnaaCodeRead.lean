/- Contract of code.read: an instruction taken apart. -/
import Derived.Test.YtifheohdgjamnaaCodeMem
import Derived.Laws.BitsAllLaws
import Derived.Deep.QuietTactic
import Derived.Laws.Rows
namespace Go.Proofs.Ytifheohdgjamnaa
open Go.RowKit Go
set_option linter.unusedVariables false

theorem heap_alloc3_new (w : World) (A B C : Obj) : (((w.alloc A).alloc B).alloc C).heap[w.heap.size + 1 + 1]? = some C := by
  have h := heap_alloc_new ((w.alloc A).alloc B) C
  have e : ((w.alloc A).alloc B).heap.size = w.heap.size + 1 + 1 := by simp
  rwa [e] at h
theorem u16_in (x : Nat) (h : x < 65536) : IntKind.u16.wrap (x : Int) = x := by
  show (x : Int) % 65536 = x
  omega
theorem u16_two (x y : Nat) (hx : x < 256) (hy : y < 256) : bits .or .u16 (IntKind.u16.wrap (IntKind.u16.wrap (x : Int) * 256)) (IntKind.u16.wrap (y : Int)) = ((256 * x + y : Nat) : Int) := by
  rw [u16_in x (by omega), u16_in y (by omega), show (x : Int) * 256 = ((x * 256 : Nat) : Int) by omega, u16_in _ (by omega), u16_or_nat _ _ (by omega) (by omega)]
  rw [show x * 256 = x <<< 8 by rw [Nat.shiftLeft_eq], ← Nat.shiftLeft_add_eq_or_of_lt (by omega : y < 2 ^ 8), Nat.shiftLeft_eq, Nat.mul_comm]
theorem i16_in (x : Nat) (h : x < 65536) : IntKind.i16.wrap (x : Int) = sg16 x := by
  have e : IntKind.i16.wrap (x : Int) = if (32768 : Int) ≤ (x : Int) % 65536 then (x : Int) % 65536 - 65536 else (x : Int) % 65536 := by simp [IntKind.wrap, IntKind.signed, IntKind.bits]
  rw [e]
  unfold sg16
  split <;> split <;> omega
theorem i8_in (x : Nat) (h : x < 256) : IntKind.i8.wrap (x : Int) = sg8 x := by
  have e : IntKind.i8.wrap (x : Int) = if (128 : Int) ≤ (x : Int) % 256 then (x : Int) % 256 - 256 else (x : Int) % 256 := by simp [IntKind.wrap, IntKind.signed, IntKind.bits]
  rw [e]
  unfold sg8
  split <;> split <;> omega
theorem heap_mid (w : World) (A B C : Obj) : (((w.alloc A).alloc B).alloc C).heap[w.heap.size + 1]? = some B :=
  (heap_alloc_old _ _ (by simp)).trans (heap_alloc2_new w A B)
theorem below3 (w : World) (A B C : Obj) : Below w.heap.size w (((w.alloc A).alloc B).alloc C) :=
  (((Below.refl w.heap.size w).alloc (Nat.le_refl _) _).alloc (by simp) _).alloc (by simp; omega) _
theorem sizeOp : (Try.prog.info? 38).map (·.size) = some 4 := by kernel_rfl
theorem wr_b (L : Bs) (k : Nat) : wrap64 (bN L k : Int) = bN L k := IntWalk.wrap64_in _ (by have := bN_lt L k; omega)
theorem wr_t (L : Bs) (k : Nat) : wrap64 (two L k : Int) = two L k := IntWalk.wrap64_in _ (by have := two_lt L k; omega)
theorem sg8_in {x : Nat} (h : x < 256) : -128 ≤ sg8 x ∧ sg8 x < 128 := by unfold sg8; split <;> omega
theorem sg16_in {x : Nat} (h : x < 65536) : -32768 ≤ sg16 x ∧ sg16 x < 32768 := by unfold sg16; split <;> omega
theorem wr_s8 (L : Bs) (k : Nat) : wrap64 (sg8 (bN L k)) = sg8 (bN L k) := IntWalk.wrap64_in _ (by have := sg8_in (bN_lt L k); omega)
theorem wr_s16 (L : Bs) (k : Nat) : wrap64 (sg16 (two L k)) = sg16 (two L k) := IntWalk.wrap64_in _ (by have := sg16_in (two_lt L k); omega)
theorem wr_way (L : Bs) (k : Nat) (hk : k ≤ 4000) : wrap64 ((k : Int) + sg16 (two L k)) = k + sg16 (two L k) := IntWalk.wrap64_in _ (by have := sg16_in (two_lt L k); omega)
/-- The first n bytes from place k on lie at o. -/
def Byt (w : World) (g o n : Nat) (L : Bs) (k : Nat) : Prop := ∀ j, j < n → w.cell? ⟨g, o + j, none⟩ = some (.int .u8 (bN L (k + j)))
set_option maxHeartbeats 1000000 in
set_option maxRecDepth 100000 in
theorem two_any (b g o n cap k : Nat) (L : Bs) (w : World) (hn : 3 ≤ n) (hb : w.cell? ⟨b, 0, none⟩ = some (.slice (some ⟨g, o, none⟩) n cap)) (h : Hid (Byt w g o n L k)) :
    Calls Try.prog 28 #[.pointer (some ⟨b, 0, none⟩)] w fun e w' => e = .returned (.int .u16 (two L k)) ∧ ∃ m, w' = w.drewN m := by
  have c1 := h.out 1 (by omega)
  have c2 := h.out 2 (by omega)
  have k1 : (1 : Int) < n := by omega
  have k2 : (2 : Int) < n := by omega
  go_enter Try.func28, Try.ntmps28
  go_wp2_with fail
  go_quiet (fail)
  rw [u16_two _ _ (bN_lt _ _) (bN_lt _ _)]
  go_wp2_with fail
  go_ret
  exact ⟨rfl, _, rfl⟩
theorem two_b (b g o n cap k : Nat) (L : Bs) (w : World) (hn : 3 ≤ n) (hb : w.cell? ⟨b, 0, none⟩ = some (.slice (some ⟨g, o, none⟩) n cap)) (h : Hid (Byt w g o n L k)) :
    Calls Try.prog 28 #[.pointer (some ⟨b, 0, none⟩)] w fun e w' => e = .returned (.int .u16 (two L k)) ∧ w'.heap = w.heap ∧ Below w.heap.size w w' := by
  refine (two_any b g o n cap k L w hn hb h).mono ?_
  rintro e w' ⟨h1, m, rfl⟩
  exact ⟨h1, rfl, ⟨rfl, rfl, rfl, Nat.le_refl _, fun _ _ => rfl⟩⟩
theorem four_set {w : World} {R : Nat} {T : TypeId} {z0 z1 z2 z3 : Value} (h : w.heap[R]? = some (.cells #[z0, z1, z2, z3] T (0, 0))) (a b c d : Value) :
    ((((w.setCell ⟨R, 0, none⟩ a).setCell ⟨R, 1, none⟩ b).setCell ⟨R, 2, none⟩ c).setCell ⟨R, 3, none⟩ d).heap[R]? = some (.cells #[a, b, c, d] T (0, 0)) := by
  have := heap_set (i := 3) (heap_set (i := 2) (heap_set (i := 1) (heap_set (i := 0) h a) b) c) d
  simpa using this
theorem four_below {B R : Nat} {a0 w : World} (h : Below B a0 w) (hR : B ≤ R) (a b c d : Value) : Below B a0 ((((w.setCell ⟨R, 0, none⟩ a).setCell ⟨R, 1, none⟩ b).setCell ⟨R, 2, none⟩ c).setCell ⟨R, 3, none⟩ d) :=
  (((h.setCell hR a).setCell hR b).setCell hR c).setCell hR d
set_option maxHeartbeats 4000000 in
set_option maxRecDepth 100000 in
theorem read_1 (g o cap k : Nat) (L : Bs) (w : World) (hk : k ≤ 4000) (HR : Hid (rowN (bN L k) = 1)) (h : Hid (Byt w g o 1 L k)) :
    Calls Try.prog 20 #[.slice (some ⟨g, o, none⟩) 1 cap, .int .i64 k] w fun e w' => e = .returned (.agg #[.int .i64 k, .int .i64 (bN L k), .int .i64 (opA 1 (bN L (k + 1)) (two L k) k), .int .i64 (opB 1 (bN L (k + 2)))]) ∧ Below w.heap.size w w' := by
  have c0 : w.cell? ⟨g, o, none⟩ = some (.int .u8 (bN L k)) := h.out 0 (by omega)
  have hg : g < w.heap.size := cell_lt c0
  have g1 : g < w.heap.size + 1 := by omega
  have g2 : g < w.heap.size + 1 + 1 := by omega
  have g3 : ¬ g = w.heap.size := by omega
  have g4 : ¬ g = w.heap.size + 1 := by omega
  have g5 : ¬ g = w.heap.size + 1 + 1 := by omega
  have g6 : ¬ w.heap.size + 1 + 1 = g := by omega
  have x0 := wr_b L k
  go_enter Try.func20, Try.ntmps20
  go_wp2_with fail
  with_reducible refine (rowOf_r _ _ _ HR).mono ?_
  rintro e w1 ⟨rfl, rfl⟩
  go_wp2_with fail
  refine bodyPost_ret (results_cell_row rfl _ _ (w.heap.size + 1) 38 #[.int .i64 k, .int .i64 (bN L k), .int .i64 0, .int .i64 0] _ _ rfl (heap_mid w _ _ _) Try.underlying38 rfl sizeOp) rfl ?_
  exact ⟨rfl, below3 w _ _ _⟩
set_option maxHeartbeats 4000000 in
set_option maxRecDepth 100000 in
theorem read_2 (g o cap k : Nat) (L : Bs) (w : World) (hk : k ≤ 4000) (HR : Hid (rowN (bN L k) = 2)) (h : Hid (Byt w g o 2 L k)) :
    Calls Try.prog 20 #[.slice (some ⟨g, o, none⟩) 2 cap, .int .i64 k] w fun e w' => e = .returned (.agg #[.int .i64 k, .int .i64 (bN L k), .int .i64 (opA 2 (bN L (k + 1)) (two L k) k), .int .i64 (opB 2 (bN L (k + 2)))]) ∧ Below w.heap.size w w' := by
  have c0 : w.cell? ⟨g, o, none⟩ = some (.int .u8 (bN L k)) := h.out 0 (by omega)
  have hg : g < w.heap.size := cell_lt c0
  have g1 : g < w.heap.size + 1 := by omega
  have g2 : g < w.heap.size + 1 + 1 := by omega
  have g3 : ¬ g = w.heap.size := by omega
  have g4 : ¬ g = w.heap.size + 1 := by omega
  have g5 : ¬ g = w.heap.size + 1 + 1 := by omega
  have g6 : ¬ w.heap.size + 1 + 1 = g := by omega
  have x0 := wr_b L k
  have c1 : w.cell? ⟨g, o + 1, none⟩ = some (.int .u8 (bN L (k + 1))) := h.out 1 (by omega)
  have x1 := wr_b L (k + 1)
  go_enter Try.func20, Try.ntmps20
  go_wp2_with fail
  with_reducible refine (rowOf_r _ _ _ HR).mono ?_
  rintro e w1 ⟨rfl, rfl⟩
  go_wp2_with fail
  refine bodyPost_ret (results_cell_row rfl _ _ (w.heap.size + 1) 38 #[.int .i64 k, .int .i64 (bN L k), .int .i64 (bN L (k + 1)), .int .i64 0] _ _ rfl (heap_mid w _ _ _) Try.underlying38 rfl sizeOp) rfl ?_
  exact ⟨rfl, below3 w _ _ _⟩
set_option maxHeartbeats 4000000 in
set_option maxRecDepth 100000 in
theorem read_3 (g o cap k : Nat) (L : Bs) (w : World) (hk : k ≤ 4000) (HR : Hid (rowN (bN L k) = 3)) (h : Hid (Byt w g o 2 L k)) :
    Calls Try.prog 20 #[.slice (some ⟨g, o, none⟩) 2 cap, .int .i64 k] w fun e w' => e = .returned (.agg #[.int .i64 k, .int .i64 (bN L k), .int .i64 (opA 3 (bN L (k + 1)) (two L k) k), .int .i64 (opB 3 (bN L (k + 2)))]) ∧ Below w.heap.size w w' := by
  have c0 : w.cell? ⟨g, o, none⟩ = some (.int .u8 (bN L k)) := h.out 0 (by omega)
  have hg : g < w.heap.size := cell_lt c0
  have g1 : g < w.heap.size + 1 := by omega
  have g2 : g < w.heap.size + 1 + 1 := by omega
  have g3 : ¬ g = w.heap.size := by omega
  have g4 : ¬ g = w.heap.size + 1 := by omega
  have g5 : ¬ g = w.heap.size + 1 + 1 := by omega
  have g6 : ¬ w.heap.size + 1 + 1 = g := by omega
  have x0 := wr_b L k
  have c1 : w.cell? ⟨g, o + 1, none⟩ = some (.int .u8 (bN L (k + 1))) := h.out 1 (by omega)
  have x1 := i8_in _ (bN_lt L (k + 1))
  have x2 := wr_s8 L (k + 1)
  go_enter Try.func20, Try.ntmps20
  go_wp2_with fail
  with_reducible refine (rowOf_r _ _ _ HR).mono ?_
  rintro e w1 ⟨rfl, rfl⟩
  go_wp2_with fail
  refine bodyPost_ret (results_cell_row rfl _ _ (w.heap.size + 1) 38 #[.int .i64 k, .int .i64 (bN L k), .int .i64 (sg8 (bN L (k + 1))), .int .i64 0] _ _ rfl (heap_mid w _ _ _) Try.underlying38 rfl sizeOp) rfl ?_
  exact ⟨rfl, below3 w _ _ _⟩
set_option maxHeartbeats 4000000 in
set_option maxRecDepth 100000 in
theorem read_4 (g o cap k : Nat) (L : Bs) (w : World) (hk : k ≤ 4000) (HR : Hid (rowN (bN L k) = 4)) (h : Hid (Byt w g o 3 L k)) :
    Calls Try.prog 20 #[.slice (some ⟨g, o, none⟩) 3 cap, .int .i64 k] w fun e w' => e = .returned (.agg #[.int .i64 k, .int .i64 (bN L k), .int .i64 (opA 4 (bN L (k + 1)) (two L k) k), .int .i64 (opB 4 (bN L (k + 2)))]) ∧ Below w.heap.size w w' := by
  have c0 : w.cell? ⟨g, o, none⟩ = some (.int .u8 (bN L k)) := h.out 0 (by omega)
  have hg : g < w.heap.size := cell_lt c0
  have g1 : g < w.heap.size + 1 := by omega
  have g2 : g < w.heap.size + 1 + 1 := by omega
  have g3 : ¬ g = w.heap.size := by omega
  have g4 : ¬ g = w.heap.size + 1 := by omega
  have g5 : ¬ g = w.heap.size + 1 + 1 := by omega
  have g6 : ¬ w.heap.size + 1 + 1 = g := by omega
  have x0 := wr_b L k
  have c1 : w.cell? ⟨g, o + 1, none⟩ = some (.int .u8 (bN L (k + 1))) := h.out 1 (by omega)
  have c2 : w.cell? ⟨g, o + 2, none⟩ = some (.int .u8 (bN L (k + 2))) := h.out 2 (by omega)
  have x1 := i16_in _ (two_lt L k)
  have x2 := wr_s16 L k
  go_enter Try.func20, Try.ntmps20
  go_wp2_with fail
  with_reducible refine (rowOf_r _ _ _ HR).mono ?_
  rintro e w1 ⟨rfl, rfl⟩
  go_wp2_with fail
  with_reducible refine (two_b w.heap.size g o 3 cap k L _ (by omega) ?b1 ?b2).mono ?_
  case b1 => exact heap_cell ((heap_alloc_old _ _ (by simp; omega)).trans ((heap_alloc_old _ _ (by simp)).trans (heap_alloc_new w _))) rfl
  case b2 => exact lhid fun j hj => ((below3 w _ _ _).cell (by exact hg)).trans (h.out j hj)
  rintro e w2 ⟨rfl, hh, hb2⟩
  have hb : Below w.heap.size w w2 := (below3 w _ _ _).trans (hb2.mono (by simp; omega))
  have HB := lhid hb
  clear hb2
  have HQ2 : w2.heap[w.heap.size + 1 + 1]? = some (.cells #[.int .i64 k, .int .i64 (bN L k), .int .i64 0, .int .i64 0] 38 (0, 0)) := by rw [hh]; exact heap_alloc3_new w _ _ _
  have HQ1 : w2.heap[w.heap.size + 1]? = some (.cells #[.int .i64 0, .int .i64 0, .int .i64 0, .int .i64 0] 38 (0, 0)) := by rw [hh]; exact heap_mid w _ _ _
  have p0 := heap_cell (i := 0) HQ2 rfl
  have p1 := heap_cell (i := 1) HQ2 rfl
  have p2 := heap_cell (i := 2) HQ2 rfl
  have p3 := heap_cell (i := 3) HQ2 rfl
  have z2 := heap_thaw HQ2
  have z1 := heap_thaw HQ1
  have q0 := heap_cell (i := 0) HQ1 rfl
  have q1 := heap_cell (i := 1) HQ1 rfl
  have q2 := heap_cell (i := 2) HQ1 rfl
  have q3 := heap_cell (i := 3) HQ1 rfl
  have H1 := lhid HQ1
  have H2 := lhid HQ2
  clear HQ1 HQ2 hb hh
  go_wp2_with fail
  refine bodyPost_ret (results_cell_row rfl _ _ (w.heap.size + 1) 38 #[.int .i64 k, .int .i64 (bN L k), .int .i64 (sg16 (two L k)), .int .i64 0] _ _ rfl (four_set ((Below.heap_setCell _ _ _ _ (by simp)).trans H1.out) _ _ _ _) Try.underlying38 rfl sizeOp) rfl ?_
  exact ⟨rfl, four_below (HB.out.setCell (by simp; omega) _) (by simp) _ _ _ _⟩
set_option maxHeartbeats 4000000 in
set_option maxRecDepth 100000 in
theorem read_5 (g o cap k : Nat) (L : Bs) (w : World) (hk : k ≤ 4000) (HR : Hid (rowN (bN L k) = 5)) (h : Hid (Byt w g o 3 L k)) :
    Calls Try.prog 20 #[.slice (some ⟨g, o, none⟩) 3 cap, .int .i64 k] w fun e w' => e = .returned (.agg #[.int .i64 k, .int .i64 (bN L k), .int .i64 (opA 5 (bN L (k + 1)) (two L k) k), .int .i64 (opB 5 (bN L (k + 2)))]) ∧ Below w.heap.size w w' := by
  have c0 : w.cell? ⟨g, o, none⟩ = some (.int .u8 (bN L k)) := h.out 0 (by omega)
  have hg : g < w.heap.size := cell_lt c0
  have g1 : g < w.heap.size + 1 := by omega
  have g2 : g < w.heap.size + 1 + 1 := by omega
  have g3 : ¬ g = w.heap.size := by omega
  have g4 : ¬ g = w.heap.size + 1 := by omega
  have g5 : ¬ g = w.heap.size + 1 + 1 := by omega
  have g6 : ¬ w.heap.size + 1 + 1 = g := by omega
  have x0 := wr_b L k
  have c1 : w.cell? ⟨g, o + 1, none⟩ = some (.int .u8 (bN L (k + 1))) := h.out 1 (by omega)
  have c2 : w.cell? ⟨g, o + 2, none⟩ = some (.int .u8 (bN L (k + 2))) := h.out 2 (by omega)
  have x1 := wr_t L k
  go_enter Try.func20, Try.ntmps20
  go_wp2_with fail
  with_reducible refine (rowOf_r _ _ _ HR).mono ?_
  rintro e w1 ⟨rfl, rfl⟩
  go_wp2_with fail
  with_reducible refine (two_b w.heap.size g o 3 cap k L _ (by omega) ?b1 ?b2).mono ?_
  case b1 => exact heap_cell ((heap_alloc_old _ _ (by simp; omega)).trans ((heap_alloc_old _ _ (by simp)).trans (heap_alloc_new w _))) rfl
  case b2 => exact lhid fun j hj => ((below3 w _ _ _).cell (by exact hg)).trans (h.out j hj)
  rintro e w2 ⟨rfl, hh, hb2⟩
  have hb : Below w.heap.size w w2 := (below3 w _ _ _).trans (hb2.mono (by simp; omega))
  have HB := lhid hb
  clear hb2
  have HQ2 : w2.heap[w.heap.size + 1 + 1]? = some (.cells #[.int .i64 k, .int .i64 (bN L k), .int .i64 0, .int .i64 0] 38 (0, 0)) := by rw [hh]; exact heap_alloc3_new w _ _ _
  have HQ1 : w2.heap[w.heap.size + 1]? = some (.cells #[.int .i64 0, .int .i64 0, .int .i64 0, .int .i64 0] 38 (0, 0)) := by rw [hh]; exact heap_mid w _ _ _
  have p0 := heap_cell (i := 0) HQ2 rfl
  have p1 := heap_cell (i := 1) HQ2 rfl
  have p2 := heap_cell (i := 2) HQ2 rfl
  have p3 := heap_cell (i := 3) HQ2 rfl
  have z2 := heap_thaw HQ2
  have z1 := heap_thaw HQ1
  have q0 := heap_cell (i := 0) HQ1 rfl
  have q1 := heap_cell (i := 1) HQ1 rfl
  have q2 := heap_cell (i := 2) HQ1 rfl
  have q3 := heap_cell (i := 3) HQ1 rfl
  have H1 := lhid HQ1
  have H2 := lhid HQ2
  clear HQ1 HQ2 hb hh
  go_wp2_with fail
  refine bodyPost_ret (results_cell_row rfl _ _ (w.heap.size + 1) 38 #[.int .i64 k, .int .i64 (bN L k), .int .i64 (two L k), .int .i64 0] _ _ rfl (four_set ((Below.heap_setCell _ _ _ _ (by simp)).trans H1.out) _ _ _ _) Try.underlying38 rfl sizeOp) rfl ?_
  exact ⟨rfl, four_below (HB.out.setCell (by simp; omega) _) (by simp) _ _ _ _⟩
set_option maxHeartbeats 4000000 in
set_option maxRecDepth 100000 in
theorem read_6 (g o cap k : Nat) (L : Bs) (w : World) (hk : k ≤ 4000) (HR : Hid (rowN (bN L k) = 6)) (h : Hid (Byt w g o 3 L k)) :
    Calls Try.prog 20 #[.slice (some ⟨g, o, none⟩) 3 cap, .int .i64 k] w fun e w' => e = .returned (.agg #[.int .i64 k, .int .i64 (bN L k), .int .i64 (opA 6 (bN L (k + 1)) (two L k) k), .int .i64 (opB 6 (bN L (k + 2)))]) ∧ Below w.heap.size w w' := by
  have c0 : w.cell? ⟨g, o, none⟩ = some (.int .u8 (bN L k)) := h.out 0 (by omega)
  have hg : g < w.heap.size := cell_lt c0
  have g1 : g < w.heap.size + 1 := by omega
  have g2 : g < w.heap.size + 1 + 1 := by omega
  have g3 : ¬ g = w.heap.size := by omega
  have g4 : ¬ g = w.heap.size + 1 := by omega
  have g5 : ¬ g = w.heap.size + 1 + 1 := by omega
  have g6 : ¬ w.heap.size + 1 + 1 = g := by omega
  have x0 := wr_b L k
  have c1 : w.cell? ⟨g, o + 1, none⟩ = some (.int .u8 (bN L (k + 1))) := h.out 1 (by omega)
  have c2 : w.cell? ⟨g, o + 2, none⟩ = some (.int .u8 (bN L (k + 2))) := h.out 2 (by omega)
  have x1 := i16_in _ (two_lt L k)
  have x2 := wr_s16 L k
  have x3 := wr_way L k hk
  go_enter Try.func20, Try.ntmps20
  go_wp2_with fail
  with_reducible refine (rowOf_r _ _ _ HR).mono ?_
  rintro e w1 ⟨rfl, rfl⟩
  go_wp2_with fail
  with_reducible refine (two_b w.heap.size g o 3 cap k L _ (by omega) ?b1 ?b2).mono ?_
  case b1 => exact heap_cell ((heap_alloc_old _ _ (by simp; omega)).trans ((heap_alloc_old _ _ (by simp)).trans (heap_alloc_new w _))) rfl
  case b2 => exact lhid fun j hj => ((below3 w _ _ _).cell (by exact hg)).trans (h.out j hj)
  rintro e w2 ⟨rfl, hh, hb2⟩
  have hb : Below w.heap.size w w2 := (below3 w _ _ _).trans (hb2.mono (by simp; omega))
  have HB := lhid hb
  clear hb2
  have HQ2 : w2.heap[w.heap.size + 1 + 1]? = some (.cells #[.int .i64 k, .int .i64 (bN L k), .int .i64 0, .int .i64 0] 38 (0, 0)) := by rw [hh]; exact heap_alloc3_new w _ _ _
  have HQ1 : w2.heap[w.heap.size + 1]? = some (.cells #[.int .i64 0, .int .i64 0, .int .i64 0, .int .i64 0] 38 (0, 0)) := by rw [hh]; exact heap_mid w _ _ _
  have p0 := heap_cell (i := 0) HQ2 rfl
  have p1 := heap_cell (i := 1) HQ2 rfl
  have p2 := heap_cell (i := 2) HQ2 rfl
  have p3 := heap_cell (i := 3) HQ2 rfl
  have z2 := heap_thaw HQ2
  have z1 := heap_thaw HQ1
  have q0 := heap_cell (i := 0) HQ1 rfl
  have q1 := heap_cell (i := 1) HQ1 rfl
  have q2 := heap_cell (i := 2) HQ1 rfl
  have q3 := heap_cell (i := 3) HQ1 rfl
  have H1 := lhid HQ1
  have H2 := lhid HQ2
  clear HQ1 HQ2 hb hh
  go_wp2_with fail
  refine bodyPost_ret (results_cell_row rfl _ _ (w.heap.size + 1) 38 #[.int .i64 k, .int .i64 (bN L k), .int .i64 ((k : Int) + sg16 (two L k)), .int .i64 0] _ _ rfl (four_set ((Below.heap_setCell _ _ _ _ (by simp)).trans H1.out) _ _ _ _) Try.underlying38 rfl sizeOp) rfl ?_
  exact ⟨rfl, four_below (HB.out.setCell (by simp; omega) _) (by simp) _ _ _ _⟩
set_option maxHeartbeats 4000000 in
set_option maxRecDepth 100000 in
theorem read_7 (g o cap k : Nat) (L : Bs) (w : World) (hk : k ≤ 4000) (HR : Hid (rowN (bN L k) = 7)) (h : Hid (Byt w g o 3 L k)) :
    Calls Try.prog 20 #[.slice (some ⟨g, o, none⟩) 3 cap, .int .i64 k] w fun e w' => e = .returned (.agg #[.int .i64 k, .int .i64 (bN L k), .int .i64 (opA 7 (bN L (k + 1)) (two L k) k), .int .i64 (opB 7 (bN L (k + 2)))]) ∧ Below w.heap.size w w' := by
  have c0 : w.cell? ⟨g, o, none⟩ = some (.int .u8 (bN L k)) := h.out 0 (by omega)
  have hg : g < w.heap.size := cell_lt c0
  have g1 : g < w.heap.size + 1 := by omega
  have g2 : g < w.heap.size + 1 + 1 := by omega
  have g3 : ¬ g = w.heap.size := by omega
  have g4 : ¬ g = w.heap.size + 1 := by omega
  have g5 : ¬ g = w.heap.size + 1 + 1 := by omega
  have g6 : ¬ w.heap.size + 1 + 1 = g := by omega
  have x0 := wr_b L k
  have c1 : w.cell? ⟨g, o + 1, none⟩ = some (.int .u8 (bN L (k + 1))) := h.out 1 (by omega)
  have c2 : w.cell? ⟨g, o + 2, none⟩ = some (.int .u8 (bN L (k + 2))) := h.out 2 (by omega)
  have x1 := wr_b L (k + 1)
  have x3 := i8_in _ (bN_lt L (k + 2))
  have x2 := wr_s8 L (k + 2)
  go_enter Try.func20, Try.ntmps20
  go_wp2_with fail
  with_reducible refine (rowOf_r _ _ _ HR).mono ?_
  rintro e w1 ⟨rfl, rfl⟩
  go_wp2_with fail
  go_region
  generalize hw2 : World.drew _ = w2
  have hh := congrArg World.heap hw2.symm
  have hb : Below w.heap.size w w2 := by rw [← hw2]; exact (below3 w _ _ _).drew
  have HB := lhid hb
  clear hw2
  have HQ2 : w2.heap[w.heap.size + 1 + 1]? = some (.cells #[.int .i64 k, .int .i64 (bN L k), .int .i64 (bN L (k + 1)), .int .i64 (sg8 (bN L (k + 2)))] 38 (0, 0)) := by rw [hh]; exact heap_alloc3_new w _ _ _
  have HQ1 : w2.heap[w.heap.size + 1]? = some (.cells #[.int .i64 0, .int .i64 0, .int .i64 0, .int .i64 0] 38 (0, 0)) := by rw [hh]; exact heap_mid w _ _ _
  have p0 := heap_cell (i := 0) HQ2 rfl
  have p1 := heap_cell (i := 1) HQ2 rfl
  have p2 := heap_cell (i := 2) HQ2 rfl
  have p3 := heap_cell (i := 3) HQ2 rfl
  have z2 := heap_thaw HQ2
  have z1 := heap_thaw HQ1
  have q0 := heap_cell (i := 0) HQ1 rfl
  have q1 := heap_cell (i := 1) HQ1 rfl
  have q2 := heap_cell (i := 2) HQ1 rfl
  have q3 := heap_cell (i := 3) HQ1 rfl
  have H1 := lhid HQ1
  have H2 := lhid HQ2
  clear HQ1 HQ2 hb hh
  go_wp2_with fail
  refine bodyPost_ret (results_cell_row rfl _ _ (w.heap.size + 1) 38 #[.int .i64 k, .int .i64 (bN L k), .int .i64 (bN L (k + 1)), .int .i64 (sg8 (bN L (k + 2)))] _ _ rfl (four_set H1.out _ _ _ _) Try.underlying38 rfl sizeOp) rfl ?_
  exact ⟨rfl, four_below HB.out (by simp) _ _ _ _⟩
theorem read_any (g o cap k n : Nat) (L : Bs) (w : World) (hk : k ≤ 4000) (hn : szN (bN L k) = n) (h0 : n ≠ 0) (h : Hid (Byt w g o n L k)) :
    Calls Try.prog 20 #[.slice (some ⟨g, o, none⟩) n cap, .int .i64 k] w fun e w' => e = .returned (.agg #[.int .i64 (opAt L k).pc, .int .i64 (opAt L k).code, .int .i64 (opAt L k).a, .int .i64 (opAt L k).b]) ∧ Below w.heap.size w w' := by
  have hle := rowN_le (bN L k)
  obtain ⟨r, hr⟩ : ∃ r, rowN (bN L k) = r := ⟨_, rfl⟩
  unfold szN at hn
  unfold opAt
  rw [hr] at hn hle ⊢
  subst hn
  rcases row_ways hle with rfl | rfl | rfl | rfl | rfl | rfl | rfl | rfl
  · exact absurd rfl h0
  · exact read_1 g o cap k L w hk hr h
  · exact read_2 g o cap k L w hk hr h
  · exact read_3 g o cap k L w hk hr h
  · exact read_4 g o cap k L w hk hr h
  · exact read_5 g o cap k L w hk hr h
  · exact read_6 g o cap k L w hk hr h
  · exact read_7 g o cap k L w hk hr h
end Go.Proofs.Ytifheohdgjamnaa
