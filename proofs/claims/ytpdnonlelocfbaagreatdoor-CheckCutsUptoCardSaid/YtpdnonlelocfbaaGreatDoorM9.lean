/- Texts of this claim, joined: CdRead, CdSame, CdDecode. -/
import Derived.Test.YtpdnonlelocfbaaGreatDoorM8
import Derived.Laws.BitsAllLaws
import Derived.Deep.QuietTactic
import Derived.Laws.Rows
/- Contract of code.read: an instruction taken apart. -/
namespace Go.Proofs.YtpdnonlelocfbaaGreatDoor.Cd
open Go.RowKit Go
set_option linter.unusedVariables false

theorem heap_alloc3_new (w : World) (A B C : Obj) : (((w.alloc A).alloc B).alloc C).heap[w.heap.size + 1 + 1]? = some C := by
  have h := heap_alloc_new ((w.alloc A).alloc B) C
  have e : ((w.alloc A).alloc B).heap.size = w.heap.size + 1 + 1 := by simp
  rwa [e] at h
theorem u16_in (x : Nat) (h : x < 65536) : IntKind.u16.wrap (x : Int) = x := by
  show (x : Int) % 65536 = x
  omega
theorem u16_two (x y : Nat) (hx : x < 256) (hy : y < 256) : bits .or .u16 (IntKind.u16.wrap (IntKind.u16.wrap (x : Int) * 256)) (IntKind.u16.wrap (y : Int)) = ((256 * x + y : Nat) : Int) := by
  rw [u16_in x (by omega), u16_in y (by omega), show (x : Int) * 256 = ((x * 256 : Nat) : Int) by omega, u16_in _ (by omega), u16_or_nat _ _ (by omega) (by omega)]
  rw [show x * 256 = x <<< 8 by rw [Nat.shiftLeft_eq], ← Nat.shiftLeft_add_eq_or_of_lt (by omega : y < 2 ^ 8), Nat.shiftLeft_eq, Nat.mul_comm]
theorem i16_in (x : Nat) (h : x < 65536) : IntKind.i16.wrap (x : Int) = sg16 x := by
  have e : IntKind.i16.wrap (x : Int) = if (32768 : Int) ≤ (x : Int) % 65536 then (x : Int) % 65536 - 65536 else (x : Int) % 65536 := by simp [IntKind.wrap, IntKind.signed, IntKind.bits]
  rw [e]
  unfold sg16
  split <;> split <;> omega
theorem i8_in (x : Nat) (h : x < 256) : IntKind.i8.wrap (x : Int) = sg8 x := by
  have e : IntKind.i8.wrap (x : Int) = if (128 : Int) ≤ (x : Int) % 256 then (x : Int) % 256 - 256 else (x : Int) % 256 := by simp [IntKind.wrap, IntKind.signed, IntKind.bits]
  rw [e]
  unfold sg8
  split <;> split <;> omega
theorem heap_mid (w : World) (A B C : Obj) : (((w.alloc A).alloc B).alloc C).heap[w.heap.size + 1]? = some B :=
  (heap_alloc_old _ _ (by simp)).trans (heap_alloc2_new w A B)
theorem below3 (w : World) (A B C : Obj) : Below w.heap.size w (((w.alloc A).alloc B).alloc C) :=
  (((Below.refl w.heap.size w).alloc (Nat.le_refl _) _).alloc (by simp) _).alloc (by simp; omega) _
theorem sizeOp : (Tryz.prog.info? 187).map (·.size) = some 4 := by kernel_rfl
theorem wr_b (L : Bs) (k : Nat) : wrap64 (bN L k : Int) = bN L k := IntWalk.wrap64_in _ (by have := bN_lt L k; omega)
theorem wr_t (L : Bs) (k : Nat) : wrap64 (two L k : Int) = two L k := IntWalk.wrap64_in _ (by have := two_lt L k; omega)
theorem sg8_in {x : Nat} (h : x < 256) : -128 ≤ sg8 x ∧ sg8 x < 128 := by unfold sg8; split <;> omega
theorem sg16_in {x : Nat} (h : x < 65536) : -32768 ≤ sg16 x ∧ sg16 x < 32768 := by unfold sg16; split <;> omega
theorem wr_s8 (L : Bs) (k : Nat) : wrap64 (sg8 (bN L k)) = sg8 (bN L k) := IntWalk.wrap64_in _ (by have := sg8_in (bN_lt L k); omega)
theorem wr_s16 (L : Bs) (k : Nat) : wrap64 (sg16 (two L k)) = sg16 (two L k) := IntWalk.wrap64_in _ (by have := sg16_in (two_lt L k); omega)
theorem wr_way (L : Bs) (k : Nat) (hk : k ≤ 4000) : wrap64 ((k : Int) + sg16 (two L k)) = k + sg16 (two L k) := IntWalk.wrap64_in _ (by have := sg16_in (two_lt L k); omega)
/-- The first n bytes from place k on lie at o. -/
def Byt (w : World) (g o n : Nat) (L : Bs) (k : Nat) : Prop := ∀ j, j < n → w.cell? ⟨g, o + j, none⟩ = some (.int .u8 (bN L (k + j)))
set_option maxHeartbeats 1000000 in
set_option maxRecDepth 100000 in
theorem two_any (b g o n cap k : Nat) (L : Bs) (w : World) (hn : 3 ≤ n) (hb : w.cell? ⟨b, 0, none⟩ = some (.slice (some ⟨g, o, none⟩) n cap)) (h : Hid (Byt w g o n L k)) :
    Calls Tryz.prog 207 #[.pointer (some ⟨b, 0, none⟩)] w fun e w' => e = .returned (.int .u16 (two L k)) ∧ ∃ m, w' = w.drewN m := by
  have c1 := h.out 1 (by omega)
  have c2 := h.out 2 (by omega)
  have k1 : (1 : Int) < n := by omega
  have k2 : (2 : Int) < n := by omega
  go_enter Tryz.func207, Tryz.ntmps207
  go_wp2_with fail
  go_quiet (fail)
  rw [u16_two _ _ (bN_lt _ _) (bN_lt _ _)]
  go_wp2_with fail
  go_ret
  exact ⟨rfl, _, rfl⟩
theorem two_b (b g o n cap k : Nat) (L : Bs) (w : World) (hn : 3 ≤ n) (hb : w.cell? ⟨b, 0, none⟩ = some (.slice (some ⟨g, o, none⟩) n cap)) (h : Hid (Byt w g o n L k)) :
    Calls Tryz.prog 207 #[.pointer (some ⟨b, 0, none⟩)] w fun e w' => e = .returned (.int .u16 (two L k)) ∧ w'.heap = w.heap ∧ Below w.heap.size w w' := by
  refine (two_any b g o n cap k L w hn hb h).mono ?_
  rintro e w' ⟨h1, m, rfl⟩
  exact ⟨h1, rfl, ⟨rfl, rfl, rfl, Nat.le_refl _, fun _ _ => rfl⟩⟩
theorem four_set {w : World} {R : Nat} {T : TypeId} {z0 z1 z2 z3 : Value} (h : w.heap[R]? = some (.cells #[z0, z1, z2, z3] T (0, 0))) (a b c d : Value) :
    ((((w.setCell ⟨R, 0, none⟩ a).setCell ⟨R, 1, none⟩ b).setCell ⟨R, 2, none⟩ c).setCell ⟨R, 3, none⟩ d).heap[R]? = some (.cells #[a, b, c, d] T (0, 0)) := by
  have := heap_set (i := 3) (heap_set (i := 2) (heap_set (i := 1) (heap_set (i := 0) h a) b) c) d
  simpa using this
theorem four_below {B R : Nat} {a0 w : World} (h : Below B a0 w) (hR : B ≤ R) (a b c d : Value) : Below B a0 ((((w.setCell ⟨R, 0, none⟩ a).setCell ⟨R, 1, none⟩ b).setCell ⟨R, 2, none⟩ c).setCell ⟨R, 3, none⟩ d) :=
  (((h.setCell hR a).setCell hR b).setCell hR c).setCell hR d
set_option maxHeartbeats 4000000 in
set_option maxRecDepth 100000 in
theorem read_1 (g o cap k : Nat) (L : Bs) (w : World) (hk : k ≤ 4000) (HR : Hid (rowN (bN L k) = 1)) (h : Hid (Byt w g o 1 L k)) :
    Calls Tryz.prog 150 #[.slice (some ⟨g, o, none⟩) 1 cap, .int .i64 k] w fun e w' => e = .returned (.agg #[.int .i64 k, .int .i64 (bN L k), .int .i64 (opA 1 (bN L (k + 1)) (two L k) k), .int .i64 (opB 1 (bN L (k + 2)))]) ∧ Below w.heap.size w w' := by
  have c0 : w.cell? ⟨g, o, none⟩ = some (.int .u8 (bN L k)) := h.out 0 (by omega)
  have hg : g < w.heap.size := cell_lt c0
  have g1 : g < w.heap.size + 1 := by omega
  have g2 : g < w.heap.size + 1 + 1 := by omega
  have g3 : ¬ g = w.heap.size := by omega
  have g4 : ¬ g = w.heap.size + 1 := by omega
  have g5 : ¬ g = w.heap.size + 1 + 1 := by omega
  have g6 : ¬ w.heap.size + 1 + 1 = g := by omega
  have x0 := wr_b L k
  go_enter Tryz.func150, Tryz.ntmps150
  go_wp2_with fail
  with_reducible refine (rowOf_r _ _ _ HR).mono ?_
  rintro e w1 ⟨rfl, rfl⟩
  go_wp2_with fail
  refine bodyPost_ret (results_cell_row rfl _ _ (w.heap.size + 1) 187 #[.int .i64 k, .int .i64 (bN L k), .int .i64 0, .int .i64 0] _ _ rfl (heap_mid w _ _ _) Tryz.underlying187 rfl sizeOp) rfl ?_
  exact ⟨rfl, below3 w _ _ _⟩
set_option maxHeartbeats 4000000 in
set_option maxRecDepth 100000 in
theorem read_2 (g o cap k : Nat) (L : Bs) (w : World) (hk : k ≤ 4000) (HR : Hid (rowN (bN L k) = 2)) (h : Hid (Byt w g o 2 L k)) :
    Calls Tryz.prog 150 #[.slice (some ⟨g, o, none⟩) 2 cap, .int .i64 k] w fun e w' => e = .returned (.agg #[.int .i64 k, .int .i64 (bN L k), .int .i64 (opA 2 (bN L (k + 1)) (two L k) k), .int .i64 (opB 2 (bN L (k + 2)))]) ∧ Below w.heap.size w w' := by
  have c0 : w.cell? ⟨g, o, none⟩ = some (.int .u8 (bN L k)) := h.out 0 (by omega)
  have hg : g < w.heap.size := cell_lt c0
  have g1 : g < w.heap.size + 1 := by omega
  have g2 : g < w.heap.size + 1 + 1 := by omega
  have g3 : ¬ g = w.heap.size := by omega
  have g4 : ¬ g = w.heap.size + 1 := by omega
  have g5 : ¬ g = w.heap.size + 1 + 1 := by omega
  have g6 : ¬ w.heap.size + 1 + 1 = g := by omega
  have x0 := wr_b L k
  have c1 : w.cell? ⟨g, o + 1, none⟩ = some (.int .u8 (bN L (k + 1))) := h.out 1 (by omega)
  have x1 := wr_b L (k + 1)
  go_enter Tryz.func150, Tryz.ntmps150
  go_wp2_with fail
  with_reducible refine (rowOf_r _ _ _ HR).mono ?_
  rintro e w1 ⟨rfl, rfl⟩
  go_wp2_with fail
  refine bodyPost_ret (results_cell_row rfl _ _ (w.heap.size + 1) 187 #[.int .i64 k, .int .i64 (bN L k), .int .i64 (bN L (k + 1)), .int .i64 0] _ _ rfl (heap_mid w _ _ _) Tryz.underlying187 rfl sizeOp) rfl ?_
  exact ⟨rfl, below3 w _ _ _⟩
set_option maxHeartbeats 4000000 in
set_option maxRecDepth 100000 in
theorem read_3 (g o cap k : Nat) (L : Bs) (w : World) (hk : k ≤ 4000) (HR : Hid (rowN (bN L k) = 3)) (h : Hid (Byt w g o 2 L k)) :
    Calls Tryz.prog 150 #[.slice (some ⟨g, o, none⟩) 2 cap, .int .i64 k] w fun e w' => e = .returned (.agg #[.int .i64 k, .int .i64 (bN L k), .int .i64 (opA 3 (bN L (k + 1)) (two L k) k), .int .i64 (opB 3 (bN L (k + 2)))]) ∧ Below w.heap.size w w' := by
  have c0 : w.cell? ⟨g, o, none⟩ = some (.int .u8 (bN L k)) := h.out 0 (by omega)
  have hg : g < w.heap.size := cell_lt c0
  have g1 : g < w.heap.size + 1 := by omega
  have g2 : g < w.heap.size + 1 + 1 := by omega
  have g3 : ¬ g = w.heap.size := by omega
  have g4 : ¬ g = w.heap.size + 1 := by omega
  have g5 : ¬ g = w.heap.size + 1 + 1 := by omega
  have g6 : ¬ w.heap.size + 1 + 1 = g := by omega
  have x0 := wr_b L k
  have c1 : w.cell? ⟨g, o + 1, none⟩ = some (.int .u8 (bN L (k + 1))) := h.out 1 (by omega)
  have x1 := i8_in _ (bN_lt L (k + 1))
  have x2 := wr_s8 L (k + 1)
  go_enter Tryz.func150, Tryz.ntmps150
  go_wp2_with fail
  with_reducible refine (rowOf_r _ _ _ HR).mono ?_
  rintro e w1 ⟨rfl, rfl⟩
  go_wp2_with fail
  refine bodyPost_ret (results_cell_row rfl _ _ (w.heap.size + 1) 187 #[.int .i64 k, .int .i64 (bN L k), .int .i64 (sg8 (bN L (k + 1))), .int .i64 0] _ _ rfl (heap_mid w _ _ _) Tryz.underlying187 rfl sizeOp) rfl ?_
  exact ⟨rfl, below3 w _ _ _⟩
set_option maxHeartbeats 4000000 in
set_option maxRecDepth 100000 in
theorem read_4 (g o cap k : Nat) (L : Bs) (w : World) (hk : k ≤ 4000) (HR : Hid (rowN (bN L k) = 4)) (h : Hid (Byt w g o 3 L k)) :
    Calls Tryz.prog 150 #[.slice (some ⟨g, o, none⟩) 3 cap, .int .i64 k] w fun e w' => e = .returned (.agg #[.int .i64 k, .int .i64 (bN L k), .int .i64 (opA 4 (bN L (k + 1)) (two L k) k), .int .i64 (opB 4 (bN L (k + 2)))]) ∧ Below w.heap.size w w' := by
  have c0 : w.cell? ⟨g, o, none⟩ = some (.int .u8 (bN L k)) := h.out 0 (by omega)
  have hg : g < w.heap.size := cell_lt c0
  have g1 : g < w.heap.size + 1 := by omega
  have g2 : g < w.heap.size + 1 + 1 := by omega
  have g3 : ¬ g = w.heap.size := by omega
  have g4 : ¬ g = w.heap.size + 1 := by omega
  have g5 : ¬ g = w.heap.size + 1 + 1 := by omega
  have g6 : ¬ w.heap.size + 1 + 1 = g := by omega
  have x0 := wr_b L k
  have c1 : w.cell? ⟨g, o + 1, none⟩ = some (.int .u8 (bN L (k + 1))) := h.out 1 (by omega)
  have c2 : w.cell? ⟨g, o + 2, none⟩ = some (.int .u8 (bN L (k + 2))) := h.out 2 (by omega)
  have x1 := i16_in _ (two_lt L k)
  have x2 := wr_s16 L k
  go_enter Tryz.func150, Tryz.ntmps150
  go_wp2_with fail
  with_reducible refine (rowOf_r _ _ _ HR).mono ?_
  rintro e w1 ⟨rfl, rfl⟩
  go_wp2_with fail
  with_reducible refine (two_b w.heap.size g o 3 cap k L _ (by omega) ?b1 ?b2).mono ?_
  case b1 => exact heap_cell ((heap_alloc_old _ _ (by simp; omega)).trans ((heap_alloc_old _ _ (by simp)).trans (heap_alloc_new w _))) rfl
  case b2 => exact lhid fun j hj => ((below3 w _ _ _).cell (by exact hg)).trans (h.out j hj)
  rintro e w2 ⟨rfl, hh, hb2⟩
  have hb : Below w.heap.size w w2 := (below3 w _ _ _).trans (hb2.mono (by simp; omega))
  have HB := lhid hb
  clear hb2
  have HQ2 : w2.heap[w.heap.size + 1 + 1]? = some (.cells #[.int .i64 k, .int .i64 (bN L k), .int .i64 0, .int .i64 0] 187 (0, 0)) := by rw [hh]; exact heap_alloc3_new w _ _ _
  have HQ1 : w2.heap[w.heap.size + 1]? = some (.cells #[.int .i64 0, .int .i64 0, .int .i64 0, .int .i64 0] 187 (0, 0)) := by rw [hh]; exact heap_mid w _ _ _
  have p0 := heap_cell (i := 0) HQ2 rfl
  have p1 := heap_cell (i := 1) HQ2 rfl
  have p2 := heap_cell (i := 2) HQ2 rfl
  have p3 := heap_cell (i := 3) HQ2 rfl
  have z2 := heap_thaw HQ2
  have z1 := heap_thaw HQ1
  have q0 := heap_cell (i := 0) HQ1 rfl
  have q1 := heap_cell (i := 1) HQ1 rfl
  have q2 := heap_cell (i := 2) HQ1 rfl
  have q3 := heap_cell (i := 3) HQ1 rfl
  have H1 := lhid HQ1
  have H2 := lhid HQ2
  clear HQ1 HQ2 hb hh
  go_wp2_with fail
  refine bodyPost_ret (results_cell_row rfl _ _ (w.heap.size + 1) 187 #[.int .i64 k, .int .i64 (bN L k), .int .i64 (sg16 (two L k)), .int .i64 0] _ _ rfl (four_set ((Below.heap_setCell _ _ _ _ (by simp)).trans H1.out) _ _ _ _) Tryz.underlying187 rfl sizeOp) rfl ?_
  exact ⟨rfl, four_below (HB.out.setCell (by simp; omega) _) (by simp) _ _ _ _⟩
set_option maxHeartbeats 4000000 in
set_option maxRecDepth 100000 in
theorem read_5 (g o cap k : Nat) (L : Bs) (w : World) (hk : k ≤ 4000) (HR : Hid (rowN (bN L k) = 5)) (h : Hid (Byt w g o 3 L k)) :
    Calls Tryz.prog 150 #[.slice (some ⟨g, o, none⟩) 3 cap, .int .i64 k] w fun e w' => e = .returned (.agg #[.int .i64 k, .int .i64 (bN L k), .int .i64 (opA 5 (bN L (k + 1)) (two L k) k), .int .i64 (opB 5 (bN L (k + 2)))]) ∧ Below w.heap.size w w' := by
  have c0 : w.cell? ⟨g, o, none⟩ = some (.int .u8 (bN L k)) := h.out 0 (by omega)
  have hg : g < w.heap.size := cell_lt c0
  have g1 : g < w.heap.size + 1 := by omega
  have g2 : g < w.heap.size + 1 + 1 := by omega
  have g3 : ¬ g = w.heap.size := by omega
  have g4 : ¬ g = w.heap.size + 1 := by omega
  have g5 : ¬ g = w.heap.size + 1 + 1 := by omega
  have g6 : ¬ w.heap.size + 1 + 1 = g := by omega
  have x0 := wr_b L k
  have c1 : w.cell? ⟨g, o + 1, none⟩ = some (.int .u8 (bN L (k + 1))) := h.out 1 (by omega)
  have c2 : w.cell? ⟨g, o + 2, none⟩ = some (.int .u8 (bN L (k + 2))) := h.out 2 (by omega)
  have x1 := wr_t L k
  go_enter Tryz.func150, Tryz.ntmps150
  go_wp2_with fail
  with_reducible refine (rowOf_r _ _ _ HR).mono ?_
  rintro e w1 ⟨rfl, rfl⟩
  go_wp2_with fail
  with_reducible refine (two_b w.heap.size g o 3 cap k L _ (by omega) ?b1 ?b2).mono ?_
  case b1 => exact heap_cell ((heap_alloc_old _ _ (by simp; omega)).trans ((heap_alloc_old _ _ (by simp)).trans (heap_alloc_new w _))) rfl
  case b2 => exact lhid fun j hj => ((below3 w _ _ _).cell (by exact hg)).trans (h.out j hj)
  rintro e w2 ⟨rfl, hh, hb2⟩
  have hb : Below w.heap.size w w2 := (below3 w _ _ _).trans (hb2.mono (by simp; omega))
  have HB := lhid hb
  clear hb2
  have HQ2 : w2.heap[w.heap.size + 1 + 1]? = some (.cells #[.int .i64 k, .int .i64 (bN L k), .int .i64 0, .int .i64 0] 187 (0, 0)) := by rw [hh]; exact heap_alloc3_new w _ _ _
  have HQ1 : w2.heap[w.heap.size + 1]? = some (.cells #[.int .i64 0, .int .i64 0, .int .i64 0, .int .i64 0] 187 (0, 0)) := by rw [hh]; exact heap_mid w _ _ _
  have p0 := heap_cell (i := 0) HQ2 rfl
  have p1 := heap_cell (i := 1) HQ2 rfl
  have p2 := heap_cell (i := 2) HQ2 rfl
  have p3 := heap_cell (i := 3) HQ2 rfl
  have z2 := heap_thaw HQ2
  have z1 := heap_thaw HQ1
  have q0 := heap_cell (i := 0) HQ1 rfl
  have q1 := heap_cell (i := 1) HQ1 rfl
  have q2 := heap_cell (i := 2) HQ1 rfl
  have q3 := heap_cell (i := 3) HQ1 rfl
  have H1 := lhid HQ1
  have H2 := lhid HQ2
  clear HQ1 HQ2 hb hh
  go_wp2_with fail
  refine bodyPost_ret (results_cell_row rfl _ _ (w.heap.size + 1) 187 #[.int .i64 k, .int .i64 (bN L k), .int .i64 (two L k), .int .i64 0] _ _ rfl (four_set ((Below.heap_setCell _ _ _ _ (by simp)).trans H1.out) _ _ _ _) Tryz.underlying187 rfl sizeOp) rfl ?_
  exact ⟨rfl, four_below (HB.out.setCell (by simp; omega) _) (by simp) _ _ _ _⟩
set_option maxHeartbeats 4000000 in
set_option maxRecDepth 100000 in
theorem read_6 (g o cap k : Nat) (L : Bs) (w : World) (hk : k ≤ 4000) (HR : Hid (rowN (bN L k) = 6)) (h : Hid (Byt w g o 3 L k)) :
    Calls Tryz.prog 150 #[.slice (some ⟨g, o, none⟩) 3 cap, .int .i64 k] w fun e w' => e = .returned (.agg #[.int .i64 k, .int .i64 (bN L k), .int .i64 (opA 6 (bN L (k + 1)) (two L k) k), .int .i64 (opB 6 (bN L (k + 2)))]) ∧ Below w.heap.size w w' := by
  have c0 : w.cell? ⟨g, o, none⟩ = some (.int .u8 (bN L k)) := h.out 0 (by omega)
  have hg : g < w.heap.size := cell_lt c0
  have g1 : g < w.heap.size + 1 := by omega
  have g2 : g < w.heap.size + 1 + 1 := by omega
  have g3 : ¬ g = w.heap.size := by omega
  have g4 : ¬ g = w.heap.size + 1 := by omega
  have g5 : ¬ g = w.heap.size + 1 + 1 := by omega
  have g6 : ¬ w.heap.size + 1 + 1 = g := by omega
  have x0 := wr_b L k
  have c1 : w.cell? ⟨g, o + 1, none⟩ = some (.int .u8 (bN L (k + 1))) := h.out 1 (by omega)
  have c2 : w.cell? ⟨g, o + 2, none⟩ = some (.int .u8 (bN L (k + 2))) := h.out 2 (by omega)
  have x1 := i16_in _ (two_lt L k)
  have x2 := wr_s16 L k
  have x3 := wr_way L k hk
  go_enter Tryz.func150, Tryz.ntmps150
  go_wp2_with fail
  with_reducible refine (rowOf_r _ _ _ HR).mono ?_
  rintro e w1 ⟨rfl, rfl⟩
  go_wp2_with fail
  with_reducible refine (two_b w.heap.size g o 3 cap k L _ (by omega) ?b1 ?b2).mono ?_
  case b1 => exact heap_cell ((heap_alloc_old _ _ (by simp; omega)).trans ((heap_alloc_old _ _ (by simp)).trans (heap_alloc_new w _))) rfl
  case b2 => exact lhid fun j hj => ((below3 w _ _ _).cell (by exact hg)).trans (h.out j hj)
  rintro e w2 ⟨rfl, hh, hb2⟩
  have hb : Below w.heap.size w w2 := (below3 w _ _ _).trans (hb2.mono (by simp; omega))
  have HB := lhid hb
  clear hb2
  have HQ2 : w2.heap[w.heap.size + 1 + 1]? = some (.cells #[.int .i64 k, .int .i64 (bN L k), .int .i64 0, .int .i64 0] 187 (0, 0)) := by rw [hh]; exact heap_alloc3_new w _ _ _
  have HQ1 : w2.heap[w.heap.size + 1]? = some (.cells #[.int .i64 0, .int .i64 0, .int .i64 0, .int .i64 0] 187 (0, 0)) := by rw [hh]; exact heap_mid w _ _ _
  have p0 := heap_cell (i := 0) HQ2 rfl
  have p1 := heap_cell (i := 1) HQ2 rfl
  have p2 := heap_cell (i := 2) HQ2 rfl
  have p3 := heap_cell (i := 3) HQ2 rfl
  have z2 := heap_thaw HQ2
  have z1 := heap_thaw HQ1
  have q0 := heap_cell (i := 0) HQ1 rfl
  have q1 := heap_cell (i := 1) HQ1 rfl
  have q2 := heap_cell (i := 2) HQ1 rfl
  have q3 := heap_cell (i := 3) HQ1 rfl
  have H1 := lhid HQ1
  have H2 := lhid HQ2
  clear HQ1 HQ2 hb hh
  go_wp2_with fail
  refine bodyPost_ret (results_cell_row rfl _ _ (w.heap.size + 1) 187 #[.int .i64 k, .int .i64 (bN L k), .int .i64 ((k : Int) + sg16 (two L k)), .int .i64 0] _ _ rfl (four_set ((Below.heap_setCell _ _ _ _ (by simp)).trans H1.out) _ _ _ _) Tryz.underlying187 rfl sizeOp) rfl ?_
  exact ⟨rfl, four_below (HB.out.setCell (by simp; omega) _) (by simp) _ _ _ _⟩
set_option maxHeartbeats 4000000 in
set_option maxRecDepth 100000 in
theorem read_7 (g o cap k : Nat) (L : Bs) (w : World) (hk : k ≤ 4000) (HR : Hid (rowN (bN L k) = 7)) (h : Hid (Byt w g o 3 L k)) :
    Calls Tryz.prog 150 #[.slice (some ⟨g, o, none⟩) 3 cap, .int .i64 k] w fun e w' => e = .returned (.agg #[.int .i64 k, .int .i64 (bN L k), .int .i64 (opA 7 (bN L (k + 1)) (two L k) k), .int .i64 (opB 7 (bN L (k + 2)))]) ∧ Below w.heap.size w w' := by
  have c0 : w.cell? ⟨g, o, none⟩ = some (.int .u8 (bN L k)) := h.out 0 (by omega)
  have hg : g < w.heap.size := cell_lt c0
  have g1 : g < w.heap.size + 1 := by omega
  have g2 : g < w.heap.size + 1 + 1 := by omega
  have g3 : ¬ g = w.heap.size := by omega
  have g4 : ¬ g = w.heap.size + 1 := by omega
  have g5 : ¬ g = w.heap.size + 1 + 1 := by omega
  have g6 : ¬ w.heap.size + 1 + 1 = g := by omega
  have x0 := wr_b L k
  have c1 : w.cell? ⟨g, o + 1, none⟩ = some (.int .u8 (bN L (k + 1))) := h.out 1 (by omega)
  have c2 : w.cell? ⟨g, o + 2, none⟩ = some (.int .u8 (bN L (k + 2))) := h.out 2 (by omega)
  have x1 := wr_b L (k + 1)
  have x3 := i8_in _ (bN_lt L (k + 2))
  have x2 := wr_s8 L (k + 2)
  go_enter Tryz.func150, Tryz.ntmps150
  go_wp2_with fail
  with_reducible refine (rowOf_r _ _ _ HR).mono ?_
  rintro e w1 ⟨rfl, rfl⟩
  go_wp2_with fail
  go_region
  generalize hw2 : World.drew _ = w2
  have hh := congrArg World.heap hw2.symm
  have hb : Below w.heap.size w w2 := by rw [← hw2]; exact (below3 w _ _ _).drew
  have HB := lhid hb
  clear hw2
  have HQ2 : w2.heap[w.heap.size + 1 + 1]? = some (.cells #[.int .i64 k, .int .i64 (bN L k), .int .i64 (bN L (k + 1)), .int .i64 (sg8 (bN L (k + 2)))] 187 (0, 0)) := by rw [hh]; exact heap_alloc3_new w _ _ _
  have HQ1 : w2.heap[w.heap.size + 1]? = some (.cells #[.int .i64 0, .int .i64 0, .int .i64 0, .int .i64 0] 187 (0, 0)) := by rw [hh]; exact heap_mid w _ _ _
  have p0 := heap_cell (i := 0) HQ2 rfl
  have p1 := heap_cell (i := 1) HQ2 rfl
  have p2 := heap_cell (i := 2) HQ2 rfl
  have p3 := heap_cell (i := 3) HQ2 rfl
  have z2 := heap_thaw HQ2
  have z1 := heap_thaw HQ1
  have q0 := heap_cell (i := 0) HQ1 rfl
  have q1 := heap_cell (i := 1) HQ1 rfl
  have q2 := heap_cell (i := 2) HQ1 rfl
  have q3 := heap_cell (i := 3) HQ1 rfl
  have H1 := lhid HQ1
  have H2 := lhid HQ2
  clear HQ1 HQ2 hb hh
  go_wp2_with fail
  refine bodyPost_ret (results_cell_row rfl _ _ (w.heap.size + 1) 187 #[.int .i64 k, .int .i64 (bN L k), .int .i64 (bN L (k + 1)), .int .i64 (sg8 (bN L (k + 2)))] _ _ rfl (four_set H1.out _ _ _ _) Tryz.underlying187 rfl sizeOp) rfl ?_
  exact ⟨rfl, four_below HB.out (by simp) _ _ _ _⟩
theorem read_any (g o cap k n : Nat) (L : Bs) (w : World) (hk : k ≤ 4000) (hn : szN (bN L k) = n) (h0 : n ≠ 0) (h : Hid (Byt w g o n L k)) :
    Calls Tryz.prog 150 #[.slice (some ⟨g, o, none⟩) n cap, .int .i64 k] w fun e w' => e = .returned (.agg #[.int .i64 (opAt L k).pc, .int .i64 (opAt L k).code, .int .i64 (opAt L k).a, .int .i64 (opAt L k).b]) ∧ Below w.heap.size w w' := by
  have hle := rowN_le (bN L k)
  obtain ⟨r, hr⟩ : ∃ r, rowN (bN L k) = r := ⟨_, rfl⟩
  unfold szN at hn
  unfold opAt
  rw [hr] at hn hle ⊢
  subst hn
  rcases row_ways hle with rfl | rfl | rfl | rfl | rfl | rfl | rfl | rfl
  · exact absurd rfl h0
  · exact read_1 g o cap k L w hk hr h
  · exact read_2 g o cap k L w hk hr h
  · exact read_3 g o cap k L w hk hr h
  · exact read_4 g o cap k L w hk hr h
  · exact read_5 g o cap k L w hk hr h
  · exact read_6 g o cap k L w hk hr h
  · exact read_7 g o cap k L w hk hr h
end Go.Proofs.YtpdnonlelocfbaaGreatDoor.Cd
/- Contract of allLead. -/
namespace Go.Proofs.YtpdnonlelocfbaaGreatDoor.Cd
open Go.RowKit Go
set_option linter.unusedVariables false

theorem take_on {α : Type} {l m : List α} {k : Nat} {a b : α} (ha : l[k]? = some a) (hb : m[k]? = some b) (h : l.take k = m.take k) (e : a = b) : l.take (k + 1) = m.take (k + 1) := by
  subst e
  rw [List.take_add_one, List.take_add_one, ha, hb, h]
theorem ne_at {α : Type} {l m : List α} {k : Nat} {a b : α} (ha : l[k]? = some a) (hb : m[k]? = some b) (e : a ≠ b) : l ≠ m := by
  rintro rfl
  rw [ha] at hb
  exact e (Option.some.inj hb)
theorem cell4 {w : World} {g o i : Nat} {x : Cop} (h : ∀ (j : Nat) u, (copE x)[j]? = some u → w.cell? ⟨g, o + i * 4 + j, none⟩ = some u) : w.cell? ⟨g, o + i * 4, none⟩ = some (.int .i64 x.pc) ∧ w.cell? ⟨g, o + i * 4 + 1, none⟩ = some (.int .i64 x.code) ∧ w.cell? ⟨g, o + i * 4 + 2, none⟩ = some (.int .i64 x.a) ∧ w.cell? ⟨g, o + i * 4 + 3, none⟩ = some (.int .i64 x.b) :=
  ⟨h 0 _ rfl, h 1 _ rfl, h 2 _ rfl, h 3 _ rfl⟩
theorem leads_r (c : Int) (b : Bool) (w : World) (h : Hid (decide (rowN c = 6) = b)) :
    Calls Tryz.prog 174 #[.int .i64 c] w fun e w' => e = .returned (.bool b) ∧ w = w' := by
  have := leads_any c w
  rwa [h.out] at this
theorem make_bools (n : Nat) (hn : n ≤ 4000) (w : World) :
    (Instr.makeSlice 48 (.int .i64 (n : Int)) (.int .i64 (n : Int))).run Tryz.prog w = .ok (.slice (some ⟨w.heap.size, 0, none⟩) n n) (w.alloc (.cells (madeCells #[.bool false] n) 4)) := by
  obtain ⟨i0, hi0, hz0, hz1, hz2⟩ := info_parts (show (Tryz.prog.info? 4).map (fun i => (i.zero, i.size, i.bytes)) = some (some (.bool false), 1, 1) by kernel_rfl)
  have h := run_make (P := Tryz.prog) w 48 4 i0 _ Tryz.underlying48 hi0 hz0 .i64 .i64 n n (by omega) (Int.le_refl _) (by rw [hz2]; omega) (by omega)
  rw [h, hz1, Nat.mul_one]
  rfl
def Begun (D : List Cop) (p : Nat) : Prop := ∃ x ∈ D, x.pc = (p : Int)
def Led1 (D : List Cop) (n : Int) (x : Cop) : Prop := Lead x → 0 ≤ x.a ∧ x.a < n ∧ ∃ y ∈ D, y.pc = x.a
theorem begun_on {D : List Cop} {k p : Nat} {x : Cop} (hx : D[k]? = some x) (hp : x.pc = p) (i : Nat) : Begun (D.take (k + 1)) i ↔ Begun (D.take k) i ∨ i = p := by
  unfold Begun
  rw [List.take_add_one, hx]
  constructor
  · rintro ⟨y, hy, e⟩
    rcases List.mem_append.1 hy with hy | hy
    · exact .inl ⟨y, hy, e⟩
    · simp at hy
      subst hy
      exact .inr (by omega)
  · rintro (⟨y, hy, e⟩ | rfl)
    · exact ⟨y, List.mem_append_left _ hy, e⟩
    · exact ⟨x, by simp, hp⟩
theorem led_on {D E : List Cop} {n : Int} {k : Nat} {x : Cop} (hx : D[k]? = some x) (h : ∀ y ∈ D.take k, Led1 E n y) (hl : Led1 E n x) : ∀ y ∈ D.take (k + 1), Led1 E n y := by
  rw [List.take_add_one, hx]
  intro y hy
  rcases List.mem_append.1 hy with hy | hy
  · exact h y hy
  · simp at hy
    subst hy
    exact hl
theorem led_iff (D : List Cop) (n : Int) : Led D n ↔ ∀ x ∈ D, Led1 D n x := Iff.rfl
set_option maxHeartbeats 4000000 in
set_option maxRecDepth 100000 in
theorem allLead_any (v : Value) (D : List Cop) (n : Nat) (w : World) (h : Hid (RdO w v D)) (hn : n ≤ 4000) (hp : Hid (∀ x ∈ D, ∃ p : Nat, x.pc = p ∧ p < n)) :
    Calls Tryz.prog 151 #[v, .int .i64 n] w (SOut (Led D n) w) := by
  obtain ⟨A, cA, rfl⟩ := h.out.shape
  have hl := h.out.len
  have hmake := make_bools n hn
  go_enter Tryz.func151, Tryz.ntmps151
  go_wp2_with fail
  clear hmake
  go_loopw [14] (fun i wr => ∃ k : Nat, i = .int .i64 k ∧ k ≤ D.length ∧ Hid (Marks wr w.heap.size n (Begun (D.take k))) ∧ Hid (Below w.heap.size w wr)) (fun i _ => D.length - (intOf i).toNat)
  case atStart => exact ⟨0, rfl, Nat.zero_le _, lhid (Marks.made w n _ rfl _ (by intro i; unfold Begun; simp) _ rfl), lhid ((Below.refl _ _).alloc (Nat.le_refl _) _)⟩
  case round =>
    obtain ⟨k, rfl, hk, HM, HB⟩ := hrel
    by_cases hlt : k < D.length
    · obtain ⟨x, hx⟩ : ∃ x, D[k]? = some x := ⟨_, List.getElem?_eq_getElem hlt⟩
      have HX := lhid hx
      obtain ⟨p, hxp, hpn⟩ := hp.out x (List.mem_of_getElem? hx)
      obtain ⟨g, o, rfl, hc⟩ := (h.out.below HB.out).at' hx
      obtain ⟨c0, c1, c2, c3⟩ := cell4 hc
      obtain ⟨bb, b0, _⟩ := HM.out.cell hpn
      have b1 := HM.out.fz
      have b2 := HM.out.lt
      have HP := lhid hxp
      rw [hxp] at c0
      have k3 : (k : Int) < D.length := by omega
      have k4 : (p : Int) < n := by omega
      have HM2 := lhid ((HM.out.set hpn (begun_on HX.out HP.out)).below ((Below.refl _ _).alloc (Nat.le_refl _) (.cells #[.int .i64 p, .int .i64 x.code, .int .i64 x.a, .int .i64 x.b] 187)))
      have hb2 := HB.out.setCell (p := ⟨w.heap.size, p, none⟩) (Nat.le_refl _) (.bool true)
      have HB2 := lhid (hb2.alloc hb2.size (.cells #[.int .i64 p, .int .i64 x.code, .int .i64 x.a, .int .i64 x.b] 187))
      clear hx hxp hc hb2
      go_wp2_with fail
      go_roundw
      case rel => exact ⟨k + 1, by go_num, by omega, HM2, HB2⟩
      case measure => simp [intOf]; omega
    · have k3 : ¬ (k : Int) < D.length := by omega
      have hm := HM.out
      rw [List.take_of_length_le (by omega)] at hm
      have HN := lhid hm
      clear hm HM
      go_wp2_with fail
      go_loopw [25] (fun i wq => ∃ k : Nat, i = .int .i64 k ∧ k ≤ D.length ∧ Hid (∀ x ∈ D.take k, Led1 D n x) ∧ Hid (Marks wq w.heap.size n (Begun D)) ∧ Hid (Below w.heap.size w wq)) (fun i _ => D.length - (intOf i).toNat)
      case atStart => exact ⟨0, rfl, Nat.zero_le _, lhid (by simp), HN, HB⟩
      case round =>
        clear HN HB hk
        obtain ⟨k, rfl, hk, HE, HM, HB⟩ := hrel
        by_cases hlt : k < D.length
        · obtain ⟨x, hx⟩ : ∃ x, D[k]? = some x := ⟨_, List.getElem?_eq_getElem hlt⟩
          have HX := lhid hx
          obtain ⟨g, o, rfl, hc⟩ := (h.out.below HB.out).at' hx
          obtain ⟨c0, c1, c2, c3⟩ := cell4 hc
          have k3 : (k : Int) < D.length := by omega
          have HM2 := lhid (HM.out.below ((Below.refl _ _).alloc (Nat.le_refl _) (.cells #[.int .i64 x.pc, .int .i64 x.code, .int .i64 x.a, .int .i64 x.b] 187)))
          have HB2 := lhid (HB.out.alloc HB.out.size (.cells #[.int .i64 x.pc, .int .i64 x.code, .int .i64 x.a, .int .i64 x.b] 187))
          have HI : Hid (x ∈ D) := lhid (List.mem_of_getElem? hx)
          have b2 := HM.out.lt
          clear hx hc
          by_cases hr : rowN x.code = 6
          · have HR : Hid (decide (rowN x.code = 6) = true) := lhid (decide_eq_true hr)
            have HL : Hid (Lead x) := lhid hr
            clear hr
            by_cases ha : x.a < 0
            · have HNO : Hid (¬ Led D n) := lhid fun e => by have := e x HI.out HL.out; omega
              go_wp2_with fail
              with_reducible refine (leads_r _ _ _ HR).mono ?_
              rintro e w2 ⟨rfl, rfl⟩
              go_wp2_with fail
              go_ret
              exact sout_no HNO.out HB2.out
            · by_cases ha2 : x.a < n
              · obtain ⟨p, hp2⟩ : ∃ p : Nat, x.a = p := ⟨x.a.toNat, by omega⟩
                have hpn : p < n := by omega
                obtain ⟨bb, b0, hbb⟩ := HM.out.cell hpn
                have HBB := lhid hbb
                have HP := lhid hp2
                have HXA := lhid hp2
                have ha3 : ¬ (n : Int) ≤ x.a := by omega
                have k5 : (p : Int) < n := by omega
                rw [hp2] at c2 ha ha2 ha3 HM2 HB2
                clear hp2 hbb
                cases bb
                · have HNO : Hid (¬ Led D n) := lhid fun e => by
                    obtain ⟨_, _, y, hy, e2⟩ := e x HI.out HL.out
                    have := HBB.out.2 ⟨y, hy, by rw [e2, HP.out]⟩
                    simp at this
                  go_wp2_with fail
                  with_reducible refine (leads_r _ _ _ HR).mono ?_
                  rintro e w2 ⟨rfl, rfl⟩
                  go_wp2_with fail
                  go_ret
                  exact sout_no HNO.out HB2.out
                · have HE2 := lhid (led_on HX.out HE.out (show Led1 D n x from fun _ => ⟨by rw [HP.out]; omega, by rw [HP.out]; omega, by
                    obtain ⟨y, hy, e2⟩ := HBB.out.1 rfl
                    exact ⟨y, hy, by rw [e2, HP.out]⟩⟩))
                  go_wp2_with fail
                  with_reducible refine (leads_r _ _ _ HR).mono ?_
                  rintro e w2 ⟨rfl, rfl⟩
                  go_wp2_with fail
                  go_roundw
                  case rel => exact ⟨k + 1, by go_num, by omega, HE2, HM2, HB2⟩
                  case measure => simp [intOf]; omega
              · have HNO : Hid (¬ Led D n) := lhid fun e => by have := e x HI.out HL.out; omega
                have ha3 : (n : Int) ≤ x.a := by omega
                go_wp2_with fail
                with_reducible refine (leads_r _ _ _ HR).mono ?_
                rintro e w2 ⟨rfl, rfl⟩
                go_wp2_with fail
                go_ret
                exact sout_no HNO.out HB2.out
          · have HR : Hid (decide (rowN x.code = 6) = false) := lhid (decide_eq_false hr)
            have HE2 := lhid (led_on HX.out HE.out (show Led1 D n x from fun hl => absurd hl hr))
            clear hr
            go_wp2_with fail
            with_reducible refine (leads_r _ _ _ HR).mono ?_
            rintro e w2 ⟨rfl, rfl⟩
            go_wp2_with fail
            go_roundw
            case rel => exact ⟨k + 1, by go_num, by omega, HE2, HM2, HB2⟩
            case measure => simp [intOf]; omega
        · have k3 : ¬ (k : Int) < D.length := by omega
          have he := HE.out
          rw [List.take_of_length_le (by omega)] at he
          have HYES : Hid (Led D n) := lhid he
          clear he HE
          go_wp2_with fail
          go_ret
          exact sout_yes HYES.out HB.out
end Go.Proofs.YtpdnonlelocfbaaGreatDoor.Cd
/- Contract of code.Decode. -/
namespace Go.Proofs.YtpdnonlelocfbaaGreatDoor.Cd
open Go.RowKit Go
set_option linter.unusedVariables false

/-- A slice of bytes that can be read, and cut. -/
def Bts (w : World) (v : Value) (L : Bs) : Prop := RdB w v L ∧ ∃ A cap, v = .slice A L.length cap ∧ L.length ≤ cap ∧ cap ≤ maxLen
theorem Bts.below {w w' : World} {v : Value} {L : Bs} (h : Bts w v L) (hb : Below w.heap.size w w') : Bts w' v L := ⟨h.1.below hb, h.2⟩
theorem bN_get {L : Bs} {k : Nat} {b : UInt8} (h : L[k]? = some b) : bN L k = b.toNat := by
  unfold bN
  rw [List.getD_eq_getElem?_getD, h]
  rfl
theorem byt_of {w : World} {A : Option Addr} {cap : Nat} {L : Bs} (h : RdB w (.slice A L.length cap) L) {k : Nat} (hk : k < L.length) : ∃ g o, A = some ⟨g, o, none⟩ ∧ ∀ j, k + j < L.length → w.cell? ⟨g, o + (k + j), none⟩ = some (.int .u8 (bN L (k + j))) := by
  obtain ⟨g, o, rfl, _⟩ := h.at' (List.getElem?_eq_getElem hk)
  refine ⟨g, o, rfl, fun j hj => ?_⟩
  have hx : L[k + j]? = some L[k + j] := List.getElem?_eq_getElem hj
  obtain ⟨g', o', e, hc⟩ := h.at' hx
  injection e with e
  injection e with e1 e2
  subst e1 e2
  have := hc 0 (.int .u8 (L[k + j].toNat : Int)) rfl
  rw [Nat.mul_one] at this
  rw [bN_get hx]
  exact this
theorem byt_at {w : World} {g o k n : Nat} {L : Bs} (h : ∀ j, k + j < L.length → w.cell? ⟨g, o + (k + j), none⟩ = some (.int .u8 (bN L (k + j)))) (hf : k + n ≤ L.length) : Byt w g (o + k) n L k := fun j hj => by
  rw [Nat.add_assoc]
  exact h j (by omega)
/-- What Decode answers: what is wrong, the instructions. -/
def DOut (r : Int × List Cop) (w : World) (e : Ending) (w' : World) : Prop := (∃ v, e = .returned (.tuple #[v, .int .i64 r.1]) ∧ RdO w' v r.2 ∧ ∀ k, v.ownBlock = some k → w.heap.size ≤ k) ∧ Below w.heap.size w w'
theorem dout_no {r : Int × List Cop} {x : Int} {w w' : World} (h : r = (x, [])) (hb : Below w.heap.size w w') : DOut r w (.returned (.tuple #[.slice none 0 0, .int .i64 x])) w' := by
  subst h
  exact ⟨⟨_, rfl, rdl_nil _ _ _ _ _, fun k hk => by cases hk⟩, hb⟩
theorem dout_ok {r : Int × List Cop} {D : List Cop} {v : Value} {w w' : World} (h : r = (0, D)) (hv : RdO w' v D) (ho : ∀ k, v.ownBlock = some k → w.heap.size ≤ k) (hb : Below w.heap.size w w') : DOut r w (.returned (.tuple #[v, .int .i64 0])) w' := by
  subst h
  exact ⟨⟨_, rfl, hv, ho⟩, hb⟩
theorem At.pc {L : Bs} {k : Nat} {D : List Cop} (h : At L k D) : ∀ x ∈ D, ∃ p : Nat, x.pc = p ∧ p < k := fun x hx => by
  obtain ⟨p, rfl, hp⟩ := h.pcs x hx
  exact ⟨p, rfl, hp⟩
theorem allLead_r (v : Value) (D : List Cop) (n : Nat) (b : Bool) (w : World) (h : Hid (RdO w v D)) (hn : n ≤ 4000) (hp : Hid (∀ x ∈ D, ∃ p : Nat, x.pc = p ∧ p < n)) (hb : Hid (b = true ↔ Led D n)) :
    Calls Tryz.prog 151 #[v, .int .i64 n] w fun e w' => e = .returned (.bool b) ∧ Below w.heap.size w w' := by
  refine (allLead_any v D n w h hn hp).mono ?_
  rintro e w' ⟨⟨r, rfl, hr⟩, hB⟩
  have : r = b := by rw [Bool.eq_iff_iff, hr, hb.out]
  rw [this]
  exact ⟨rfl, hB⟩
theorem allLead_y (v : Value) (D : List Cop) (n : Nat) (w : World) (h : Hid (RdO w v D)) (hn : n ≤ 4000) (hp : Hid (∀ x ∈ D, ∃ p : Nat, x.pc = p ∧ p < n)) (hb : Hid (Led D n)) :
    Calls Tryz.prog 151 #[v, .int .i64 n] w fun e w' => e = .returned (.bool true) ∧ Below w.heap.size w w' := allLead_r v D n true w h hn hp (lhid ⟨fun _ => hb.out, fun _ => rfl⟩)
theorem allLead_n (v : Value) (D : List Cop) (n : Nat) (w : World) (h : Hid (RdO w v D)) (hn : n ≤ 4000) (hp : Hid (∀ x ∈ D, ∃ p : Nat, x.pc = p ∧ p < n)) (hb : Hid (¬ Led D n)) :
    Calls Tryz.prog 151 #[v, .int .i64 n] w fun e w' => e = .returned (.bool false) ∧ Below w.heap.size w w' := allLead_r v D n false w h hn hp (lhid ⟨fun e => by simp at e, fun e => absurd e hb.out⟩)
theorem own_snoc {w : World} {B : Nat} {A : Option Addr} {c : Nat} {D : List Cop} {x : Cop} (h : w.ownsRow B 187 4 (.slice A (D.length + 1) c) (D.length + 1) (D.flatMap copE ++ [.int .i64 x.pc, .int .i64 x.code, .int .i64 x.a, .int .i64 x.b])) : OwO w B (.slice A (D ++ [x]).length c) (D ++ [x]) := by
  unfold OwO
  rw [show (D ++ [x]).length = D.length + 1 by simp]
  have e : (D ++ [x]).flatMap copE = D.flatMap copE ++ [.int .i64 x.pc, .int .i64 x.code, .int .i64 x.a, .int .i64 x.b] := by simp [copE]
  rw [e]
  exact h
theorem size_r (c : Int) (n : Nat) (w : World) (h : Hid (szN c = n)) :
    Calls Tryz.prog 149 #[.int .i64 c] w fun e w' => e = .returned (.int .i64 n) ∧ w = w' := by
  have := size_any c w
  rwa [h.out] at this
set_option maxHeartbeats 8000000 in
set_option maxRecDepth 100000 in
theorem decode_any (L : Bs) (v : Value) (w : World) (h : Hid (Bts w v L)) :
    Calls Tryz.prog 93 #[v] w (DOut (decR L) w) := by
  obtain ⟨hr, A0, cap, rfl, hcap, hmax⟩ := h.out
  have hlen := hr.len
  have HR := lhid hr
  clear hr h
  by_cases h0 : L.length = 0
  · have e0 : ((L.length : Int) == 0) = true := by rw [beq_iff_eq]; omega
    have HD := lhid (decR_nil L h0)
    clear h0
    go_enter Tryz.func93, Tryz.ntmps93
    go_wp2_with fail
    go_ret2
    exact dout_no HD.out (Below.refl _ _)
  have e0 : ((L.length : Int) == 0) = false := by rw [beq_eq_false_iff_ne]; omega
  by_cases h4 : 4000 < L.length
  · have e4 : (4000 : Int) < L.length := by omega
    have HD := lhid (decR_long L h4)
    clear h0 h4
    go_enter Tryz.func93, Tryz.ntmps93
    go_wp2_with fail
    go_ret2
    exact dout_no HD.out (Below.refl _ _)
  have e4 : ¬ (4000 : Int) < L.length := by omega
  have HN := lhid h0
  have h4' : L.length ≤ 4000 := by omega
  obtain ⟨i0, hi0, hz0, hz1, hz2⟩ := info_parts infoOp
  clear h0 h4
  go_enter Tryz.func93, Tryz.ntmps93
  go_wp2_with fail
  go_loopw [4, 5] (fun v i wr => ∃ (D : List Cop) (A : Option Addr) (c k : Nat), v = .slice A D.length c ∧ i = .int .i64 k ∧ k ≤ L.length ∧ Hid (At L k D) ∧ Hid (OwO wr w.heap.size (.slice A D.length c) D) ∧ Hid (Below w.heap.size w wr)) (fun _ i _ => L.length - (intOf i).toNat)
  case atStart => exact ⟨[], none, 0, 0, rfl, rfl, Nat.zero_le _, lhid (At.start L), lhid (World.ownsRow_nil _ _ _ _), lhid (Below.refl _ _)⟩
  case round =>
    obtain ⟨D, A, c, k, rfl, rfl, hk, HA, HO, HB⟩ := hrel
    by_cases hlt : k < L.length
    · have k3 : (k : Int) < L.length := by omega
      obtain ⟨g, o, rfl, hc⟩ := byt_of (HR.out.below HB.out) hlt
      have c0 : wr.cell? ⟨g, o + k, none⟩ = some (.int .u8 (bN L k)) := hc 0 (by omega)
      obtain ⟨n, hn⟩ : ∃ n, szN (bN L k) = n := ⟨_, rfl⟩
      have HS := lhid hn
      have hn3 : n ≤ 3 := by rw [← hn]; exact szN_le _
      have HC := lhid hc
      clear hc hn
      by_cases hn0 : n = 0
      · have q0 : ((n : Int) == 0) = true := by rw [beq_iff_eq]; omega
        have HD := lhid (decR_none L HN.out h4' (HA.out.fail hlt (.inl (by rw [HS.out]; exact hn0))))
        clear hn0
        have x0 := wr_b L k
        go_wp2_with fail
        with_reducible refine (size_r _ n _ HS).mono ?_
        rintro e w2 ⟨rfl, rfl⟩
        go_wp2_with fail
        go_ret2
        exact dout_no HD.out HB.out
      · have q0 : ((n : Int) == 0) = false := by rw [beq_eq_false_iff_ne]; omega
        have x1' : Hid (wrap64 ((L.length : Int) - k) = L.length - k) := lhid (IntWalk.wrap64_in _ (by omega))
        by_cases hfit : k + n ≤ L.length
        · have q1 : ¬ ((L.length : Int) - k < n) := by omega
          have HA2 := lhid (HA.out.step hlt (by rw [HS.out]; exact hn0) (by rw [HS.out]; exact hfit))
          rw [HS.out] at HA2
          have q3 : ¬ ((k : Int) + n < k) := by omega
          have q5 : k + n ≤ cap := by omega
          have x0 := wr_b L k
          have x1 := x1'.out
          go_wp2_with fail
          with_reducible refine (size_r _ n _ HS).mono ?_
          rintro e w2 ⟨rfl, rfl⟩
          go_wp2_with fail
          with_reducible refine (read_any g (o + k) _ k n L _ (by omega) HS.out hn0 (lhid (byt_at HC.out hfit))).mono ?_
          rintro e w3 ⟨rfl, hb3⟩
          have HO2 := lhid (own_below HO.out hb3)
          have hbw := HB.out.size
          have hbz := hb3.size
          have HB2 := lhid (HB.out.trans (hb3.mono hbw))
          have hDl := HA.out.len
          clear hb3
          go_wp2_with (at_builtin; refine wpList_append_own _ rfl (.tmp 33) (.tmp 42) 105 rfl w.heap.size 187 i0 (.agg #[.int .i64 0, .int .i64 0, .int .i64 0, .int .i64 0]) 4 32 Tryz.underlying105 hi0 hz0 hz1 hz2 rfl (by decide) (.slice A D.length c) D.length (D.flatMap copE) rfl (HO2.out.alloc _) ⟨w3.heap.size, 0, none⟩ 1 1 [.int .i64 (opAt L k).pc, .int .i64 (opAt L k).code, .int .i64 (opAt L k).a, .int .i64 (opAt L k).b] rfl rfl ?c1 ?c2 ?c3 ?c4 ?c5 ?_)
          case c1 => exact new_cells w3 [.int .i64 (opAt L k).pc, .int .i64 (opAt L k).code, .int .i64 (opAt L k).a, .int .i64 (opAt L k).b] _
          case c2 => intro u hu; simp at hu; rcases hu with rfl | rfl | rfl | rfl <;> simp [Value.oneCell']
          case c3 => unfold maxLen; omega
          case c4 => omega
          case c5 => simp; omega
          intro v' w4 hown hgrow _
          obtain ⟨A', c', rfl⟩ := own_shape hown
          have HO3 := lhid hown
          have hge := own_lt (HO2.out.alloc (.cells #[.int .i64 (opAt L k).pc, .int .i64 (opAt L k).code, .int .i64 (opAt L k).a, .int .i64 (opAt L k).b] 187))
          have HB3 := lhid ((HB2.out.alloc HB2.out.size (.cells #[.int .i64 (opAt L k).pc, .int .i64 (opAt L k).code, .int .i64 (opAt L k).a, .int .i64 (opAt L k).b] 187)).grown hgrow (by have := HB2.out.size; simp; omega) hge)
          clear hown hgrow hge
          go_wp2
          go_roundw
          case rel =>
            refine ⟨D ++ [opAt L k], A', c', k + n, by simp, by go_num, hfit, HA2, lhid (own_snoc HO3.out), HB3⟩
          case measure => simp [intOf]; omega
        · have q1 : (L.length : Int) - k < n := by omega
          have HD := lhid (decR_none L HN.out h4' (HA.out.fail hlt (.inr (by rw [HS.out]; omega))))
          have x0 := wr_b L k
          have x1 := x1'.out
          go_wp2_with fail
          with_reducible refine (size_r _ n _ HS).mono ?_
          rintro e w2 ⟨rfl, rfl⟩
          go_wp2_with fail
          go_ret2
          exact dout_no HD.out HB.out
    · have hkl : k = L.length := by omega
      have k3 : ¬ (k : Int) < L.length := by omega
      have HA' := HA.out
      rw [hkl] at HA'
      have HRUN := lhid HA'.done
      have HPC := lhid HA'.pc
      have HOL := lhid (own_lt HO.out)
      have HRD := lhid (rdl_own copE_len HO.out (by have := HA.out.len; omega))
      clear HA' hkl
      by_cases hl : Led D L.length
      · have HD := lhid (decR_led L D HN.out h4' HRUN.out hl)
        have HL : Hid (Led D L.length) := lhid hl
        clear hl
        go_wp2_with fail
        with_reducible refine (allLead_y _ D L.length _ HRD h4' HPC HL).mono ?_
        rintro e w3 ⟨rfl, hb3⟩
        have HB2 := lhid (HB.out.trans (hb3.mono HB.out.size))
        have HRD2 := lhid (HRD.out.below hb3)
        clear hb3
        go_wp2_with fail
        go_ret2
        exact dout_ok HD.out HRD2.out HOL.out HB2.out
      · have HD := lhid (decR_astray L D HN.out h4' HRUN.out hl)
        have HL : Hid (¬ Led D L.length) := lhid hl
        clear hl
        go_wp2_with fail
        with_reducible refine (allLead_n _ D L.length _ HRD h4' HPC HL).mono ?_
        rintro e w3 ⟨rfl, hb3⟩
        have HB2 := lhid (HB.out.trans (hb3.mono HB.out.size))
        clear hb3
        go_wp2_with fail
        go_ret2
        exact dout_no HD.out HB2.out
end Go.Proofs.YtpdnonlelocfbaaGreatDoor.Cd
