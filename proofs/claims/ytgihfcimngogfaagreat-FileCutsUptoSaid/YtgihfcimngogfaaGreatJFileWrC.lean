/- The document's Write at any class: nothing, or bytes that are parsed as the class. Written by gen_wrc.py. -/
import Derived.Test.YtgihfcimngogfaaGreatJFileWrM
import Derived.Test.YtgihfcimngogfaaGreatM16
import Derived.Test.YtgihfcimngogfaaGreatJFileSameW
import Derived.Test.YtgihfcimngogfaaGreatM17
import Derived.Test.YtgihfcimngogfaaGreatM13
namespace Go.Proofs.YtgihfcimngogfaaGreat
open Go.RowKit Go
set_option linter.unusedVariables false
def sumW {α : Type} (f : α → Nat) (l : List α) : Nat := (l.map f).sum
theorem sumW_take {α : Type} {f : α → Nat} {l : List α} {k : Nat} {x : α} (h : l[k]? = some x) : sumW f (l.take (k + 1)) = sumW f (l.take k) + f x := by
 unfold sumW
 rw [List.take_add_one, h]
 simp
theorem sumW_le {α : Type} {f : α → Nat} {l : List α} (k : Nat) : sumW f (l.take k) ≤ sumW f l := by
 have h : sumW f l = sumW f (l.take k) + sumW f (l.drop k) := by
  unfold sumW
  rw [← List.sum_append, ← List.map_append, List.take_append_drop]
 omega
def wC (x : CoI) : Nat := 16 + x.text.length
structure ClB (c : ClI) : Prop where
 tot : 18 + sumW wC c.pool + 2 * c.ifaces.length + 6 * c.fields.length + sumW wB c.methods ≤ 1000000000
 texts : ∀ x ∈ c.pool, x.text.length ≤ 1000000000
 meths : ∀ m ∈ c.methods, MeB m
theorem parP_er' {l : Bs} {x : Nat} (h : parP l = .er x) : x ≠ 0 := by
 unfold parP at h
 split at h
 ·injection h with h; omega
 unfold filP at h
 split at h
 ·injection h with h; omega
 split at h
 ·rename_i hx; injection h with h; rw [← h]; exact hx
 ·rename_i hx
  have := lk_file (l.drop 4) (by simpa using hx) (poolS (l.drop 4, false)).1
  rw [h] at this
  exact this.1
set_option maxHeartbeats 64000000 in
set_option maxRecDepth 100000 in
theorem write_s (hparse : Hid HParse) (c : ClI) (hC : Hid (ClB c)) (cv : Value) (w : World) (h : Hid (ClIV w c cv)) :
  Calls Tryz.prog 12 #[cv] w (WOut c w) := by
 have HCV0 := lhid h.out
 obtain ⟨a1, a2, a3, a4, rfl, g1, g2, g3, g4⟩ := h.out
 obtain ⟨A1, c1, rfl⟩ := g1.shape
 obtain ⟨A2, c2, rfl⟩ := g2.shape
 obtain ⟨A3, c3, rfl⟩ := g3.shape
 obtain ⟨A4, c4, rfl⟩ := g4.shape
 have HP := lhid g2
 have G1 := lhid g1
 have G3 := lhid g3
 have G4 := lhid g4
 have htot := hC.out.tot
 have hpl1 := g1.len
 have hpl2 := g2.len
 have hpl3 := g3.len
 have hpl4 := g4.len
 have hconv := Lib.run_convert_bytes_const (P := Tryz.prog) (w.alloc (.cells #[.int .i64 c.flags, .string (tx c.name), .string (tx c.super), .slice A1 c.ifaces.length c1, .slice A2 c.pool.length c2, .slice A3 c.fields.length c3, .slice A4 c.methods.length c4] 27)) 28 5 #[.int .u8 82, .int .u8 69, .int .u8 71, .int .u8 76] 4 4 Tryz.underlying28 Tryz.underlying5
 rw [World.size_alloc] at hconv
 have HCONV := lhid hconv
 clear hconv g1 g2 g3 g4 h
 go_enter Tryz.func12, Tryz.ntmps12
 go_wp2_with fail
 rw [HCONV.out]
 go_wp2_with fail
 have HX0 : Hid ((((w.alloc (.cells #[.int .i64 c.flags, .string (tx c.name), .string (tx c.super), .slice A1 c.ifaces.length c1, .slice A2 c.pool.length c2, .slice A3 c.fields.length c3, .slice A4 c.methods.length c4] 27)).alloc (.cells #[.int .u8 82, .int .u8 69, .int .u8 71, .int .u8 76] 5 (4, 5))).alloc (.cells #[.slice (some ⟨w.heap.size + 1, 0, none⟩) 4 4, .slice A2 c.pool.length c2, .bool false] 52)).heap[w.heap.size]? = some (.cells #[.int .i64 c.flags, .string (tx c.name), .string (tx c.super), .slice A1 c.ifaces.length c1, .slice A2 c.pool.length c2, .slice A3 c.fields.length c3, .slice A4 c.methods.length c4] 27 (0, 0))) := lhid (by
  rw [Below.heap_alloc _ _ _ (by simp; omega), Below.heap_alloc _ _ _ (by simp)]
  exact heap_alloc_new w _)
 have HM0 : Hid ((((w.alloc (.cells #[.int .i64 c.flags, .string (tx c.name), .string (tx c.super), .slice A1 c.ifaces.length c1, .slice A2 c.pool.length c2, .slice A3 c.fields.length c3, .slice A4 c.methods.length c4] 27)).alloc (.cells #[.int .u8 82, .int .u8 69, .int .u8 71, .int .u8 76] 5 (4, 5))).alloc (.cells #[.slice (some ⟨w.heap.size + 1, 0, none⟩) 4 4, .slice A2 c.pool.length c2, .bool false] 52)).heap[w.heap.size + 1 + 1]? = some (.cells #[.slice (some ⟨w.heap.size + 1, 0, none⟩) 4 4, .slice A2 c.pool.length c2, .bool false] 52 (0, 0))) := lhid (by
  have := heap_alloc_new ((w.alloc (.cells #[.int .i64 c.flags, .string (tx c.name), .string (tx c.super), .slice A1 c.ifaces.length c1, .slice A2 c.pool.length c2, .slice A3 c.fields.length c3, .slice A4 c.methods.length c4] 27)).alloc (.cells #[.int .u8 82, .int .u8 69, .int .u8 71, .int .u8 76] 5 (4, 5))) (.cells #[.slice (some ⟨w.heap.size + 1, 0, none⟩) 4 4, .slice A2 c.pool.length c2, .bool false] 52)
  simpa using this)
 have HG0 : Hid ((((w.alloc (.cells #[.int .i64 c.flags, .string (tx c.name), .string (tx c.super), .slice A1 c.ifaces.length c1, .slice A2 c.pool.length c2, .slice A3 c.fields.length c3, .slice A4 c.methods.length c4] 27)).alloc (.cells #[.int .u8 82, .int .u8 69, .int .u8 71, .int .u8 76] 5 (4, 5))).alloc (.cells #[.slice (some ⟨w.heap.size + 1, 0, none⟩) 4 4, .slice A2 c.pool.length c2, .bool false] 52)).heap[w.heap.size + 1]? = some (.cells #[.int .u8 82, .int .u8 69, .int .u8 71, .int .u8 76] 5 (4, 5))) := lhid (by
  rw [Below.heap_alloc _ _ _ (by simp)]
  have := heap_alloc_new (w.alloc (.cells #[.int .i64 c.flags, .string (tx c.name), .string (tx c.super), .slice A1 c.ifaces.length c1, .slice A2 c.pool.length c2, .slice A3 c.fields.length c3, .slice A4 c.methods.length c4] 27)) (.cells #[.int .u8 82, .int .u8 69, .int .u8 71, .int .u8 76] 5 (4, 5))
  simpa using this)
 have HB0 : Hid (Below w.heap.size w (((w.alloc (.cells #[.int .i64 c.flags, .string (tx c.name), .string (tx c.super), .slice A1 c.ifaces.length c1, .slice A2 c.pool.length c2, .slice A3 c.fields.length c3, .slice A4 c.methods.length c4] 27)).alloc (.cells #[.int .u8 82, .int .u8 69, .int .u8 71, .int .u8 76] 5 (4, 5))).alloc (.cells #[.slice (some ⟨w.heap.size + 1, 0, none⟩) 4 4, .slice A2 c.pool.length c2, .bool false] 52))) := lhid ((((Below.refl w.heap.size w).alloc (Nat.le_refl _) _).alloc (by simp) _).alloc (by simp; omega) _)
 have HCC : Hid (∀ (j : Nat) (v : Value), (byV magicB)[j]? = some v → (((w.alloc (.cells #[.int .i64 c.flags, .string (tx c.name), .string (tx c.super), .slice A1 c.ifaces.length c1, .slice A2 c.pool.length c2, .slice A3 c.fields.length c3, .slice A4 c.methods.length c4] 27)).alloc (.cells #[.int .u8 82, .int .u8 69, .int .u8 71, .int .u8 76] 5 (4, 5))).alloc (.cells #[.slice (some ⟨w.heap.size + 1, 0, none⟩) 4 4, .slice A2 c.pool.length c2, .bool false] 52)).cell? ((⟨w.heap.size + 1, 0, none⟩ : Addr).add j) = some v) := lhid (World.news_of_block HG0.out)
 clear HG0 HCONV
 generalize (((w.alloc (.cells #[.int .i64 c.flags, .string (tx c.name), .string (tx c.super), .slice A1 c.ifaces.length c1, .slice A2 c.pool.length c2, .slice A3 c.fields.length c3, .slice A4 c.methods.length c4] 27)).alloc (.cells #[.int .u8 82, .int .u8 69, .int .u8 71, .int .u8 76] 5 (4, 5))).alloc (.cells #[.slice (some ⟨w.heap.size + 1, 0, none⟩) 4 4, .slice A2 c.pool.length c2, .bool false] 52)) = w0 at *
 with_reducible refine (wnum_first w.heap.size (w.heap.size + 1 + 1) (w.heap.size + 1) _ 2 (lhid rfl) c.pool.length w0 HM0 HCC HB0.out.size (by omega)).mono ?_
 rintro e wa1 ⟨rfl, h', b', s'⟩
 have HW1 : Hid (WoS w.heap.size (w.heap.size + 1 + 1) (.slice A2 c.pool.length c2) 6 wa1) := lhid ⟨_, h', by rw [wNum_len]; show 4 + 2 ≤ 6; omega⟩
 have HB1 := lhid (HB0.out.trans b')
 have HX1 := lhid (s' _ _ _ _ (by simp) HX0.out)
 have HBM : Hid (w.heap.size ≤ w.heap.size + 1 + 1) := lhid (by omega)
 clear h' b' s' HX0 HM0 HCC HB0
 have y4 := heap_cell (i := 4) HX1.out rfl
 go_wp2_with fail
 clear y4
 go_loopw [5] (fun i wr => ∃ k : Nat, i = .int .i64 k ∧ 1 ≤ k ∧ k ≤ c.pool.length + 1 ∧ Hid (WoS w.heap.size (w.heap.size + 1 + 1) (.slice A2 c.pool.length c2) (6 + sumW wC (c.pool.take k)) wr) ∧ Hid (Below w.heap.size w wr) ∧ Hid (wr.heap[w.heap.size]? = some (.cells #[.int .i64 c.flags, .string (tx c.name), .string (tx c.super), .slice A1 c.ifaces.length c1, .slice A2 c.pool.length c2, .slice A3 c.fields.length c3, .slice A4 c.methods.length c4] 27 (0, 0)))) (fun i _ => c.pool.length + 1 - (intOf i).toNat)
 case atStart => exact ⟨1, rfl, Nat.le_refl _, by omega, lhid (HW1.out.le (by omega)), HB1, HX1⟩
 case round =>
  obtain ⟨k, rfl, hk1, hk, HW2, HB2, HX2⟩ := hrel
  obtain ⟨wa2, hq⟩ : ∃ x, x = wr := ⟨_, rfl⟩
  subst hq
  have y4 := heap_cell (i := 4) HX2.out rfl
  by_cases hlt : k < c.pool.length
  ·obtain ⟨x, hx⟩ : ∃ x, c.pool[k]? = some x := ⟨_, List.getElem?_eq_getElem hlt⟩
   have hle := sumW_le (f := wC) (l := c.pool) (k + 1)
   have htk := sumW_take (f := wC) hx
   have HTK := lhid htk
   rw [htk] at hle
   unfold wC at hle
   have htx := hC.out.texts x (List.mem_of_getElem? hx)
   obtain ⟨g, o', cx, rfl, rfl, hc⟩ := (HP.out.below kept_co HB2.out).at' hx
   have b0 := hc 0 _ rfl
   have b1 := hc 1 _ rfl
   have b2 := hc 2 _ rfl
   have b3 := hc 3 _ rfl
   have b4 := hc 4 _ rfl
   rw [Nat.add_zero] at b0
   have k3 : (k : Int) < c.pool.length := by omega
   have k0 : (0 : Int) ≤ k := by omega
   obtain ⟨NN, hNN⟩ : ∃ NN, sumW wC (c.pool.take k) = NN := ⟨_, rfl⟩
   have HNN := lhid hNN
   rw [show (fun x : CoI => 16 + x.text.length) = wC from rfl, hNN] at hle
   rw [hNN] at HW2
   clear hx hc htk hNN
   go_wp2_with fail
   clear b0 b1 b2 b3 b4 y4
   with_reducible refine (con_s w (w.heap.size + 1 + 1) _ c.pool x (6 + NN) wa2 HW2 HP HB2 HBM (lhid (by omega)) htx).mono ?_
   rintro e wa3 ⟨rfl, h1, b1, s1⟩
   have HW3 := lhid h1
   have HB3 := lhid (HB2.out.trans b1)
   have HX3 := lhid (s1 _ _ _ _ (by simp) HX2.out)
   clear h1 b1 s1
   go_wp2_with fail
   go_roundw
   case rel => exact ⟨k + 1, by go_num, by omega, by omega, lhid (HW3.out.le (by rw [HTK.out, HNN.out]; unfold wC; omega)), HB3, HX3⟩
   case measure => simp [intOf]; omega
  ·have k3 : ¬ (k : Int) < c.pool.length := by omega
   have HW32 := lhid (HW2.out.le (show _ ≤ 6 + sumW wC c.pool by have := sumW_le (f := wC) (l := c.pool) k; omega))
   have HB32 := HB2
   have HX32 := HX2
   obtain ⟨wa32, hq⟩ : ∃ x, x = wa2 := ⟨_, rfl⟩
   subst hq
   clear hk hlt
   have y0 := heap_cell (i := 0) HX32.out rfl
   go_wp2_with fail
   with_reducible refine (num_s w.heap.size (w.heap.size + 1 + 1) _ 2 (6 + sumW wC c.pool) 2 c.flags wa32 HW32 (lhid rfl) (by omega) (lhid HB32.out.size) HBM (lhid (by omega))).mono ?_
   clear y0 y4
   rintro e wa33 ⟨rfl, h1, b1, s1⟩
   have HW33 := lhid h1
   have HB33 := lhid (HB32.out.trans b1)
   have HX33 := lhid (s1 _ _ _ _ (by simp) HX32.out)
   clear h1 b1 s1
   have y1 := heap_cell (i := 1) HX33.out rfl
   go_wp2_with fail
   with_reducible refine (find_s w.heap.size (w.heap.size + 1 + 1) _ c.pool 7 c.name (6 + sumW wC c.pool + 2) wa33 HW33 (lhid (HP.out.below kept_co HB33.out)) (lhid HB33.out.size) HBM).mono ?_
   clear y1
   rintro e wa34 ⟨⟨z33, rfl⟩, h1, b1, s1⟩
   have HW34 := lhid h1
   have HB34 := lhid (HB33.out.trans b1)
   have HX34 := lhid (s1 _ _ _ _ (by simp) HX33.out)
   clear h1 b1 s1
   go_wp2_with fail
   with_reducible refine (num_s w.heap.size (w.heap.size + 1 + 1) _ 2 (6 + sumW wC c.pool + 2) 2 z33 wa34 HW34 (lhid rfl) (by omega) (lhid HB34.out.size) HBM (lhid (by omega))).mono ?_
   rintro e wa35 ⟨rfl, h1, b1, s1⟩
   have HW35 := lhid h1
   have HB35 := lhid (HB34.out.trans b1)
   have HX35 := lhid (s1 _ _ _ _ (by simp) HX34.out)
   clear h1 b1 s1
   have y2 := heap_cell (i := 2) HX35.out rfl
   go_wp2_with fail
   with_reducible refine (find_s w.heap.size (w.heap.size + 1 + 1) _ c.pool 7 c.super (6 + sumW wC c.pool + 2 + 2) wa35 HW35 (lhid (HP.out.below kept_co HB35.out)) (lhid HB35.out.size) HBM).mono ?_
   clear y2
   rintro e wa36 ⟨⟨z35, rfl⟩, h1, b1, s1⟩
   have HW36 := lhid h1
   have HB36 := lhid (HB35.out.trans b1)
   have HX36 := lhid (s1 _ _ _ _ (by simp) HX35.out)
   clear h1 b1 s1
   go_wp2_with fail
   with_reducible refine (num_s w.heap.size (w.heap.size + 1 + 1) _ 2 (6 + sumW wC c.pool + 2 + 2) 2 z35 wa36 HW36 (lhid rfl) (by omega) (lhid HB36.out.size) HBM (lhid (by omega))).mono ?_
   rintro e wa37 ⟨rfl, h1, b1, s1⟩
   have HW37 := lhid h1
   have HB37 := lhid (HB36.out.trans b1)
   have HX37 := lhid (s1 _ _ _ _ (by simp) HX36.out)
   clear h1 b1 s1
   have y3 := heap_cell (i := 3) HX37.out rfl
   go_wp2_with fail
   with_reducible refine (num_s w.heap.size (w.heap.size + 1 + 1) _ 2 (6 + sumW wC c.pool + 2 + 2 + 2) 2 _ wa37 HW37 (lhid rfl) (by omega) (lhid HB37.out.size) HBM (lhid (by omega))).mono ?_
   clear y3
   rintro e wa38 ⟨rfl, h1, b1, s1⟩
   have HW38 := lhid h1
   have HB38 := lhid (HB37.out.trans b1)
   have HX38 := lhid (s1 _ _ _ _ (by simp) HX37.out)
   clear h1 b1 s1
   have y3 := heap_cell (i := 3) HX38.out rfl
   go_wp2_with fail
   clear y3
   go_loopw [6] (fun i wr => ∃ k : Nat, i = .int .i64 k ∧ k ≤ c.ifaces.length ∧ Hid (WoS w.heap.size (w.heap.size + 1 + 1) (.slice A2 c.pool.length c2) (14 + sumW wC c.pool + 2 * k) wr) ∧ Hid (Below w.heap.size w wr) ∧ Hid (wr.heap[w.heap.size]? = some (.cells #[.int .i64 c.flags, .string (tx c.name), .string (tx c.super), .slice A1 c.ifaces.length c1, .slice A2 c.pool.length c2, .slice A3 c.fields.length c3, .slice A4 c.methods.length c4] 27 (0, 0)))) (fun i _ => c.ifaces.length + 1 - (intOf i).toNat)
   case atStart => exact ⟨0, rfl, Nat.zero_le _, lhid (HW38.out.le (by omega)), HB38, HX38⟩
   case round =>
    obtain ⟨k, rfl, hk, HW39, HB39, HX39⟩ := hrel
    obtain ⟨wa39, hq⟩ : ∃ x, x = wr := ⟨_, rfl⟩
    subst hq
    have y3 := heap_cell (i := 3) HX39.out rfl
    by_cases hlt : k < c.ifaces.length
    ·obtain ⟨x, hx⟩ : ∃ x, c.ifaces[k]? = some x := ⟨_, List.getElem?_eq_getElem hlt⟩
     obtain ⟨g, o', cx, rfl, rfl, hc⟩ := (G1.out.below kept_st HB39.out).at' hx
     have b0 : wa39.cell? ⟨g, o' + k, none⟩ = some (.string (tx x)) := by
      have := hc 0 _ rfl
      rwa [Nat.mul_one] at this
     have k3 : (k : Int) < c.ifaces.length := by omega
     clear hx hc
     go_wp2_with fail
     clear b0 y3
     with_reducible refine (find_s w.heap.size (w.heap.size + 1 + 1) _ c.pool 7 x (14 + sumW wC c.pool + 2 * k) wa39 HW39 (lhid (HP.out.below kept_co HB39.out)) (lhid HB39.out.size) HBM).mono ?_
     rintro e wa40 ⟨⟨z39, rfl⟩, h1, b1, s1⟩
     have HW40 := lhid h1
     have HB40 := lhid (HB39.out.trans b1)
     have HX40 := lhid (s1 _ _ _ _ (by simp) HX39.out)
     clear h1 b1 s1
     go_wp2_with fail
     with_reducible refine (num_s w.heap.size (w.heap.size + 1 + 1) _ 2 (14 + sumW wC c.pool + 2 * k) 2 z39 wa40 HW40 (lhid rfl) (by omega) (lhid HB40.out.size) HBM (lhid (by omega))).mono ?_
     rintro e wa41 ⟨rfl, h1, b1, s1⟩
     have HW41 := lhid h1
     have HB41 := lhid (HB40.out.trans b1)
     have HX41 := lhid (s1 _ _ _ _ (by simp) HX40.out)
     clear h1 b1 s1
     go_wp2_with fail
     go_roundw
     case rel => exact ⟨k + 1, by go_num, by omega, lhid (HW41.out.le (by omega)), HB41, HX41⟩
     case measure => simp [intOf]; omega
    ·have k3 : ¬ (k : Int) < c.ifaces.length := by omega
     have HW69 := lhid (HW39.out.le (show _ ≤ 14 + sumW wC c.pool + 2 * c.ifaces.length by omega))
     have HB69 := HB39
     have HX69 := HX39
     obtain ⟨wa69, hq⟩ : ∃ x, x = wa39 := ⟨_, rfl⟩
     subst hq
     clear hk hlt
     have y5 := heap_cell (i := 5) HX69.out rfl
     go_wp2_with fail
     with_reducible refine (num_s w.heap.size (w.heap.size + 1 + 1) _ 2 (14 + sumW wC c.pool + 2 * c.ifaces.length) 2 _ wa69 HW69 (lhid rfl) (by omega) (lhid HB69.out.size) HBM (lhid (by omega))).mono ?_
     clear y3 y5
     rintro e wa70 ⟨rfl, h1, b1, s1⟩
     have HW70 := lhid h1
     have HB70 := lhid (HB69.out.trans b1)
     have HX70 := lhid (s1 _ _ _ _ (by simp) HX69.out)
     clear h1 b1 s1
     have y5 := heap_cell (i := 5) HX70.out rfl
     go_wp2_with fail
     clear y5
     go_loopw [7] (fun i wr => ∃ k : Nat, i = .int .i64 k ∧ k ≤ c.fields.length ∧ Hid (WoS w.heap.size (w.heap.size + 1 + 1) (.slice A2 c.pool.length c2) (16 + sumW wC c.pool + 2 * c.ifaces.length + 6 * k) wr) ∧ Hid (Below w.heap.size w wr) ∧ Hid (wr.heap[w.heap.size]? = some (.cells #[.int .i64 c.flags, .string (tx c.name), .string (tx c.super), .slice A1 c.ifaces.length c1, .slice A2 c.pool.length c2, .slice A3 c.fields.length c3, .slice A4 c.methods.length c4] 27 (0, 0)))) (fun i _ => c.fields.length + 1 - (intOf i).toNat)
     case atStart => exact ⟨0, rfl, Nat.zero_le _, lhid (HW70.out.le (by omega)), HB70, HX70⟩
     case round =>
      obtain ⟨k, rfl, hk, HW71, HB71, HX71⟩ := hrel
      obtain ⟨wa71, hq⟩ : ∃ x, x = wr := ⟨_, rfl⟩
      subst hq
      have y5 := heap_cell (i := 5) HX71.out rfl
      by_cases hlt : k < c.fields.length
      ·obtain ⟨x, hx⟩ : ∃ x, c.fields[k]? = some x := ⟨_, List.getElem?_eq_getElem hlt⟩
       obtain ⟨g, o', cx, rfl, rfl, hc⟩ := G3.out.at' hx
       have h0 : w.cell? ⟨g, o' + k * 3, none⟩ = some (.int .i64 x.flags) := hc 0 _ rfl
       have h1 : w.cell? ⟨g, o' + k * 3 + 1, none⟩ = some (.string (tx x.name)) := hc 1 _ rfl
       have h2 : w.cell? ⟨g, o' + k * 3 + 2, none⟩ = some (.string (tx x.desc)) := hc 2 _ rfl
       have H0c := lhid h0
       have H1c := lhid h1
       have H2c := lhid h2
       have k3 : (k : Int) < c.fields.length := by omega
       clear hx hc h0 h1 h2
       have b0 := (HB71.out.cell (p := ⟨g, o' + k * 3, none⟩) (cell_lt H0c.out)).trans H0c.out
       go_wp2_with fail
       clear b0 y5
       with_reducible refine (num_s w.heap.size (w.heap.size + 1 + 1) _ 2 (16 + sumW wC c.pool + 2 * c.ifaces.length + 6 * k) 2 x.flags wa71 HW71 (lhid rfl) (by omega) (lhid HB71.out.size) HBM (lhid (by omega))).mono ?_
       rintro e wa72 ⟨rfl, h1, b1, s1⟩
       have HW72 := lhid h1
       have HB72 := lhid (HB71.out.trans b1)
       have HX72 := lhid (s1 _ _ _ _ (by simp) HX71.out)
       clear h1 b1 s1
       have b1 := (HB72.out.cell (p := ⟨g, o' + k * 3 + 1, none⟩) (cell_lt H1c.out)).trans H1c.out
       have y5 := heap_cell (i := 5) HX72.out rfl
       go_wp2_with fail
       with_reducible refine (find_s w.heap.size (w.heap.size + 1 + 1) _ c.pool 1 x.name (16 + sumW wC c.pool + 2 * c.ifaces.length + 6 * k + 2) wa72 HW72 (lhid (HP.out.below kept_co HB72.out)) (lhid HB72.out.size) HBM).mono ?_
       clear y5 b1
       rintro e wa73 ⟨⟨z72, rfl⟩, h1, b1, s1⟩
       have HW73 := lhid h1
       have HB73 := lhid (HB72.out.trans b1)
       have HX73 := lhid (s1 _ _ _ _ (by simp) HX72.out)
       clear h1 b1 s1
       go_wp2_with fail
       with_reducible refine (num_s w.heap.size (w.heap.size + 1 + 1) _ 2 (16 + sumW wC c.pool + 2 * c.ifaces.length + 6 * k + 2) 2 z72 wa73 HW73 (lhid rfl) (by omega) (lhid HB73.out.size) HBM (lhid (by omega))).mono ?_
       rintro e wa74 ⟨rfl, h1, b1, s1⟩
       have HW74 := lhid h1
       have HB74 := lhid (HB73.out.trans b1)
       have HX74 := lhid (s1 _ _ _ _ (by simp) HX73.out)
       clear h1 b1 s1
       have b2 := (HB74.out.cell (p := ⟨g, o' + k * 3 + 2, none⟩) (cell_lt H2c.out)).trans H2c.out
       have y5 := heap_cell (i := 5) HX74.out rfl
       go_wp2_with fail
       with_reducible refine (find_s w.heap.size (w.heap.size + 1 + 1) _ c.pool 1 x.desc (16 + sumW wC c.pool + 2 * c.ifaces.length + 6 * k + 2 + 2) wa74 HW74 (lhid (HP.out.below kept_co HB74.out)) (lhid HB74.out.size) HBM).mono ?_
       clear y5 b2
       rintro e wa75 ⟨⟨z74, rfl⟩, h1, b1, s1⟩
       have HW75 := lhid h1
       have HB75 := lhid (HB74.out.trans b1)
       have HX75 := lhid (s1 _ _ _ _ (by simp) HX74.out)
       clear h1 b1 s1
       go_wp2_with fail
       with_reducible refine (num_s w.heap.size (w.heap.size + 1 + 1) _ 2 (16 + sumW wC c.pool + 2 * c.ifaces.length + 6 * k + 2 + 2) 2 z74 wa75 HW75 (lhid rfl) (by omega) (lhid HB75.out.size) HBM (lhid (by omega))).mono ?_
       rintro e wa76 ⟨rfl, h1, b1, s1⟩
       have HW76 := lhid h1
       have HB76 := lhid (HB75.out.trans b1)
       have HX76 := lhid (s1 _ _ _ _ (by simp) HX75.out)
       clear h1 b1 s1
       go_wp2_with fail
       go_roundw
       case rel => exact ⟨k + 1, by go_num, by omega, lhid (HW76.out.le (by omega)), HB76, HX76⟩
       case measure => simp [intOf]; omega
      ·have k3 : ¬ (k : Int) < c.fields.length := by omega
       have HW101 := lhid (HW71.out.le (show _ ≤ 16 + sumW wC c.pool + 2 * c.ifaces.length + 6 * c.fields.length by omega))
       have HB101 := HB71
       have HX101 := HX71
       obtain ⟨wa101, hq⟩ : ∃ x, x = wa71 := ⟨_, rfl⟩
       subst hq
       clear hk hlt
       have y6 := heap_cell (i := 6) HX101.out rfl
       go_wp2_with fail
       with_reducible refine (num_s w.heap.size (w.heap.size + 1 + 1) _ 2 (16 + sumW wC c.pool + 2 * c.ifaces.length + 6 * c.fields.length) 2 _ wa101 HW101 (lhid rfl) (by omega) (lhid HB101.out.size) HBM (lhid (by omega))).mono ?_
       clear y5 y6
       rintro e wa102 ⟨rfl, h1, b1, s1⟩
       have HW102 := lhid h1
       have HB102 := lhid (HB101.out.trans b1)
       have HX102 := lhid (s1 _ _ _ _ (by simp) HX101.out)
       clear h1 b1 s1
       have y6 := heap_cell (i := 6) HX102.out rfl
       go_wp2_with fail
       clear y6
       go_loopw [8] (fun i wr => ∃ k : Nat, i = .int .i64 k ∧ k ≤ c.methods.length ∧ Hid (WoS w.heap.size (w.heap.size + 1 + 1) (.slice A2 c.pool.length c2) (18 + sumW wC c.pool + 2 * c.ifaces.length + 6 * c.fields.length + sumW wB (c.methods.take k)) wr) ∧ Hid (Below w.heap.size w wr) ∧ Hid (wr.heap[w.heap.size]? = some (.cells #[.int .i64 c.flags, .string (tx c.name), .string (tx c.super), .slice A1 c.ifaces.length c1, .slice A2 c.pool.length c2, .slice A3 c.fields.length c3, .slice A4 c.methods.length c4] 27 (0, 0)))) (fun i _ => c.methods.length + 1 - (intOf i).toNat)
       case atStart => exact ⟨0, rfl, Nat.zero_le _, lhid (HW102.out.le (by omega)), HB102, HX102⟩
       case round =>
        obtain ⟨k, rfl, hk, HW103, HB103, HX103⟩ := hrel
        obtain ⟨wa103, hq⟩ : ∃ x, x = wr := ⟨_, rfl⟩
        subst hq
        have y6 := heap_cell (i := 6) HX103.out rfl
        by_cases hlt : k < c.methods.length
        ·obtain ⟨x, hx⟩ : ∃ x, c.methods[k]? = some x := ⟨_, List.getElem?_eq_getElem hlt⟩
         have hle := sumW_le (f := wB) (l := c.methods) (k + 1)
         have htk := sumW_take (f := wB) hx
         have HTK := lhid htk
         rw [htk] at hle
         have hmb := hC.out.meths x (List.mem_of_getElem? hx)
         have HMB := lhid hmb
         obtain ⟨g, o', cx, rfl, hE, hc⟩ := G4.out.at' hx
         obtain ⟨va, vb, vd, rfl, ha, hb, hd⟩ := hE
         have HA := lhid ha
         have HBB := lhid hb
         have HDD := lhid hd
         obtain ⟨xa, ca, rfl⟩ := ha.shape
         obtain ⟨xb, cb, rfl⟩ := hb.shape
         obtain ⟨xd, cd, rfl⟩ := hd.shape
         have q0 : w.cell? ⟨g, o' + k * 8, none⟩ = some (.int .i64 x.flags) := hc 0 _ rfl
         have r0 := (HB103.out.cell (p := ⟨g, o' + k * 8, none⟩) (cell_lt q0)).trans q0
         have q1 : w.cell? ⟨g, o' + k * 8 + 1, none⟩ = some (.string (tx x.name)) := hc 1 _ rfl
         have r1 := (HB103.out.cell (p := ⟨g, o' + k * 8 + 1, none⟩) (cell_lt q1)).trans q1
         have q2 : w.cell? ⟨g, o' + k * 8 + 2, none⟩ = some (.string (tx x.desc)) := hc 2 _ rfl
         have r2 := (HB103.out.cell (p := ⟨g, o' + k * 8 + 2, none⟩) (cell_lt q2)).trans q2
         have q3 : w.cell? ⟨g, o' + k * 8 + 3, none⟩ = some (.int .i64 x.stack) := hc 3 _ rfl
         have r3 := (HB103.out.cell (p := ⟨g, o' + k * 8 + 3, none⟩) (cell_lt q3)).trans q3
         have q4 : w.cell? ⟨g, o' + k * 8 + 4, none⟩ = some (.int .i64 x.locals) := hc 4 _ rfl
         have r4 := (HB103.out.cell (p := ⟨g, o' + k * 8 + 4, none⟩) (cell_lt q4)).trans q4
         have q5 : w.cell? ⟨g, o' + k * 8 + 5, none⟩ = some (.slice xa x.code.length ca) := hc 5 _ rfl
         have r5 := (HB103.out.cell (p := ⟨g, o' + k * 8 + 5, none⟩) (cell_lt q5)).trans q5
         have q6 : w.cell? ⟨g, o' + k * 8 + 6, none⟩ = some (.slice xb x.rows.length cb) := hc 6 _ rfl
         have r6 := (HB103.out.cell (p := ⟨g, o' + k * 8 + 6, none⟩) (cell_lt q6)).trans q6
         have q7 : w.cell? ⟨g, o' + k * 8 + 7, none⟩ = some (.slice xd x.frames.length cd) := hc 7 _ rfl
         have r7 := (HB103.out.cell (p := ⟨g, o' + k * 8 + 7, none⟩) (cell_lt q7)).trans q7
         clear q0 q1 q2 q3 q4 q5 q6 q7
         have k3 : (k : Int) < c.methods.length := by omega
         obtain ⟨NN, hNN⟩ : ∃ NN, sumW wB (c.methods.take k) = NN := ⟨_, rfl⟩
         have HNN := lhid hNN
         rw [hNN] at hle HW103
         clear hx hc htk hNN ha hb hd hmb
         go_wp2_with fail
         clear r0 r1 r2 r3 r4 r5 r6 r7 y6
         with_reducible refine (body_s w (w.heap.size + 1 + 1) _ c.pool x (.slice xa x.code.length ca) (.slice xb x.rows.length cb) (.slice xd x.frames.length cd) (18 + sumW wC c.pool + 2 * c.ifaces.length + 6 * c.fields.length + NN) wa103 HW103 HP HB103 HBM HA HBB HDD (lhid (by omega)) HMB).mono ?_
         rintro e wa104 ⟨rfl, h1, b1, s1⟩
         have HW104 := lhid h1
         have HB104 := lhid (HB103.out.trans b1)
         have HX104 := lhid (s1 _ _ _ _ (by simp) HX103.out)
         clear h1 b1 s1
         go_wp2_with fail
         go_roundw
         case rel => exact ⟨k + 1, by go_num, by omega, lhid (HW104.out.le (by rw [HTK.out, HNN.out]; omega)), HB104, HX104⟩
         case measure => simp [intOf]; omega
        ·have k3 : ¬ (k : Int) < c.methods.length := by omega
         have HW133 := lhid (HW103.out.le (show _ ≤ 18 + sumW wC c.pool + 2 * c.ifaces.length + 6 * c.fields.length + sumW wB c.methods by have := sumW_le (f := wB) (l := c.methods) k; omega))
         have HB133 := HB103
         have HX133 := HX103
         obtain ⟨wa133, hq⟩ : ∃ x, x = wa103 := ⟨_, rfl⟩
         subst hq
         clear hk hlt
         obtain ⟨o, ho, hol⟩ := HW133.out
         obtain ⟨v, hM, hO⟩ := ho
         have HMh := lhid hM
         have HRD := lhid (own_rdB hO)
         obtain ⟨vA, vc, rfl⟩ := own_shape hO
         have HOh := lhid hO
         have m0 := heap_cell (i := 0) hM rfl
         have m2 := heap_cell (i := 2) hM rfl
         obtain ⟨ms, hms⟩ : ∃ ms, o.2 = ms := ⟨_, rfl⟩
         rw [hms] at hM m2 HMh
         clear hM hO hol hms
         go_wp2_with fail
         with_reducible refine (hparse.out _ _ _ HRD).mono ?_
         rintro e wp ⟨hb, hx⟩
         clear m0 m2 y6
         have HBp := lhid (HB133.out.trans (below_lt hb HB133.out.size))
         have HXp : Hid (wp.heap[w.heap.size]? = some (.cells #[.int .i64 c.flags, .string (tx c.name), .string (tx c.super), .slice A1 c.ifaces.length c1, .slice A2 c.pool.length c2, .slice A3 c.fields.length c3, .slice A4 c.methods.length c4] 27 (0, 0))) := lhid ((hb.block _ (heap_lt HX133.out)).trans HX133.out)
         have HMp := lhid ((hb.block _ (heap_lt HMh.out)).trans HMh.out)
         have HOp := lhid (own_far HOh.out fun g hg => hb.block g (HOh.out.lt g hg).2)
         cases hp : parP o.1 with
         | er x =>
          have hx0 := parP_er' hp
          rw [hp] at hx
          obtain rfl := hx
          have HBq := lhid (HBp.out.alloc HBp.out.size zC)
          have HMq := lhid ((Below.heap_alloc wp zC _ (heap_lt HMp.out)).trans HMp.out)
          have m2 := heap_cell (i := 2) HMq.out rfl
          have k5 : ¬ (x : Int) = 0 := by omega
          clear hp hb
          cases ms
          all_goals go_wp2_with fail
          all_goals go_ret2
          all_goals exact ⟨HBq.out, .inl rfl⟩
         | ok d r =>
          rw [hp] at hx
          obtain ⟨bv, g, rfl, xa, xb, xd, rfl, v1, v2, v3, v4⟩ := hx
          obtain ⟨B1, d1, rfl⟩ := slO_shape v1
          obtain ⟨B3, d3, rfl⟩ := slO_shape v3
          obtain ⟨B4, d4, rfl⟩ := slO_shape v4
          have HBACK := lhid (cls_rd (parP_good hp).small v1 v2 v3 v4)
          have HPP := lhid hp
          clear v1 v2 v3 v4 hb hp
          have HXq := lhid ((Below.heap_alloc wp (.cells #[.int .i64 d.flags, .string (tx d.name), .string (tx d.super), .slice B1 d.ifaces.length d1, .slice (some ⟨g, 0, none⟩) d.pool.length d.pool.length, .slice B3 d.fields.length d3, .slice B4 d.methods.length d4] 27) _ (heap_lt HXp.out)).trans HXp.out)
          have HMq := lhid ((Below.heap_alloc wp (.cells #[.int .i64 d.flags, .string (tx d.name), .string (tx d.super), .slice B1 d.ifaces.length d1, .slice (some ⟨g, 0, none⟩) d.pool.length d.pool.length, .slice B3 d.fields.length d3, .slice B4 d.methods.length d4] 27) _ (heap_lt HMp.out)).trans HMp.out)
          have HBq := lhid (HBp.out.alloc HBp.out.size (.cells #[.int .i64 d.flags, .string (tx d.name), .string (tx d.super), .slice B1 d.ifaces.length d1, .slice (some ⟨g, 0, none⟩) d.pool.length d.pool.length, .slice B3 d.fields.length d3, .slice B4 d.methods.length d4] 27))
          have hbq := (Below.refl wp.heap.size wp).alloc (Nat.le_refl _) (.cells #[.int .i64 d.flags, .string (tx d.name), .string (tx d.super), .slice B1 d.ifaces.length d1, .slice (some ⟨g, 0, none⟩) d.pool.length d.pool.length, .slice B3 d.fields.length d3, .slice B4 d.methods.length d4] 27)
          have HOq := lhid (own_far HOp.out fun g hg => hbq.block g (HOp.out.lt g hg).2)
          have HKq := lhid (HBACK.out.below hbq)
          have HCq := lhid (HCV0.out.below HBq.out)
          have HBQ := lhid (heap_alloc_new wp (.cells #[.int .i64 d.flags, .string (tx d.name), .string (tx d.super), .slice B1 d.ifaces.length d1, .slice (some ⟨g, 0, none⟩) d.pool.length d.pool.length, .slice B3 d.fields.length d3, .slice B4 d.methods.length d4] 27))
          clear hbq
          have m0 := heap_cell (i := 0) HMq.out rfl
          have m2 := heap_cell (i := 2) HMq.out rfl
          cases ms with
          | true =>
           go_wp2_with fail
           go_ret2
           exact ⟨HBq.out, .inl rfl⟩
          | false =>
           have y0 := heap_cell (i := 0) HXq.out rfl
           have y1 := heap_cell (i := 1) HXq.out rfl
           have y2 := heap_cell (i := 2) HXq.out rfl
           have y3 := heap_cell (i := 3) HXq.out rfl
           have y4 := heap_cell (i := 4) HXq.out rfl
           have y5 := heap_cell (i := 5) HXq.out rfl
           have y6 := heap_cell (i := 6) HXq.out rfl
           go_wp2_with fail
           with_reducible refine (scls_w (clI d) c _ _ _ HKq HCq).mono ?_
           rintro e wz ⟨⟨rr, rfl, hrr⟩, hb⟩
           have HMz := lhid ((hb.block _ (heap_lt HMq.out)).trans HMq.out)
           have HBz := lhid (HBq.out.trans (below_lt hb HBq.out.size))
           have HOz := lhid (own_far HOq.out fun g hg => hb.block g (HOq.out.lt g hg).2)
           have HRR := lhid hrr
           clear hb hrr m0 m2 y0 y1 y2 y3 y4 y5 y6
           have m0 := heap_cell (i := 0) HMz.out rfl
           cases rr with
           | false =>
            go_wp2_with fail
            go_ret2
            exact ⟨HBz.out, .inl rfl⟩
           | true =>
            have HD9 := lhid (HRR.out rfl)
            clear HRR
            go_wp2_with fail
            go_ret2
            exact ⟨HBz.out, .inr ⟨_, o.1, d, r, rfl, HOz.out, HPP.out, HD9.out⟩⟩
end Go.Proofs.YtgihfcimngogfaaGreat
