/- Texts of this claim, joined: KinCat, KinCatS. -/
import Derived.Test.YtpdnonlelocfbaaGreatDoorM11
import Derived.Lib.AppendZerosOnto
import Derived.Lib.AppendZeros
import Derived.Lib.SliceRun
/- slices.Grow and slices.Concat as package kin calls them. -/
namespace Go.Proofs.YtpdnonlelocfbaaGreatDoor
open Go.RowKit Go
set_option linter.unusedVariables false

theorem RdX.const {α : Type} {P : Nat → Prop} {k : Nat} {E : World → α → List Value → Prop} {w w' : World} {v : Value} {l : List α} (h : RdX P k E w v l) (hb : Below w.heap.size w w') : RdX P k (fun _ => E w) w' v l := by
  obtain ⟨A, cap, h1, h0, h2, h3⟩ := h
  refine ⟨A, cap, h1, h0, h2, fun i a hi => ?_⟩
  obtain ⟨g, o, c, h4, hg, h5, h6⟩ := h3 i a hi
  exact ⟨g, o, c, h4, hg, h5, fun j u hj => (cell_heap (hb.block g (cell_lt (h6 j u hj))) _).trans (h6 j u hj)⟩
theorem info_cl : (Tryz.prog.info? 39).map (fun i => (i.zero, i.size, i.bytes)) = some (some (.agg #[.int .i64 0, .string ⟨#[]⟩, .string ⟨#[]⟩, .slice none 0 0, .slice none 0 0, .slice none 0 0, .slice none 0 0]), 7, 136) := by kernel_rfl

set_option maxHeartbeats 1000000 in
set_option maxRecDepth 100000 in
theorem grow_cl (n : Nat) (z : Int) (hz : Hid (z = n)) (w : World) (hn : n ≤ 8589934592) :
    Calls Tryz.prog 86 #[.slice none 0 0, .int .i64 z] w fun e w' => ∃ v', e = .returned v' ∧ w'.ownsRow w.heap.size 39 7 v' 0 [] ∧ Below w.heap.size w w' := by
  obtain rfl := hz.out
  clear hz
  obtain ⟨i0, hi, hz0, hz1, hz2⟩ := info_parts info_cl
  rcases Nat.eq_zero_or_pos n with h0 | hp
  · subst h0
    go_enter Tryz.func86, Tryz.ntmps86
    go_wp2_with fail
    go_ret
    exact ⟨_, rfl, World.ownsRow_nil _ _ _ _, Below.refl _ _⟩
  · have hr : ∀ ty, (Builtin.append_ #[22, 3] ty #[.slice none 0 0, .int .i64 (n : Int)]).run Tryz.prog w = .ok (.slice (some ⟨w.heap.size, 0, none⟩) n (grownCap w n 0 39)) (w.drew.alloc (.cells (Builtin.zeroCells (.agg #[.int .i64 0, .string ⟨#[]⟩, .string ⟨#[]⟩, .slice none 0 0, .slice none 0 0, .slice none 0 0, .slice none 0 0] : Value).cells n ++ Builtin.zeroCells (.agg #[.int .i64 0, .string ⟨#[]⟩, .string ⟨#[]⟩, .slice none 0 0, .slice none 0 0, .slice none 0 0, .slice none 0 0] : Value).cells (grownCap w n 0 39 - n)) 39)) := fun ty => by
      have h6 : n * 136 ≤ 8589934592 * 136 := Nat.mul_le_mul_right _ hn
      have h := Lib.run_append_grow_zeros (P := Tryz.prog) w 22 3 ty 39 i0 (.agg #[.int .i64 0, .string ⟨#[]⟩, .string ⟨#[]⟩, .slice none 0 0, .slice none 0 0, .slice none 0 0, .slice none 0 0]) .i64 .i64 Tryz.underlying22 Tryz.underlying3 hi hz0 none 0 0 [] (run_firstCells_none w.drew i0.size 0 0 0) n (by omega) (by rw [hz1]; decide) (by omega) (by omega) (by rw [hz2]; omega) (by rw [hz2, Nat.zero_add]; exact growslice_fits (by omega) (by omega))
      rw [Nat.zero_add] at h
      simpa using h
    obtain ⟨G, hG⟩ : ∃ G, grownCap w n 0 39 = G := ⟨_, rfl⟩
    have hGn : n ≤ G := by rw [← hG]; exact grownCap_ge w n 0 _
    have hGm : G ≤ maxLen := by rw [← hG]; exact grownCap_le_maxLen w n 0 _ (by unfold maxLen; omega)
    obtain ⟨cs, hcs⟩ : ∃ cs : Array Value, Builtin.zeroCells (.agg #[.int .i64 0, .string ⟨#[]⟩, .string ⟨#[]⟩, .slice none 0 0, .slice none 0 0, .slice none 0 0, .slice none 0 0] : Value).cells n ++ Builtin.zeroCells (.agg #[.int .i64 0, .string ⟨#[]⟩, .string ⟨#[]⟩, .slice none 0 0, .slice none 0 0, .slice none 0 0, .slice none 0 0] : Value).cells (G - n) = cs := ⟨_, rfl⟩
    have hcn : cs.size = G * 7 := by
      rw [← hcs, Array.size_append, size_zeroCells, size_zeroCells, ← Nat.add_mul, show n + (G - n) = G by omega]
      rfl
    rw [hG, hcs] at hr
    have h2 : ¬ ((n : Int) < 0) := by omega
    have h3 : (n : Int) > 0 := by omega
    have h4 : (0 : Int) ≤ n := by omega
    have HCN := lhid hcn
    have HGM := lhid hGm
    clear hcs hG hcn hGm
    go_enter Tryz.func86, Tryz.ntmps86
    go_wp2_with (at_builtin; refine Lib.wpList_append_run _ rfl _ _ _ _ rfl _ _ rfl rfl _ _ (hr _) ?_)
    go_ret
    refine ⟨_, rfl, ⟨by simp, .inr ⟨w.heap.size, G, cs, rfl, Nat.le_refl _, heap_alloc_new w.drew _, Nat.zero_le _, HGM.out, HCN.out, by simp⟩⟩, ?_⟩
    exact (Below.drew' (Below.refl _ _)).alloc (Nat.le_refl _) _

set_option maxHeartbeats 4000000 in
set_option maxRecDepth 100000 in
theorem concat_cl {α : Type} {P : Nat → Prop} {E : World → α → List Value → Prop} (hk : Row1 7 E) (g : Nat) (l1 l2 : List α) (v1 v2 : Value) (w : World) (hg : Hid (w.heap[g]? = some (.cells #[v1, v2] 22 (0, 0)))) (h1 : Hid (RdX P 7 E w v1 l1)) (h2 : Hid (RdX P 7 E w v2 l2)) (cap : Nat) :
    Calls Tryz.prog 44 #[.slice (some ⟨g, 0, none⟩) 2 cap] w fun e w' => ∃ v' xs, e = .returned v' ∧ w'.ownsRow w.heap.size 39 7 v' (l1 ++ l2).length xs ∧ RowsE 7 (E w) (l1 ++ l2) xs ∧ Below w.heap.size w w' := by
  obtain ⟨i0, hi, hz0, hz1, hz2⟩ := info_parts info_cl
  have hn1 := h1.out.len
  have hn2 := h2.out.len
  obtain ⟨A1, c1, rfl⟩ := h1.out.shape
  obtain ⟨A2, c2, rfl⟩ := h2.out.shape
  have q0 := heap_cell (i := 0) hg.out rfl
  have q1 := heap_cell (i := 1) hg.out rfl
  have s1 : ¬ ((l1.length : Int) < 0) := by omega
  have s2 : ¬ ((l1.length : Int) + (l2.length : Int) < 0) := by omega
  have HS1 : Hid (([] : List α).length + l1.length ≤ 8589934592) := lhid (by simp; omega)
  have HS2 : Hid (l1.length + l2.length ≤ 8589934592) := lhid (by omega)
  go_enter Tryz.func44, Tryz.ntmps44
  go_wp2_with fail
  go_loopw [3, 11] (fun s i wr => w = wr ∧ ((s = .int .i64 0 ∧ i = .int .i64 0) ∨ (s = .int .i64 l1.length ∧ i = .int .i64 1) ∨ (s = .int .i64 (l1.length + l2.length : Nat) ∧ i = .int .i64 2))) (fun _ i _ => 2 - (intOf i).toNat)
  case atStart => exact ⟨rfl, .inl ⟨rfl, rfl⟩⟩
  case round =>
    obtain ⟨rfl, ⟨rfl, rfl⟩ | ⟨rfl, rfl⟩ | ⟨rfl, rfl⟩⟩ := hrel
    · go_wp2_with fail
      go_roundw
      case rel => exact ⟨trivial, .inr (.inl ⟨by go_num, rfl⟩)⟩
      case measure => simp [intOf]
    · go_wp2_with fail
      go_roundw
      case rel => exact ⟨trivial, .inr (.inr ⟨by go_num, rfl⟩)⟩
      case measure => simp [intOf]
    · go_wp2_with fail
      with_reducible refine (grow_cl (l1.length + l2.length) _ (lhid (by omega)) _ (by omega)).mono ?_
      rintro e w1 ⟨v0, rfl, ho, hb⟩
      have HO := lhid ho
      have HB := lhid hb
      have HG1 := lhid ((hb.block _ (heap_lt hg.out)).trans hg.out)
      have hwb := hb.size
      clear ho hb q0 q1 s1 s2
      go_wp2_with fail
      go_loopw [6, 27] (fun v i wr => ∃ (l : List α) (xs : List Value), ((l = [] ∧ i = .int .i64 0) ∨ (l1 = l ∧ i = .int .i64 1) ∨ (l = l1 ++ l2 ∧ i = .int .i64 2)) ∧ Hid (wr.ownsRow w.heap.size 39 7 v l.length xs) ∧ Hid (RowsE 7 (E w) l xs) ∧ Hid (Below w.heap.size w wr)) (fun _ i _ => 2 - (intOf i).toNat)
      case atStart => exact ⟨[], [], .inl ⟨rfl, rfl⟩, HO, lhid (rowsE_nil _ _), HB⟩
      case round =>
        obtain ⟨l, xs, hc, HV, HR, HBr⟩ := hrel
        have q0 := heap_cell (i := 0) ((HBr.out.block _ (heap_lt hg.out)).trans hg.out) rfl
        have q1 := heap_cell (i := 1) ((HBr.out.block _ (heap_lt hg.out)).trans hg.out) rfl
        have hbr := HBr.out.size
        rcases hc with ⟨rfl, rfl⟩ | ⟨rfl, rfl⟩ | ⟨rfl, rfl⟩
        · go_wp2_with (at_builtin; refine wpList_append_rd (P := P) (E := fun _ => E w) rfl _ _ 22 rfl w.heap.size 39 i0 (.agg #[.int .i64 0, .string ⟨#[]⟩, .string ⟨#[]⟩, .slice none 0 0, .slice none 0 0, .slice none 0 0, .slice none 0 0]) 7 136 Tryz.underlying22 hi hz0 hz1 hz2 rfl (by decide) _ _ xs rfl HV.out (fun _ => hk w) (.slice A1 l1.length c1) l1 rfl (h1.out.const HBr.out) HS1.out (by decide) hbr ?_)
          intro v' w' ys r1 r2 r3
          have R1 := lhid r1
          have R2 := lhid r2
          have R3 := lhid r3
          clear r1 r2 r3
          go_wp2_with fail
          go_roundw
          case rel => exact ⟨_, xs ++ ys, .inr (.inl ⟨(List.nil_append _).symm, rfl⟩), lhid (by simpa using R1.out), lhid (HR.out.app R2.out), lhid (Below.grown HBr.out R3.out hbr (own_lt HV.out))⟩
          case measure => simp [intOf]
        · go_wp2_with (at_builtin; refine wpList_append_rd (P := P) (E := fun _ => E w) rfl _ _ 22 rfl w.heap.size 39 i0 (.agg #[.int .i64 0, .string ⟨#[]⟩, .string ⟨#[]⟩, .slice none 0 0, .slice none 0 0, .slice none 0 0, .slice none 0 0]) 7 136 Tryz.underlying22 hi hz0 hz1 hz2 rfl (by decide) _ _ xs rfl HV.out (fun _ => hk w) (.slice A2 l2.length c2) l2 rfl (h2.out.const HBr.out) HS2.out (by decide) hbr ?_)
          intro v' w' ys r1 r2 r3
          have R1 := lhid r1
          have R2 := lhid r2
          have R3 := lhid r3
          clear r1 r2 r3
          go_wp2_with fail
          go_roundw
          case rel => exact ⟨_, xs ++ ys, .inr (.inr ⟨rfl, rfl⟩), lhid (by simpa using R1.out), lhid (HR.out.app R2.out), lhid (Below.grown HBr.out R3.out hbr (own_lt HV.out))⟩
          case measure => simp [intOf]
        · go_wp2_with fail
          go_ret
          exact ⟨_, xs, rfl, HV.out, HR.out, HBr.out⟩

end Go.Proofs.YtpdnonlelocfbaaGreatDoor
/- slices.Grow and slices.Concat of texts. -/
namespace Go.Proofs.YtpdnonlelocfbaaGreatDoor
open Go.RowKit Go
set_option linter.unusedVariables false

set_option maxHeartbeats 1000000 in
set_option maxRecDepth 100000 in
theorem grow_st (n : Nat) (z : Int) (hz : Hid (z = n)) (w : World) (hn : n ≤ 8589934592) :
    Calls Tryz.prog 203 #[.slice none 0 0, .int .i64 z] w fun e w' => ∃ v', e = .returned v' ∧ w'.ownsRow w.heap.size 9 1 v' 0 [] ∧ Below w.heap.size w w' := by
  obtain rfl := hz.out
  clear hz
  obtain ⟨i0, hi, hz0, hz1, hz2⟩ := info_parts info_st
  rcases Nat.eq_zero_or_pos n with h0 | hp
  · subst h0
    go_enter Tryz.func203, Tryz.ntmps203
    go_wp2_with fail
    go_ret
    exact ⟨_, rfl, World.ownsRow_nil _ _ _ _, Below.refl _ _⟩
  · have hr : ∀ ty, (Builtin.append_ #[34, 3] ty #[.slice none 0 0, .int .i64 (n : Int)]).run Tryz.prog w = .ok (.slice (some ⟨w.heap.size, 0, none⟩) n (grownCap w n 0 9)) (w.drew.alloc (.cells (Builtin.zeroCells (.string ⟨#[]⟩ : Value).cells n ++ Builtin.zeroCells (.string ⟨#[]⟩ : Value).cells (grownCap w n 0 9 - n)) 9)) := fun ty => by
      have h6 : n * 16 ≤ 8589934592 * 16 := Nat.mul_le_mul_right _ hn
      have h := Lib.run_append_grow_zeros (P := Tryz.prog) w 34 3 ty 9 i0 (.string ⟨#[]⟩) .i64 .i64 Tryz.underlying34 Tryz.underlying3 hi hz0 none 0 0 [] (run_firstCells_none w.drew i0.size 0 0 0) n (by omega) (by rw [hz1]; decide) (by omega) (by omega) (by rw [hz2]; omega) (by rw [hz2, Nat.zero_add]; exact growslice_fits (by omega) (by omega))
      rw [Nat.zero_add] at h
      simpa using h
    obtain ⟨G, hG⟩ : ∃ G, grownCap w n 0 9 = G := ⟨_, rfl⟩
    have hGn : n ≤ G := by rw [← hG]; exact grownCap_ge w n 0 _
    have hGm : G ≤ maxLen := by rw [← hG]; exact grownCap_le_maxLen w n 0 _ (by unfold maxLen; omega)
    obtain ⟨cs, hcs⟩ : ∃ cs : Array Value, Builtin.zeroCells (.string ⟨#[]⟩ : Value).cells n ++ Builtin.zeroCells (.string ⟨#[]⟩ : Value).cells (G - n) = cs := ⟨_, rfl⟩
    have hcn : cs.size = G * 1 := by
      rw [← hcs, Array.size_append, size_zeroCells, size_zeroCells, ← Nat.add_mul, show n + (G - n) = G by omega]
      rfl
    rw [hG, hcs] at hr
    have h2 : ¬ ((n : Int) < 0) := by omega
    have h3 : (n : Int) > 0 := by omega
    have h4 : (0 : Int) ≤ n := by omega
    have HCN := lhid hcn
    have HGM := lhid hGm
    clear hcs hG hcn hGm
    go_enter Tryz.func203, Tryz.ntmps203
    go_wp2_with (at_builtin; refine Lib.wpList_append_run _ rfl _ _ _ _ rfl _ _ rfl rfl _ _ (hr _) ?_)
    go_ret
    refine ⟨_, rfl, ⟨by simp, .inr ⟨w.heap.size, G, cs, rfl, Nat.le_refl _, heap_alloc_new w.drew _, Nat.zero_le _, HGM.out, HCN.out, by simp⟩⟩, ?_⟩
    exact (Below.drew' (Below.refl _ _)).alloc (Nat.le_refl _) _

set_option maxHeartbeats 4000000 in
set_option maxRecDepth 100000 in
theorem concat_st {α : Type} {P : Nat → Prop} {E : World → α → List Value → Prop} (hk : Row1 1 E) (g : Nat) (l1 l2 : List α) (v1 v2 : Value) (w : World) (hg : Hid (w.heap[g]? = some (.cells #[v1, v2] 34 (0, 0)))) (h1 : Hid (RdX P 1 E w v1 l1)) (h2 : Hid (RdX P 1 E w v2 l2)) (cap : Nat) :
    Calls Tryz.prog 138 #[.slice (some ⟨g, 0, none⟩) 2 cap] w fun e w' => ∃ v' xs, e = .returned v' ∧ w'.ownsRow w.heap.size 9 1 v' (l1 ++ l2).length xs ∧ RowsE 1 (E w) (l1 ++ l2) xs ∧ Below w.heap.size w w' := by
  obtain ⟨i0, hi, hz0, hz1, hz2⟩ := info_parts info_st
  have hn1 := h1.out.len
  have hn2 := h2.out.len
  obtain ⟨A1, c1, rfl⟩ := h1.out.shape
  obtain ⟨A2, c2, rfl⟩ := h2.out.shape
  have q0 := heap_cell (i := 0) hg.out rfl
  have q1 := heap_cell (i := 1) hg.out rfl
  have s1 : ¬ ((l1.length : Int) < 0) := by omega
  have s2 : ¬ ((l1.length : Int) + (l2.length : Int) < 0) := by omega
  have HS1 : Hid (([] : List α).length + l1.length ≤ 8589934592) := lhid (by simp; omega)
  have HS2 : Hid (l1.length + l2.length ≤ 8589934592) := lhid (by omega)
  go_enter Tryz.func138, Tryz.ntmps138
  go_wp2_with fail
  go_loopw [3, 11] (fun s i wr => w = wr ∧ ((s = .int .i64 0 ∧ i = .int .i64 0) ∨ (s = .int .i64 l1.length ∧ i = .int .i64 1) ∨ (s = .int .i64 (l1.length + l2.length : Nat) ∧ i = .int .i64 2))) (fun _ i _ => 2 - (intOf i).toNat)
  case atStart => exact ⟨rfl, .inl ⟨rfl, rfl⟩⟩
  case round =>
    obtain ⟨rfl, ⟨rfl, rfl⟩ | ⟨rfl, rfl⟩ | ⟨rfl, rfl⟩⟩ := hrel
    · go_wp2_with fail
      go_roundw
      case rel => exact ⟨trivial, .inr (.inl ⟨by go_num, rfl⟩)⟩
      case measure => simp [intOf]
    · go_wp2_with fail
      go_roundw
      case rel => exact ⟨trivial, .inr (.inr ⟨by go_num, rfl⟩)⟩
      case measure => simp [intOf]
    · go_wp2_with fail
      with_reducible refine (grow_st (l1.length + l2.length) _ (lhid (by omega)) _ (by omega)).mono ?_
      rintro e w1 ⟨v0, rfl, ho, hb⟩
      have HO := lhid ho
      have HB := lhid hb
      have HG1 := lhid ((hb.block _ (heap_lt hg.out)).trans hg.out)
      have hwb := hb.size
      clear ho hb q0 q1 s1 s2
      go_wp2_with fail
      go_loopw [6, 27] (fun v i wr => ∃ (l : List α) (xs : List Value), ((l = [] ∧ i = .int .i64 0) ∨ (l1 = l ∧ i = .int .i64 1) ∨ (l = l1 ++ l2 ∧ i = .int .i64 2)) ∧ Hid (wr.ownsRow w.heap.size 9 1 v l.length xs) ∧ Hid (RowsE 1 (E w) l xs) ∧ Hid (Below w.heap.size w wr)) (fun _ i _ => 2 - (intOf i).toNat)
      case atStart => exact ⟨[], [], .inl ⟨rfl, rfl⟩, HO, lhid (rowsE_nil _ _), HB⟩
      case round =>
        obtain ⟨l, xs, hc, HV, HR, HBr⟩ := hrel
        have q0 := heap_cell (i := 0) ((HBr.out.block _ (heap_lt hg.out)).trans hg.out) rfl
        have q1 := heap_cell (i := 1) ((HBr.out.block _ (heap_lt hg.out)).trans hg.out) rfl
        have hbr := HBr.out.size
        rcases hc with ⟨rfl, rfl⟩ | ⟨rfl, rfl⟩ | ⟨rfl, rfl⟩
        · go_wp2_with (at_builtin; refine wpList_append_rd (P := P) (E := fun _ => E w) rfl _ _ 34 rfl w.heap.size 9 i0 (.string ⟨#[]⟩) 1 16 Tryz.underlying34 hi hz0 hz1 hz2 rfl (by decide) _ _ xs rfl HV.out (fun _ => hk w) (.slice A1 l1.length c1) l1 rfl (h1.out.const HBr.out) HS1.out (by decide) hbr ?_)
          intro v' w' ys r1 r2 r3
          have R1 := lhid r1
          have R2 := lhid r2
          have R3 := lhid r3
          clear r1 r2 r3
          go_wp2_with fail
          go_roundw
          case rel => exact ⟨_, xs ++ ys, .inr (.inl ⟨(List.nil_append _).symm, rfl⟩), lhid (by simpa using R1.out), lhid (HR.out.app R2.out), lhid (Below.grown HBr.out R3.out hbr (own_lt HV.out))⟩
          case measure => simp [intOf]
        · go_wp2_with (at_builtin; refine wpList_append_rd (P := P) (E := fun _ => E w) rfl _ _ 34 rfl w.heap.size 9 i0 (.string ⟨#[]⟩) 1 16 Tryz.underlying34 hi hz0 hz1 hz2 rfl (by decide) _ _ xs rfl HV.out (fun _ => hk w) (.slice A2 l2.length c2) l2 rfl (h2.out.const HBr.out) HS2.out (by decide) hbr ?_)
          intro v' w' ys r1 r2 r3
          have R1 := lhid r1
          have R2 := lhid r2
          have R3 := lhid r3
          clear r1 r2 r3
          go_wp2_with fail
          go_roundw
          case rel => exact ⟨_, xs ++ ys, .inr (.inr ⟨rfl, rfl⟩), lhid (by simpa using R1.out), lhid (HR.out.app R2.out), lhid (Below.grown HBr.out R3.out hbr (own_lt HV.out))⟩
          case measure => simp [intOf]
        · go_wp2_with fail
          go_ret
          exact ⟨_, xs, rfl, HV.out, HR.out, HBr.out⟩
end Go.Proofs.YtpdnonlelocfbaaGreatDoor
