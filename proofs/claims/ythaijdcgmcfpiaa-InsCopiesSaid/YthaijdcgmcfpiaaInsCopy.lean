/- The walk of Copy. -/
import Derived.Test.YthaijdcgmcfpiaaInsCopy0
import Derived.Deep.Cut
import Derived.Deep.CutRange
import Derived.Deep.RegionHeld3
namespace Go.Proofs.Ythaijdcgmcfpiaa
open Go.RowKit Go
set_option linter.unusedVariables false
set_option linter.unusedSimpArgs false

theorem sizeFun : (Try.prog.info? 34).map (·.size) = some 5 := by kernel_rfl
theorem five_arr (z : Array Value) (hz : z.size = 5) (a b c d e : Value) : ((((z.setIfInBounds 0 a).setIfInBounds 1 b).setIfInBounds 2 c).setIfInBounds 3 d).setIfInBounds 4 e = #[a, b, c, d, e] := by
  obtain ⟨l⟩ := z
  match l, hz with
  | [_, _, _, _, _], _ => simp only [List.setIfInBounds_toArray, List.set_cons_zero, List.set_cons_succ]
theorem five_set {w : World} {R : Nat} {T : TypeId} {z : Array Value} (h : w.heap[R]? = some (.cells z T (0, 0))) (hz : z.size = 5) (a b c d e : Value) :
    (((((w.setCell ⟨R, 0, none⟩ a).setCell ⟨R, 1, none⟩ b).setCell ⟨R, 2, none⟩ c).setCell ⟨R, 3, none⟩ d).setCell ⟨R, 4, none⟩ e).heap[R]? = some (.cells #[a, b, c, d, e] T (0, 0)) := by
  have h0 := heap_set (i := 0) h a
  have h1 := heap_set (i := 1) h0 b
  have h2 := heap_set (i := 2) h1 c
  have h3 := heap_set (i := 3) h2 d
  have h4 := heap_set (i := 4) h3 e
  rw [five_arr z hz] at h4
  exact h4
theorem five_below {B R : Nat} {a0 w : World} (h : Below B a0 w) (hR : B ≤ R) (a b c d e : Value) : Below B a0 (((((w.setCell ⟨R, 0, none⟩ a).setCell ⟨R, 1, none⟩ b).setCell ⟨R, 2, none⟩ c).setCell ⟨R, 3, none⟩ d).setCell ⟨R, 4, none⟩ e) :=
  ((((h.setCell hR a).setCell hR b).setCell hR c).setCell hR d).setCell hR e
theorem five_other {w : World} {R k : Nat} (hk : k ≠ R) (a b c d e : Value) : (((((w.setCell ⟨R, 0, none⟩ a).setCell ⟨R, 1, none⟩ b).setCell ⟨R, 2, none⟩ c).setCell ⟨R, 3, none⟩ d).setCell ⟨R, 4, none⟩ e).heap[k]? = w.heap[k]? :=
  setCells_other hk [a, b, c, d, e] 0 w
def ZBox (w : World) (g : Nat) : Prop := w.heap[g]? = some (.cells #[.slice none 0 0, .slice none 0 0, .int .i64 0, .slice none 0 0, .slice none 0 0] 34 (0, 0))
theorem clone_o {P : Nat → Prop} (v : Value) (l : List Int) (w : World) (h : Hid (RdX P 1 NuE w v l)) (hby : Hid (l.length * 8 ≤ 140737488355328)) :
    Calls Try.prog 50 #[v] w fun e w' => ∃ v', e = .returned v' ∧ OwN w' w.heap.size v' l ∧ Below w.heap.size w w' := by
  refine (clone_nu row_nu v l w h hby.out).mono ?_
  rintro e w1 ⟨v', xs, rfl, ho, hr, hb⟩
  rw [rowsE_nu hr] at ho
  exact ⟨v', rfl, ho, hb⟩
/-- How far a function's lists go. -/
structure CpQ (f : FuI) : Prop where
  regs : f.regs.length * 8 ≤ 140737488355328
  params : f.params.length * 8 ≤ 140737488355328
  code : f.code.length * 96 ≤ 140737488355328
  rows : f.rows.length * 40 ≤ 140737488355328
  args : ∀ x ∈ f.code, x.args.length * 8 ≤ 140737488355328
theorem FuV.lt {P : Nat → Prop} {w : World} {f : FuI} {fa fb fd fe : Value} (h : FuV P w f fa fb fd fe) : FuV (fun g => g < w.heap.size) w f fa fb fd fe :=
  ⟨h.a.mono (fun _ _ h => h) (fun _ _ h => h) nu_ne, h.b.mono (fun _ _ h => h) (fun _ _ h => h) nu_ne, h.d.mono (inE_mono fun _ _ h => h) (fun _ _ h => h) in_ne, h.e.mono (fun _ _ h => h) (fun _ _ h => h) rw_ne⟩
theorem own_apart_rw {w : World} {B g n : Nat} {cur : Array Value} {v : Value} {xs : List Value} (h : w.ownsRow B 45 4 v n xs) (hg : w.heap[g]? = some (.cells cur 24 (0, 0))) : ∀ b, v.ownBlock = some b → b ≠ g := by
  intro b hb e
  subst e
  rcases h.2 with ⟨rfl, _⟩ | ⟨g', cap, c2, rfl, _, h3, _⟩
  · cases hb
  · injection hb with hb
    subst hb
    have h3 : w.heap[g']? = _ := h3
    rw [hg] at h3
    injection h3 with h3
    injection h3 with _ h3
    exact absurd h3 (by decide)
set_option maxHeartbeats 16000000 in
set_option maxRecDepth 100000 in
theorem copy_any {P : Nat → Prop} (f : FuI) (fa fb fd fe : Value) (w : World) (h : Hid (FuV P w f fa fb fd fe)) (hq : Hid (CpQ f)) :
    Calls Try.prog 32 #[fuL fa fb f.ret fd fe] w fun e w' => ∃ a b d c, e = .returned (fuL a b f.ret d c) ∧ CpV w.heap.size w' f a b d c ∧ Below w.heap.size w w' := by
  obtain ⟨R, rcap, hR⟩ := h.out.a.shape
  subst hR
  obtain ⟨S, scap, hS⟩ := h.out.b.shape
  subst hS
  obtain ⟨D, dcap, hD⟩ := h.out.d.shape
  subst hD
  obtain ⟨E, ecap, hE⟩ := h.out.e.shape
  subst hE
  have hdl := h.out.d.len
  obtain ⟨n, hn⟩ : ∃ n, f.code.length = n := ⟨_, rfl⟩
  have HN := lhid hn
  have HQA := lhid hq.out.regs
  have HQB := lhid hq.out.params
  have h0 := h.out.lt
  rw [hn] at hdl h0 ⊢
  have HH := lhid h0
  clear hn h0 h
  obtain ⟨B0, hB0⟩ : ∃ B, B = w.heap.size := ⟨_, rfl⟩
  go_enter Try.func32, Try.ntmps32
  go_upto_region 1 with fail
  generalize hW : World.alloc _ _ = w1
  have hB : Below B0 w w1 := by rw [← hW, hB0]; exact ((Below.refl w.heap.size w).alloc (Nat.le_refl _) _).alloc (by simp) _
  have hF : FBox w1 B0 (.slice R f.regs.length rcap) (.slice S f.params.length scap) f.ret (.slice D n dcap) (.slice E f.rows.length ecap) := by rw [← hW, hB0]; exact (Below.heap_alloc _ _ _ (by simp)).trans (heap_alloc_new w _)
  have hZ : ZBox w1 (B0 + 1) := by rw [← hW, hB0]; exact heap_new2 w _ _
  rw [← hB0]
  have HB1 := lhid hB
  have HF1 := lhid hF
  have HZ1 := lhid hZ
  have HB0 := lhid hB0
  clear hB hF hZ hW hB0
  obtain ⟨p0, p1, p2, p3, p4⟩ := HF1.out.cells
  have zz := heap_thaw HF1.out
  go_wp2_with fail
  with_reducible refine (clone_o (.slice R f.regs.length rcap) f.regs _ (lhid (HH.out.a.below (keptX_nu _) (by have := HB1.out; rw [HB0.out] at this; exact this))) HQA).mono ?_
  rintro e w2 ⟨va, rfl, ho, hb⟩
  obtain ⟨VA, va, hv⟩ := own_shape ho
  subst hv
  have HB2 := lhid (HB1.out.trans (hb.mono (by have h1 := HB1.out.size; have h2 := HB0.out; omega)))
  have HF2 : Hid (FBox w2 B0 (.slice R f.regs.length rcap) (.slice S f.params.length scap) f.ret (.slice D n dcap) (.slice E f.rows.length ecap)) := lhid (heap_keep HF1.out hb)
  have HZ2 : Hid (ZBox w2 (B0 + 1)) := lhid (heap_keep HZ1.out hb)
  have HOA_2 : Hid (OwN w2 (B0 + 2) (.slice VA f.regs.length va) f.regs) := lhid (own_base ho (by have := heap_lt HZ1.out; omega))
  clear ho
  clear hb p0 p1 p2 p3 p4 zz HB1 HF1 HZ1
  obtain ⟨p0, p1, p2, p3, p4⟩ := HF2.out.cells
  have zz := heap_thaw HF2.out
  go_upto_region 2 with fail
  generalize hW : World.setCell _ _ _ = w3
  have HB3 : Hid (Below B0 w w3) := lhid (by rw [← hW]; exact HB2.out.setCell (by rw [HB0.out]; exact Nat.le_refl _) _)
  have HF3 : Hid (FBox w3 B0 (.slice VA f.regs.length va) (.slice S f.params.length scap) f.ret (.slice D n dcap) (.slice E f.rows.length ecap)) := lhid (by rw [← hW]; exact xset2 HF2.out 0 _ rfl)
  have HZ3 : Hid (ZBox w3 (B0 + 1)) := lhid (by rw [← hW]; exact (Below.heap_setCell _ _ _ _ (by show B0 + 1 ≠ B0; omega)).trans HZ2.out)
  have HOA_3 : Hid (OwN w3 (B0 + 2) (.slice VA f.regs.length va) f.regs) := lhid (by rw [← hW]; exact own_of HOA_2.out fun b hb => Below.heap_setCell _ _ _ _ (by have := own_lt HOA_2.out b hb; show b ≠ B0; omega))
  clear hW p0 p1 p2 p3 p4 zz HB2 HF2 HZ2 HOA_2
  obtain ⟨p0, p1, p2, p3, p4⟩ := HF3.out.cells
  have zz := heap_thaw HF3.out
  go_wp2_with fail
  with_reducible refine (clone_o (.slice S f.params.length scap) f.params _ (lhid (HH.out.b.below (keptX_nu _) (by have := HB3.out; rw [HB0.out] at this; exact this))) HQB).mono ?_
  rintro e w4 ⟨vb, rfl, ho, hb⟩
  obtain ⟨VB, vb, hv⟩ := own_shape ho
  subst hv
  have HB4 := lhid (HB3.out.trans (hb.mono (by have h1 := HB3.out.size; have h2 := HB0.out; omega)))
  have HF4 : Hid (FBox w4 B0 (.slice VA f.regs.length va) (.slice S f.params.length scap) f.ret (.slice D n dcap) (.slice E f.rows.length ecap)) := lhid (heap_keep HF3.out hb)
  have HZ4 : Hid (ZBox w4 (B0 + 1)) := lhid (heap_keep HZ3.out hb)
  have HOA_4 : Hid (OwN w4 (B0 + 2) (.slice VA f.regs.length va) f.regs) := lhid (own_below HOA_3.out hb)
  have HOB_4 : Hid (OwN w4 (B0 + 2) (.slice VB f.params.length vb) f.params) := lhid (own_base ho (by have := heap_lt HZ3.out; omega))
  clear ho
  clear hb p0 p1 p2 p3 p4 zz HB3 HF3 HZ3
  obtain ⟨p0, p1, p2, p3, p4⟩ := HF4.out.cells
  have zz := heap_thaw HF4.out
  go_upto_region 3 with fail
  generalize hW : World.setCell _ _ _ = w5
  have HB5 : Hid (Below B0 w w5) := lhid (by rw [← hW]; exact HB4.out.setCell (by rw [HB0.out]; exact Nat.le_refl _) _)
  have HF5 : Hid (FBox w5 B0 (.slice VA f.regs.length va) (.slice VB f.params.length vb) f.ret (.slice D n dcap) (.slice E f.rows.length ecap)) := lhid (by rw [← hW]; exact xset2 HF4.out 1 _ rfl)
  have HZ5 : Hid (ZBox w5 (B0 + 1)) := lhid (by rw [← hW]; exact (Below.heap_setCell _ _ _ _ (by show B0 + 1 ≠ B0; omega)).trans HZ4.out)
  have HOA_5 : Hid (OwN w5 (B0 + 2) (.slice VA f.regs.length va) f.regs) := lhid (by rw [← hW]; exact own_of HOA_4.out fun b hb => Below.heap_setCell _ _ _ _ (by have := own_lt HOA_4.out b hb; show b ≠ B0; omega))
  have HOB_5 : Hid (OwN w5 (B0 + 2) (.slice VB f.params.length vb) f.params) := lhid (by rw [← hW]; exact own_of HOB_4.out fun b hb => Below.heap_setCell _ _ _ _ (by have := own_lt HOB_4.out b hb; show b ≠ B0; omega))
  clear hW p0 p1 p2 p3 p4 zz HB4 HF4 HZ4 HOA_4 HOB_4
  obtain ⟨p0, p1, p2, p3, p4⟩ := HF5.out.cells
  have zz := heap_thaw HF5.out
  go_wp2_with fail
  with_reducible refine (clone_rw row_rw (.slice E f.rows.length ecap) f.rows _ (lhid (HH.out.e.below (keptX_rw _) (by have := HB5.out; rw [HB0.out] at this; exact this))) hq.out.rows).mono ?_
  rintro e w6 ⟨ve, xe, rfl, ho, hre, hb⟩
  obtain ⟨VE, ve, hv⟩ := own_shape ho
  subst hv
  have HRE : Hid (RowsE 4 (RwE w) f.rows xe) := lhid hre
  clear hre
  have HB6 := lhid (HB5.out.trans (hb.mono (by have h1 := HB5.out.size; have h2 := HB0.out; omega)))
  have HF6 : Hid (FBox w6 B0 (.slice VA f.regs.length va) (.slice VB f.params.length vb) f.ret (.slice D n dcap) (.slice E f.rows.length ecap)) := lhid (heap_keep HF5.out hb)
  have HZ6 : Hid (ZBox w6 (B0 + 1)) := lhid (heap_keep HZ5.out hb)
  have HOA_6 : Hid (OwN w6 (B0 + 2) (.slice VA f.regs.length va) f.regs) := lhid (own_below HOA_5.out hb)
  have HOB_6 : Hid (OwN w6 (B0 + 2) (.slice VB f.params.length vb) f.params) := lhid (own_below HOB_5.out hb)
  have HOE_6 : Hid (World.ownsRow w6 (B0 + 2) 45 4 (.slice VE f.rows.length ve) f.rows.length xe) := lhid (own_base ho (by have := heap_lt HZ5.out; omega))
  clear ho
  clear hb p0 p1 p2 p3 p4 zz HB5 HF5 HZ5
  obtain ⟨p0, p1, p2, p3, p4⟩ := HF6.out.cells
  have zz := heap_thaw HF6.out
  go_upto_region 4 with fail
  generalize hW : World.setCell _ _ _ = w7
  have HB7 : Hid (Below B0 w w7) := lhid (by rw [← hW]; exact HB6.out.setCell (by rw [HB0.out]; exact Nat.le_refl _) _)
  have HF7 : Hid (FBox w7 B0 (.slice VA f.regs.length va) (.slice VB f.params.length vb) f.ret (.slice D n dcap) (.slice VE f.rows.length ve)) := lhid (by rw [← hW]; exact xset2 HF6.out 4 _ rfl)
  have HZ7 : Hid (ZBox w7 (B0 + 1)) := lhid (by rw [← hW]; exact (Below.heap_setCell _ _ _ _ (by show B0 + 1 ≠ B0; omega)).trans HZ6.out)
  have HOA_7 : Hid (OwN w7 (B0 + 2) (.slice VA f.regs.length va) f.regs) := lhid (by rw [← hW]; exact own_of HOA_6.out fun b hb => Below.heap_setCell _ _ _ _ (by have := own_lt HOA_6.out b hb; show b ≠ B0; omega))
  have HOB_7 : Hid (OwN w7 (B0 + 2) (.slice VB f.params.length vb) f.params) := lhid (by rw [← hW]; exact own_of HOB_6.out fun b hb => Below.heap_setCell _ _ _ _ (by have := own_lt HOB_6.out b hb; show b ≠ B0; omega))
  have HOE_7 : Hid (World.ownsRow w7 (B0 + 2) 45 4 (.slice VE f.rows.length ve) f.rows.length xe) := lhid (by rw [← hW]; exact own_of HOE_6.out fun b hb => Below.heap_setCell _ _ _ _ (by have := own_lt HOE_6.out b hb; show b ≠ B0; omega))
  clear hW p0 p1 p2 p3 p4 zz HB6 HF6 HZ6 HOA_6 HOB_6 HOE_6
  obtain ⟨p0, p1, p2, p3, p4⟩ := HF7.out.cells
  have zz := heap_thaw HF7.out
  have HD0 : Hid (RdX (fun g => g < w.heap.size) 9 (InE fun g => g < w.heap.size) w7 (.slice D n dcap) f.code) := lhid (HH.out.d.below (keptX_in _) (by have := HB7.out; rw [HB0.out] at this; exact this))
  go_wp2_with fail
  with_reducible refine (clone_in (row_in _) (.slice D n dcap) f.code _ HD0 hq.out.code).mono ?_
  rintro e w8 ⟨vd, xd, rfl, ho, hrd, hb⟩
  rw [HN.out] at ho
  obtain ⟨VD, vdc, hv⟩ := own_shape ho
  subst hv
  have HB8 := lhid (HB7.out.trans (hb.mono (by have h1 := HB7.out.size; have h2 := HB0.out; omega)))
  have HF8 : Hid (FBox w8 B0 (.slice VA f.regs.length va) (.slice VB f.params.length vb) f.ret (.slice D n dcap) (.slice VE f.rows.length ve)) := lhid (heap_keep HF7.out hb)
  have HZ8 : Hid (ZBox w8 (B0 + 1)) := lhid (heap_keep HZ7.out hb)
  have hs0 : B0 + 2 ≤ w7.heap.size := by have := heap_lt HZ7.out; omega
  have HRK : Hid (∀ (v : Value) (a : List Int), RdX (fun g => g < w.heap.size) 1 NuE w7 v a → RdX (fun g => g < w.heap.size) 1 NuE w8 v a) := lhid (fun v a hv => hv.below (keptX_nu _) hb)
  have HOA_8 : Hid (OwN w8 (B0 + 2) (.slice VA f.regs.length va) f.regs) := lhid (own_below HOA_7.out hb)
  have HOB_8 : Hid (OwN w8 (B0 + 2) (.slice VB f.params.length vb) f.params) := lhid (own_below HOB_7.out hb)
  have HOE_8 : Hid (World.ownsRow w8 (B0 + 2) 45 4 (.slice VE f.rows.length ve) f.rows.length xe) := lhid (own_below HOE_7.out hb)
  have HOD := lhid ho
  have HRD := lhid hrd
  clear ho hrd hb p0 p1 p2 p3 p4 zz HB7 HF7 HZ7 HD0
  obtain ⟨p0, p1, p2, p3, p4⟩ := HF8.out.cells
  have zz := heap_thaw HF8.out
  go_upto_region 5 with fail
  generalize hW : World.setCell _ _ _ = wq
  have HB : Hid (Below B0 w wq) := lhid (by rw [← hW]; exact HB8.out.setCell (by rw [HB0.out]; exact Nat.le_refl _) _)
  have HF : Hid (FBox wq B0 (.slice VA f.regs.length va) (.slice VB f.params.length vb) f.ret (.slice VD n vdc) (.slice VE f.rows.length ve)) := lhid (by rw [← hW]; exact xset2 HF8.out 3 _ rfl)
  have HZ : Hid (ZBox wq (B0 + 1)) := lhid (by rw [← hW]; exact (Below.heap_setCell _ _ _ _ (by show B0 + 1 ≠ B0; omega)).trans HZ8.out)
  have HOA : Hid (OwN wq (B0 + 2) (.slice VA f.regs.length va) f.regs) := lhid (by rw [← hW]; exact own_of HOA_8.out fun b hb => Below.heap_setCell _ _ _ _ (by have := own_lt HOA_8.out b hb; show b ≠ B0; omega))
  have HOB : Hid (OwN wq (B0 + 2) (.slice VB f.params.length vb) f.params) := lhid (by rw [← hW]; exact own_of HOB_8.out fun b hb => Below.heap_setCell _ _ _ _ (by have := own_lt HOB_8.out b hb; show b ≠ B0; omega))
  have HOE : Hid (World.ownsRow wq (B0 + 2) 45 4 (.slice VE f.rows.length ve) f.rows.length xe) := lhid (by rw [← hW]; exact own_of HOE_8.out fun b hb => Below.heap_setCell _ _ _ _ (by have := own_lt HOE_8.out b hb; show b ≠ B0; omega))
  have HOQ : Hid (wq.ownsRow (B0 + 2) 24 9 (.slice VD n vdc) n xd) := lhid (by rw [← hW]; exact own_of (own_base HOD.out hs0) fun b hb => Below.heap_setCell _ _ _ _ (by have := own_lt HOD.out b hb; show b ≠ B0; omega))
  have HRQ : Hid (∀ (v : Value) (a : List Int), RdX (fun g => g < w.heap.size) 1 NuE w7 v a → RdX (fun g => g < w.heap.size) 1 NuE wq v a) := lhid (fun v a hv => by rw [← hW]; exact (HRK.out v a hv).kept (keptX_nu _) fun b hb _ => Below.heap_setCell _ _ _ _ (by show b ≠ B0; rw [HB0.out]; exact Nat.ne_of_lt hb))
  clear hW p0 p1 p2 p3 p4 zz HB8 HF8 HZ8 HOD HRK HOA_8 HOB_8 HOE_8
  obtain ⟨p0, p1, p2, p3, p4⟩ := HF.out.cells
  have hways : (VD = none ∧ vdc = 0 ∧ n = 0) ∨ ∃ g cu, VD = some ⟨g, 0, none⟩ ∧ B0 + 2 ≤ g ∧ n ≤ vdc ∧ vdc ≤ maxLen ∧ Hid (wq.heap[g]? = some (.cells cu 24 (0, 0)) ∧ cu.toList.take (n * 9) = xd) := by
    rcases HOQ.out.2 with ⟨h1, h2⟩ | ⟨g, cap, cu, h1, h2, h3, h4, h5, _, h7⟩
    · injection h1 with e1 e2 e3
      exact .inl ⟨e1, e3, h2⟩
    · injection h1 with e1 e2 e3
      subst e3
      exact .inr ⟨g, cu, e1, h2, h4, h5, lhid ⟨h3, h7⟩⟩
  clear HOQ
  rcases hways with ⟨hv1, hv2, hn0⟩ | ⟨g, cu, hv1, hg, hcap, hmax, HGC⟩
  ·
    subst hv1 hv2 hn0
    have HF' := HF
    have HN0 : Hid (f.code = []) := lhid (List.length_eq_zero_iff.1 HN.out)
    go_wp2_with fail
    go_loopw [24] (fun i wr => i = .int .i64 0 ∧ wr = wq) (fun _ _ => 0)
    case atStart => exact ⟨rfl, rfl⟩
    case round =>
      obtain ⟨rfl, hwr⟩ := hrel
      subst hwr
      clear p0 p1 p2 p3 p4
      obtain ⟨p0, p1, p2, p3, p4⟩ := HF.out.cells
      obtain ⟨q0, q1, q2, q3, q4⟩ : wr.cell? ⟨B0 + 1, 0, none⟩ = some (.slice none 0 0) ∧ wr.cell? ⟨B0 + 1, 1, none⟩ = some (.slice none 0 0) ∧ wr.cell? ⟨B0 + 1, 2, none⟩ = some (.int .i64 0) ∧ wr.cell? ⟨B0 + 1, 3, none⟩ = some (.slice none 0 0) ∧ wr.cell? ⟨B0 + 1, 4, none⟩ = some (.slice none 0 0) := ⟨heap_cell HZ.out rfl, heap_cell HZ.out rfl, heap_cell HZ.out rfl, heap_cell HZ.out rfl, heap_cell HZ.out rfl⟩
      have zz := heap_thaw HZ.out
      have HCD : Hid (CodeO (B0 + 2) wr (.slice none 0 0) f.code) := lhid (.inl ⟨rfl, HN0.out⟩)
      go_wp2_with fail
      refine bodyPost_ret (results_cell_row rfl _ _ (B0 + 1) 34 _ _ _ rfl (five_set HZ.out rfl _ _ _ _ _) Try.underlying34 rfl sizeFun) rfl ?_
      have keep : ∀ b, B0 + 2 ≤ b → b ≠ B0 + 1 := fun b hb => by omega
      have oA := HOA.out
      have oB := HOB.out
      have oE := HOE.out
      have oD := HCD.out
      refine ⟨_, _, _, _, rfl, ⟨own_base (own_of oA fun b hb => five_other (keep b (own_lt oA b hb)) _ _ _ _ _) (by rw [← HB0.out]; omega), own_base (own_of oB fun b hb => five_other (keep b (own_lt oB b hb)) _ _ _ _ _) (by rw [← HB0.out]; omega), (oD.keep fun b hb _ => five_other (keep b hb) _ _ _ _ _).base (by rw [← HB0.out]; omega), xe, own_base (own_of oE fun b hb => five_other (keep b (own_lt oE b hb)) _ _ _ _ _) (by rw [← HB0.out]; omega), HRE.out⟩, ?_⟩
      have hbf := five_below (R := B0 + 1) HB.out (by omega) (.slice VA f.regs.length va) (.slice VB f.params.length vb) (.int .i64 f.ret) (.slice none 0 0) (.slice VE f.rows.length ve)
      rw [HB0.out] at hbf ⊢
      exact hbf
  ·
    subst hv1
    have HC : Hid (CoK (fun b => b < w.heap.size) (B0 + 2) wq g vdc f.code 0) := lhid (CoK.start HGC.out.1 HGC.out.2 HRD.out HRQ.out)
    clear HGC HRD HRQ
    go_wp2_with fail
    go_loopw [24] (fun i wr => ∃ k : Nat, i = .int .i64 k ∧ k ≤ n ∧ Hid (CoK (fun b => b < w.heap.size) (B0 + 2) wr g vdc f.code k) ∧ Hid (Below B0 w wr) ∧ Hid (FBox wr B0 (.slice VA f.regs.length va) (.slice VB f.params.length vb) f.ret (.slice (some ⟨g, 0, none⟩) n vdc) (.slice VE f.rows.length ve)) ∧ Hid (ZBox wr (B0 + 1)) ∧ Hid (OwN wr (B0 + 2) (.slice VA f.regs.length va) f.regs) ∧ Hid (OwN wr (B0 + 2) (.slice VB f.params.length vb) f.params) ∧ Hid (World.ownsRow wr (B0 + 2) 45 4 (.slice VE f.rows.length ve) f.rows.length xe)) (fun i _ => n - (intOf i).toNat)
    case atStart => exact ⟨0, rfl, Nat.zero_le _, HC, HB, HF, HZ, HOA, HOB, HOE⟩
    case round =>
      clear HC HB HF HZ HOA HOB HOE p0 p1 p2 p3 p4
      obtain ⟨k, rfl, hk, HC, HB, HF, HZ, HOA, HOB, HOE⟩ := hrel
      by_cases hlt : k < n
      ·
        obtain ⟨x, hx⟩ : ∃ x, f.code[k]? = some x := ⟨_, List.getElem?_eq_getElem (by have := HN.out; omega)⟩
        obtain ⟨v, hv1, c0, c1, c2, c3, c4, c5, c6, c7, c8, zc⟩ := HC.out.cells hx (Nat.le_refl _)
        obtain ⟨VX, vx, rfl⟩ := hv1.shape
        have k3 : (k : Int) < n := by omega
        have HXX := lhid hx
        have HV0 := lhid hv1
        have HQX := lhid (hq.out.args x (List.mem_of_getElem? hx))
        clear hx hv1 zc
        go_upto_region 8 with fail
        generalize hW : World.alloc _ _ = w2
        have hb2 : Below wr.heap.size wr w2 := by rw [← hW]; exact (Below.refl _ _).alloc (Nat.le_refl _) _
        have hX : w2.heap[wr.heap.size]? = some (.cells (insC x (.slice VX x.args.length vx)).toArray 24 (0, 0)) := by rw [← hW]; exact heap_alloc_new wr _
        have HB2 := lhid (HB.out.trans (hb2.mono (by have h1 := HB.out.size; have h2 := HB0.out; omega)))
        have HF2 : Hid (FBox w2 B0 (.slice VA f.regs.length va) (.slice VB f.params.length vb) f.ret (.slice (some ⟨g, 0, none⟩) n vdc) (.slice VE f.rows.length ve)) := lhid (heap_keep HF.out hb2)
        have HZ2 : Hid (ZBox w2 (B0 + 1)) := lhid (heap_keep HZ.out hb2)
        have HOA2 := lhid (own_below HOA.out hb2)
        have HOB2 := lhid (own_below HOB.out hb2)
        have HOE2 := lhid (own_below HOE.out hb2)
        have HC2 := lhid (HC.out.below hb2)
        have HV2 := lhid (HV0.out.below (keptX_nu _) hb2)
        have HX2 := lhid hX
        have hgl : g < w2.heap.size := HC2.out.lt
        have hxl : wr.heap.size < w2.heap.size := heap_lt hX
        have hbl : B0 + 1 < wr.heap.size := heap_lt HZ.out
        have hgr : g < wr.heap.size := HC.out.lt
        clear c0 c1 c2 c3 c4 c5 c6 c7 c8 hW hb2 hX HB HF HZ HOA HOB HOE HC HV0
        have HG : Hid (∀ w' : World, Below w2.heap.size w2 w' → w'.cell? ⟨B0, 3, none⟩ = some (.slice (some ⟨g, 0, none⟩) n vdc) ∧ w'.cell? ⟨wr.heap.size, 8, none⟩ = some (.slice VX x.args.length vx)) := lhid (fun w' hw' => ⟨heap_cell (heap_keep HF2.out hw') rfl, heap_cell (heap_keep HX2.out hw') rfl⟩)
        obtain ⟨s0, s1⟩ := HG.out w2 (Below.refl _ _)
        go_region_held3 (fun w' => w'.cell? ⟨B0, 3, none⟩ = some (.slice (some ⟨g, 0, none⟩) n vdc) ∧ w'.cell? ⟨wr.heap.size, 8, none⟩ = some (.slice VX x.args.length vx)) (first | exact HG.out _ (Below.drew (Below.refl _ _)) | exact HG.out _ (Below.refl _ _) | exact HG.out _ hb7 | exact HG.out _ (Below.drew hb7) | exact ⟨heap_cell ((Below.heap_setCell _ _ _ _ (by show B0 ≠ g; omega)).trans (heap_keep HF2.out hb7)) rfl, heap_cell ((Below.heap_setCell _ _ _ _ (by show wr.heap.size ≠ g; omega)).trans (heap_keep HX2.out hb7)) rfl⟩) (first
          | ((with_reducible refine (clone_o (.slice VX x.args.length vx) x.args _ (lhid (HV2.out.below (keptX_nu _) (Below.drew (Below.refl _ _)))) HQX).mono ?_); rintro e w7 ⟨v7, rfl, ho7, hb7'⟩; obtain ⟨A7, c7, hv7⟩ := own_shape ho7; subst hv7; have hb7 : Below w2.heap.size w2 w7 := ⟨hb7'.os, hb7'.tape, hb7'.output, hb7'.size, hb7'.block⟩; have ho8 : OwN w7 w2.heap.size (.slice A7 x.args.length c7) x.args := ho7; obtain ⟨_, _, _, _, _, _, _, _, _, _, e8, ez⟩ := (HC2.out.below hb7).cells HXX.out (Nat.le_refl _)))
        all_goals
          obtain ⟨w3, hw3⟩ : ∃ w3, w3 = w7 := ⟨_, rfl⟩
          subst hw3
          have HW3 := lhid hb7
          have HO3 := lhid ho8
          obtain ⟨wc, hwc⟩ : ∃ wc, wc = (w3.setCell ⟨g, k * 9 + 8, none⟩ (.slice A7 x.args.length c7)) := ⟨_, rfl⟩
          have HCS : Hid (CoK (fun b => b < w.heap.size) (B0 + 2) wc g vdc f.code (k + 1)) := lhid (by rw [hwc]; exact (HC2.out.below HW3.out).store HXX.out (own_base HO3.out (by omega)) (fun b hb => by have := HB0.out; omega))
          have HBS : Hid (Below B0 w wc) := lhid (by rw [hwc]; exact (HB2.out.trans (HW3.out.mono (by have h1 := HB2.out.size; have h2 := HB0.out; omega))).setCell (by show B0 ≤ g; omega) _)
          have HFS : Hid (FBox wc B0 (.slice VA f.regs.length va) (.slice VB f.params.length vb) f.ret (.slice (some ⟨g, 0, none⟩) n vdc) (.slice VE f.rows.length ve)) := lhid (by rw [hwc]; exact (Below.heap_setCell _ _ _ _ (by show B0 ≠ g; omega)).trans (heap_keep HF2.out HW3.out))
          have HZS : Hid (ZBox wc (B0 + 1)) := lhid (by rw [hwc]; exact (Below.heap_setCell _ _ _ _ (by show B0 + 1 ≠ g; omega)).trans (heap_keep HZ2.out HW3.out))
          have HAP : Hid (∃ cur, w3.heap[g]? = some (.cells cur 24 (0, 0))) := lhid (by obtain ⟨cur, h1, _⟩ := HC2.out.below HW3.out; exact ⟨cur, h1⟩)
          have HOAS : Hid (OwN wc (B0 + 2) (.slice VA f.regs.length va) f.regs) := lhid (by rw [hwc]; obtain ⟨cur, h1⟩ := HAP.out; exact own_of (own_below HOA2.out HW3.out) fun b hb => Below.heap_setCell _ _ _ _ (own_apart (own_below HOA2.out HW3.out) h1 b hb))
          have HOBS : Hid (OwN wc (B0 + 2) (.slice VB f.params.length vb) f.params) := lhid (by rw [hwc]; obtain ⟨cur, h1⟩ := HAP.out; exact own_of (own_below HOB2.out HW3.out) fun b hb => Below.heap_setCell _ _ _ _ (own_apart (own_below HOB2.out HW3.out) h1 b hb))
          have HOES : Hid (World.ownsRow wc (B0 + 2) 45 4 (.slice VE f.rows.length ve) f.rows.length xe) := lhid (by rw [hwc]; obtain ⟨cur, h1⟩ := HAP.out; exact own_of (own_below HOE2.out HW3.out) fun b hb => Below.heap_setCell _ _ _ _ (own_apart_rw (own_below HOE2.out HW3.out) h1 b hb))
          clear HG s0 s1
          first | rw [← hwc] | skip
          clear hwc
          go_wp2_with fail
          go_roundw
          case rel => exact ⟨k + 1, by go_num, by omega, HCS, HBS, HFS, HZS, HOAS, HOBS, HOES⟩
          case measure => simp [intOf]; omega
      · have k3 : ¬ (k : Int) < n := by omega
        have HCN : Hid (CoK (fun b => b < w.heap.size) (B0 + 2) wr g vdc f.code f.code.length) := lhid (by rw [HN.out, ← (show k = n by omega)]; exact HC.out)
        obtain ⟨p0, p1, p2, p3, p4⟩ := HF.out.cells
        obtain ⟨q0, q1, q2, q3, q4⟩ : wr.cell? ⟨B0 + 1, 0, none⟩ = some (.slice none 0 0) ∧ wr.cell? ⟨B0 + 1, 1, none⟩ = some (.slice none 0 0) ∧ wr.cell? ⟨B0 + 1, 2, none⟩ = some (.int .i64 0) ∧ wr.cell? ⟨B0 + 1, 3, none⟩ = some (.slice none 0 0) ∧ wr.cell? ⟨B0 + 1, 4, none⟩ = some (.slice none 0 0) := ⟨heap_cell HZ.out rfl, heap_cell HZ.out rfl, heap_cell HZ.out rfl, heap_cell HZ.out rfl, heap_cell HZ.out rfl⟩
        have zz := heap_thaw HZ.out
        have HCD : Hid (CodeO (B0 + 2) wr (.slice (some ⟨g, 0, none⟩) n vdc) f.code) := lhid (.inr ⟨g, vdc, by rw [HN.out], hg, by rw [HN.out]; exact hcap, hmax, HCN.out.done⟩)
        go_wp2_with fail
        refine bodyPost_ret (results_cell_row rfl _ _ (B0 + 1) 34 _ _ _ rfl (five_set HZ.out rfl _ _ _ _ _) Try.underlying34 rfl sizeFun) rfl ?_
        have keep : ∀ b, B0 + 2 ≤ b → b ≠ B0 + 1 := fun b hb => by omega
        have oA := HOA.out
        have oB := HOB.out
        have oE := HOE.out
        have oD := HCD.out
        refine ⟨_, _, _, _, rfl, ⟨own_base (own_of oA fun b hb => five_other (keep b (own_lt oA b hb)) _ _ _ _ _) (by rw [← HB0.out]; omega), own_base (own_of oB fun b hb => five_other (keep b (own_lt oB b hb)) _ _ _ _ _) (by rw [← HB0.out]; omega), (oD.keep fun b hb _ => five_other (keep b hb) _ _ _ _ _).base (by rw [← HB0.out]; omega), xe, own_base (own_of oE fun b hb => five_other (keep b (own_lt oE b hb)) _ _ _ _ _) (by rw [← HB0.out]; omega), HRE.out⟩, ?_⟩
        have hbf := five_below (R := B0 + 1) HB.out (by omega) (.slice VA f.regs.length va) (.slice VB f.params.length vb) (.int .i64 f.ret) (.slice (some ⟨g, 0, none⟩) n vdc) (.slice VE f.rows.length ve)
        rw [HB0.out] at hbf ⊢
        exact hbf
end Go.Proofs.Ythaijdcgmcfpiaa
