/- The document's Before, After and Across. -/
import Derived.Test.YtoommeiiadobfaaM17
import Derived.Test.YtoommeiiadobfaaJCLivWebM
import Derived.Test.YtoommeiiadobfaaM5
import Derived.Deep.RegionHeld3
namespace Go.Proofs.Ytoommeiiadobfaa
open Go.RowKit Go
set_option linter.unusedVariables false
set_option linter.unusedSimpArgs false
def InR (n R : Nat) (i r : Int) : Prop := (0 ≤ i ∧ i < n) ∧ (0 ≤ r ∧ r < R)
def RdS (f : FuI) (r : Int) (st : List Int) : Prop := ∃ j x, f.code[j]? = some x ∧ r ∈ usesI x ∧ PR f r st j
def RBOut (P : Prop) (w : World) (e : Ending) (w' : World) : Prop := ∃ b : Bool, e = .returned (.bool b) ∧ (b = true ↔ P) ∧ Below w.heap.size w w'
theorem own_one (w : World) (B : Nat) (x : Int) (hB : B ≤ w.heap.size) : OwN (w.alloc (.cells #[.int .i64 x] 3)) B (.slice (some ⟨w.heap.size, 0, none⟩) 1 1) [x] :=
 World.ownsRow_lit (e := 3) (size := 1) w #[Value.int .i64 x] 1 hB (by decide) rfl
theorem from_n (f : FuI) (n : Nat) (hn : f.code.length = n) (fa fb fd fe ov : Value) (st : List Int) (r : Int) (w0 w : World) (h : Hid (FuV Tru w0 f fa fb fd fe)) (hb : Hid (Below w0.heap.size w0 w)) (hrl : Hid (f.rows.length ≤ 1048576)) (hnr : Hid (f.code.length * (f.rows.length + 3) ≤ 1048576)) (hst : Hid (st.length ≤ 1048576)) (ha : Hid (∀ x ∈ f.code, x.args.length * 8 ≤ 140737488355328 ∧ (usesI x).length * 8 ≤ 140737488355328)) (hov : Hid (OwN w w0.heap.size ov st)) :
  Calls Try.prog 33 #[fuL fa fb f.ret fd fe, ov, .int .i64 r] w fun e w' => ∃ z : Bool, e = .returned (.bool z) ∧ (z = true ↔ RdS f r st) ∧ Below w0.heap.size w0 w' := by
 refine (from_any f fa fb fd fe ov st r w0.heap.size w (lhid ((h.out.lt').below hb.out)) (lhid hb.out.size) hrl hnr hst ha hov).mono ?_
 rintro e w' ⟨z, rfl, h1, h2, h3⟩
 refine ⟨z, rfl, ?_, hb.out.trans h2⟩
 rw [h1]
 exact ⟨fun ⟨i, x, a, b, c⟩ => ⟨i, x, a, b, c⟩, fun ⟨i, x, a, b, c⟩ => ⟨i, x, a, b, c⟩⟩
set_option maxHeartbeats 16000000 in
set_option maxRecDepth 100000 in
theorem rbefore_any (f : FuI) (n R : Nat) (hn : f.code.length = n) (hR : f.regs.length = R) (fa fb fd fe : Value) (i r : Int) (w : World) (h : Hid (FuV Tru w f fa fb fd fe)) (hrl : Hid (f.rows.length ≤ 1048576)) (hnr : Hid (f.code.length * (f.rows.length + 3) ≤ 1048576)) (ha : Hid (∀ x ∈ f.code, x.args.length * 8 ≤ 140737488355328 ∧ (usesI x).length * 8 ≤ 140737488355328)) :
  Calls Try.prog 11 #[fuL fa fb f.ret fd fe, .int .i64 i, .int .i64 r] w fun e w' => RBOut (InR n R i r ∧ RdS f r [i]) w e w' := by
 obtain ⟨FA, ac, hFA⟩ := h.out.a.shape
 subst hFA
 obtain ⟨FB, bc, hFB⟩ := h.out.b.shape
 subst hFB
 obtain ⟨D, dcap, hD⟩ := h.out.d.shape
 subst hD
 obtain ⟨E, ecap, hE⟩ := h.out.e.shape
 subst hE
 have HN := lhid hn
 have hf2 := h.out
 rw [hn, hR] at hf2 ⊢
 have HFU := lhid hf2
 clear hR hn hf2 h
 go_enter Try.func11, Try.ntmps11
 go_upto_region 1 with fail
 generalize hW : World.alloc _ _ = w1
 obtain ⟨B0, hB0⟩ : ∃ B0, B0 = w.heap.size := ⟨_, rfl⟩
 rw [← hB0]
 have hb1 : Below w.heap.size w w1 := by rw [← hW]; exact (Below.refl _ _).alloc (Nat.le_refl _) _
 have hF1 : FBox w1 B0 (.slice FA R ac) (.slice FB f.params.length bc) f.ret (.slice D n dcap) (.slice E f.rows.length ecap) := by rw [← hW, hB0]; exact heap_alloc_new w _
 have HF1 := lhid hF1
 have HB1 := lhid hb1
 have HU1 := lhid (HFU.out.below hb1)
 have HG : Hid (∀ w' : World, Below w1.heap.size w1 w' → w'.cell? ⟨B0, 0, none⟩ = some (.slice FA R ac) ∧ w'.cell? ⟨B0, 1, none⟩ = some (.slice FB f.params.length bc) ∧ w'.cell? ⟨B0, 2, none⟩ = some (.int .i64 f.ret) ∧ w'.cell? ⟨B0, 3, none⟩ = some (.slice D n dcap) ∧ w'.cell? ⟨B0, 4, none⟩ = some (.slice E f.rows.length ecap)) := lhid (fun w' hw' => by
  have k1 : FBox w' B0 (.slice FA R ac) (.slice FB f.params.length bc) f.ret (.slice D n dcap) (.slice E f.rows.length ecap) := heap_keep hF1 hw'
  exact k1.cells)
 clear hW hb1 hF1 hB0
 by_cases h0 : 0 ≤ i
 ·by_cases h1 : i < n
  ·by_cases h2 : 0 ≤ r
   ·by_cases h3 : r < R
    ·obtain ⟨p0, p1, p2, p3, p4⟩ := HF1.out.cells
     have HIN : Hid (InR n R i r) := lhid ⟨⟨h0, h1⟩, ⟨h2, h3⟩⟩
     go_wp2_with fail
     generalize hW : World.alloc _ _ = w2
     have hb2 : Below w1.heap.size w1 w2 := by rw [← hW]; exact (Below.refl _ _).alloc (Nat.le_refl _) _
     have ho : OwN w2 w1.heap.size (.slice (some ⟨w1.heap.size, 0, none⟩) 1 1) [i] := by rw [← hW]; exact own_one w1 _ i (Nat.le_refl _)
     clear hW
     with_reducible refine (from_n f n HN.out _ _ _ _ _ [i] r w1 w2 HU1 (lhid hb2) hrl hnr (lhid (by simp)) ha (lhid ho)).mono ?_
     rintro e w3 ⟨z, rfl, hz, hb3⟩
     have HZ := lhid hz
     have HB3 := lhid hb3
     clear hz hb3 ho hb2 p0 p1 p2 p3 p4
     go_wp2_with fail
     go_ret
     exact ⟨z, rfl, ⟨fun h => ⟨HIN.out, HZ.out.1 h⟩, fun h => HZ.out.2 h.2⟩, HB1.out.trans (HB3.out.mono HB1.out.size)⟩
    ·obtain ⟨p0, p1, p2, p3, p4⟩ := HF1.out.cells
     go_wp2_with fail
     go_ret
     exact ⟨false, rfl, ⟨fun h => (by cases h), fun h => absurd h.1 (by unfold InR; omega)⟩, HB1.out⟩
   ·obtain ⟨p0, p1, p2, p3, p4⟩ := HF1.out.cells
    go_wp2_with fail
    go_ret
    exact ⟨false, rfl, ⟨fun h => (by cases h), fun h => absurd h.1 (by unfold InR; omega)⟩, HB1.out⟩
  ·obtain ⟨p0, p1, p2, p3, p4⟩ := HF1.out.cells
   go_wp2_with fail
   go_ret
   exact ⟨false, rfl, ⟨fun h => (by cases h), fun h => absurd h.1 (by unfold InR; omega)⟩, HB1.out⟩
 ·obtain ⟨p0, p1, p2, p3, p4⟩ := HF1.out.cells
  go_wp2_with fail
  go_ret
  exact ⟨false, rfl, ⟨fun h => (by cases h), fun h => absurd h.1 (by unfold InR; omega)⟩, HB1.out⟩
theorem own_lo {w : World} {B B' e size n : Nat} {v : Value} {xs : List Value} (h : w.ownsRow B e size v n xs) (hB : B' ≤ B) : w.ownsRow B' e size v n xs := by
 refine ⟨h.1, ?_⟩
 rcases h.2 with h2 | ⟨g, cap, cur, h1, h2, h3⟩
 ·exact .inl h2
 ·exact .inr ⟨g, cap, cur, h1, Nat.le_trans hB h2, h3⟩
set_option maxHeartbeats 16000000 in
set_option maxRecDepth 100000 in
theorem rafter_any (f : FuI) (n R : Nat) (hn : f.code.length = n) (hR : f.regs.length = R) (fa fb fd fe : Value) (i r : Int) (w : World) (h : Hid (FuV Tru w f fa fb fd fe)) (hrl : Hid (f.rows.length ≤ 1048576)) (hnr : Hid (f.code.length * (f.rows.length + 3) ≤ 1048576)) (ha : Hid (∀ x ∈ f.code, x.args.length * 8 ≤ 140737488355328 ∧ (usesI x).length * 8 ≤ 140737488355328)) :
    Calls Try.prog 13 #[fuL fa fb f.ret fd fe, .int .i64 i, .int .i64 r] w fun e w' => RBOut (InR n R i r ∧ RdS f r (nextL f i)) w e w' := by
  obtain ⟨FA, ac, hFA⟩ := h.out.a.shape
  subst hFA
  obtain ⟨FB, bc, hFB⟩ := h.out.b.shape
  subst hFB
  obtain ⟨D, dcap, hD⟩ := h.out.d.shape
  subst hD
  obtain ⟨E, ecap, hE⟩ := h.out.e.shape
  subst hE
  have HN := lhid hn
  have hf2 := h.out
  rw [hn, hR] at hf2 ⊢
  have HFU := lhid hf2
  clear hR hn hf2 h
  go_enter Try.func13, Try.ntmps13
  go_upto_region 1 with fail
  generalize hW : World.alloc _ _ = w1
  obtain ⟨B0, hB0⟩ : ∃ B0, B0 = w.heap.size := ⟨_, rfl⟩
  rw [← hB0]
  have hb1 : Below w.heap.size w w1 := by rw [← hW]; exact (Below.refl _ _).alloc (Nat.le_refl _) _
  have hF1 : FBox w1 B0 (.slice FA R ac) (.slice FB f.params.length bc) f.ret (.slice D n dcap) (.slice E f.rows.length ecap) := by rw [← hW, hB0]; exact heap_alloc_new w _
  have HF1 := lhid hF1
  have HB1 := lhid hb1
  have HU1 := lhid (HFU.out.below hb1)
  have HG : Hid (∀ w' : World, Below w1.heap.size w1 w' → w'.cell? ⟨B0, 0, none⟩ = some (.slice FA R ac) ∧ w'.cell? ⟨B0, 1, none⟩ = some (.slice FB f.params.length bc) ∧ w'.cell? ⟨B0, 2, none⟩ = some (.int .i64 f.ret) ∧ w'.cell? ⟨B0, 3, none⟩ = some (.slice D n dcap) ∧ w'.cell? ⟨B0, 4, none⟩ = some (.slice E f.rows.length ecap)) := lhid (fun w' hw' => by
    have k1 : FBox w' B0 (.slice FA R ac) (.slice FB f.params.length bc) f.ret (.slice D n dcap) (.slice E f.rows.length ecap) := heap_keep hF1 hw'
    exact k1.cells)
  clear hW hb1 hF1 hB0
  by_cases h0 : 0 ≤ i
  · by_cases h1 : i < n
    · by_cases h2 : 0 ≤ r
      · by_cases h3 : r < R
        · have HIN : Hid (InR n R i r) := lhid ⟨⟨h0, h1⟩, ⟨h2, h3⟩⟩
          obtain ⟨nl, hnl⟩ : ∃ nl, nextL f i = nl := ⟨_, rfl⟩
          have HNL := lhid hnl
          have HN2 : Hid (nl.length ≤ 1048576) := lhid (by rw [← hnl]; have := nextL_two f i; omega)
          clear hnl
          refine wp_region_held_drew (S := fun w' => Below w1.heap.size w1 w') (by kernel_rfl) (Below.drew' (Below.refl _ _)) ?_
          intro hS0
          refine wpAnyH_take (i := 0) (v := ?tv1) rfl (by kernel_rfl) (by kernel_rfl) (by kernel_rfl) (fun _ _ _ h => h) (Or.inl ⟨by rfl, ?ty1⟩) hS0 ?tr1
          case ty1 => (intro w' hw'; obtain ⟨p0, p1, p2, p3, p4⟩ := HG.out w' hw'; go_simp; try with_reducible rfl)
          try simp only [List.getElem_toArray, List.getElem_cons_zero, List.getElem_cons_succ]
          try simp only [Act.put, List.setIfInBounds_toArray, List.set_cons_zero, List.set_cons_succ]
          refine wpAnyH_take (i := 1) (v := ?tv2) rfl (by kernel_rfl) (by kernel_rfl) (by kernel_rfl) (fun _ _ _ h => h) (Or.inl ⟨by rfl, ?ty2⟩) hS0 ?tr2
          case ty2 => (intro w' hw'; obtain ⟨p0, p1, p2, p3, p4⟩ := HG.out w' hw'; go_simp; try with_reducible rfl)
          try simp only [List.getElem_toArray, List.getElem_cons_zero, List.getElem_cons_succ]
          try simp only [Act.put, List.setIfInBounds_toArray, List.set_cons_zero, List.set_cons_succ]
          refine wpAnyH_take (i := 2) (v := ?tv3) rfl (by kernel_rfl) (by kernel_rfl) (by kernel_rfl) (fun _ _ _ h => h) (Or.inl ⟨by rfl, ?ty3⟩) hS0 ?tr3
          case ty3 => (intro w' hw'; obtain ⟨p0, p1, p2, p3, p4⟩ := HG.out w' hw'; go_simp; try with_reducible rfl)
          try simp only [List.getElem_toArray, List.getElem_cons_zero, List.getElem_cons_succ]
          try simp only [Act.put, List.setIfInBounds_toArray, List.set_cons_zero, List.set_cons_succ]
          refine wpAnyH_take (i := 3) (v := ?tv4) rfl (by kernel_rfl) (by kernel_rfl) (by kernel_rfl) (fun _ _ _ h => h) (Or.inl ⟨by rfl, ?ty4⟩) hS0 ?tr4
          case ty4 => (intro w' hw'; obtain ⟨p0, p1, p2, p3, p4⟩ := HG.out w' hw'; go_simp; try with_reducible rfl)
          try simp only [List.getElem_toArray, List.getElem_cons_zero, List.getElem_cons_succ]
          try simp only [Act.put, List.setIfInBounds_toArray, List.set_cons_zero, List.set_cons_succ]
          refine wpAnyH_take (i := 4) (v := ?tv5) rfl (by kernel_rfl) (by kernel_rfl) (by kernel_rfl) (fun _ _ _ h => h) (Or.inl ⟨by rfl, ?ty5⟩) hS0 ?tr5
          case ty5 => (intro w' hw'; obtain ⟨p0, p1, p2, p3, p4⟩ := HG.out w' hw'; go_simp; try with_reducible rfl)
          try simp only [List.getElem_toArray, List.getElem_cons_zero, List.getElem_cons_succ]
          try simp only [Act.put, List.setIfInBounds_toArray, List.set_cons_zero, List.set_cons_succ]
          refine wpAnyH_take (i := 5) (v := ?tv6) rfl (by kernel_rfl) (by kernel_rfl) (by kernel_rfl) (fun _ _ _ h => h) (Or.inl ⟨by rfl, ?ty6⟩) hS0 ?tr6
          case ty6 => (intro w' hw'; obtain ⟨p0, p1, p2, p3, p4⟩ := HG.out w' hw'; go_simp; try with_reducible rfl)
          try simp only [List.getElem_toArray, List.getElem_cons_zero, List.getElem_cons_succ]
          try simp only [Act.put, List.setIfInBounds_toArray, List.set_cons_zero, List.set_cons_succ]
          refine wpAnyH_take (i := 6) (v := ?tv7) rfl (by kernel_rfl) (by kernel_rfl) (by kernel_rfl) (fun _ _ _ h => h) (Or.inl ⟨by rfl, ?ty7⟩) hS0 ?tr7
          case ty7 => (intro w' hw'; obtain ⟨p0, p1, p2, p3, p4⟩ := HG.out w' hw'; go_simp; try with_reducible rfl)
          try simp only [List.getElem_toArray, List.getElem_cons_zero, List.getElem_cons_succ]
          try simp only [Act.put, List.setIfInBounds_toArray, List.set_cons_zero, List.set_cons_succ]
          refine wpAnyH_take (i := 7) (v := ?tv8) rfl (by kernel_rfl) (by kernel_rfl) (by kernel_rfl) (fun _ _ _ h => h) (Or.inl ⟨by rfl, ?ty8⟩) hS0 ?tr8
          case ty8 => (intro w' hw'; obtain ⟨p0, p1, p2, p3, p4⟩ := HG.out w' hw'; go_simp; try with_reducible rfl)
          try simp only [List.getElem_toArray, List.getElem_cons_zero, List.getElem_cons_succ]
          try simp only [Act.put, List.setIfInBounds_toArray, List.set_cons_zero, List.set_cons_succ]
          refine wpAnyH_take (i := 8) (v := ?tv9) rfl (by kernel_rfl) (by kernel_rfl) (by kernel_rfl) (fun _ _ _ h => h) (Or.inl ⟨by rfl, ?ty9⟩) hS0 ?tr9
          case ty9 => (intro w' hw'; obtain ⟨p0, p1, p2, p3, p4⟩ := HG.out w' hw'; go_simp; try with_reducible rfl)
          try simp only [List.getElem_toArray, List.getElem_cons_zero, List.getElem_cons_succ]
          try simp only [Act.put, List.setIfInBounds_toArray, List.set_cons_zero, List.set_cons_succ]
          refine wpAnyH_take (i := 9) (v := ?tv10) rfl (by kernel_rfl) (by kernel_rfl) (by kernel_rfl) (fun _ _ _ h => h) (Or.inl ⟨by rfl, ?ty10⟩) hS0 ?tr10
          case ty10 => (intro w' hw'; obtain ⟨p0, p1, p2, p3, p4⟩ := HG.out w' hw'; go_simp; try with_reducible rfl)
          try simp only [List.getElem_toArray, List.getElem_cons_zero, List.getElem_cons_succ]
          try simp only [Act.put, List.setIfInBounds_toArray, List.set_cons_zero, List.set_cons_succ]
          refine wpAnyH_take (i := 10) (v := ?tv11) rfl (by kernel_rfl) (by kernel_rfl) (by kernel_rfl) (fun _ _ _ h => h) (Or.inl ⟨by rfl, ?ty11⟩) hS0 ?tr11
          case ty11 => (intro w' hw'; obtain ⟨p0, p1, p2, p3, p4⟩ := HG.out w' hw'; go_simp; try with_reducible rfl)
          try simp only [List.getElem_toArray, List.getElem_cons_zero, List.getElem_cons_succ]
          try simp only [Act.put, List.setIfInBounds_toArray, List.set_cons_zero, List.set_cons_succ]
          refine wpAnyH_take (i := 11) (v := ?tv12) rfl (by kernel_rfl) (by kernel_rfl) (by kernel_rfl) (fun _ _ _ h => h) (Or.inl ⟨by rfl, ?ty12⟩) hS0 ?tr12
          case ty12 => (intro w' hw'; obtain ⟨p0, p1, p2, p3, p4⟩ := HG.out w' hw'; go_simp; try with_reducible rfl)
          try simp only [List.getElem_toArray, List.getElem_cons_zero, List.getElem_cons_succ]
          try simp only [Act.put, List.setIfInBounds_toArray, List.set_cons_zero, List.set_cons_succ]
          refine wpAnyH_take (i := 12) (v := ?tv13) rfl (by kernel_rfl) (by kernel_rfl) (by kernel_rfl) (fun _ _ _ h => h) (Or.inl ⟨by rfl, ?ty13⟩) hS0 ?tr13
          case ty13 => (intro w' hw'; obtain ⟨p0, p1, p2, p3, p4⟩ := HG.out w' hw'; go_simp; try with_reducible rfl)
          try simp only [List.getElem_toArray, List.getElem_cons_zero, List.getElem_cons_succ]
          try simp only [Act.put, List.setIfInBounds_toArray, List.set_cons_zero, List.set_cons_succ]
          refine wpAnyH_take (i := 13) (v := ?tv14) rfl (by kernel_rfl) (by kernel_rfl) (by kernel_rfl) (fun _ _ _ h => h) (Or.inl ⟨by rfl, ?ty14⟩) hS0 ?tr14
          case ty14 => (intro w' hw'; obtain ⟨p0, p1, p2, p3, p4⟩ := HG.out w' hw'; go_simp; try with_reducible rfl)
          try simp only [List.getElem_toArray, List.getElem_cons_zero, List.getElem_cons_succ]
          try simp only [Act.put, List.setIfInBounds_toArray, List.set_cons_zero, List.set_cons_succ]
          refine wpAnyH_take (i := 14) (v := ?tv15) rfl (by kernel_rfl) (by kernel_rfl) (by kernel_rfl) (fun _ _ _ h => h) (Or.inl ⟨by rfl, ?ty15⟩) hS0 ?tr15
          case ty15 => (intro w' hw'; obtain ⟨p0, p1, p2, p3, p4⟩ := HG.out w' hw'; go_simp; try with_reducible rfl)
          try simp only [List.getElem_toArray, List.getElem_cons_zero, List.getElem_cons_succ]
          try simp only [Act.put, List.setIfInBounds_toArray, List.set_cons_zero, List.set_cons_succ]
          refine wpAnyH_take (i := 15) (v := ?tv16) rfl (by kernel_rfl) (by kernel_rfl) (by kernel_rfl) (fun _ _ _ h => h) (Or.inl ⟨by rfl, ?ty16⟩) hS0 ?tr16
          case ty16 => (intro w' hw'; obtain ⟨p0, p1, p2, p3, p4⟩ := HG.out w' hw'; go_simp; try with_reducible rfl)
          try simp only [List.getElem_toArray, List.getElem_cons_zero, List.getElem_cons_succ]
          try simp only [Act.put, List.setIfInBounds_toArray, List.set_cons_zero, List.set_cons_succ]
          refine wpAnyH_take (i := 16) (v := ?tv17) rfl (by kernel_rfl) (by kernel_rfl) (by kernel_rfl) (fun _ _ _ h => h) (Or.inl ⟨by rfl, ?ty17⟩) hS0 ?tr17
          case ty17 => (intro w' hw'; obtain ⟨p0, p1, p2, p3, p4⟩ := HG.out w' hw'; go_simp; try with_reducible rfl)
          try simp only [List.getElem_toArray, List.getElem_cons_zero, List.getElem_cons_succ]
          try simp only [Act.put, List.setIfInBounds_toArray, List.set_cons_zero, List.set_cons_succ]
          refine wpAnyH_take (i := 17) (v := ?tv18) rfl (by kernel_rfl) (by kernel_rfl) (by kernel_rfl) (fun _ _ _ h => h) (Or.inl ⟨by rfl, ?ty18⟩) hS0 ?tr18
          case ty18 => (intro w' hw'; obtain ⟨p0, p1, p2, p3, p4⟩ := HG.out w' hw'; go_simp; try with_reducible rfl)
          try simp only [List.getElem_toArray, List.getElem_cons_zero, List.getElem_cons_succ]
          try simp only [Act.put, List.setIfInBounds_toArray, List.set_cons_zero, List.set_cons_succ]
          refine wpAnyH_take (i := 18) (v := ?tv19) rfl (by kernel_rfl) (by kernel_rfl) (by kernel_rfl) (fun _ _ _ h => h) (Or.inl ⟨by rfl, ?ty19⟩) hS0 ?tr19
          case ty19 => (intro w' hw'; obtain ⟨p0, p1, p2, p3, p4⟩ := HG.out w' hw'; go_simp; try with_reducible rfl)
          try simp only [List.getElem_toArray, List.getElem_cons_zero, List.getElem_cons_succ]
          try simp only [Act.put, List.setIfInBounds_toArray, List.set_cons_zero, List.set_cons_succ]
          refine wpAnyH_take (i := 19) (v := ?tv20) rfl (by kernel_rfl) (by kernel_rfl) (by kernel_rfl) (fun _ _ _ h => h) (Or.inl ⟨by rfl, ?ty20⟩) hS0 ?tr20
          case ty20 => (intro w' hw'; obtain ⟨p0, p1, p2, p3, p4⟩ := HG.out w' hw'; go_simp; try with_reducible rfl)
          try simp only [List.getElem_toArray, List.getElem_cons_zero, List.getElem_cons_succ]
          try simp only [Act.put, List.setIfInBounds_toArray, List.set_cons_zero, List.set_cons_succ]
          refine wpAnyH_take (i := 20) (v := ?tv21) rfl (by kernel_rfl) (by kernel_rfl) (by kernel_rfl) (fun _ _ _ h => h) (Or.inl ⟨by rfl, ?ty21⟩) hS0 ?tr21
          case ty21 => (intro w' hw'; obtain ⟨p0, p1, p2, p3, p4⟩ := HG.out w' hw'; go_simp; try with_reducible rfl)
          try simp only [List.getElem_toArray, List.getElem_cons_zero, List.getElem_cons_succ]
          try simp only [Act.put, List.setIfInBounds_toArray, List.set_cons_zero, List.set_cons_succ]
          refine wpAnyH_take (i := 21) (v := ?tv22) rfl (by kernel_rfl) (by kernel_rfl) (by kernel_rfl) (fun _ _ _ h => h) (Or.inl ⟨by rfl, ?ty22⟩) hS0 ?tr22
          case ty22 => (intro w' hw'; obtain ⟨p0, p1, p2, p3, p4⟩ := HG.out w' hw'; go_simp; try with_reducible rfl)
          try simp only [List.getElem_toArray, List.getElem_cons_zero, List.getElem_cons_succ]
          try simp only [Act.put, List.setIfInBounds_toArray, List.set_cons_zero, List.set_cons_succ]
          refine wpAnyH_take (i := 22) (v := ?tv23) rfl (by kernel_rfl) (by kernel_rfl) (by kernel_rfl) (fun _ _ _ h => h) (Or.inl ⟨by rfl, ?ty23⟩) hS0 ?tr23
          case ty23 => (intro w' hw'; obtain ⟨p0, p1, p2, p3, p4⟩ := HG.out w' hw'; go_simp; try with_reducible rfl)
          try simp only [List.getElem_toArray, List.getElem_cons_zero, List.getElem_cons_succ]
          try simp only [Act.put, List.setIfInBounds_toArray, List.set_cons_zero, List.set_cons_succ]
          refine wpAnyH_take (i := 23) (v := ?tv24) rfl (by kernel_rfl) (by kernel_rfl) (by kernel_rfl) (fun _ _ _ h => h) (Or.inl ⟨by rfl, ?ty24⟩) hS0 ?tr24
          case ty24 => (intro w' hw'; obtain ⟨p0, p1, p2, p3, p4⟩ := HG.out w' hw'; go_simp; try with_reducible rfl)
          try simp only [List.getElem_toArray, List.getElem_cons_zero, List.getElem_cons_succ]
          try simp only [Act.put, List.setIfInBounds_toArray, List.set_cons_zero, List.set_cons_succ]
          refine wpAnyH_take (i := 25) (v := ?tv25) rfl (by kernel_rfl) (by kernel_rfl) (by kernel_rfl) (fun _ _ _ h => h) (Or.inl ⟨by rfl, ?ty25⟩) hS0 ?tr25
          case ty25 => (intro w' hw'; obtain ⟨p0, p1, p2, p3, p4⟩ := HG.out w' hw'; go_simp; try with_reducible rfl)
          try simp only [List.getElem_toArray, List.getElem_cons_zero, List.getElem_cons_succ]
          try simp only [Act.put, List.setIfInBounds_toArray, List.set_cons_zero, List.set_cons_succ]
          refine wpAnyH_ready (rs := [24]) (by kernel_rfl) (by simp) ?_
          refine AllReadyH.cons rfl (fun K hK => ?_) AllReadyH.nil
          rw [if_pos (by rfl)]
          go_simp
          refine (rnext_w f n HN.out nl _ _ _ _ i _ (lhid (HU1.out.below hS0)) HNL).mono ?_
          rintro e w4 ⟨v, rfl, ho, hb4⟩
          have hS4 : Below w1.heap.size w1 w4 := hS0.trans (hb4.mono hS0.size)
          have HO4 : Hid (OwN w4 w1.heap.size v nl) := lhid (own_lo ho hS0.size)
          obtain ⟨VA, vc, hv⟩ := own_shape ho
          subst hv
          clear ho hb4
          dsimp only
          refine hK.out _ _ hS4 (fun _ => ?_)
          clear hK K
          try simp only [Act.put, List.setIfInBounds_toArray, List.set_cons_zero, List.set_cons_succ]
          refine wpAnyH_ready (rs := [26]) (by kernel_rfl) (by simp) ?_
          refine AllReadyH.cons rfl (fun K hK => ?_) AllReadyH.nil
          rw [if_pos (by rfl)]
          go_simp
          refine (from_n f n HN.out _ _ _ _ _ nl r w1 w4 HU1 (lhid hS4) hrl hnr HN2 ha HO4).mono ?_
          rintro e w5 ⟨z, rfl, hz, hb5⟩
          have HZ := lhid hz
          clear hz
          dsimp only
          refine hK.out _ _ hb5 (fun _ => ?_)
          clear hK K
          try simp only [Act.put, List.setIfInBounds_toArray, List.set_cons_zero, List.set_cons_succ]
          refine wpAnyH_quiet_tail 27 (by rfl) (by kernel_rfl) (by kernel_rfl) hb5 ?_
          simp only [List.drop_succ_cons, List.drop_zero]
          repeat (first
            | go_big_quiet_skip
            | (go_big_quiet_want
               refine quiet_of_run (v := ?_) (fun w' hw' => ?_) ?_
               rotate_left
               · (go_simp; try with_reducible rfl)
               go_big_quiet_on
               try simp only [Act.put, List.setIfInBounds_toArray, List.set_cons_zero, List.set_cons_succ]))
          refine wpQuiet_nil ?_
          intro wx hwx
          have HW := lhid (HB1.out.trans (hwx.mono HB1.out.size))
          clear hwx hb5 hS4 hS0
          go_wp2_with fail
          go_ret
          exact ⟨z, rfl, ⟨fun h => ⟨HIN.out, by rw [HNL.out]; exact HZ.out.1 h⟩, fun h => HZ.out.2 (by rw [← HNL.out]; exact h.2)⟩, HW.out⟩
        · refine wp_region_quiet_c (C := fun w' => Below w1.heap.size w1 w') (by kernel_rfl) (by kernel_rfl) (Below.drew' (Below.refl _ _)) ?_
          repeat (first
            | go_big_quiet_skip
            | (go_big_quiet_want
               refine quiet_of_run (v := ?_) (fun w' hw' => ?_) ?_
               rotate_left
               · (obtain ⟨p0, p1, p2, p3, p4⟩ := HG.out w' hw'; go_simp; try with_reducible rfl)
               go_big_quiet_on
               try simp only [Act.put, List.setIfInBounds_toArray, List.set_cons_zero, List.set_cons_succ]))
          refine wpQuiet_nil ?_
          intro wx hwx
          have HW := lhid (HB1.out.trans (hwx.mono HB1.out.size))
          clear hwx
          go_wp2_with fail
          go_ret
          exact ⟨false, rfl, ⟨fun h => (by cases h), fun h => absurd h.1 (by unfold InR; omega)⟩, HW.out⟩
      · refine wp_region_quiet_c (C := fun w' => Below w1.heap.size w1 w') (by kernel_rfl) (by kernel_rfl) (Below.drew' (Below.refl _ _)) ?_
        repeat (first
          | go_big_quiet_skip
          | (go_big_quiet_want
             refine quiet_of_run (v := ?_) (fun w' hw' => ?_) ?_
             rotate_left
             · (obtain ⟨p0, p1, p2, p3, p4⟩ := HG.out w' hw'; go_simp; try with_reducible rfl)
             go_big_quiet_on
             try simp only [Act.put, List.setIfInBounds_toArray, List.set_cons_zero, List.set_cons_succ]))
        refine wpQuiet_nil ?_
        intro wx hwx
        have HW := lhid (HB1.out.trans (hwx.mono HB1.out.size))
        clear hwx
        go_wp2_with fail
        go_ret
        exact ⟨false, rfl, ⟨fun h => (by cases h), fun h => absurd h.1 (by unfold InR; omega)⟩, HW.out⟩
    · refine wp_region_quiet_c (C := fun w' => Below w1.heap.size w1 w') (by kernel_rfl) (by kernel_rfl) (Below.drew' (Below.refl _ _)) ?_
      repeat (first
        | go_big_quiet_skip
        | (go_big_quiet_want
           refine quiet_of_run (v := ?_) (fun w' hw' => ?_) ?_
           rotate_left
           · (obtain ⟨p0, p1, p2, p3, p4⟩ := HG.out w' hw'; go_simp; try with_reducible rfl)
           go_big_quiet_on
           try simp only [Act.put, List.setIfInBounds_toArray, List.set_cons_zero, List.set_cons_succ]))
      refine wpQuiet_nil ?_
      intro wx hwx
      have HW := lhid (HB1.out.trans (hwx.mono HB1.out.size))
      clear hwx
      go_wp2_with fail
      go_ret
      exact ⟨false, rfl, ⟨fun h => (by cases h), fun h => absurd h.1 (by unfold InR; omega)⟩, HW.out⟩
  · refine wp_region_quiet_c (C := fun w' => Below w1.heap.size w1 w') (by kernel_rfl) (by kernel_rfl) (Below.drew' (Below.refl _ _)) ?_
    repeat (first
      | go_big_quiet_skip
      | (go_big_quiet_want
         refine quiet_of_run (v := ?_) (fun w' hw' => ?_) ?_
         rotate_left
         · (obtain ⟨p0, p1, p2, p3, p4⟩ := HG.out w' hw'; go_simp; try with_reducible rfl)
         go_big_quiet_on
         try simp only [Act.put, List.setIfInBounds_toArray, List.set_cons_zero, List.set_cons_succ]))
    refine wpQuiet_nil ?_
    intro wx hwx
    have HW := lhid (HB1.out.trans (hwx.mono HB1.out.size))
    clear hwx
    go_wp2_with fail
    go_ret
    exact ⟨false, rfl, ⟨fun h => (by cases h), fun h => absurd h.1 (by unfold InR; omega)⟩, HW.out⟩
set_option maxHeartbeats 16000000 in
set_option maxRecDepth 100000 in
theorem racross_any (f : FuI) (n R : Nat) (hn : f.code.length = n) (hR : f.regs.length = R) (fa fb fd fe : Value) (i r : Int) (w : World) (h : Hid (FuV Tru w f fa fb fd fe)) (hrl : Hid (f.rows.length ≤ 1048576)) (hnr : Hid (f.code.length * (f.rows.length + 3) ≤ 1048576)) (ha : Hid (∀ x ∈ f.code, x.args.length * 8 ≤ 140737488355328 ∧ (usesI x).length * 8 ≤ 140737488355328)) :
    Calls Try.prog 15 #[fuL fa fb f.ret fd fe, .int .i64 i, .int .i64 r] w fun e w' => RBOut (InR n R i r ∧ (RdS f r (caughtL f i) ∨ (defAt f i.toNat ≠ r ∧ InR n R i r ∧ RdS f r (nextL f i)))) w e w' := by
  obtain ⟨FA, ac, hFA⟩ := h.out.a.shape
  subst hFA
  obtain ⟨FB, bc, hFB⟩ := h.out.b.shape
  subst hFB
  obtain ⟨D, dcap, hD⟩ := h.out.d.shape
  subst hD
  obtain ⟨E, ecap, hE⟩ := h.out.e.shape
  subst hE
  have HN := lhid hn
  have hf2 := h.out
  rw [hn, hR] at hf2 ⊢
  have HFU := lhid hf2
  have hR := lhid hR
  clear hn hf2 h
  go_enter Try.func15, Try.ntmps15
  go_upto_region 1 with fail
  generalize hW : World.alloc _ _ = w1
  obtain ⟨B0, hB0⟩ : ∃ B0, B0 = w.heap.size := ⟨_, rfl⟩
  rw [← hB0]
  have hb1 : Below w.heap.size w w1 := by rw [← hW]; exact (Below.refl _ _).alloc (Nat.le_refl _) _
  have hF1 : FBox w1 B0 (.slice FA R ac) (.slice FB f.params.length bc) f.ret (.slice D n dcap) (.slice E f.rows.length ecap) := by rw [← hW, hB0]; exact heap_alloc_new w _
  have HF1 := lhid hF1
  have HB1 := lhid hb1
  have HU1 := lhid (HFU.out.below hb1)
  have HG : Hid (∀ w' : World, Below w1.heap.size w1 w' → w'.cell? ⟨B0, 0, none⟩ = some (.slice FA R ac) ∧ w'.cell? ⟨B0, 1, none⟩ = some (.slice FB f.params.length bc) ∧ w'.cell? ⟨B0, 2, none⟩ = some (.int .i64 f.ret) ∧ w'.cell? ⟨B0, 3, none⟩ = some (.slice D n dcap) ∧ w'.cell? ⟨B0, 4, none⟩ = some (.slice E f.rows.length ecap)) := lhid (fun w' hw' => by
    have k1 : FBox w' B0 (.slice FA R ac) (.slice FB f.params.length bc) f.ret (.slice D n dcap) (.slice E f.rows.length ecap) := heap_keep hF1 hw'
    exact k1.cells)
  clear hW hb1 hF1 hB0
  by_cases h0 : 0 ≤ i
  · by_cases h1 : i < n
    · by_cases h2 : 0 ≤ r
      · by_cases h3 : r < R
        · obtain ⟨p0, p1, p2, p3, p4⟩ := HF1.out.cells
          have HIN : Hid (InR n R i r) := lhid ⟨⟨h0, h1⟩, ⟨h2, h3⟩⟩
          have t0 : ¬ i < 0 := by omega
          have t1 : ¬ (n : Int) ≤ i := by omega
          have t2 : ¬ r < 0 := by omega
          have t3 : ¬ (R : Int) ≤ r := by omega
          obtain ⟨cl, hcl⟩ : ∃ cl, caughtL f i = cl := ⟨_, rfl⟩
          have HCL := lhid hcl
          have HC2 : Hid (cl.length ≤ 1048576) := lhid (by rw [← hcl]; have := caughtL_len f i; have := hrl.out; omega)
          obtain ⟨a, hia⟩ : ∃ a : Nat, i = a := ⟨i.toNat, by omega⟩
          subst hia
          obtain ⟨x, hx⟩ : ∃ x, f.code[a]? = some x := ⟨_, List.getElem?_eq_getElem (by have := HN.out; omega)⟩
          obtain ⟨gi, o, xv, hD, _, hva, c0, c1, c2, c3, c4, c5, c6, c7, c8⟩ := in_cells HU1.out.d hx
          subst hD
          obtain ⟨VA0, vc0, hv0⟩ := hva.shape
          subst hv0
          have hgi : gi < w1.heap.size := cell_lt c0
          obtain ⟨d, hd⟩ : ∃ d, defI x = d := ⟨_, rfl⟩
          have HD := lhid hd
          have HDA : Hid (defAt f a = d) := lhid (by unfold defAt; rw [hx]; exact hd)
          have HIC : Hid (∀ w' : World, Below w1.heap.size w1 w' → w'.cell? ⟨gi, o + a * 9, none⟩ = some (.int .i64 x.op) ∧ w'.cell? ⟨gi, o + a * 9 + 1, none⟩ = some (.int .i64 x.dst) ∧ w'.cell? ⟨gi, o + a * 9 + 2, none⟩ = some (.int .i64 x.a) ∧ w'.cell? ⟨gi, o + a * 9 + 3, none⟩ = some (.int .i64 x.b) ∧ w'.cell? ⟨gi, o + a * 9 + 4, none⟩ = some (.int .i64 x.c) ∧ w'.cell? ⟨gi, o + a * 9 + 5, none⟩ = some (.int .i64 x.num) ∧ w'.cell? ⟨gi, o + a * 9 + 6, none⟩ = some (.int .i64 x.too) ∧ w'.cell? ⟨gi, o + a * 9 + 7, none⟩ = some (.string (tx x.ref)) ∧ w'.cell? ⟨gi, o + a * 9 + 8, none⟩ = some (.slice VA0 x.args.length vc0)) := lhid (fun w' hb => ⟨(hb.cell (p := ⟨gi, _, none⟩) hgi).trans c0, (hb.cell (p := ⟨gi, _, none⟩) hgi).trans c1, (hb.cell (p := ⟨gi, _, none⟩) hgi).trans c2, (hb.cell (p := ⟨gi, _, none⟩) hgi).trans c3, (hb.cell (p := ⟨gi, _, none⟩) hgi).trans c4, (hb.cell (p := ⟨gi, _, none⟩) hgi).trans c5, (hb.cell (p := ⟨gi, _, none⟩) hgi).trans c6, (hb.cell (p := ⟨gi, _, none⟩) hgi).trans c7, (hb.cell (p := ⟨gi, _, none⟩) hgi).trans c8⟩)
          clear hcl hx hd hva c0 c1 c2 c3 c4 c5 c6 c7 c8 hgi
          go_upto_region 3 with fail
          clear p0 p1 p2 p3 p4
          refine wp_region_held_drew (S := fun w' => Below w1.heap.size w1 w') (by kernel_rfl) (Below.drew' (Below.refl _ _)) ?_
          intro hS0
          refine wpAnyH_take (i := 0) (v := ?tv26) rfl (by kernel_rfl) (by kernel_rfl) (by kernel_rfl) (fun _ _ _ h => h) (Or.inl ⟨by rfl, ?ty26⟩) hS0 ?tr26
          case ty26 => (intro w' hw'; obtain ⟨p0, p1, p2, p3, p4⟩ := HG.out w' hw'; go_simp; try with_reducible rfl)
          try simp only [List.getElem_toArray, List.getElem_cons_zero, List.getElem_cons_succ]
          try simp only [Act.put, List.setIfInBounds_toArray, List.set_cons_zero, List.set_cons_succ]
          refine wpAnyH_take (i := 1) (v := ?tv27) rfl (by kernel_rfl) (by kernel_rfl) (by kernel_rfl) (fun _ _ _ h => h) (Or.inl ⟨by rfl, ?ty27⟩) hS0 ?tr27
          case ty27 => (intro w' hw'; obtain ⟨p0, p1, p2, p3, p4⟩ := HG.out w' hw'; go_simp; try with_reducible rfl)
          try simp only [List.getElem_toArray, List.getElem_cons_zero, List.getElem_cons_succ]
          try simp only [Act.put, List.setIfInBounds_toArray, List.set_cons_zero, List.set_cons_succ]
          refine wpAnyH_take (i := 2) (v := ?tv28) rfl (by kernel_rfl) (by kernel_rfl) (by kernel_rfl) (fun _ _ _ h => h) (Or.inl ⟨by rfl, ?ty28⟩) hS0 ?tr28
          case ty28 => (intro w' hw'; obtain ⟨p0, p1, p2, p3, p4⟩ := HG.out w' hw'; go_simp; try with_reducible rfl)
          try simp only [List.getElem_toArray, List.getElem_cons_zero, List.getElem_cons_succ]
          try simp only [Act.put, List.setIfInBounds_toArray, List.set_cons_zero, List.set_cons_succ]
          refine wpAnyH_take (i := 4) (v := ?tv29) rfl (by kernel_rfl) (by kernel_rfl) (by kernel_rfl) (fun _ _ _ h => h) (Or.inl ⟨by rfl, ?ty29⟩) hS0 ?tr29
          case ty29 => (intro w' hw'; obtain ⟨p0, p1, p2, p3, p4⟩ := HG.out w' hw'; go_simp; try with_reducible rfl)
          try simp only [List.getElem_toArray, List.getElem_cons_zero, List.getElem_cons_succ]
          try simp only [Act.put, List.setIfInBounds_toArray, List.set_cons_zero, List.set_cons_succ]
          refine wpAnyH_ready (rs := [3]) (by kernel_rfl) (by simp) ?_
          refine AllReadyH.cons rfl (fun K hK => ?_) AllReadyH.nil
          go_simp
          refine (rcaught_w f n HN.out cl _ _ _ _ (a : Int) _ (lhid (HU1.out.below hS0)) (lhid (by have := hrl.out; omega)) HCL).mono ?_
          rintro e w4 ⟨v, rfl, ho, hb4⟩
          have hS4 : Below w1.heap.size w1 w4 := hS0.trans (hb4.mono hS0.size)
          have HO4 : Hid (OwN w4 w1.heap.size v cl) := lhid (own_lo ho hS0.size)
          obtain ⟨VA, vc, hv⟩ := own_shape ho
          subst hv
          clear ho hb4
          dsimp only
          refine hK.out _ _ hS4 (fun _ => ?_)
          clear hK K
          try simp only [Act.put, List.setIfInBounds_toArray, List.set_cons_zero, List.set_cons_succ]
          refine wpAnyH_ready (rs := [5]) (by kernel_rfl) (by simp) ?_
          refine AllReadyH.cons rfl (fun K hK => ?_) AllReadyH.nil
          go_simp
          refine (from_n f n HN.out _ _ _ _ _ cl r w1 w4 HU1 (lhid hS4) hrl hnr HC2 ha HO4).mono ?_
          rintro e w5 ⟨z, rfl, hz, hb5⟩
          have HZ := lhid hz
          clear hz
          dsimp only
          refine hK.out _ _ hb5 (fun _ => ?_)
          clear hK K
          try simp only [Act.put, List.setIfInBounds_toArray, List.set_cons_zero, List.set_cons_succ]
          cases z with
          | true =>
            refine wpAnyH_quiet_tail 6 (by rfl) (by kernel_rfl) (by kernel_rfl) hb5 ?_
            simp only [List.drop_succ_cons, List.drop_zero]
            repeat (first
              | go_big_quiet_skip
              | (go_big_quiet_want
                 refine quiet_of_run (v := ?_) (fun w' hw' => ?_) ?_
                 rotate_left
                 · (go_simp; try with_reducible rfl)
                 go_big_quiet_on
                 try simp only [Act.put, List.setIfInBounds_toArray, List.set_cons_zero, List.set_cons_succ]))
            refine wpQuiet_nil ?_
            intro wx hwx
            have HW := lhid (HB1.out.trans (hwx.mono HB1.out.size))
            clear hwx hb5 hS4 hS0
            go_wp2_with fail
            go_ret
            exact ⟨true, rfl, ⟨fun _ => ⟨HIN.out, .inl (by rw [HCL.out]; exact HZ.out.1 (by first | rfl | trivial))⟩, fun _ => rfl⟩, HW.out⟩
          | false =>
            refine wpAnyH_take (i := 6) (v := ?tv30) rfl (by kernel_rfl) (by kernel_rfl) (by kernel_rfl) (fun _ _ _ h => h) (Or.inl ⟨by rfl, ?ty30⟩) hb5 ?tr30
            case ty30 => (intro w' hw'; obtain ⟨p0, p1, p2, p3, p4⟩ := HG.out w' hw'; go_simp; try with_reducible rfl)
            try simp only [List.getElem_toArray, List.getElem_cons_zero, List.getElem_cons_succ]
            try simp only [Act.put, List.setIfInBounds_toArray, List.set_cons_zero, List.set_cons_succ]
            refine wpAnyH_take (i := 7) (v := ?tv31) rfl (by kernel_rfl) (by kernel_rfl) (by kernel_rfl) (fun _ _ _ h => h) (Or.inl ⟨by rfl, ?ty31⟩) hb5 ?tr31
            case ty31 => (intro w' hw'; obtain ⟨p0, p1, p2, p3, p4⟩ := HG.out w' hw'; go_simp; try with_reducible rfl)
            try simp only [List.getElem_toArray, List.getElem_cons_zero, List.getElem_cons_succ]
            try simp only [Act.put, List.setIfInBounds_toArray, List.set_cons_zero, List.set_cons_succ]
            refine wpAnyH_take (i := 8) (v := ?tv32) rfl (by kernel_rfl) (by kernel_rfl) (by kernel_rfl) (fun _ _ _ h => h) (Or.inl ⟨by rfl, ?ty32⟩) hb5 ?tr32
            case ty32 => (intro w' hw'; obtain ⟨p0, p1, p2, p3, p4⟩ := HG.out w' hw'; go_simp; try with_reducible rfl)
            try simp only [List.getElem_toArray, List.getElem_cons_zero, List.getElem_cons_succ]
            try simp only [Act.put, List.setIfInBounds_toArray, List.set_cons_zero, List.set_cons_succ]
            refine wpAnyH_take (i := 9) (v := ?tv33) rfl (by kernel_rfl) (by kernel_rfl) (by kernel_rfl) (fun _ _ _ h => h) (Or.inl ⟨by rfl, ?ty33⟩) hb5 ?tr33
            case ty33 => (intro w' hw'; obtain ⟨p0, p1, p2, p3, p4⟩ := HG.out w' hw'; go_simp; try with_reducible rfl)
            try simp only [List.getElem_toArray, List.getElem_cons_zero, List.getElem_cons_succ]
            try simp only [Act.put, List.setIfInBounds_toArray, List.set_cons_zero, List.set_cons_succ]
            refine wpAnyH_ready (rs := [10]) (by kernel_rfl) (by simp) ?_
            refine AllReadyH.cons rfl (fun K hK => ?_) AllReadyH.nil
            rw [if_pos (by rfl)]
            go_simp
            refine (rafter_any f n R HN.out hR.out _ _ _ _ (a : Int) r w5 (lhid (HU1.out.below hb5)) hrl hnr ha).mono ?_
            rintro e w6 ⟨z2, rfl, hz2, hb6⟩
            have HZ2 := lhid hz2
            have hb7 : Below w1.heap.size w1 w6 := hb5.trans (hb6.mono hb5.size)
            clear hz2 hb6
            dsimp only
            refine hK.out _ _ hb7 (fun _ => ?_)
            clear hK K
            try simp only [Act.put, List.setIfInBounds_toArray, List.set_cons_zero, List.set_cons_succ]
            cases z2 with
            | false =>
              refine wpAnyH_quiet_tail 11 (by rfl) (by kernel_rfl) (by kernel_rfl) hb7 ?_
              simp only [List.drop_succ_cons, List.drop_zero]
              repeat (first
                | go_big_quiet_skip
                | (go_big_quiet_want
                   refine quiet_of_run (v := ?_) (fun w' hw' => ?_) ?_
                   rotate_left
                   · (go_simp; try with_reducible rfl)
                   go_big_quiet_on
                   try simp only [Act.put, List.setIfInBounds_toArray, List.set_cons_zero, List.set_cons_succ]))
              refine wpQuiet_nil ?_
              intro wx hwx
              have HW := lhid (HB1.out.trans (hwx.mono HB1.out.size))
              clear hwx hb7 hb5 hS4 hS0
              go_wp2_with fail
              go_ret
              exact ⟨false, rfl, ⟨fun h => (by cases h), fun h => h.2.elim (fun h => (by have := HZ.out.2 (by rw [← HCL.out]; exact h); cases this)) (fun h => (by have := HZ2.out.2 h.2; cases this))⟩, HW.out⟩
            | true =>
              refine wpAnyH_take (i := 11) (v := ?tv34) rfl (by kernel_rfl) (by kernel_rfl) (by kernel_rfl) (fun _ _ _ h => h) (Or.inl ⟨by rfl, ?ty34⟩) hb7 ?tr34
              case ty34 => (intro w' hw'; obtain ⟨p0, p1, p2, p3, p4⟩ := HG.out w' hw'; go_simp; try with_reducible rfl)
              try simp only [List.getElem_toArray, List.getElem_cons_zero, List.getElem_cons_succ]
              try simp only [Act.put, List.setIfInBounds_toArray, List.set_cons_zero, List.set_cons_succ]
              refine wpAnyH_take (i := 12) (v := ?tv35) rfl (by kernel_rfl) (by kernel_rfl) (by kernel_rfl) (fun _ _ _ h => h) (Or.inl ⟨by rfl, ?ty35⟩) hb7 ?tr35
              case ty35 => (intro w' hw'; obtain ⟨p0, p1, p2, p3, p4⟩ := HG.out w' hw'; go_simp; try with_reducible rfl)
              try simp only [List.getElem_toArray, List.getElem_cons_zero, List.getElem_cons_succ]
              try simp only [Act.put, List.setIfInBounds_toArray, List.set_cons_zero, List.set_cons_succ]
              refine wpAnyH_take (i := 13) (v := ?tv36) rfl (by kernel_rfl) (by kernel_rfl) (by kernel_rfl) (fun _ _ _ h => h) (Or.inl ⟨by rfl, ?ty36⟩) hb7 ?tr36
              case ty36 => (intro w' hw'; obtain ⟨p0, p1, p2, p3, p4⟩ := HG.out w' hw'; go_simp; try with_reducible rfl)
              try simp only [List.getElem_toArray, List.getElem_cons_zero, List.getElem_cons_succ]
              try simp only [Act.put, List.setIfInBounds_toArray, List.set_cons_zero, List.set_cons_succ]
              refine wpAnyH_take (i := 14) (v := ?tv37) rfl (by kernel_rfl) (by kernel_rfl) (by kernel_rfl) (fun _ _ _ h => h) (Or.inl ⟨by rfl, ?ty37⟩) hb7 ?tr37
              case ty37 => (intro w' hw'; obtain ⟨p0, p1, p2, p3, p4⟩ := HG.out w' hw'; go_simp; try with_reducible rfl)
              try simp only [List.getElem_toArray, List.getElem_cons_zero, List.getElem_cons_succ]
              try simp only [Act.put, List.setIfInBounds_toArray, List.set_cons_zero, List.set_cons_succ]
              refine wpAnyH_take (i := 15) (v := ?tv38) rfl (by kernel_rfl) (by kernel_rfl) (by kernel_rfl) (fun _ _ _ h => h) (Or.inl ⟨by rfl, ?ty38⟩) hb7 ?tr38
              case ty38 => (intro w' hw'; obtain ⟨p0, p1, p2, p3, p4⟩ := HG.out w' hw'; go_simp; try with_reducible rfl)
              try simp only [List.getElem_toArray, List.getElem_cons_zero, List.getElem_cons_succ]
              try simp only [Act.put, List.setIfInBounds_toArray, List.set_cons_zero, List.set_cons_succ]
              refine wpAnyH_take (i := 16) (v := ?tv39) rfl (by kernel_rfl) (by kernel_rfl) (by kernel_rfl) (fun _ _ _ h => h) (Or.inl ⟨by rfl, ?ty39⟩) hb7 ?tr39
              case ty39 => (intro w' hw'; obtain ⟨p0, p1, p2, p3, p4⟩ := HG.out w' hw'; obtain ⟨c0, c1, c2, c3, c4, c5, c6, c7, c8⟩ := HIC.out w' hw'; go_simp; try with_reducible rfl)
              try simp only [List.getElem_toArray, List.getElem_cons_zero, List.getElem_cons_succ]
              try simp only [Act.put, List.setIfInBounds_toArray, List.set_cons_zero, List.set_cons_succ]
              refine wpAnyH_take (i := 18) (v := ?tv40) rfl (by kernel_rfl) (by kernel_rfl) (by kernel_rfl) (fun _ _ _ h => h) (Or.inl ⟨by rfl, ?ty40⟩) hb7 ?tr40
              case ty40 => (intro w' hw'; obtain ⟨p0, p1, p2, p3, p4⟩ := HG.out w' hw'; obtain ⟨c0, c1, c2, c3, c4, c5, c6, c7, c8⟩ := HIC.out w' hw'; go_simp; try with_reducible rfl)
              try simp only [List.getElem_toArray, List.getElem_cons_zero, List.getElem_cons_succ]
              try simp only [Act.put, List.setIfInBounds_toArray, List.set_cons_zero, List.set_cons_succ]
              refine wpAnyH_ready (rs := [17]) (by kernel_rfl) (by simp) ?_
              refine AllReadyH.cons rfl (fun K hK => ?_) AllReadyH.nil
              rw [if_pos (by rfl)]
              go_simp
              refine (rdef_w x (.slice VA0 x.args.length vc0) w6 d HD).mono ?_
              rintro e w8 ⟨rfl, hb8⟩
              have hb9 : Below w1.heap.size w1 w8 := hb7.trans (hb8.mono hb7.size)
              clear hb8
              dsimp only
              refine hK.out _ _ hb9 (fun _ => ?_)
              clear hK K
              try simp only [Act.put, List.setIfInBounds_toArray, List.set_cons_zero, List.set_cons_succ]
              by_cases hdr : d = r
              · have hq : (d != r) = false := by rw [hdr]; simp
                have HDR := lhid hdr
                clear hdr
                refine wpAnyH_quiet_tail 19 (by rfl) (by kernel_rfl) (by kernel_rfl) hb9 ?_
                simp only [List.drop_succ_cons, List.drop_zero]
                repeat (first
                  | go_big_quiet_skip
                  | (go_big_quiet_want
                     refine quiet_of_run (v := ?_) (fun w' hw' => ?_) ?_
                     rotate_left
                     · (go_simp; try with_reducible rfl)
                     go_big_quiet_on
                     try simp only [Act.put, List.setIfInBounds_toArray, List.set_cons_zero, List.set_cons_succ]))
                refine wpQuiet_nil ?_
                intro wx hwx
                have HW := lhid (HB1.out.trans (hwx.mono HB1.out.size))
                clear hwx hb9 hb7 hb5 hS4 hS0
                go_wp2_with fail
                go_ret
                exact ⟨false, rfl, ⟨fun h => (by cases h), fun h => h.2.elim (fun h => (by have := HZ.out.2 (by rw [← HCL.out]; exact h); cases this)) (fun h => absurd (HDA.out.trans HDR.out) h.1)⟩, HW.out⟩
              · have hq : (d != r) = true := by simpa using hdr
                have HDR := lhid hdr
                clear hdr
                refine wpAnyH_quiet_tail 19 (by rfl) (by kernel_rfl) (by kernel_rfl) hb9 ?_
                simp only [List.drop_succ_cons, List.drop_zero]
                repeat (first
                  | go_big_quiet_skip
                  | (go_big_quiet_want
                     refine quiet_of_run (v := ?_) (fun w' hw' => ?_) ?_
                     rotate_left
                     · (go_simp; try with_reducible rfl)
                     go_big_quiet_on
                     try simp only [Act.put, List.setIfInBounds_toArray, List.set_cons_zero, List.set_cons_succ]))
                refine wpQuiet_nil ?_
                intro wx hwx
                have HW := lhid (HB1.out.trans (hwx.mono HB1.out.size))
                clear hwx hb9 hb7 hb5 hS4 hS0
                go_wp2_with fail
                go_ret
                exact ⟨true, rfl, ⟨fun _ => ⟨HIN.out, .inr ⟨fun e => HDR.out (HDA.out.symm.trans e), HZ2.out.1 (by first | rfl | trivial)⟩⟩, fun _ => rfl⟩, HW.out⟩
        · obtain ⟨p0, p1, p2, p3, p4⟩ := HF1.out.cells
          go_wp2_with fail
          go_ret
          exact ⟨false, rfl, ⟨fun h => (by cases h), fun h => absurd h.1 (by unfold InR; omega)⟩, HB1.out⟩
      · obtain ⟨p0, p1, p2, p3, p4⟩ := HF1.out.cells
        go_wp2_with fail
        go_ret
        exact ⟨false, rfl, ⟨fun h => (by cases h), fun h => absurd h.1 (by unfold InR; omega)⟩, HB1.out⟩
    · obtain ⟨p0, p1, p2, p3, p4⟩ := HF1.out.cells
      go_wp2_with fail
      go_ret
      exact ⟨false, rfl, ⟨fun h => (by cases h), fun h => absurd h.1 (by unfold InR; omega)⟩, HB1.out⟩
  · obtain ⟨p0, p1, p2, p3, p4⟩ := HF1.out.cells
    go_wp2_with fail
    go_ret
    exact ⟨false, rfl, ⟨fun h => (by cases h), fun h => absurd h.1 (by unfold InR; omega)⟩, HB1.out⟩
end Go.Proofs.Ytoommeiiadobfaa
