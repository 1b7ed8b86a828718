/- FlowBlocks: the law walked. -/
import Derived.Test.YtcfgeojimjihaaaM11
import Derived.Deep.Cut
import Derived.Deep.CutRange
import Derived.Deep.CutBlock
namespace Go.Proofs.Ytcfgeojimjihaaa
open Go.RowKit Go
set_option linter.unusedVariables false
set_option linter.unusedSimpArgs false

def lightB (f : FuI) : Bool := decide (f.code.length ≤ 400) && decide (f.regs.length ≤ 100) && decide (f.rows.length ≤ 100)
set_option maxHeartbeats 4000000 in
set_option maxRecDepth 100000 in
theorem light11_any {P : Nat → Prop} (f : FuI) (fa fb fd fe : Value) (w : World) (h : Hid (FuV P w f fa fb fd fe)) :
    Calls Try.prog 8 #[fuL fa fb f.ret fd fe] w fun e w' => e = .returned (.bool (lightB f)) ∧ Below w.heap.size w w' := by
  obtain ⟨FA, ac, hFA⟩ := h.out.a.shape
  subst hFA
  obtain ⟨D, dcap, hD⟩ := h.out.d.shape
  subst hD
  obtain ⟨E, ecap, hE⟩ := h.out.e.shape
  subst hE
  by_cases h1 : f.code.length ≤ 400 <;> by_cases h2 : f.regs.length ≤ 100 <;> by_cases h3 : f.rows.length ≤ 100
  all_goals
    have i1 : decide ((f.code.length : Int) ≤ 400) = decide (f.code.length ≤ 400) := by simp only [decide_eq_decide]; omega
    have i2 : decide ((f.regs.length : Int) ≤ 100) = decide (f.regs.length ≤ 100) := by simp only [decide_eq_decide]; omega
    have i3 : decide ((f.rows.length : Int) ≤ 100) = decide (f.rows.length ≤ 100) := by simp only [decide_eq_decide]; omega
    go_enter Try.func8, Try.ntmps8
    go_wp2_with fail
    go_ret
    exact ⟨by unfold lightB; simp [h1, h2, h3], (Below.refl _ _).alloc (Nat.le_refl _) _⟩
theorem light11_r {P : Nat → Prop} (f : FuI) (fa fb fd fe : Value) (z : Bool) (w : World) (h : Hid (FuV P w f fa fb fd fe)) (hz : Hid (lightB f = z)) :
    Calls Try.prog 8 #[fuL fa fb f.ret fd fe] w fun e w' => e = .returned (.bool z) ∧ Below w.heap.size w w' := by
  have := light11_any f fa fb fd fe w h
  rwa [hz.out] at this
theorem step_app {o : Oper} {a : Act} {w w' : World} {K : Act → World → Prop} {Q : Exit → Act → World → Prop} {E : Prop} {c : Bool} {s x : Operand} {v u v' : Value} (hc : c = true) (ho : o.op = .call { callee := .builtin .append, args := #[s, x], argTypes := #[22, 22] }) (hs : a.eval s = v) (hx : a.eval x = u) (hr : (Builtin.append_ #[22, 22] o.type #[v, u]).run Try.prog w = .ok v' w') (hK : K (a.put o.dst v') w') : if c = true then Oper.wp Try.prog o a w K Q else E := by
  rw [if_pos hc]
  unfold Oper.wp execOp
  simp only [ho, resolve, invoke, builtin, Sem.run_bind, Sem.run_pure, Result.andThen_ok, List.map_toArray, List.map_cons, List.map_nil, hs, hx, hr]
  exact hK
theorem catL_len (rows : List RwI) (i : Int) : (catL rows i).length ≤ rows.length := by
  induction rows with
  | nil => simp [catL]
  | cons r l ih =>
    cases ha : aboutB r i with
    | true =>
      rw [catL_yes ha]
      split
      · simp
      · simp only [List.length_cons]; omega
    | false =>
      rw [catL_no ha]
      simp only [List.length_cons]
      omega
theorem zero_int (w : World) : (zeroValue 3).run Try.prog w = .ok (.int .i64 0) w := by kernel_rfl
set_option maxHeartbeats 32000000 in
set_option maxRecDepth 100000 in
theorem FlowBlocks_walk {P : Nat → Prop} (f : FuI) (fa fb fd fe : Value) (w : World) (h : Hid (FuV P w f fa fb fd fe)) (hq : Hid (FuQ f)) (hcap : Hid (∀ A n cap, fb = .slice A n cap → n ≤ cap ∧ cap ≤ maxLen)) :
    Calls Try.prog 6 #[fuL fa fb f.ret fd fe] w fun e w' => e = .returned (.bool true) ∧ Below w.heap.size w w' := by
  obtain ⟨FA, ac, hFA⟩ := h.out.a.shape
  subst hFA
  obtain ⟨FB, bc, hFB⟩ := h.out.b.shape
  subst hFB
  obtain ⟨D, dcap, hD⟩ := h.out.d.shape
  subst hD
  obtain ⟨E, ecap, hE⟩ := h.out.e.shape
  subst hE
  obtain ⟨n, hn⟩ : ∃ n, f.code.length = n := ⟨_, rfl⟩
  have HN := lhid hn
  have hf2 := h.out
  rw [hn] at hf2 ⊢
  have HFU := lhid hf2
  clear hn hf2 h
  obtain ⟨z, hz⟩ : ∃ z, lightB f = z := ⟨_, rfl⟩
  have HZ := lhid hz
  obtain ⟨c, hc⟩ : ∃ c, chkN f = c := ⟨_, rfl⟩
  have HC := lhid hc
  clear hz hc
  go_enter Try.func6, Try.ntmps6
  go_wp2_with fail
  generalize hW : World.alloc _ _ = w0
  have hb0 : Below w.heap.size w w0 := by rw [← hW]; exact (Below.refl _ _).alloc (Nat.le_refl _) _
  have hF0 : FBox w0 w.heap.size (.slice FA f.regs.length ac) (.slice FB f.params.length bc) f.ret (.slice D n dcap) (.slice E f.rows.length ecap) := by rw [← hW]; exact heap_alloc_new w _
  have HF0 := lhid hF0
  have HB0 := lhid hb0
  clear hW hb0 hF0
  with_reducible refine (holds11_any w0).mono ?_
  rintro e w1 ⟨rfl, hb⟩
  have hF1 : FBox w1 w.heap.size (.slice FA f.regs.length ac) (.slice FB f.params.length bc) f.ret (.slice D n dcap) (.slice E f.rows.length ecap) := heap_keep HF0.out hb
  have HF1 := lhid hF1
  have HB1 : Hid (Below w.heap.size w w1) := lhid (HB0.out.trans (hb.mono HB0.out.size))
  have HU1 := lhid (HFU.out.below HB1.out)
  obtain ⟨p0, p1, p2, p3, p4⟩ := hF1.cells
  clear hb hF1 HF0 HB0
  cases z with
  | false =>
    go_wp2_with fail
    with_reducible refine (light11_r f _ _ _ _ false w1 HU1 HZ).mono ?_
    rintro e w2 ⟨rfl, hb⟩
    have HB2 : Hid (Below w.heap.size w w2) := lhid (HB1.out.trans (hb.mono HB1.out.size))
    clear hb p0 p1 p2 p3 p4
    go_wp2_with fail
    go_ret
    exact ⟨rfl, HB2.out⟩
  | true =>
    go_wp2_with fail
    with_reducible refine (light11_r f _ _ _ _ true w1 HU1 HZ).mono ?_
    rintro e w2 ⟨rfl, hb⟩
    have hF2 : FBox w2 w.heap.size (.slice FA f.regs.length ac) (.slice FB f.params.length bc) f.ret (.slice D n dcap) (.slice E f.rows.length ecap) := heap_keep HF1.out hb
    have HF2 := lhid hF2
    have HB2 : Hid (Below w.heap.size w w2) := lhid (HB1.out.trans (hb.mono HB1.out.size))
    have HU2 := lhid (HFU.out.below HB2.out)
    clear hb p0 p1 p2 p3 p4 HF1 HB1 HU1
    obtain ⟨p0, p1, p2, p3, p4⟩ := hF2.cells
    clear hF2
    have HLI : Hid (n ≤ 400 ∧ f.rows.length ≤ 100) := lhid (by
      have h1 := HZ.out
      unfold lightB at h1
      simp only [Bool.and_eq_true, decide_eq_true_eq] at h1
      have := HN.out
      omega)
    go_wp2_with fail
    with_reducible refine (rcheck_r f _ _ _ _ c w2 HU2 hq hcap HC).mono ?_
    rintro e w3 ⟨rfl, hb⟩
    have hF3 : FBox w3 w.heap.size (.slice FA f.regs.length ac) (.slice FB f.params.length bc) f.ret (.slice D n dcap) (.slice E f.rows.length ecap) := heap_keep HF2.out hb
    have HF3 := lhid hF3
    have HB3 : Hid (Below w.heap.size w w3) := lhid (HB2.out.trans (hb.mono HB2.out.size))
    have HU3 := lhid (HFU.out.below HB3.out)
    clear hb p0 p1 p2 p3 p4 HF2 HB2 HU2
    obtain ⟨p0, p1, p2, p3, p4⟩ := hF3.cells
    clear hF3
    by_cases hc : c = 0
    · have hcb : (c != 0) = false := by rw [hc]; rfl
      have HC0 : Hid (chkN f = 0) := lhid (HC.out.trans hc)
      clear hc
      go_wp2_with fail
      with_reducible refine (heads_any f _ _ _ _ w3 HU3 (lhid (by have := HLI.out; have := HN.out; omega))).mono ?_
      rintro e w4 ⟨hv, rfl, ho, hb⟩
      obtain ⟨L, hL⟩ : ∃ L, headsL f = L := ⟨_, rfl⟩
      rw [hL] at ho
      obtain ⟨VA, vc, hve⟩ := own_shape ho
      subst hve
      have hF4 : FBox w4 w.heap.size (.slice FA f.regs.length ac) (.slice FB f.params.length bc) f.ret (.slice D n dcap) (.slice E f.rows.length ecap) := heap_keep HF3.out hb
      have HF4 := lhid hF4
      have HB4 : Hid (Below w.heap.size w w4) := lhid (HB3.out.trans (hb.mono HB3.out.size))
      have HO4 := lhid ho
      have HLL := lhid hL
      have hLl : L.length ≤ 400 := by
        rw [← hL]
        unfold headsL hdT
        rw [List.length_map]
        have := List.length_filter_le (hmB f) (List.range f.code.length)
        rw [List.length_range] at this
        have := HLI.out
        have := HN.out
        omega
      have hmm := @run_makeMap Try.prog
      clear hb p0 p1 p2 p3 p4 HF3 HB3 HU3 ho hL hF4
      go_wp2_with fail
      generalize hW : World.alloc _ _ = w5
      generalize hmb : w4.heap.size = mb
      have hb5 : Below w4.heap.size w4 w5 := by rw [← hW]; exact (Below.refl _ _).alloc (Nat.le_refl _) _
      have HM5 : Hid (MI w5 mb 0 (mapH [])) := lhid (by rw [← hW, ← hmb]; exact (mi_made w4).ext (fun s => by simp [mapH]))
      have HO5 : Hid (OwN w5 w3.heap.size (.slice VA L.length vc) L) := lhid (own_below HO4.out hb5)
      have HOL : Hid (∀ k, (Value.slice VA L.length vc).ownBlock = some k → w3.heap.size ≤ k ∧ k < mb) := lhid (fun k hk => by have := HO4.out.lt k hk; omega)
      have HF5 : Hid (FBox w5 w.heap.size (.slice FA f.regs.length ac) (.slice FB f.params.length bc) f.ret (.slice D n dcap) (.slice E f.rows.length ecap)) := lhid (heap_keep HF4.out hb5)
      have HB5 : Hid (Below w.heap.size w w5) := lhid (HB4.out.trans (hb5.mono HB4.out.size))
      have HNUM : Hid (w.heap.size < mb ∧ mb < w5.heap.size) := lhid ⟨by have := heap_lt HF4.out; omega, HM5.out.lt⟩
      clear hW hmb hb5 HF4 HB4 HO4 hmm
      go_loopg [26] L.length (fun g i wr => ∃ k : Nat, g = L.length - k ∧ i = .int .i64 k ∧ k ≤ L.length ∧ Hid (Ch (fun b => b = mb) w5 wr) ∧ Hid (MI wr mb k (mapH (L.take k))))
      case atStart => exact ⟨0, rfl, rfl, Nat.zero_le _, lhid (Ch.refl _ _), HM5⟩
      case round =>
        clear HM5
        obtain ⟨k, rfl, rfl, hk, HCh, HM⟩ := hrel
        by_cases hlt : k < L.length
        · obtain ⟨vg, hvg⟩ : ∃ vg, VA = some ⟨vg, 0, none⟩ := by
            rcases HO5.out.2 with ⟨_, h2⟩ | ⟨g, cap, cur, h1, _⟩
            · omega
            · injection h1 with h1
              exact ⟨g, h1⟩
          subst hvg
          have hvb := HOL.out vg rfl
          have cell : ∀ (j : Nat) (y : Int) (wx : World), L[j]? = some y → (wx.heap[vg]? = w5.heap[vg]?) → wx.cell? ⟨vg, j, none⟩ = some (.int .i64 y) := fun j y wx hy e => by
            have hj := (List.getElem?_eq_some_iff.1 hy).1
            rw [World.cell?_of_block (a := ⟨vg, j, none⟩) e, HO5.out.cellAt j (by omega), List.getElem?_map, hy]
            rfl
          obtain ⟨x, hx⟩ : ∃ x, L[k]? = some x := ⟨_, List.getElem?_eq_getElem hlt⟩
          have hxm : 0 ≤ x ∧ x < f.code.length := by
            have h1 := List.mem_of_getElem? hx
            rw [← HLL.out] at h1
            have h2 := (heads_mem f x).1 h1
            exact ⟨h2.1, h2.2.1⟩
          have hkb : wr.heap[vg]? = w5.heap[vg]? := HCh.out.block vg (by have := HNUM.out; omega) (by omega)
          have c0 := cell k x wr hx hkb
          have HX := lhid hx
          have k3 : (k : Int) < L.length := by omega
          have hwk : wrap64 ((k : Int) + 1) = ((k + 1 : Nat) : Int) := by rw [IntWalk.wrap64_in _ (by omega)]; omega
          have HI6 : Hid (I6 x) := lhid ⟨by have := HN.out; have := HLI.out; omega, by have := HN.out; have := HLI.out; omega⟩
          clear hx hkb
          go_wp2_with (refine wpList_put_mi _ rfl (.tmp 31) (.tmp 32) (.const (.int .i64 1)) 38 rfl 3 Try.underlying38 mb k (mapH (L.take k)) rfl HM.out ?m1 x rfl HI6.out (.int .i64 1) rfl ?_)
          case m1 => unfold maxLen; omega
          intro w6 hm6 hg6 hs6
          have HM6 : Hid (MI w6 mb (k + 1) (mapH (L.take (k + 1)))) := lhid (hm6.ext (fun s => by rw [take_snoc HX.out]; exact mapH_snoc _ _ _))
          have hc6 : Ch (fun b => b = mb) w5 w6 := HCh.out.grown hg6 (fun b e _ => by injection e with e; exact e.symm)
          have HCh6 := lhid hc6
          clear hm6 hg6 hs6 c0
          cases k with
          | zero =>
            clear cell
            go_wp2_with fail
            go_roundg (L.length - (0 + 1))
            case measure => omega
            case rel => exact ⟨0 + 1, rfl, by first | rfl | rw [hwk], by omega, HCh6, HM6⟩
          | succ j =>
            obtain ⟨y, hy⟩ : ∃ y, L[j]? = some y := ⟨_, List.getElem?_eq_getElem (by omega)⟩
            have hlt2 : y < x := heads_lt f (i := j) (by rw [HLL.out]; exact hy) (by rw [HLL.out]; exact HX.out)
            have c1 := cell j y w6 hy (hc6.block vg (by have := HNUM.out; omega) (by omega))
            have hng : ¬ x ≤ y := by omega
            have hwj : wrap64 (((j + 1 : Nat) : Int) - 1) = (j : Int) := by rw [IntWalk.wrap64_in _ (by omega)]; omega
            have k4 : (j : Int) < L.length := by omega
            have k5 : (0 : Int) < ((j + 1 : Nat) : Int) := by omega
            clear hy cell
            go_wp2_with fail
            go_roundg (L.length - (j + 1 + 1))
            case measure => omega
            case rel => exact ⟨j + 1 + 1, rfl, by first | rfl | rw [hwk], by omega, HCh6, HM6⟩
        · have k3 : ¬ (k : Int) < L.length := by omega
          have hke : k = L.length := by omega
          subst hke
          obtain ⟨w7, hw7⟩ : ∃ x, x = wr := ⟨_, rfl⟩
          subst hw7
          have hM7 := HM.out
          rw [List.take_length] at hM7
          have HM7 := lhid hM7
          have HF7 : Hid (FBox w7 w.heap.size (.slice FA f.regs.length ac) (.slice FB f.params.length bc) f.ret (.slice D n dcap) (.slice E f.rows.length ecap)) := lhid (HCh.out.keep HF5.out (by have := HNUM.out; omega))
          have HB7 : Hid (Below w.heap.size w w7) := lhid (HB5.out.trans (HCh.out.to HB5.out.size (fun b e => by have := HNUM.out; omega)))
          have HO7 : Hid (OwN w7 w3.heap.size (.slice VA L.length vc) L) := lhid (own_ch HO5.out HCh.out (fun g hg e => by have := HOL.out g hg; omega))
          have HRN : Hid (RwN f.rows) := lhid (fun r hr => by have h1 := chk_rows9 HC0.out r hr; have h2 := HN.out; have h3 := HLI.out; omega)
          have HRL : Hid (f.rows.length * 8 ≤ 140737488355328) := lhid (by have := HLI.out; omega)
          obtain ⟨p0, p1, p2, p3, p4⟩ := HF7.out.cells
          clear hM7 HM HCh HO5 HF5 HB5 hk hlt HOL
          go_wp2_with fail
          clear p0 p1 p2 p3 p4
          go_loopg [48] n (fun g i wr => ∃ k : Nat, g = n - k ∧ i = .int .i64 k ∧ k ≤ n ∧ Hid (Below w7.heap.size w7 wr))
          case atStart => exact ⟨0, rfl, rfl, Nat.zero_le _, lhid (Below.refl _ _)⟩
          case round =>
            obtain ⟨k, rfl, rfl, hk, HBl⟩ := hrel
            have HBr : Hid (Below w.heap.size w wr) := lhid (HB7.out.trans (HBl.out.mono HB7.out.size))
            by_cases hlt : k < n
            · obtain ⟨x, hx⟩ : ∃ x, f.code[k]? = some x := ⟨_, List.getElem?_eq_getElem (by have := HN.out; omega)⟩
              obtain ⟨cg, co, cv, hDD, _, hcv, c0, c1, c2, c3, c4, c5, c6, c7, c8⟩ := in_cells HFU.out.d hx
              subst hDD
              obtain ⟨CVA, cvc, hcv0⟩ := hcv.shape
              subst hcv0
              have kc : ∀ {p : Addr} {u : Value}, w.cell? p = some u → wr.cell? p = some u := fun {p u} hq => (HBr.out.cell (p := p) (cell_lt hq)).trans hq
              replace c0 := kc c0
              replace c1 := kc c1
              replace c2 := kc c2
              replace c3 := kc c3
              replace c4 := kc c4
              replace c5 := kc c5
              replace c6 := kc c6
              replace c7 := kc c7
              replace c8 := kc c8
              have HX := lhid hx
              have k3 : (k : Int) < n := by omega
              have hwk : wrap64 ((k : Int) + 1) = (k : Int) + 1 := IntWalk.wrap64_in _ (by have := HLI.out; omega)
              clear hx kc hcv
              go_upto_region 17 with fail
              generalize hW : World.alloc _ _ = w8
              generalize hX0 : wr.heap.size = X0
              have hbr : Below wr.heap.size wr w8 := by rw [← hW]; exact (Below.refl _ _).alloc (Nat.le_refl _) _
              have HX8 : Hid (w8.heap[X0]? = some (.cells #[.int .i64 x.op, .int .i64 x.dst, .int .i64 x.a, .int .i64 x.b, .int .i64 x.c, .int .i64 x.num, .int .i64 x.too, .string (tx x.ref), .slice CVA x.args.length cvc] 40 (0, 0))) := lhid (by rw [← hW, ← hX0]; exact heap_alloc_new wr _)
              have HBl8 : Hid (Below w7.heap.size w7 w8) := lhid (HBl.out.trans (hbr.mono HBl.out.size))
              have HF8 : Hid (FBox w8 w.heap.size (.slice FA f.regs.length ac) (.slice FB f.params.length bc) f.ret (.slice (some ⟨cg, co, none⟩) n dcap) (.slice E f.rows.length ecap)) := lhid (heap_keep HF7.out HBl8.out)
              have HM8 := lhid (HM7.out.below HBl8.out)
              clear hW hX0 hbr c0 c1 c2 c3 c4 c5 c6 c7 c8
              go_cut [48, 75] from 48 to 99 (fun a b wc => a = .int .i64 k ∧ b = .bool false ∧ Hid (Below w8.heap.size w8 wc))
              case first =>
                have hk1 : ∀ wq, Below w8.heap.size w8 wq → (k + 1 < n → ∀ hd : leadsB x.op = true ∨ endsB x.op = true, (Instr.lookup 38 (.map (some mb)) (.int .i64 ((k : Int) + 1)) false).run Try.prog wq = .ok (.int .i64 1) wq) := fun wq hb hlt2 hd => by
                  have hsI : I6 ((k : Int) + 1) := ⟨by omega, by have := HLI.out; omega⟩
                  have h1 := ((HM8.out.below hb).look Try.underlying38 (zero_int wq) hsI).1
                  have h2 : (mapH L ((k : Int) + 1)).getD (.int .i64 0) = .int .i64 1 := by
                    unfold mapH
                    rw [if_pos (by rw [← HLL.out]; exact lead_head HX.out hd (by have := HN.out; omega))]
                    rfl
                  rwa [h2] at h1
                have HK1 := lhid hk1
                have q0 := heap_cell (i := 0) HX8.out rfl
                have p3 := HF8.out.cells.2.2.2.1
                clear hk1
                obtain ⟨zl, hzl⟩ : ∃ zl, leadsB x.op = zl := ⟨_, rfl⟩
                obtain ⟨ze, hze⟩ : ∃ ze, endsB x.op = ze := ⟨_, rfl⟩
                have HZL := lhid hzl
                have HZE := lhid hze
                clear hzl hze
                cases zl with
                | true =>
                  go_wp2_with fail
                  with_reducible refine (rleads_r x.op true w8 HZL).mono ?_
                  rintro e wx ⟨rfl, hbx⟩
                  have HBX := lhid hbx
                  have p3x : wx.cell? ⟨w.heap.size, 3, none⟩ = some (.slice (some ⟨cg, co, none⟩) n dcap) := (hbx.cell (p := ⟨w.heap.size, 3, none⟩) (cell_lt p3)).trans p3
                  by_cases hlt2 : k + 1 < n
                  · have hlook := HK1.out wx hbx hlt2 (.inl HZL.out)
                    have k6 : (k : Int) + 1 < n := by omega
                    clear hbx q0 p3
                    go_wp2_with fail
                    go_meet
                    case rel => exact ⟨rfl, rfl, HBX⟩
                  · have k6 : ¬ (k : Int) + 1 < n := by omega
                    clear hbx q0 p3
                    go_wp2_with fail
                    go_meet
                    case rel => exact ⟨rfl, rfl, HBX⟩
                | false =>
                  go_wp2_with fail
                  with_reducible refine (rleads_r x.op false w8 HZL).mono ?_
                  rintro e wx ⟨rfl, hbx⟩
                  have q0x : wx.cell? ⟨X0, 0, none⟩ = some (.int .i64 x.op) := (hbx.cell (p := ⟨X0, 0, none⟩) (cell_lt q0)).trans q0
                  have p3x : wx.cell? ⟨w.heap.size, 3, none⟩ = some (.slice (some ⟨cg, co, none⟩) n dcap) := (hbx.cell (p := ⟨w.heap.size, 3, none⟩) (cell_lt p3)).trans p3
                  have HBX := lhid hbx
                  clear hbx q0 p3
                  cases ze with
                  | true =>
                    go_wp2_with fail
                    with_reducible refine (rends_r x.op true wx HZE).mono ?_
                    rintro e wy ⟨rfl, hby⟩
                    have HBY : Hid (Below w8.heap.size w8 wy) := lhid (HBX.out.trans (hby.mono HBX.out.size))
                    have p3y : wy.cell? ⟨w.heap.size, 3, none⟩ = some (.slice (some ⟨cg, co, none⟩) n dcap) := (hby.cell (p := ⟨w.heap.size, 3, none⟩) (cell_lt p3x)).trans p3x
                    by_cases hlt2 : k + 1 < n
                    · have hlook := HK1.out wy HBY.out hlt2 (.inr HZE.out)
                      have k6 : (k : Int) + 1 < n := by omega
                      clear hby q0x p3x
                      go_wp2_with fail
                      go_meet
                      case rel => exact ⟨rfl, rfl, HBY⟩
                    · have k6 : ¬ (k : Int) + 1 < n := by omega
                      clear hby q0x p3x
                      go_wp2_with fail
                      go_meet
                      case rel => exact ⟨rfl, rfl, HBY⟩
                  | false =>
                    go_wp2_with fail
                    with_reducible refine (rends_r x.op false wx HZE).mono ?_
                    rintro e wy ⟨rfl, hby⟩
                    have HBY : Hid (Below w8.heap.size w8 wy) := lhid (HBX.out.trans (hby.mono HBX.out.size))
                    clear hby q0x p3x
                    go_wp2_with fail
                    go_meet
                    case rel => exact ⟨rfl, rfl, HBY⟩
              case rest =>
                obtain ⟨h48, h75, HBc⟩ := hcut
                subst h48 h75
                obtain ⟨w8a, hw8a⟩ : ∃ x, x = w8 := ⟨_, rfl⟩
                have HB78 : Hid (Below w7.heap.size w7 wc) := lhid (HBl8.out.trans (HBc.out.mono HBl8.out.size))
                have HBw : Hid (Below w.heap.size w wc) := lhid (HB7.out.trans (HB78.out.mono HB7.out.size))
                have HFc : Hid (FBox wc w.heap.size (.slice FA f.regs.length ac) (.slice FB f.params.length bc) f.ret (.slice (some ⟨cg, co, none⟩) n dcap) (.slice E f.rows.length ecap)) := lhid (heap_keep HF8.out HBc.out)
                have HMc := lhid (HM8.out.below HBc.out)
                clear hw8a HBc HF8 HM8 HX8 HBl8
                obtain ⟨w8, hw8⟩ : ∃ x, x = wc := ⟨_, rfl⟩
                subst hw8
                have HU8 : Hid (FuV P w8 f (.slice FA f.regs.length ac) (.slice FB f.params.length bc) (.slice (some ⟨cg, co, none⟩) n dcap) (.slice E f.rows.length ecap)) := lhid (HFU.out.below HBw.out)
                have HFK : Hid (∀ w', Below w8.heap.size w8 w' → w'.cell? ⟨w.heap.size, 0, none⟩ = some (.slice FA f.regs.length ac) ∧ w'.cell? ⟨w.heap.size, 1, none⟩ = some (.slice FB f.params.length bc) ∧ w'.cell? ⟨w.heap.size, 2, none⟩ = some (.int .i64 f.ret) ∧ w'.cell? ⟨w.heap.size, 3, none⟩ = some (.slice (some ⟨cg, co, none⟩) n dcap) ∧ w'.cell? ⟨w.heap.size, 4, none⟩ = some (.slice E f.rows.length ecap)) := lhid (fun w' hb => FBox.cells (heap_keep HFc.out hb))
                obtain ⟨NX, hNX⟩ : ∃ NX, nextL f (k : Int) ++ caughtL f (k : Int) = NX := ⟨_, rfl⟩
                have HNX : Hid (NX = nextL f (k : Int) ++ caughtL f (k : Int)) := lhid hNX.symm
                have HNC : Hid ((nextL f (k : Int)).length ≤ 2 ∧ (caughtL f (k : Int)).length ≤ 100) := lhid ⟨nextL_two f k, by
                  have h1 : (caughtL f (k : Int)).length ≤ (catL f.rows k).length := by
                    unfold caughtL
                    split
                    · simp
                    · split
                      · exact uniq_len _
                      · simp
                  have h2 := catL_len f.rows k
                  have h3 := HLI.out
                  omega⟩
                clear hNX
                go_upto_region 19 with fail
                go_cut [48, 82, 83, 84] from 48 to 99 (fun a b cc d wc => a = .int .i64 k ∧ ∃ A cp, b = .slice A NX.length cp ∧ cc = .int .i64 NX.length ∧ d = .int .i64 0 ∧ Hid (OwN wc w8.heap.size (.slice A NX.length cp) NX) ∧ Hid (Below w8.heap.size w8 wc))
                case first =>
                  refine wp_region_held_drew (S := fun w' => Below w8.heap.size w8 w') (by kernel_rfl) (Below.drew' (Below.refl _ _)) ?_
                  intro hS0
                  refine wpAnyH_take (i := 0) (v := ?tvp0) rfl (by kernel_rfl) (by kernel_rfl) (by kernel_rfl) (fun _ _ _ h => h) (Or.inl ⟨by rfl, ?typ0⟩) hS0 ?trp0
                  case typ0 => (intro w' hw'; obtain ⟨y0, y1, y2, y3, y4⟩ := HFK.out w' hw'; go_simp; try with_reducible rfl)
                  try simp only [Act.put, List.setIfInBounds_toArray, List.set_cons_zero, List.set_cons_succ]
                  try simp only [List.getElem_toArray, List.getElem_cons_zero, List.getElem_cons_succ]
                  refine wpAnyH_take (i := 1) (v := ?tvp1) rfl (by kernel_rfl) (by kernel_rfl) (by kernel_rfl) (fun _ _ _ h => h) (Or.inl ⟨by rfl, ?typ1⟩) hS0 ?trp1
                  case typ1 => (intro w' hw'; obtain ⟨y0, y1, y2, y3, y4⟩ := HFK.out w' hw'; go_simp; try with_reducible rfl)
                  try simp only [Act.put, List.setIfInBounds_toArray, List.set_cons_zero, List.set_cons_succ]
                  try simp only [List.getElem_toArray, List.getElem_cons_zero, List.getElem_cons_succ]
                  refine wpAnyH_take (i := 3) (v := ?tvp3) rfl (by kernel_rfl) (by kernel_rfl) (by kernel_rfl) (fun _ _ _ h => h) (Or.inl ⟨by rfl, ?typ3⟩) hS0 ?trp3
                  case typ3 => (intro w' hw'; obtain ⟨y0, y1, y2, y3, y4⟩ := HFK.out w' hw'; go_simp; try with_reducible rfl)
                  try simp only [Act.put, List.setIfInBounds_toArray, List.set_cons_zero, List.set_cons_succ]
                  try simp only [List.getElem_toArray, List.getElem_cons_zero, List.getElem_cons_succ]
                  refine wpAnyH_take (i := 4) (v := ?tvp4) rfl (by kernel_rfl) (by kernel_rfl) (by kernel_rfl) (fun _ _ _ h => h) (Or.inl ⟨by rfl, ?typ4⟩) hS0 ?trp4
                  case typ4 => (intro w' hw'; obtain ⟨y0, y1, y2, y3, y4⟩ := HFK.out w' hw'; go_simp; try with_reducible rfl)
                  try simp only [Act.put, List.setIfInBounds_toArray, List.set_cons_zero, List.set_cons_succ]
                  try simp only [List.getElem_toArray, List.getElem_cons_zero, List.getElem_cons_succ]
                  refine wpAnyH_take (i := 8) (v := ?tvp8) rfl (by kernel_rfl) (by kernel_rfl) (by kernel_rfl) (fun _ _ _ h => h) (Or.inl ⟨by rfl, ?typ8⟩) hS0 ?trp8
                  case typ8 => (intro w' hw'; obtain ⟨y0, y1, y2, y3, y4⟩ := HFK.out w' hw'; go_simp; try with_reducible rfl)
                  try simp only [Act.put, List.setIfInBounds_toArray, List.set_cons_zero, List.set_cons_succ]
                  try simp only [List.getElem_toArray, List.getElem_cons_zero, List.getElem_cons_succ]
                  refine wpAnyH_ready (rs := [2]) (by kernel_rfl) (by simp) ?_
                  refine AllReadyH.cons rfl (fun K hK => ?_) AllReadyH.nil
                  go_simp
                  refine (next_any f _ _ _ _ (k : Int) _ (lhid (HU8.out.below hS0))).mono ?_
                  rintro e wx ⟨v1, rfl, hn1, hbn⟩
                  have hS1 : Below w8.heap.size w8 wx := hS0.trans (hbn.mono hS0.size)
                  have h01 := own_base (B' := w8.heap.size) hn1 hS0.size
                  dsimp only
                  refine hK.out _ _ hS1 (fun _ => ?_)
                  clear hK K
                  try simp only [Act.put, List.setIfInBounds_toArray, List.set_cons_zero, List.set_cons_succ]
                  try simp only [List.getElem_toArray, List.getElem_cons_zero, List.getElem_cons_succ]
                  refine wpAnyH_ready (rs := [5]) (by kernel_rfl) (by simp) ?_
                  refine AllReadyH.cons rfl (fun K hK => ?_) AllReadyH.nil
                  go_simp
                  refine (caught_any f _ _ _ _ (k : Int) _ (lhid (HU8.out.below hS1)) HRN HRL).mono ?_
                  rintro e wy ⟨v2, rfl, hn2, hbc⟩
                  have hS2 : Below w8.heap.size w8 wy := hS1.trans (hbc.mono hS1.size)
                  have ho1 : OwN wy w8.heap.size v1 (nextL f k) := own_below h01 hbc
                  have ho2 : OwN wy w8.heap.size v2 (caughtL f k) := own_base hn2 hS1.size
                  dsimp only
                  refine hK.out _ _ hS2 (fun _ => ?_)
                  clear hK K hn1 hn2 hbn hbc h01
                  try simp only [Act.put, List.setIfInBounds_toArray, List.set_cons_zero, List.set_cons_succ]
                  try simp only [List.getElem_toArray, List.getElem_cons_zero, List.getElem_cons_succ]
                  have hsz : w8.heap.size ≤ wy.heap.size := hS2.size
                  obtain ⟨v', wz, hrun, ho3, hb3⟩ := run_append_two (B := w8.heap.size) 22 ho1 ho2 hsz (by have := HNC.out; omega)
                  rw [← HNX.out] at ho3
                  have hS3 : Below w8.heap.size w8 wz := hS2.trans hb3
                  obtain ⟨A3, c3, hv3⟩ := own_shape ho3
                  have HO3 := lhid ho3
                  have HS3 := lhid hS3
                  clear ho1 ho2 ho3 hb3 hsz
                  refine wpAnyH_ready (rs := [6]) (by kernel_rfl) (by simp) ?_
                  refine AllReadyH.cons rfl (fun K hK => ?_) AllReadyH.nil
                  subst hv3
                  refine step_app (by rfl) rfl rfl rfl hrun ?_
                  refine hK.out _ _ hS3 (fun _ => ?_)
                  clear hK K hrun
                  try simp only [Act.put, List.setIfInBounds_toArray, List.set_cons_zero, List.set_cons_succ]
                  try simp only [List.getElem_toArray, List.getElem_cons_zero, List.getElem_cons_succ]
                  refine wpAnyH_take (i := 7) (v := ?tvq7a) rfl (by kernel_rfl) (by kernel_rfl) (by kernel_rfl) (fun _ _ _ h => h) (Or.inl ⟨by rfl, ?tyq7a⟩) hS3 ?trq7a
                  case tyq7a => (intro w' hw'; go_simp; try with_reducible rfl)
                  try simp only [Act.put, List.setIfInBounds_toArray, List.set_cons_zero, List.set_cons_succ]
                  try simp only [List.getElem_toArray, List.getElem_cons_zero, List.getElem_cons_succ]
                  refine wpAnyH_done (by kernel_rfl) ?_ _
                  go_wp2_with fail
                  go_meet
                  case rel => exact ⟨rfl, A3, c3, rfl, rfl, rfl, HO3, HS3⟩
                case rest =>
                  obtain ⟨ha48, A3, c3, hb82, hc83, hd84, HO3, HS3⟩ := hcut
                  subst ha48 hb82 hc83 hd84
                  have HM9 := lhid (HMc.out.below HS3.out)
                  have HB9 : Hid (Below w7.heap.size w7 wc) := lhid (HB78.out.trans (HS3.out.mono HB78.out.size))
                  have HNL : Hid (NX.length ≤ 102) := lhid (by rw [HNX.out, List.length_append]; have := HNC.out; omega)
                  clear HFK HU8 HFc HMc HB78 HBw
                  go_wp2_with fail
                  go_loopg [84] NX.length (fun g s wq => ∃ q : Nat, g = NX.length - q ∧ s = .int .i64 q ∧ q ≤ NX.length ∧ wq = wc)
                  case atStart => exact ⟨0, rfl, rfl, Nat.zero_le _, rfl⟩
                  case round =>
                    obtain ⟨q, rfl, rfl, hq9, hwq⟩ := hrel
                    subst hwq
                    by_cases hlq : q < NX.length
                    · obtain ⟨s, hs⟩ : ∃ s, NX[q]? = some s := ⟨_, List.getElem?_eq_getElem hlq⟩
                      obtain ⟨vg, hvg⟩ : ∃ vg, A3 = some ⟨vg, 0, none⟩ := by
                        rcases HO3.out.2 with ⟨_, h2⟩ | ⟨g, cap, cur, h1, _⟩
                        · omega
                        · injection h1 with h1
                          exact ⟨g, h1⟩
                      subst hvg
                      have c0 : wr.cell? ⟨vg, q, none⟩ = some (.int .i64 s) := by
                        rw [HO3.out.cellAt q (by omega), List.getElem?_map, hs]
                        rfl
                      have hah := after_head HC0.out HX.out (s := s) (by rw [← HNX.out]; exact List.mem_of_getElem? hs)
                      rw [HLL.out] at hah
                      have hsI : I6 s := ⟨by have := hah.2.1; omega, by have := hah.2.2.1; have := HN.out; have := HLI.out; omega⟩
                      have hlook := (HM9.out.look Try.underlying38 (zero_int wr) hsI).1
                      have HAH := lhid hah.2.2.2
                      have k5 : (q : Int) < NX.length := by omega
                      have hwq : wrap64 ((q : Int) + 1) = ((q + 1 : Nat) : Int) := by rw [IntWalk.wrap64_in _ (by have := HNL.out; omega)]; omega
                      clear hs hah hsI
                      by_cases he : s = (k : Int) + 1
                      · have heb : (s != (k : Int) + 1) = false := by rw [he]; simp
                        have HE := lhid he
                        clear he hlook
                        go_wp2_with fail
                        go_roundg (NX.length - (q + 1))
                        case measure => omega
                        case rel => exact ⟨q + 1, rfl, by first | rfl | rw [hwq], by omega, rfl⟩
                      · have heb : (s != (k : Int) + 1) = true := by rw [bne_iff_ne]; exact he
                        have hv1 : (mapH L s).getD (.int .i64 0) = .int .i64 1 := by
                          unfold mapH
                          rw [if_pos (HAH.out.resolve_left he)]
                          rfl
                        rw [hv1] at hlook
                        clear he hv1
                        go_wp2_with fail
                        go_roundg (NX.length - (q + 1))
                        case measure => omega
                        case rel => exact ⟨q + 1, rfl, by first | rfl | rw [hwq], by omega, rfl⟩
                    · have k5 : ¬ (q : Int) < NX.length := by omega
                      go_wp2_with fail
                      go_roundg (n - (k + 1))
                      case measure => omega
                      case rel => exact ⟨k + 1, rfl, by first | rfl | rw [hwk]; rfl, by omega, HB9⟩
            · have k3 : ¬ (k : Int) < n := by omega
              have hn0 : 0 < f.code.length := by
                have h1 := (chk_parts HC0.out).1
                unfold codeB at h1
                simp only [Bool.and_eq_true, decide_eq_true_eq] at h1
                omega
              have h0 := heads_first f hn0
              rw [HLL.out] at h0
              have hLp : 0 < L.length := (List.getElem?_eq_some_iff.1 h0).1
              obtain ⟨vg, hvg⟩ : ∃ vg, VA = some ⟨vg, 0, none⟩ := by
                rcases HO7.out.2 with ⟨_, h2⟩ | ⟨g, cap, cur, h1, _⟩
                · omega
                · injection h1 with h1
                  exact ⟨g, h1⟩
              subst hvg
              have c0 : w7.cell? ⟨vg, 0, none⟩ = some (.int .i64 0) := by
                rw [HO7.out.cellAt 0 (by omega), List.getElem?_map, h0]
                rfl
              replace c0 := (HBl.out.cell (p := ⟨vg, 0, none⟩) (cell_lt c0)).trans c0
              have k6 : (0 : Int) < L.length := by omega
              clear h0 hn0
              go_wp2_with fail
              go_ret
              exact ⟨rfl, HBr.out⟩
    · have hcb : (c != 0) = true := by rw [bne_iff_ne]; exact hc
      clear hc
      go_wp2_with fail
      go_ret
      exact ⟨rfl, HB3.out⟩
end Go.Proofs.Ytcfgeojimjihaaa
