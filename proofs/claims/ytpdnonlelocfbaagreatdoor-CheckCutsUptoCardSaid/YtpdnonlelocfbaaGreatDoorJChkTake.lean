/- Package check: takeFrames. -/
import Derived.Test.YtpdnonlelocfbaaGreatDoorM10
import Derived.Test.YtpdnonlelocfbaaGreatDoorQuietC
import Derived.BigQuiet
import Derived.Deep.CutRange
import Derived.Deep.RegionLaw
namespace Go.Proofs.YtpdnonlelocfbaaGreatDoor
open Go.RowKit Go Go.Maps
set_option linter.unusedVariables false
theorem step_want2 {P : Program} {ops : Array Oper} {o : Oper} {a : Act} {w : World} {K : Act → World → Prop} {Q : Exit → Act → World → Prop} {E : Prop} (hw : Region.wanted o (yielded ops a.tmps) = true) (h : Oper.wp P o a w K Q) :
    if Region.wanted o (yielded ops a.tmps) = true then Oper.wp P o a w K Q else E := by
  rw [if_pos hw]
  exact h
/-- A frame more stands in the map. -/
theorem FmA.mono {P Q : Nat → Prop} {w : World} {x : Option Fm} {u : Option Value} (h : FmA P w x u) (hp : ∀ k, P k → Q k) : FmA Q w x u := by
  cases x with
  | none => exact h
  | some f =>
    obtain ⟨v1, v2, h1, h2, h3⟩ := h
    exact ⟨v1, v2, h1, ls_mono h2 hp, ls_mono h3 hp⟩
theorem frm_app {fs : List Fm} {x : Fm} (h : ∀ f ∈ fs, f.pc < x.pc) (pc : Int) : frm (fs ++ [x]) pc = if pc = x.pc then some x else frm fs pc := by
  unfold frm
  rw [List.find?_append]
  by_cases e : pc = x.pc
  · subst e
    rw [if_pos rfl]
    have hn : fs.find? (fun f => f.pc == x.pc) = none := by
      rw [List.find?_eq_none]
      intro f hf
      have := h f hf
      simp
      omega
    rw [hn]
    simp
  · rw [if_neg e]
    have hx : ([x].find? fun f => f.pc == pc) = none := by
      rw [List.find?_eq_none]
      intro f hf
      obtain rfl := List.mem_singleton.1 hf
      simpa using fun e2 => e e2.symm
    rw [hx]
    cases fs.find? (fun f => f.pc == pc) <;> rfl
/-- .. and the look at it: what was there stays. -/
theorem FM.put {P D : Nat → Prop} {w : World} {b M : Nat} {fs : List Fm} (h : FM P w b M fs) (hM : M < maxLen) (hb : ¬ P b) (hD : ¬ D b) {x : Fm} (hx : ∀ f ∈ fs, f.pc < x.pc) (hi : I6 x.pc) {v1 v2 : Value} (h1 : Ls D w v1 x.loc) (h2 : Ls P w v2 x.stk) :
    ∃ w', (Instr.mapUpdate 103 (.map (some b)) (.int .i64 x.pc) (.agg #[v1, v2])).run Tryz.prog w = .ok () w' ∧ FM (fun k => P k ∨ D k) w' b (M + 1) (fs ++ [x]) ∧ w.grownBy w' (some b) ∧ w'.heap.size = w.heap.size := by
  obtain ⟨n, f, q1, q2, q3⟩ := h
  obtain ⟨w', hr, r1, r2, r3⟩ := q2.put und_fm (by omega) hi (.agg #[v1, v2])
  have hk : ∀ g, (P g ∨ D g) → g < w.heap.size → w'.heap[g]? = w.heap[g]? := fun g hg hl => r2.block g hl (fun e => by
    injection e with e
    subst e
    rcases hg with hg | hg
    · exact hb hg
    · exact hD hg)
  refine ⟨w', hr, ⟨n + 1, _, by omega, r1, fun pc hp => ?_⟩, r2, r3⟩
  rw [frm_app hx]
  by_cases e : pc = x.pc
  · rw [if_pos e, if_pos e]
    exact ⟨v1, v2, rfl, ls_kept (ls_mono h1 fun k hk => .inr hk) hk, ls_kept (ls_mono h2 fun k hk => .inl hk) hk⟩
  · rw [if_neg e, if_neg e]
    exact ((q3 pc hp).mono fun k hk => .inl hk).of hk
theorem takeF_step {E : Chk} {n : Nat} {ops : List Ins} {l : List FrI} {k : Nat} {f : FrI} {a : Int} {fs : List Fm} (h : l[k]? = some f) :
    takeF E n ops (l.drop k) a fs = if f.pc ≤ a ∨ begins ops f.pc = false ∨ n < f.locals.length ∨ E.room < f.stack.length then (60, fs)
      else if frmTypes E f ≠ 0 then (frmTypes E f, fs) else takeF E n ops (l.drop (k + 1)) f.pc (fs ++ [⟨f.pc, fill f.locals n, f.stack⟩]) := by
  obtain ⟨h1, rfl⟩ := List.getElem?_eq_some_iff.1 h
  rw [List.drop_eq_getElem_cons h1]
  rfl
/-- What takeFrames leaves. -/
def TkOut (E : Chk) (Z P : Nat → Prop) (wT : World) (c : Nat) (F : Fx) (N M : Nat) (s : Cs) (kn : Bool) (st : Value) (w : World) (x : Int × List Fm) (e : Ending) (w' : World) : Prop :=
  e = .returned (.int .i64 x.1) ∧ Ch (fun k => Z k ∨ k = F.fb) w w' ∧ (x.1 = 0 → ∃ D : Nat → Prop, (∀ b, D b → Z b ∧ b < w'.heap.size) ∧ Ck E (fun b => Z b ∧ ¬ D b) wT c F N s kn st w' ∧ FM (fun k => P k ∨ D k) w' F.fb M x.2)
theorem takeF_all {E : Chk} {n : Nat} {ops : List Ins} {Q : Fm → Prop} : ∀ (l : List FrI) (a : Int) (fs : List Fm), (∀ f ∈ fs, Q f) → (∀ x ∈ l, Q ⟨x.pc, fill x.locals n, x.stack⟩) → ∀ f ∈ (takeF E n ops l a fs).2, Q f
  | [], a, fs, hF, _ => hF
  | x :: r, a, fs, hF, h => by
    unfold takeF
    split
    · exact hF
    split
    · exact hF
    exact takeF_all r _ _ (fun f hf => by
      rcases List.mem_append.1 hf with hf | hf
      · exact hF f hf
      · rw [List.mem_singleton.1 hf]
        exact h x (by simp)) (fun y hy => h y (by simp [hy]))
section
variable {E : Chk} {Z : Nat → Prop} {wT : World} {c : Nat} {F : Fx} {N : Nat} {s : Cs} {kn : Bool} {st : Value} {w : World}
set_option maxHeartbeats 16000000 in
set_option maxRecDepth 100000 in
theorem takeFrames_c (HE : Hid (Env E F.tb wT)) (HF : Hid (Fit E F wT)) (HC : Hid (Ck E Z wT c F N s kn st w)) {P : Nat → Prop} (hfz : ¬ Z F.fb) (hfT : wT.heap.size ≤ F.fb) (hPz : ∀ k, P k → ¬ (Z k ∨ k = F.fb)) (HFM : Hid (FM P w F.fb 0 []))
    {Po : Nat → Prop} {l : List Opx} {ops : List Ins} (HO : Hid (RdX Po 4 OpE w F.ops l)) (hOz : ∀ k, Po k → ¬ (Z k ∨ k = F.fb)) (hs : SortO l) (hbeg : ∀ pc, beginsO l pc = begins ops pc)
    {n : Nat} (hml : F.ml = n) (hn : n ≤ 1000) {frames : List FrI} (HM : Hid (RdX P 3 (FrE P) w F.mfr frames)) (hfr : ∀ f ∈ frames, I6 f.pc ∧ (∀ t ∈ f.locals, t.length ≤ ML) ∧ ∀ t ∈ f.stack, t.length ≤ ML) :
    Calls Tryz.prog 49 #[.pointer (some ⟨c, 0, none⟩)] w (TkOut E Z P wT c F N frames.length s kn st w (takeF E n ops frames (-1) [])) := by
  obtain ⟨Am, cm, hmm⟩ := HM.out.shape
  have hm5 := HM.out
  have hll : frames.length ≤ 4294967296 := by obtain ⟨_, _, _, _, h, _⟩ := hm5; exact h
  rw [hmm] at hm5
  have HM5 := lhid hm5
  have c15 : w.cell? ⟨c, 15, none⟩ = some (.slice Am frames.length cm) := by
    obtain ⟨vl, vs, hc, _⟩ := HC.out.it
    rw [← hmm]
    exact heap_cell hc rfl
  have HML := lhid hml
  have HS := lhid hs
  have HBG := lhid hbeg
  have HFR := lhid hfr
  have HPZ := lhid hPz
  have HOZ := lhid hOz
  have HI0 : Hid (Ck E (fun b => Z b ∧ ¬ (fun _ : Nat => False) b) wT c F N s kn st w) := lhid (HC.out.past (X := fun _ => False) (Q := fun _ => False) (Ch.refl _ _) (fun _ h => h.elim) (fun _ h => h.elim))
  have HFM0 : Hid (FM (fun k => P k ∨ (fun _ : Nat => False) k) w F.fb 0 []) := lhid (by
    obtain ⟨n, f, h1, h2, h3⟩ := HFM.out
    exact ⟨n, f, h1, h2, fun pc hp => (h3 pc hp).mono fun k hk => .inl hk⟩)
  clear hm5 hmm hml hs hbeg hfr hPz hOz
  go_enter Tryz.func49, Tryz.ntmps49
  go_wp2_with fail
  go_loopw [3, 13] (fun y i wr => ∃ (k : Nat) (a : Int) (fs : List Fm) (D : Nat → Prop), y = .int .i64 a ∧ i = .int .i64 k ∧ k ≤ frames.length ∧ Hid (Ck E (fun b => Z b ∧ ¬ D b) wT c F N s kn st wr) ∧ Hid (Ch (fun k => Z k ∨ k = F.fb) w wr) ∧ Hid (FM (fun k => P k ∨ D k) wr F.fb k fs) ∧ Hid (takeF E n ops frames (-1) [] = takeF E n ops (frames.drop k) a fs) ∧ Hid (∀ b, D b → Z b ∧ b < wr.heap.size) ∧ Hid (∀ f ∈ fs, f.pc ≤ a)) (fun _ i _ => frames.length - (intOf i).toNat)
  case atStart => exact ⟨0, -1, [], fun _ => False, rfl, rfl, Nat.zero_le _, HI0, lhid (Ch.refl _ _), HFM0, lhid (by simp), lhid (fun _ h => h.elim), lhid (fun f h => by cases h)⟩
  case round =>
    obtain ⟨k, a, fs, D, rfl, rfl, hk, HK, HCH, HFK, HTF, HD, HA⟩ := hrel
    by_cases hlt : k < frames.length
    · obtain ⟨f, hf⟩ : ∃ f, frames[k]? = some f := ⟨_, List.getElem?_eq_getElem hlt⟩
      have k3 : (k : Int) < frames.length := by omega
      have hst := takeF_step (E := E) (n := n) (ops := ops) (a := a) (fs := fs) hf
      obtain ⟨ga, oa, cc, hAm, _, hE, hc⟩ := (HM5.out.kept (keptX_fr P) (w' := wr) fun g hg hs => HCH.out.block g hs (HPZ.out g hg)).at' hf
      subst hAm
      obtain ⟨va, vb, rfl, ha, hb⟩ := hE
      obtain ⟨Aa, ca, rfl⟩ := ha.shape
      obtain ⟨Ab, cb, rfl⟩ := hb.shape
      have c0 : wr.cell? ⟨ga, oa + k * 3, none⟩ = some (.int .i64 f.pc) := hc 0 _ rfl
      have c1 : wr.cell? ⟨ga, oa + k * 3 + 1, none⟩ = some (.slice Aa f.locals.length ca) := hc 1 _ rfl
      have c2 : wr.cell? ⟨ga, oa + k * 3 + 2, none⟩ = some (.slice Ab f.stack.length cb) := hc 2 _ rfl
      have hb0 : Below wr.heap.size wr (wr.alloc (.cells #[.int .i64 f.pc, .slice Aa f.locals.length ca, .slice Ab f.stack.length cb] 94)) := (Below.refl _ _).alloc (Nat.le_refl _) _
      have hz0 := heap_alloc_new wr (.cells #[.int .i64 f.pc, .slice Aa f.locals.length ca, .slice Ab f.stack.length cb] 94)
      have hsz0 : (wr.alloc (.cells #[.int .i64 f.pc, .slice Aa f.locals.length ca, .slice Ab f.stack.length cb] 94)).heap.size = wr.heap.size + 1 := by simp
      obtain ⟨V, hV⟩ : ∃ y, wr.alloc (.cells #[.int .i64 f.pc, .slice Aa f.locals.length ca, .slice Ab f.stack.length cb] 94) = y := ⟨_, rfl⟩
      rw [hV] at hb0 hz0 hsz0
      have HKV := lhid (HK.out.box hb0 (Nat.le_refl _) (by rw [hsz0]; omega))
      have hxx : ∀ w' : World, Below V.heap.size V w' → w'.cell? ⟨c, 16, none⟩ = some F.ops ∧ w'.cell? ⟨c, 12, none⟩ = some (.int .i64 n) ∧ w'.cell? ⟨c, 11, none⟩ = some (.int .i64 E.room) ∧ w'.cell? ⟨wr.heap.size, 0, none⟩ = some (.int .i64 f.pc) ∧ w'.cell? ⟨wr.heap.size, 1, none⟩ = some (.slice Aa f.locals.length ca) ∧ w'.cell? ⟨wr.heap.size, 2, none⟩ = some (.slice Ab f.stack.length cb) ∧ w'.cell? ⟨c, 18, none⟩ = some (.map (some F.fb)) := fun w' hb => by
        obtain ⟨vl, vs, hc, _⟩ := HKV.out.it
        have h1 := (hb.block _ (heap_lt hc)).trans hc
        have h2 := (hb.block _ (heap_lt hz0)).trans hz0
        exact ⟨heap_cell h1 rfl, by rw [← HML.out]; exact heap_cell h1 rfl, by rw [← HF.out.ms]; exact heap_cell h1 rfl, heap_cell h2 rfl, heap_cell h2 rfl, heap_cell h2 rfl, heap_cell h1 rfl⟩
      have HX := lhid hxx
      have HHA := lhid (ls_below' ha hb0)
      have HHB := lhid (ls_below' hb hb0)
      have HV := lhid hV
      have HB0 := lhid hb0
      have HZ0 := lhid hz0
      have HSZ := lhid hsz0
      have HST := lhid hst
      have HFF := lhid (HFR.out f (List.mem_of_getElem? hf))
      have HOV := lhid (HO.out.kept (keptX_op Po) (w' := V) fun g hg hs => (hb0.block g (Nat.lt_of_lt_of_le hs HCH.out.size)).trans (HCH.out.block g hs (HOZ.out g hg)))
      clear hc hf hb0 hz0 hV hsz0 hxx ha hb hst
      go_upto_region 5 with fail
      rw [HV.out]
      obtain ⟨d1, hd1⟩ : ∃ b, decide (f.pc ≤ a) = b := ⟨_, rfl⟩
      obtain ⟨b2, hb2⟩ : ∃ b, begins ops f.pc = b := ⟨_, rfl⟩
      obtain ⟨d3, hd3⟩ : ∃ b, decide (n < f.locals.length) = b := ⟨_, rfl⟩
      obtain ⟨d4, hd4⟩ : ∃ b, decide (E.room < f.stack.length) = b := ⟨_, rfl⟩
      have HB2 := lhid hb2
      have HBAD : Hid ((f.pc ≤ a ∨ begins ops f.pc = false ∨ n < f.locals.length ∨ E.room < f.stack.length) ↔ (d1 || !b2 || d3 || d4) = true) := lhid (by
        rw [hb2, ← hd1, ← hd3, ← hd4]
        cases b2 <;> simp [or_assoc])
      obtain ⟨x16, x12, x11, y0, y1, y2, x18⟩ := HX.out V (Below.refl _ _)
      clear hb2
      go_cut [49] from 17 to 75 (fun t49 wx => t49 = .bool (d1 || !b2 || d3 || d4) ∧ Hid (Below V.heap.size V wx))
      case first =>
        have hX : ∀ w' : World, Below V.heap.size V w' → w'.cell? ⟨c, 16, none⟩ = some F.ops ∧ w'.cell? ⟨c, 12, none⟩ = some (.int .i64 n) ∧ w'.cell? ⟨c, 11, none⟩ = some (.int .i64 E.room) ∧ w'.cell? ⟨wr.heap.size, 0, none⟩ = some (.int .i64 f.pc) ∧ w'.cell? ⟨wr.heap.size, 1, none⟩ = some (.slice Aa f.locals.length ca) ∧ w'.cell? ⟨wr.heap.size, 2, none⟩ = some (.slice Ab f.stack.length cb) := fun w' hb => by
          obtain ⟨q1, q2, q3, q4, q5, q6, _⟩ := HX.out w' hb
          exact ⟨q1, q2, q3, q4, q5, q6⟩
        have HXX := lhid hX
        clear hX x16 x12 x11 y0 y1 y2 x18
        have HB2' : Hid (begins ops f.pc = b2) := HB2
        cases d1 <;> cases b2 <;> cases d3
        all_goals
          refine wp_region_quiet_c (C := fun w' => Below V.heap.size V w') (by kernel_rfl) (by kernel_rfl) (Below.drew' (Below.refl _ _)) ?_
          repeat (first
            | go_big_quiet_skip
            | (go_big_quiet_want
               first
                 | (refine quiet_of_run (v := ?_) (fun w' hw' => ?_) ?_
                    rotate_left
                    · (obtain ⟨p16, p12, p11, q0, q1, q2⟩ := HXX.out w' hw'; go_simp; try with_reducible rfl)
                    go_big_quiet_on
                    try simp only [Act.put, List.setIfInBounds_toArray, List.set_cons_zero, List.set_cons_succ])
                 | (refine quiet_of_call (v := .bool true) (f := 101) (args := #[.pointer (some ⟨c, 0, none⟩), .int .i64 f.pc]) (fun w' hw' => ?_) (fun w' hw' => ?_) ?_
                    · (go_simp; try with_reducible rfl)
                    · (refine (begins_b f.pc (HXX.out w' hw').1 (HOV.out.kept (keptX_op Po) (w' := w') fun g hg hs => hw'.block g hs) HS.out).mono ?_
                       rintro e w5 ⟨rfl, hb5⟩
                       rw [HBG.out, HB2.out]
                       exact ⟨rfl, hw'.trans (Below.less hb5 hw'.size)⟩)
                    go_big_quiet_on
                    try simp only [Act.put, List.setIfInBounds_toArray, List.set_cons_zero, List.set_cons_succ])
                 | (refine quiet_of_call (v := .bool false) (f := 101) (args := #[.pointer (some ⟨c, 0, none⟩), .int .i64 f.pc]) (fun w' hw' => ?_) (fun w' hw' => ?_) ?_
                    · (go_simp; try with_reducible rfl)
                    · (refine (begins_b f.pc (HXX.out w' hw').1 (HOV.out.kept (keptX_op Po) (w' := w') fun g hg hs => hw'.block g hs) HS.out).mono ?_
                       rintro e w5 ⟨rfl, hb5⟩
                       rw [HBG.out, HB2.out]
                       exact ⟨rfl, hw'.trans (Below.less hb5 hw'.size)⟩)
                    go_big_quiet_on
                    try simp only [Act.put, List.setIfInBounds_toArray, List.set_cons_zero, List.set_cons_succ])))
          refine wpQuiet_nil ?_
          intro wx hwx
          go_wp2_with fail
          go_meet
          exact ⟨by first | rfl | simp [hd4], lhid hwx⟩
      case rest =>
        obtain ⟨rfl, HBW⟩ := hcut
        obtain ⟨W2, hW2⟩ : ∃ x, wc = x := ⟨_, rfl⟩
        rw [hW2] at HBW ⊢
        obtain ⟨bad, hbad⟩ : ∃ b, (d1 || !b2 || d3 || d4) = b := ⟨_, rfl⟩
        rw [hbad] at HBAD ⊢
        clear hW2 wc x16 x12 x11 y0 y1 y2 x18 c0 c1 c2 hbad hd1 hd3 hd4
        cases bad with
        | true =>
          have HR : Hid (takeF E n ops frames (-1) [] = (60, fs)) := lhid (by rw [HTF.out, HST.out, if_pos (HBAD.out.2 rfl)])
          go_wp2_with fail
          go_ret
          rw [HR.out]
          exact ⟨rfl, (HCH.out.below HB0.out).below HBW.out, fun h => by cases h⟩
        | false =>
          have HNB : Hid (¬ (f.pc ≤ a ∨ begins ops f.pc = false ∨ n < f.locals.length ∨ E.room < f.stack.length)) := lhid (fun h => by simpa using HBAD.out.1 h)
          have HK2 := lhid (HKV.out.below HBW.out)
          obtain ⟨_, _, _, z0, z1, z2, _⟩ := HX.out W2 HBW.out
          have c0 := HK2.out.cell
          have hst2 := HK2.out.std
          have hls1 := ls_below' HHA.out HBW.out
          have hls2 := ls_below' HHB.out HBW.out
          have HL1 := lhid hls1
          have HL2 := lhid hls2
          have HST2 := lhid hst2
          clear hst2 hls1 hls2
          go_wp2_with fail
          with_reducible refine (checkTypes_b HE HST2.out c0 P _ _ f HL1.out HL2.out HFF.out.2.1 HFF.out.2.2).mono ?_
          rintro e W3 ⟨rfl, hb3⟩
          have HB3 := lhid (HBW.out.trans (Below.less hb3 HBW.out.size))
          clear hb3 c0 z0 z1 z2
          obtain ⟨fe, hfe⟩ : ∃ x, frmTypes E f = x := ⟨_, rfl⟩
          rw [hfe]
          have HFE := lhid hfe
          clear hfe
          by_cases h0 : fe = 0
          · have d0 : (fe != 0) = false := by rw [h0]; rfl
            have HTN : Hid (takeF E n ops frames (-1) [] = takeF E n ops (frames.drop (k + 1)) f.pc (fs ++ [⟨f.pc, fill f.locals n, f.stack⟩])) := lhid (by
              rw [HTF.out, HST.out, if_neg HNB.out, if_neg (fun h => h (HFE.out.trans h0))])
            have hxx : ∀ w' : World, Below W3.heap.size W3 w' → w'.cell? ⟨c, 18, none⟩ = some (.map (some F.fb)) ∧ w'.cell? ⟨c, 12, none⟩ = some (.int .i64 n) ∧ w'.cell? ⟨wr.heap.size, 0, none⟩ = some (.int .i64 f.pc) ∧ w'.cell? ⟨wr.heap.size, 1, none⟩ = some (.slice Aa f.locals.length ca) ∧ w'.cell? ⟨wr.heap.size, 2, none⟩ = some (.slice Ab f.stack.length cb) := fun w' hb => by
              obtain ⟨_, q2, _, q4, q5, q6, q7⟩ := HX.out w' (HB3.out.trans (Below.less hb HB3.out.size))
              exact ⟨q7, q2, q4, q5, q6⟩
            have HXX := lhid hxx
            obtain ⟨e18, e12, e0, e1, e2⟩ := hxx W3 (Below.refl _ _)
            have hlen : f.locals.length ≤ n := by
              have := HNB.out
              omega
            have HL3 := lhid (ls_below' HHA.out HB3.out)
            have HL4 := lhid (ls_below' HHB.out HB3.out)
            have hput : ∀ (w5 : World) (y1 : Value), w5.ownsRow W3.heap.size 9 1 y1 n (lnV (fill f.locals n)) → Below W3.heap.size W3 w5 → ∃ w6, (Instr.mapUpdate 103 (.map (some F.fb)) (.int .i64 f.pc) (.agg #[y1, .slice Ab f.stack.length cb])).run Tryz.prog w5 = .ok () w6 ∧ FM (fun b => P b ∨ ((D b ∨ b = wr.heap.size) ∨ y1.ownBlock = some b)) w6 F.fb (k + 1) (fs ++ [⟨f.pc, fill f.locals n, f.stack⟩]) ∧ w5.grownBy w6 (some F.fb) ∧ w6.heap.size = w5.heap.size ∧ (∀ g, y1.ownBlock = some g → W3.heap.size ≤ g ∧ g < w5.heap.size) := fun w5 y1 ho hb => by
              have hbr : Below wr.heap.size wr w5 := (HB0.out.trans (Below.less HB3.out HB0.out.size)).trans (Below.less hb (Nat.le_trans HB0.out.size HB3.out.size))
              have hF5 : FM (fun b => P b ∨ D b) w5 F.fb k fs := HFK.out.ch (Z := fun _ => False) (Ch.of hbr) (fun h => h) (fun _ _ h => h)
              have hfbl : F.fb < wr.heap.size := by obtain ⟨m, g, _, h2, _⟩ := HFK.out; exact h2.lt
              have hown : ∀ g, y1.ownBlock = some g → W3.heap.size ≤ g ∧ g < w5.heap.size := fun g hg => ho.lt g hg
              have hsz3 : wr.heap.size ≤ W3.heap.size := Nat.le_trans HB0.out.size HB3.out.size
              have ho2 : w5.ownsRow W3.heap.size 9 1 y1 (fill f.locals n).length (lnV (fill f.locals n)) := by rw [fill_len]; exact ho
              obtain ⟨w6, h1, h2, h3, h4⟩ := hF5.put (D := fun g => y1.ownBlock = some g) (x := ⟨f.pc, fill f.locals n, f.stack⟩) (v1 := y1) (v2 := .slice Ab f.stack.length cb) (by unfold maxLen; omega)
                (fun h => h.elim (fun h => HPZ.out _ h (.inr rfl)) (fun h => hfz (HD.out _ h).1)) (fun h => by have := (hown _ h).1; omega)
                (fun g hg => by have h1 := HA.out g hg; have h2 := HNB.out; show g.pc < f.pc; omega) HFF.out.1
                (own_ls ho2 (by rw [fill_len]; exact hn) (fun t ht => by
                  rcases fill_mem ht with ht | rfl
                  · exact HFF.out.2.1 t ht
                  · exact Nat.zero_le _))
                (ls_mono (ls_below' HL4.out hb) fun k hk => .inl hk)
              refine ⟨w6, h1, ?_, h3, h4, hown⟩
              obtain ⟨m, g, q1, q2, q3⟩ := h2
              refine ⟨m, g, q1, q2, fun pc hp => (q3 pc hp).mono fun b hb => ?_⟩
              rcases hb with (hb | hb) | hb
              · exact .inl hb
              · exact .inr (.inl (.inl hb))
              · exact .inr (.inr hb)
            have HPUT := lhid hput
            have hkeep : ∀ w5 w6 : World, Below W3.heap.size W3 w5 → w5.grownBy w6 (some F.fb) → w6.cell? ⟨c, 18, none⟩ = some (.map (some F.fb)) ∧ w6.cell? ⟨c, 12, none⟩ = some (.int .i64 n) ∧ w6.cell? ⟨wr.heap.size, 0, none⟩ = some (.int .i64 f.pc) ∧ w6.cell? ⟨wr.heap.size, 1, none⟩ = some (.slice Aa f.locals.length ca) ∧ w6.cell? ⟨wr.heap.size, 2, none⟩ = some (.slice Ab f.stack.length cb) := fun w5 w6 hb hg => by
              obtain ⟨q1, q2, q3, q4, q5⟩ := HXX.out w5 hb
              have hfbl : F.fb < wr.heap.size := by obtain ⟨m, g, _, h2, _⟩ := HFK.out; exact h2.lt
              have hc := hg.block c (cell_lt q1) (fun e => by injection e with e; exact hfz (by rw [← e]; exact HC.out.cz))
              have hw := hg.block wr.heap.size (cell_lt q3) (fun e => by injection e with e; omega)
              exact ⟨(cell_heap hc 18).trans q1, (cell_heap hc 12).trans q2, (cell_heap hw 0).trans q3, (cell_heap hw 1).trans q4, (cell_heap hw 2).trans q5⟩
            have HKEEP := lhid hkeep
            clear h0 hxx hput hkeep
            go_upto_region 10 with fail
            go_region_held3 (fun w' => w'.cell? ⟨c, 18, none⟩ = some (.map (some F.fb)) ∧ w'.cell? ⟨c, 12, none⟩ = some (.int .i64 n) ∧ w'.cell? ⟨wr.heap.size, 0, none⟩ = some (.int .i64 f.pc) ∧ w'.cell? ⟨wr.heap.size, 1, none⟩ = some (.slice Aa f.locals.length ca) ∧ w'.cell? ⟨wr.heap.size, 2, none⟩ = some (.slice Ab f.stack.length cb)) (first | with_reducible exact HXX.out _ (Below.drew' (Below.refl _ _)) | with_reducible exact HXX.out _ hb5 | with_reducible exact hs6) (first
              | ((with_reducible refine (filled_c P (.slice Aa f.locals.length ca) f.locals n _ (lhid (ls_below' HL3.out (Below.drew' (Below.refl _ _)))) hlen hn).mono ?_); rintro e w5 ⟨y1, rfl, ho5, hb5'⟩; have hb5 : Below W3.heap.size W3 w5 := ⟨hb5'.os, hb5'.tape, hb5'.output, hb5'.size, hb5'.block⟩; obtain ⟨B1, g1, rfl⟩ := own_shape ho5; obtain ⟨w6, hrun6, hfm6, hg6, hz6, hy6⟩ := HPUT.out w5 _ ho5 hb5; have hs6 := HKEEP.out w5 w6 hb5 hg6))
            obtain ⟨_, _, s0, _, _⟩ := hs6
            have hZ' : ∀ b, (((Z b ∧ ¬ D b) ∧ b ≠ wr.heap.size) ∧ ¬ (Value.slice B1 n g1).ownBlock = some b) ↔ (Z b ∧ ¬ ((D b ∨ b = wr.heap.size) ∨ (Value.slice B1 n g1).ownBlock = some b)) := fun b => ⟨fun h => ⟨h.1.1.1, fun h2 => h2.elim (fun h3 => h3.elim h.1.1.2 h.1.2) h.2⟩, fun h => ⟨⟨⟨h.1, fun h2 => h.2 (.inl (.inl h2))⟩, fun h2 => h.2 (.inl (.inr h2))⟩, fun h2 => h.2 (.inr h2)⟩⟩
            have hs3 := HB3.out.size
            have hs5 := hb5.size
            have hsV := HSZ.out
            have hch6 : Ch (fun b => b = F.fb) W3 w6 := (Ch.of hb5).grown hg6 (fun b hb _ => by injection hb with hb; exact hb.symm)
            have HK3 := HKV.out.below HB3.out
            have HK6 := lhid ((HK3.past (Q := fun b => (Value.slice B1 n g1).ownBlock = some b) hch6 (fun b hb => by subst hb; exact ⟨fun h => hfz h.1.1, hfT⟩) (fun b hb => by have := hy6 b hb; exact ⟨this.1, by omega⟩)).zone hZ')
            have HCH6 : Hid (Ch (fun b => Z b ∨ b = F.fb) w w6) := lhid ((((HCH.out.below HB0.out).below HB3.out).below hb5).grown hg6 (fun b hb _ => by injection hb with hb; exact .inr hb.symm))
            have HFM6 := lhid hfm6
            have hzw : Z wr.heap.size := (HK.out.new wr.heap.size (Nat.le_refl _)).1
            have HD6 : Hid (∀ b, ((D b ∨ b = wr.heap.size) ∨ (Value.slice B1 n g1).ownBlock = some b) → Z b ∧ b < w6.heap.size) := lhid (fun b h => by
              rcases h with (h | h) | h
              · have h1 := HD.out b h
                exact ⟨h1.1, by omega⟩
              · subst h
                exact ⟨hzw, by omega⟩
              · have h1 := hy6 b h
                exact ⟨((HK3.new b h1.1).1.1), by omega⟩)
            have HA6 : Hid (∀ x ∈ fs ++ [⟨f.pc, fill f.locals n, f.stack⟩], x.pc ≤ f.pc) := lhid (fun x hx => by
              rcases List.mem_append.1 hx with hx | hx
              · have h1 := HA.out x hx
                have h2 := HNB.out
                omega
              · rw [List.mem_singleton.1 hx]
                exact Int.le_refl _)
            clear hZ' hs3 hs5 hsV hch6 HK3 hzw hfm6 hg6 hz6 hy6 hb5 hb5' ho5 hrun6 e18 e12 e0 e1 e2
            go_wp2_with fail
            go_roundw
            case rel => exact ⟨k + 1, f.pc, fs ++ [⟨f.pc, fill f.locals n, f.stack⟩], fun b => (D b ∨ b = wr.heap.size) ∨ (Value.slice B1 n g1).ownBlock = some b, rfl, by go_num, by omega, HK6, HCH6, HFM6, HTN, HD6, HA6⟩
            case measure => simp [intOf]; omega
          · have d0 : (fe != 0) = true := by rw [bne_iff_ne]; exact h0
            have HR : Hid (takeF E n ops frames (-1) [] = (fe, fs)) := lhid (by
              rw [HTF.out, HST.out, if_neg HNB.out, if_pos (by rw [HFE.out]; exact h0), HFE.out])
            have HN0 := lhid h0
            clear h0
            go_wp2_with fail
            go_ret
            rw [HR.out]
            exact ⟨rfl, (HCH.out.below HB0.out).below HB3.out, fun h => absurd h HN0.out⟩
    · go_wp2_with fail
      go_ret
      have hkr : k = frames.length := by omega
      subst hkr
      have hfin : takeF E n ops frames (-1) [] = (0, fs) := by rw [HTF.out, List.drop_length]; rfl
      rw [hfin]
      exact ⟨rfl, HCH.out, fun _ => ⟨D, HD.out, HK.out, HFK.out⟩⟩
end
end Go.Proofs.YtpdnonlelocfbaaGreatDoor
