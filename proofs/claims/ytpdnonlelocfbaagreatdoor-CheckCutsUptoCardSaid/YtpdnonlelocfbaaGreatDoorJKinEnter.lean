/- enter: classes go into the tree's map, their names behind one another. -/
import Derived.Test.YtpdnonlelocfbaaGreatDoorM12
import Derived.Deep.RegionHeld3
import Derived.Deep.AppendLies
import Derived.BigRegion
import Derived.Deep.Cut
import Derived.Deep.RegionLaw
namespace Go.Proofs.YtpdnonlelocfbaaGreatDoor
open Go.RowKit Go Go.Maps
set_option linter.unusedVariables false

def EnterOut (l : List ClI) (tb cb ab : Nat) (w : World) (e : Ending) (w' : World) : Prop :=
  Ch (fun b => b = tb ∨ b = cb) w w' ∧ ((¬ (l.map ClI.name).Nodup ∧ e = .returned (.bool false)) ∨ ((l.map ClI.name).Nodup ∧ e = .returned (.bool true) ∧ ∃ v xs, Tr w' tb cb ab v ∧ w'.ownsRow w.heap.size 9 1 v l.length xs ∧ RowsE 1 (StE w') (l.map ClI.name) xs ∧ CM (fun g => w.heap.size ≤ g) w' cb l))
theorem und_str : True := trivial
theorem take_next {l : List ClI} {k : Nat} {x : ClI} (h : l[k]? = some x) : l.take (k + 1) = l.take k ++ [x] := by rw [List.take_add_one, h]; rfl
theorem nodup_in {l : List ClI} {k : Nat} {x : ClI} (h : l[k]? = some x) (hm : x.name ∈ (l.take k).map ClI.name) : ¬ (l.map ClI.name).Nodup := by
  intro hn
  have h2 : ((l.take (k + 1)).map ClI.name).Nodup := hn.sublist ((List.take_sublist _ _).map _)
  rw [take_next h, List.map_append, List.nodup_append] at h2
  exact h2.2.2 _ hm x.name (by simp) rfl
theorem nodup_out {l : List ClI} {k : Nat} {x : ClI} (h : l[k]? = some x) (hn : ((l.take k).map ClI.name).Nodup) (hm : x.name ∉ (l.take k).map ClI.name) : ((l.take (k + 1)).map ClI.name).Nodup := by
  rw [take_next h, List.map_append, List.nodup_append]
  refine ⟨hn, by simp, fun a ha b hb e => ?_⟩
  simp at hb
  subst hb
  subst e
  exact hm ha
set_option maxHeartbeats 16000000 in
set_option maxRecDepth 100000 in
theorem enter_any (P : Nat → Prop) (tb cb ab : Nat) (v : Value) (l : List ClI) (w : World) (h : Hid (RdX P 7 (ClE P) w v l)) (hP : Hid (∀ g, P g → g ≠ tb ∧ g ≠ cb ∧ g < w.heap.size)) (hT : Hid (Tr w tb cb ab (.slice none 0 0))) (hC : Hid (CM (fun g => w.heap.size ≤ g) w cb [])) (hne : tb ≠ cb) (hl : l.length ≤ 60) (hn : Hid (∀ c ∈ l, c.name.length ≤ maxLen)) :
    Calls Tryz.prog 43 #[.pointer (some ⟨tb, 0, none⟩), v] w (EnterOut l tb cb ab w) := by
  obtain ⟨A, cap, rfl⟩ := h.out.shape
  obtain ⟨i0, hi, hz0, hz1, hz2⟩ := info_parts info_st
  have htl := heap_lt hT.out
  have hcl := hC.out.lt
  have HZ0 := lhid hz0
  go_enter Tryz.func43, Tryz.ntmps43
  go_wp2_with fail
  go_loopw [11] (fun i wr => ∃ (kk : Nat) (v : Value) (xs : List Value), i = .int .i64 kk ∧ kk ≤ l.length ∧ Hid (((l.take kk).map ClI.name).Nodup) ∧ Hid (Tr wr tb cb ab v) ∧ Hid (wr.ownsRow w.heap.size 9 1 v kk xs) ∧ Hid (RowsE 1 (StE wr) ((l.take kk).map ClI.name) xs) ∧ Hid (CM (fun g => w.heap.size ≤ g ∧ v.ownBlock ≠ some g) wr cb (l.take kk)) ∧ Hid (Ch (fun b => b = tb ∨ b = cb) w wr)) (fun i _ => l.length - (intOf i).toNat)
  case atStart => exact ⟨0, _, [], rfl, Nat.zero_le _, lhid (by simp), hT, lhid (World.ownsRow_nil _ _ _ _), lhid (rowsE_nil _ _), lhid (hC.out.mono fun g hg _ => ⟨hg, by simp [Value.ownBlock]⟩), lhid (Ch.refl _ _)⟩
  case round =>
    obtain ⟨kk, v, xs, rfl, hkk, HN, HT, HO, HR, HC, HCh⟩ := hrel
    obtain ⟨A3, c3, rfl⟩ := own_shape HO.out
    by_cases hlt : kk < l.length
    · obtain ⟨x, hx⟩ : ∃ x, l[kk]? = some x := ⟨_, List.getElem?_eq_getElem hlt⟩
      have HX := lhid hx
      have HRd := lhid (h.out.ch (keptX_cl P) HCh.out (fun g hg => by have := hP.out g hg; simp [this.1, this.2.1]))
      obtain ⟨ga, oa, cc, rfl, _, hE, hc⟩ := HRd.out.at' hx
      have hc1 := row_cl _ _ _ _ hE
      have HE := lhid hE
      have HCL := lhid hc1.1
      have HRA : Hid (wr.rangeAt ga (oa + kk * 7) cc) := lhid hc
      have HSZ : Hid ((Tryz.prog.info? 39).map (·.size) = some cc.length) := lhid (by rw [hc1.1]; exact sz_cl)
      have HSA : Hid ((Tryz.prog.info? 39).map (·.size) = some cc.toArray.size) := lhid (by simpa using HSZ.out)
      have HALL : Hid (cc.toArray.all (·.oneCell') = true) := lhid (all_oneCell_toArray hc1.2)
      have hth : (wr.alloc (.cells #[.int .i64 0, .string ⟨#[]⟩, .string ⟨#[]⟩, .slice none 0 0, .slice none 0 0, .slice none 0 0, .slice none 0 0] 39)).there wr.heap.size 0 7 := fun j hj => ⟨by
        rw [Nat.zero_add, heap_cell (heap_alloc_new wr _) (Array.getElem?_eq_getElem (by simpa using hj))]; rfl, heap_thaw (heap_alloc_new wr _) _⟩
      have HTA : Hid ((wr.alloc (.cells #[.int .i64 0, .string ⟨#[]⟩, .string ⟨#[]⟩, .slice none 0 0, .slice none 0 0, .slice none 0 0, .slice none 0 0] 39)).there wr.heap.size 0 cc.toArray.size) := lhid (by rw [show cc.toArray.size = 7 by simpa using hc1.1]; exact hth)
      have HRB : Hid (((wr.alloc (.cells #[.int .i64 0, .string ⟨#[]⟩, .string ⟨#[]⟩, .slice none 0 0, .slice none 0 0, .slice none 0 0, .slice none 0 0] 39)).setCells wr.heap.size 0 cc).rangeAt wr.heap.size 0 cc) := lhid (World.rangeAt_setCells_same _ _ _ _ (by rw [hc1.1]; exact hth))
      have HW2 : Hid (Below wr.heap.size wr ((wr.alloc (.cells #[.int .i64 0, .string ⟨#[]⟩, .string ⟨#[]⟩, .slice none 0 0, .slice none 0 0, .slice none 0 0, .slice none 0 0] 39)).setCells wr.heap.size 0 cc)) := lhid (below_cells ((Below.refl wr.heap.size wr).alloc (Nat.le_refl _) _) (Nat.le_refl _) _ _)
      have hsz1 : ((wr.alloc (.cells #[.int .i64 0, .string ⟨#[]⟩, .string ⟨#[]⟩, .slice none 0 0, .slice none 0 0, .slice none 0 0, .slice none 0 0] 39)).setCells wr.heap.size 0 cc).heap.size = wr.heap.size + 1 := by rw [setCells_size]; simp
      have HS1 := lhid hsz1
      have k3 : (kk : Int) < l.length := by omega
      have hbs := HCh.out.size
      have hnx := lhid (hn.out x (List.mem_of_getElem? hx))
      have HCh1 : Hid (Ch (fun b => b = tb ∨ b = cb) w ((wr.alloc (.cells #[.int .i64 0, .string ⟨#[]⟩, .string ⟨#[]⟩, .slice none 0 0, .slice none 0 0, .slice none 0 0, .slice none 0 0] 39)).setCells wr.heap.size 0 cc)) := lhid (HCh.out.below HW2.out)
      have HE1 := lhid (keptX_cl P _ _ _ _ (fun b _ hl => HW2.out.block b hl) hE)
      have HT1 := lhid (HT.out.below HW2.out)
      have HC1 := lhid (HC.out.below HW2.out)
      have HO1 := lhid (own_below HO.out HW2.out)
      obtain ⟨a, p, b, d, hcc, hE1, hE2, hE3, hE4⟩ := hE
      have HQ : Hid (((wr.alloc (.cells #[.int .i64 0, .string ⟨#[]⟩, .string ⟨#[]⟩, .slice none 0 0, .slice none 0 0, .slice none 0 0, .slice none 0 0] 39)).setCells wr.heap.size 0 cc).cell? ⟨wr.heap.size, 0, none⟩ = some (.int .i64 x.flags) ∧ ((wr.alloc (.cells #[.int .i64 0, .string ⟨#[]⟩, .string ⟨#[]⟩, .slice none 0 0, .slice none 0 0, .slice none 0 0, .slice none 0 0] 39)).setCells wr.heap.size 0 cc).cell? ⟨wr.heap.size, 1, none⟩ = some (.string (tx x.name)) ∧ ((wr.alloc (.cells #[.int .i64 0, .string ⟨#[]⟩, .string ⟨#[]⟩, .slice none 0 0, .slice none 0 0, .slice none 0 0, .slice none 0 0] 39)).setCells wr.heap.size 0 cc).cell? ⟨wr.heap.size, 2, none⟩ = some (.string (tx x.super)) ∧ ((wr.alloc (.cells #[.int .i64 0, .string ⟨#[]⟩, .string ⟨#[]⟩, .slice none 0 0, .slice none 0 0, .slice none 0 0, .slice none 0 0] 39)).setCells wr.heap.size 0 cc).cell? ⟨wr.heap.size, 3, none⟩ = some a ∧ ((wr.alloc (.cells #[.int .i64 0, .string ⟨#[]⟩, .string ⟨#[]⟩, .slice none 0 0, .slice none 0 0, .slice none 0 0, .slice none 0 0] 39)).setCells wr.heap.size 0 cc).cell? ⟨wr.heap.size, 4, none⟩ = some p ∧ ((wr.alloc (.cells #[.int .i64 0, .string ⟨#[]⟩, .string ⟨#[]⟩, .slice none 0 0, .slice none 0 0, .slice none 0 0, .slice none 0 0] 39)).setCells wr.heap.size 0 cc).cell? ⟨wr.heap.size, 5, none⟩ = some b ∧ ((wr.alloc (.cells #[.int .i64 0, .string ⟨#[]⟩, .string ⟨#[]⟩, .slice none 0 0, .slice none 0 0, .slice none 0 0, .slice none 0 0] 39)).setCells wr.heap.size 0 cc).cell? ⟨wr.heap.size, 6, none⟩ = some d) := lhid ⟨HRB.out 0 _ (by rw [hcc]; rfl), HRB.out 1 _ (by rw [hcc]; rfl), HRB.out 2 _ (by rw [hcc]; rfl), HRB.out 3 _ (by rw [hcc]; rfl), HRB.out 4 _ (by rw [hcc]; rfl), HRB.out 5 _ (by rw [hcc]; rfl), HRB.out 6 _ (by rw [hcc]; rfl)⟩
      have HCC : Hid (RdX P 1 StE wr a x.ifaces ∧ RdX P 5 CoE wr p x.pool ∧ RdX P 3 FlE wr b x.fields ∧ RdX P 8 (MeE P) wr d x.methods) := lhid ⟨hE1, hE2, hE3, hE4⟩
      clear hx hc hc1 hth hsz1 hcc hE1 hE2 hE3 hE4
      go_upto_region 4 with (first | (refine wpList_load_mid rfl 39 _ rfl ga (oa + kk * 7) rfl cc _ HRA.out Tryz.underlying39 (by rfl) HSZ.out ?_) | (refine wpList_store_mid rfl 39 _ _ rfl wr.heap.size 0 cc.toArray rfl rfl HTA.out HSA.out HALL.out ?_))
      generalize ((wr.alloc (.cells #[.int .i64 0, .string ⟨#[]⟩, .string ⟨#[]⟩, .slice none 0 0, .slice none 0 0, .slice none 0 0, .slice none 0 0] 39)).setCells wr.heap.size 0 cc) = wA at *
      obtain ⟨f, hm, hfs⟩ := HC1.out
      have HM := lhid hm
      have HFS := lhid hfs
      have hwa := HW2.out.size
      have hb6 : wr.heap.size < wA.heap.size := by have := HS1.out; omega
      have t1 : wA.cell? ⟨tb, 1, none⟩ = some (.map (some cb)) := heap_cell (i := 1) HT1.out rfl
      have hS : ∀ w' : World, Below wA.heap.size wA w' → (w'.cell? ⟨tb, 1, none⟩ = some (.map (some cb)) ∧ w'.cell? ⟨wr.heap.size, 1, none⟩ = some (.string (tx x.name)) ∧ MV w' cb (l.take kk).length f) := fun w' hb => ⟨(hb.cell (p := ⟨tb, 1, none⟩) (cell_lt t1)).trans t1, (hb.cell (p := ⟨wr.heap.size, 1, none⟩) hb6).trans HQ.out.2.1, HM.out.below hb⟩
      have HSS := lhid hS
      clear hm hfs hS t1
      cases hfind : findC (l.take kk) x.name with
      | some y =>
        obtain ⟨u, hfu, cy, rfl, a', p', b', d', rfl, r1, r2, r3, r4⟩ := (HFS.out x.name).2 y hfind
        obtain ⟨ya, da, rfl⟩ := r1.shape
        obtain ⟨yp, dp, rfl⟩ := r2.shape
        obtain ⟨yb, db, rfl⟩ := r3.shape
        obtain ⟨yd, dd, rfl⟩ := r4.shape
        have hlk : ∀ w' : World, Below wA.heap.size wA w' → (w'.cell? ⟨tb, 1, none⟩ = some (.map (some cb)) ∧ w'.cell? ⟨wr.heap.size, 1, none⟩ = some (.string (tx x.name)) ∧ (Instr.lookup 97 (.map (some cb)) (.string (tx x.name)) true).run Tryz.prog w' = .ok (.tuple #[.agg #[.int .i64 y.flags, .string (tx y.name), .string (tx y.super), .slice ya y.ifaces.length da, .slice yp y.pool.length dp, .slice yb y.fields.length db, .slice yd y.methods.length dd], .bool true]) w') := fun w' hw' => ⟨(HSS.out w' hw').1, (HSS.out w' hw').2.1, by
          have := ((HSS.out w' hw').2.2.look und_cm (zero_cl w') hnx.out).2
          rw [hfu] at this
          exact this⟩
        have HIN : Hid (¬ (l.map ClI.name).Nodup) := lhid (nodup_in HX.out (by
          have := findC_some hfind
          rw [← this.2]
          exact List.mem_map_of_mem this.1))
        have HLK := lhid hlk
        clear hfind hlk hfu r1 r2 r3 r4
        go_region_held3 (fun w' => w'.cell? ⟨tb, 1, none⟩ = some (.map (some cb)) ∧ w'.cell? ⟨wr.heap.size, 1, none⟩ = some (.string (tx x.name)) ∧ (Instr.lookup 97 (.map (some cb)) (.string (tx x.name)) true).run Tryz.prog w' = .ok (.tuple #[.agg #[.int .i64 y.flags, .string (tx y.name), .string (tx y.super), .slice ya y.ifaces.length da, .slice yp y.pool.length dp, .slice yb y.fields.length db, .slice yd y.methods.length dd], .bool true]) w') (first | exact HLK.out _ (Below.drew (Below.refl _ _)) | exact HLK.out _ ((Below.drew (Below.refl _ _)).alloc (Nat.le_refl _) _) | exact HLK.out _ ((Below.refl _ _).alloc (Nat.le_refl _) _)) (fail)
        all_goals go_wp2_with fail
        all_goals go_ret
        all_goals exact ⟨(HCh1.out.alloc _).drew, .inl ⟨HIN.out, rfl⟩⟩
      | none =>
        have hlk : ∀ w' : World, Below wA.heap.size wA w' → (w'.cell? ⟨tb, 1, none⟩ = some (.map (some cb)) ∧ w'.cell? ⟨wr.heap.size, 1, none⟩ = some (.string (tx x.name)) ∧ (Instr.lookup 97 (.map (some cb)) (.string (tx x.name)) true).run Tryz.prog w' = .ok (.tuple #[.agg #[.int .i64 0, .string ⟨#[]⟩, .string ⟨#[]⟩, .slice none 0 0, .slice none 0 0, .slice none 0 0, .slice none 0 0], .bool false]) w') := fun w' hw' => ⟨(HSS.out w' hw').1, (HSS.out w' hw').2.1, by
          have := ((HSS.out w' hw').2.2.look und_cm (zero_cl w') hnx.out).2
          rw [(HFS.out x.name).1 hfind] at this
          exact this⟩
        have HF := lhid hfind
        have HLK := lhid hlk
        clear hfind hlk
        go_region_held3 (fun w' => w'.cell? ⟨tb, 1, none⟩ = some (.map (some cb)) ∧ w'.cell? ⟨wr.heap.size, 1, none⟩ = some (.string (tx x.name)) ∧ (Instr.lookup 97 (.map (some cb)) (.string (tx x.name)) true).run Tryz.prog w' = .ok (.tuple #[.agg #[.int .i64 0, .string ⟨#[]⟩, .string ⟨#[]⟩, .slice none 0 0, .slice none 0 0, .slice none 0 0, .slice none 0 0], .bool false]) w') (first | exact HLK.out _ (Below.drew (Below.refl _ _)) | exact HLK.out _ ((Below.drew (Below.refl _ _)).alloc (Nat.le_refl _) _) | exact HLK.out _ ((Below.refl _ _).alloc (Nat.le_refl _) _)) (fail)
        all_goals go_upto_region 7 with fail
        all_goals
          have hAB : Below wA.heap.size wA (wA.alloc (.cells #[.int .i64 0, .string ⟨#[]⟩, .string ⟨#[]⟩, .slice none 0 0, .slice none 0 0, .slice none 0 0, .slice none 0 0] 39)).drew := Below.drew ((Below.refl _ _).alloc (Nat.le_refl _) _)
          have HAB := lhid hAB
          have HT2 := lhid (HT1.out.below hAB)
          have HO2 := lhid (own_below HO1.out hAB)
          have hq2 : (wA.alloc (.cells #[.int .i64 0, .string ⟨#[]⟩, .string ⟨#[]⟩, .slice none 0 0, .slice none 0 0, .slice none 0 0, .slice none 0 0] 39)).drew.cell? ⟨wr.heap.size, 1, none⟩ = some (.string (tx x.name)) := (hAB.cell (p := ⟨wr.heap.size, 1, none⟩) hb6).trans HQ.out.2.1
          have HQ2 := lhid hq2
          clear hAB hq2
          generalize (wA.alloc (.cells #[.int .i64 0, .string ⟨#[]⟩, .string ⟨#[]⟩, .slice none 0 0, .slice none 0 0, .slice none 0 0, .slice none 0 0] 39)).drew = wB at *
          have hba := HAB.out.size
          have HOa := lhid (HO2.out.alloc (.cells #[.string (tx x.name)] 9))
          have HTa := lhid ((Below.heap_alloc wB (.cells #[.string (tx x.name)] 9) _ (heap_lt HT2.out)).trans HT2.out)
          have HNa := lhid (heap_alloc_new wB (.cells #[.string (tx x.name)] 9))
          have H1C : Hid (∀ u ∈ [Value.string (tx x.name)], u.oneCell' = true) := lhid (by simp [Value.oneCell'])
          have h63 : kk + 1 ≤ maxLen := by unfold maxLen; omega
          have hby : (kk + 1) * 16 ≤ 140737488355328 := by omega
          have HSa : Hid (w.heap.size ≤ (wB.alloc (.cells #[.string (tx x.name)] 9)).heap.size) := lhid (by simp; omega)
          have x1 := HQ2.out
          have x2 : (wB.alloc (.cells #[.string (tx x.name)] 9)).cell? ⟨wr.heap.size, 1, none⟩ = some (.string (tx x.name)) := (((Below.refl _ _).alloc (Nat.le_refl wB.heap.size) _).cell (p := ⟨wr.heap.size, 1, none⟩) (cell_lt x1)).trans x1
          have d0 := heap_cell (i := 0) HT2.out rfl
          have d0a := heap_cell (i := 0) HTa.out rfl
        all_goals go_region_law (refine step_append_lies _ rfl (.tmp 30) (.tmp 33) 34 rfl w.heap.size 9 i0 (.string ⟨#[]⟩) 1 16 Tryz.underlying34 hi hz0 hz1 hz2 rfl (by decide) (.slice A3 kk c3) kk xs rfl HOa.out _ 1 _ [.string (tx x.name)] rfl rfl (World.news_of_block HNa.out) H1C.out (by decide) h63 hby HSa.out _ rfl ?_
                                 intro g cap6 w6 hown hgrow hat hlt6
                                 have hown' := hown
                                 have hge := own_lt HOa.out
                                 have hD6 : w6.heap[tb]? = some (.cells #[.slice A3 kk c3, .map (some cb), .map (some ab)] 100 (0, 0)) := by
                                   rw [hgrow.block tb (heap_lt HTa.out) (fun e => by have := hge tb e.symm; omega)]
                                   exact HTa.out
                                 have q6 := heap_cell (i := 0) hD6 rfl
                                 have z6 := heap_thaw hD6 0)
        all_goals go_upto_region 8 with fail
        all_goals
          have hol : ∀ k, (Value.slice A3 kk c3).ownBlock = some k → w.heap.size ≤ k ∧ k < wr.heap.size := fun k hk => HO.out.lt k hk
          have hch : Ch (fun b => b = tb ∨ (Value.slice A3 kk c3).ownBlock = some b) wA (w6.setCell ⟨tb, 0, none⟩ (.slice (some ⟨g, 0, none⟩) (kk + 1) cap6)) := (((((Ch.refl _ wA).below HAB.out).alloc (.cells #[.string (tx x.name)] 9)).drew).grown hgrow (fun k hk _ => .inr hk)).set (p := ⟨tb, 0, none⟩) (fun _ => .inl rfl) _
          have HT3 : Hid (Tr (w6.setCell ⟨tb, 0, none⟩ (.slice (some ⟨g, 0, none⟩) (kk + 1) cap6)) tb cb ab (.slice (some ⟨g, 0, none⟩) (kk + 1) cap6)) := lhid (heap_set hD6 _)
          have hglt := (hown'.lt g rfl).1
          have HO3 : Hid ((w6.setCell ⟨tb, 0, none⟩ (.slice (some ⟨g, 0, none⟩) (kk + 1) cap6)).ownsRow w.heap.size 9 1 (.slice (some ⟨g, 0, none⟩) (kk + 1) cap6) (kk + 1) (xs ++ [.string (tx x.name)])) := lhid (own_of hown' fun g' hg' => Below.heap_setCell _ _ _ _ (show g' ≠ tb from by have := (hown'.lt g' hg').1; omega))
          have HOG : Hid ((Value.slice A3 kk c3).ownBlock = some g ∨ wA.heap.size ≤ g) := lhid (hat.imp id fun e => by rw [e]; exact Nat.le_trans hba (by show _ ≤ (wB.alloc (.cells #[.string (tx x.name)] 9)).heap.size; simp))
          have HCH := lhid hch
          clear hown hown' hgrow hat hge hlt6 hD6 q6 z6 hch x1 x2 d0 d0a h63 hby
          generalize w6.setCell ⟨tb, 0, none⟩ (.slice (some ⟨g, 0, none⟩) (kk + 1) cap6) = wC at *
          have hac := HCH.out.size
          have HCw : Hid (Ch (fun b => b = tb ∨ b = cb) w wC) := lhid (HCh1.out.trans HCH.out (fun i hi he => by rcases he with e | e; exact .inl e; exact absurd hi (by have := (hol i e).1; omega)))
          have hkeep : ∀ b', b' ≠ tb → b' < wA.heap.size → (Value.slice A3 kk c3).ownBlock ≠ some b' → wC.heap[b']? = wA.heap[b']? := fun b' h1 h2 h3 => HCH.out.block b' h2 (fun e => by rcases e with e | e; exact h1 e; exact h3 e)
          have hk6 := hkeep wr.heap.size (by omega) hb6 (fun e => by have := (hol _ e).2; omega)
          have t1 : wC.cell? ⟨tb, 1, none⟩ = some (.map (some cb)) := heap_cell (i := 1) HT3.out rfl
          have hS : ∀ w' : World, Below wC.heap.size wC w' → (w'.cell? ⟨tb, 1, none⟩ = some (.map (some cb)) ∧ w'.cell? ⟨wr.heap.size, 0, none⟩ = some (.int .i64 x.flags) ∧ w'.cell? ⟨wr.heap.size, 1, none⟩ = some (.string (tx x.name)) ∧ w'.cell? ⟨wr.heap.size, 2, none⟩ = some (.string (tx x.super)) ∧ w'.cell? ⟨wr.heap.size, 3, none⟩ = some a ∧ w'.cell? ⟨wr.heap.size, 4, none⟩ = some p ∧ w'.cell? ⟨wr.heap.size, 5, none⟩ = some b ∧ w'.cell? ⟨wr.heap.size, 6, none⟩ = some d) := fun w' hb => by
            have e1 := (hb.cell (p := ⟨tb, 1, none⟩) (cell_lt t1)).trans t1
            have e2 : ∀ j, w'.cell? ⟨wr.heap.size, j, none⟩ = wA.cell? ⟨wr.heap.size, j, none⟩ := fun j => cell_heap ((hb.block _ (by omega)).trans hk6) j
            exact ⟨e1, (e2 0).trans HQ.out.1, (e2 1).trans HQ.out.2.1, (e2 2).trans HQ.out.2.2.1, (e2 3).trans HQ.out.2.2.2.1, (e2 4).trans HQ.out.2.2.2.2.1, (e2 5).trans HQ.out.2.2.2.2.2.1, (e2 6).trans HQ.out.2.2.2.2.2.2⟩
          have HS8 := lhid hS
          have hput88 : ∀ w7 w8 : World, Below wC.heap.size wC w7 → w7.grownBy w8 (some cb) → (w8.cell? ⟨tb, 1, none⟩ = some (.map (some cb)) ∧ w8.cell? ⟨wr.heap.size, 0, none⟩ = some (.int .i64 x.flags) ∧ w8.cell? ⟨wr.heap.size, 1, none⟩ = some (.string (tx x.name)) ∧ w8.cell? ⟨wr.heap.size, 2, none⟩ = some (.string (tx x.super)) ∧ w8.cell? ⟨wr.heap.size, 3, none⟩ = some a ∧ w8.cell? ⟨wr.heap.size, 4, none⟩ = some p ∧ w8.cell? ⟨wr.heap.size, 5, none⟩ = some b ∧ w8.cell? ⟨wr.heap.size, 6, none⟩ = some d) := fun w7 w8 hb hg => by
            have h := hS w7 hb
            have hs7 := hb.size
            have f1 : ∀ j, w8.cell? ⟨tb, j, none⟩ = w7.cell? ⟨tb, j, none⟩ := fun j => cell_heap (hg.block _ (by omega) (fun e => by injection e with e; exact hne e)) j
            have f2 : ∀ j, w8.cell? ⟨wr.heap.size, j, none⟩ = w7.cell? ⟨wr.heap.size, j, none⟩ := fun j => cell_heap (hg.block _ (by omega) (fun e => by injection e with e; omega)) j
            exact ⟨(f1 1).trans h.1, (f2 0).trans h.2.1, (f2 1).trans h.2.2.1, (f2 2).trans h.2.2.2.1, (f2 3).trans h.2.2.2.2.1, (f2 4).trans h.2.2.2.2.2.1, (f2 5).trans h.2.2.2.2.2.2.1, (f2 6).trans h.2.2.2.2.2.2.2⟩
          have hkp : ∀ g', P g' → g' < wr.heap.size → wC.drew.heap[g']? = wr.heap[g']? := fun g' hg' _ => by
            have h1 := hP.out g' hg'
            exact (HCw.out.block g' h1.2.2 (by simp [h1.1, h1.2.1])).trans (HCh.out.block g' h1.2.2 (by simp [h1.1, h1.2.1])).symm
          have K1 := lhid (HCC.out.1.kept (keptX_st P) hkp)
          have K2 := lhid (HCC.out.2.1.kept (keptX_co P) hkp)
          have K3 := lhid (HCC.out.2.2.1.kept (keptX_fl P) hkp)
          have K4 := lhid (HCC.out.2.2.2.kept (keptX_me P) hkp)
          have HM3 := lhid (HM.out.of (hkeep cb (fun e => hne e.symm) HM.out.lt (fun e => by have := (hol _ e).1; omega)))
          have HHK := lhid hkeep
          clear hS hkp t1 hk6 hkeep
        all_goals go_region_held3 (fun w' => w'.cell? ⟨tb, 1, none⟩ = some (.map (some cb)) ∧ w'.cell? ⟨wr.heap.size, 0, none⟩ = some (.int .i64 x.flags) ∧ w'.cell? ⟨wr.heap.size, 1, none⟩ = some (.string (tx x.name)) ∧ w'.cell? ⟨wr.heap.size, 2, none⟩ = some (.string (tx x.super)) ∧ w'.cell? ⟨wr.heap.size, 3, none⟩ = some a ∧ w'.cell? ⟨wr.heap.size, 4, none⟩ = some p ∧ w'.cell? ⟨wr.heap.size, 5, none⟩ = some b ∧ w'.cell? ⟨wr.heap.size, 6, none⟩ = some d) (first | exact HS8.out _ (Below.drew (Below.refl _ _)) | exact HS8.out _ hb7 | exact h88) (first
            | ((with_reducible refine (copyClass_any P x a p b d _ K1 K2 K3 K4).mono ?_); rintro e w7 ⟨cs7, rfl, hE7, hb7'⟩; have hb7 : Below wC.heap.size wC w7 := ⟨hb7'.os, hb7'.tape, hb7'.output, hb7'.size, hb7'.block⟩; obtain ⟨w8, hrun8, hm8, hg8, hs8⟩ := (HM3.out.below hb7).put und_cm (by rw [List.length_take]; unfold maxLen; omega) hnx.out (.agg cs7.toArray); have h88 := hput88 w7 w8 hb7 hg8))
        all_goals
          have hch8 : Ch (· = cb) w7 w8 := (Ch.refl _ w7).grown hg8 (by rintro k e _; injection e with e; exact e.symm)
          have hgc := (HO3.out.lt g rfl).2
          have NT : Hid (Tr w8 tb cb ab (.slice (some ⟨g, 0, none⟩) (kk + 1) cap6)) := lhid ((HT3.out.below hb7).ch hch8 hne)
          have NO : Hid (w8.ownsRow w.heap.size 9 1 (.slice (some ⟨g, 0, none⟩) (kk + 1) cap6) (kk + 1) (xs ++ [.string (tx x.name)])) := lhid (own_ch (own_below HO3.out hb7) hch8 (fun g' hg' e => by have := (HO3.out.lt g' hg').1; omega))
          have NR : Hid (RowsE 1 (StE w8) ((l.take (kk + 1)).map ClI.name) (xs ++ [.string (tx x.name)])) := lhid (by
            rw [take_next HX.out, List.map_append]
            exact RowsE.app (HR.out.imp fun _ _ h => h) (rowsE_one rfl rfl))
          have NC : Hid (CM (fun g' => w.heap.size ≤ g' ∧ (Value.slice (some ⟨g, 0, none⟩) (kk + 1) cap6).ownBlock ≠ some g') w8 cb (l.take (kk + 1))) := lhid (by
            rw [take_next HX.out]
            refine cm_put (Q := fun g' => w.heap.size ≤ g' ∧ (Value.slice (some ⟨g, 0, none⟩) (kk + 1) cap6).ownBlock ≠ some g') (w := w7) (fun s => ⟨(HFS.out s).1, fun c hs => ?_⟩) hch8 (fun h => by have := h.1; omega) HF.out ⟨cs7, rfl, ?_⟩ hm8
            · obtain ⟨u, h1, h2⟩ := (HFS.out s).2 c hs
              refine ⟨u, h1, ?_⟩
              have h3 := ((h2.mono (Q := fun g' => (w.heap.size ≤ g' ∧ (Value.slice A3 kk c3).ownBlock ≠ some g') ∧ g' < wA.heap.size) (fun g' hg' hl => ⟨hg', hl⟩)).kept (w' := wC) (fun g' hg' hl => HHK.out g' (by have := hg'.1.1; omega) hl hg'.1.2)).below hb7
              refine h3.mono (fun g' hg' _ => ⟨hg'.1.1, fun e => ?_⟩)
              injection e with e
              rcases HOG.out with h4 | h4
              · exact hg'.1.2 (by rw [h4]; exact congrArg some e)
              · have := hg'.2
                change g = g' at e
                omega
            · refine clE_mono (fun g' hg' _ => ?_) _ _ hE7
              have h5 : wC.heap.size ≤ g' := hg'
              exact ⟨by omega, fun e => by injection e with e; change g = g' at e; omega⟩)
          have NCh : Hid (Ch (fun b => b = tb ∨ b = cb) w w8) := lhid ((HCw.out.below hb7).trans hch8 (fun i _ e => .inr e))
          clear hch8 hgc hm8 hg8 hE7 hb7 hb7' h88 hput88 hrun8 hs8
        all_goals go_wp2_with fail
        all_goals go_roundw
        all_goals first
          | exact ⟨kk + 1, _, _, by go_num, by omega, lhid (nodup_out HX.out HN.out (findC_none.1 HF.out)), NT, NO, NR, NC, NCh⟩
          | (simp [intOf]; omega)
    · have k3 : ¬ (kk : Int) < l.length := by omega
      have e : kk = l.length := by omega
      subst e
      rw [List.take_length] at HN HR HC
      go_wp2_with fail
      go_ret
      exact ⟨HCh.out, .inr ⟨HN.out, rfl, _, xs, HT.out, HO.out, HR.out.imp fun _ _ h => h, HC.out.mono fun g hg _ => hg.1⟩⟩
end Go.Proofs.YtpdnonlelocfbaaGreatDoor
