/- Contract of the parser's body. Written by gen_file5.py. -/
import Derived.Test.YtgihfcimngogfaaGreatM12
import Derived.Test.YtgihfcimngogfaaGreatJPoolEntry
import Derived.Laws.IdiomStrings
namespace Go.Proofs.YtgihfcimngogfaaGreat
open Go.RowKit Go
set_option linter.unusedVariables false
def BOut (P R g : Nat) (L : List Con) (cf M : Nat) (p : Pr Met) (w : World) (e : Ending) (w' : World) : Prop :=
 Upto M R w w' ∧ match p with
 | .ok m r => e = .returned (.tuple #[]) ∧ (∃ cs : List Value, w'.heap[M]? = some (.cells cs.toArray 62 (0, 0)) ∧ MetE w' m cs) ∧ Rdy w' P R g L cf r
 | .er x => e = .panicked [pan x]
theorem bout_er {P R g cf M : Nat} {L : List Con} {p : Pr Met} {x : Nat} {w w' : World} (ho : Upto M R w w') (hp : p = .er x) : BOut P R g L cf M p w (.panicked [pan x]) w' := by
 subst hp
 exact ⟨ho, rfl⟩
theorem Rdy.drew {w : World} {P R g cf : Nat} {L : List Con} {s : Bs} (h : Rdy w P R g L cf s) : Rdy w.drew P R g L cf s := ⟨⟨h.p.blk, h.p.rows, h.p.pr, h.p.gr, h.p.good, h.p.small, h.p.flag⟩, h.r⟩
theorem bytP_er {n : Nat} {s : Bs} {x : Nat} (h : bytP n s = .er x) : takeL (s, false) n = [] ∧ takeS (s, false) n = ([], true) ∧ x = 11 := by
 unfold bytP at h
 split at h
 ·cases h
  rw [takeL_no (by simp; omega), takeS_no (by simp; omega)]
  exact ⟨rfl, rfl, rfl⟩
 ·cases h
theorem bytP_ok {n : Nat} {s code r : Bs} (h : bytP n s = .ok code r) : takeL (s, false) n = code ∧ takeS (s, false) n = (r, false) := by
 unfold bytP at h
 split at h
 ·cases h
 ·injection h with h1 h2
  rw [takeL_yes (by simp; omega), takeS_yes (by simp; omega)]
  exact ⟨by simpa using h1, by simpa using h2⟩
theorem bytesRow_at (l : Bs) (cap i : Nat) (x : UInt8) (h : l[i]? = some x) : (bytesRow (tx l) cap)[i]? = some (.int .u8 (x.toNat : Int)) := by
 unfold bytesRow
 refine app_at _ _ _ _ ?_
 show (l.toArray.map _)[i]? = _
 rw [Array.getElem?_map, List.getElem?_toArray, h]
 rfl
theorem conv_new (l : Bs) (w : World) : ∃ cap c f, (convert 9 28 (.string (tx l))).run Tryz.prog w = .ok (.slice (some ⟨w.heap.size, 0, none⟩) l.length cap) (w.drew.alloc (.cells c 5 f)) ∧ l.length ≤ cap ∧ (l.length ≤ maxLen → cap ≤ maxLen) ∧ ∀ (i : Nat) (x : UInt8), l[i]? = some x → c[i]? = some (.int .u8 (x.toNat : Int)) := by
 have h := run_bytes_of_string (P := Tryz.prog) w 9 28 5 (tx l) Tryz.underlying9 Tryz.underlying28 Tryz.underlying5
 refine ⟨grownCap w (tx l).size 0 5, bytesRow (tx l) (grownCap w (tx l).size 0 5), ((bytesRow (tx l) (grownCap w (tx l).size 0 5)).size, (bytesRow (tx l) (grownCap w (tx l).size 0 5)).size + 1), ?_, ?_, ?_, bytesRow_at l _⟩
 ·rw [h, tx_size]
 ·have := grownCap_ge w (tx l).size 0 5
  rw [tx_size] at this ⊢
  exact this
 ·intro hl
  exact grownCap_le_maxLen w _ 0 _ (by rw [tx_size]; exact hl)
theorem bout_ok {P R g cf M : Nat} {L : List Con} {p : Pr Met} {m : Met} {r : Bs} {w w' : World} (ho : Upto M R w w') (hp : p = .ok m r) (hm : ∃ cs : List Value, w'.heap[M]? = some (.cells cs.toArray 62 (0, 0)) ∧ MetE w' m cs) (hr : Rdy w' P R g L cf r) : BOut P R g L cf M p w (.returned (.tuple #[])) w' := by
 subst hp
 exact ⟨ho, rfl, hm, hr⟩
theorem bytP_len {n : Nat} {s code r : Bs} (h : bytP n s = .ok code r) : code.length = n ∧ n ≤ s.length := by
 unfold bytP at h
 split at h
 ·cases h
 ·injection h with h1 h2
  rw [← h1, List.length_take]
  omega
theorem Psr.cell {w : World} {P R g cf : Nat} {L : List Con} (h : Psr w P R g L cf) {C : Nat} (hC : P < C ∧ R < C ∧ g < C) (i : Nat) (v : Value) : Psr (w.setCell ⟨C, i, none⟩ v) P R g L cf :=
 ⟨by rw [Below.heap_setCell _ _ _ _ (Nat.ne_of_lt hC.1)]; exact h.blk, h.rows.other (Nat.ne_of_lt hC.2.2) v, h.pr, h.gr, h.good, h.small, h.flag⟩
theorem Psr.drew {w : World} {P R g cf : Nat} {L : List Con} (h : Psr w P R g L cf) : Psr w.drew P R g L cf := ⟨h.blk, h.rows, h.pr, h.gr, h.good, h.small, h.flag⟩
set_option maxHeartbeats 8000000 in
set_option maxRecDepth 100000 in
theorem body_any (P R g cf M : Nat) (L : List Con) (f : Nat) (m : Bs × Bs) (s : Bs) (w : World) (h : Hid (Rdy w P R g L cf s)) (hM : P < M ∧ R < M ∧ g < M) (HM0 : Hid (w.heap[M]? = some (.cells #[.int .i64 f, .string (tx m.1), .string (tx m.2), .int .i64 0, .int .i64 0, .slice none 0 0, .slice none 0 0, .slice none 0 0] 62 (0, 0)))) :
  Calls Tryz.prog 116 #[.pointer (some ⟨P, 0, none⟩), .pointer (some ⟨M, 0, none⟩)] w (BOut P R g L cf M (bdyP L f m s) w) := by
 have hmf : ∀ (fn : Fn) (first cap : Array Value) (w : World), (Instr.makeFunc fn first cap).run Tryz.prog w = .ok (.func fn first cap) w := fun _ _ _ _ => rfl
 have HMN : Hid (M ≠ R) := lhid (by omega)
 have HMC := lhid hM
 have HBW : Hid (M ≤ w.heap.size) := lhid (Nat.le_of_lt (heap_lt HM0.out))
 have HU0 := lhid (Upto.refl M R w)
 clear hM
 go_enter Tryz.func116, Tryz.ntmps116
 have HR1 := lhid h.out
 go_wp2_with fail
 with_reducible refine (count_k P R g cf L s 2 20 2 20 _ HR1 (by omega) (by omega) (lhid rfl) (lhid rfl)).mono ?_
 rintro e w1 ho
 have HO1 := lhid (HU0.out.step ho.1 HBW.out)
 have HM1 := lhid (Only.keep ho.1 HM0.out HMN.out)
 cases hp : cntP 2 20 s with
 | er x =>
  have hx := ho.er hp
  have HP := lhid hp
  clear ho hp
  obtain rfl := hx
  go_wp2_with fail
  exact ⟨rfl, bout_er HO1.out (by have hp := HP.out; simp only [bdyP, Pr.then, hp])⟩
 | ok st r =>
  have hx := ho.ok hp
  have HP1 := lhid hp
  clear ho hp
  obtain ⟨v, rfl, rfl, hr⟩ := hx
  have H1 := lhid hr
  clear hr
  have qHM3 := heap_cell (i := 3) HM1.out rfl
  have zHM3 := heap_thaw HM1.out 3
  have HM1s3 : Hid ((w1.setCell ⟨M, 3, none⟩ (.int .i64 st)).heap[M]? = some (.cells #[.int .i64 f, .string (tx m.1), .string (tx m.2), .int .i64 st, .int .i64 0, .slice none 0 0, .slice none 0 0, .slice none 0 0] 62 (0, 0))) := lhid (heap_set HM1.out _)
  have HR2 := lhid (H1.out.cell HMC.out 3 (.int .i64 st))
  go_wp2_with fail
  with_reducible refine (count_k P R g cf L r 2 40 2 40 _ HR2 (by omega) (by omega) (lhid rfl) (lhid rfl)).mono ?_
  rintro e w2 ho
  have HO2 := lhid ((HO1.out.setCell (p := ⟨M, 3, none⟩) (.inr (Nat.le_refl _)) (.int .i64 st)).step ho.1 HBW.out)
  have HM2 := lhid (Only.keep ho.1 HM1s3.out HMN.out)
  cases hp : cntP 2 40 r with
  | er x =>
   have hx := ho.er hp
   have HP := lhid hp
   clear ho hp
   obtain rfl := hx
   go_wp2_with fail
   exact ⟨rfl, bout_er HO2.out (by have hp := HP.out; simp only [bdyP, Pr.then, HP1.out, hp])⟩
  | ok lo r2 =>
   have hx := ho.ok hp
   have HP2 := lhid hp
   clear ho hp
   obtain ⟨v, rfl, rfl, hr⟩ := hx
   have H2 := lhid hr
   clear hr
   have qHM4 := heap_cell (i := 4) HM2.out rfl
   have zHM4 := heap_thaw HM2.out 4
   have HM2s4 : Hid ((w2.setCell ⟨M, 4, none⟩ (.int .i64 lo)).heap[M]? = some (.cells #[.int .i64 f, .string (tx m.1), .string (tx m.2), .int .i64 st, .int .i64 lo, .slice none 0 0, .slice none 0 0, .slice none 0 0] 62 (0, 0))) := lhid (heap_set HM2.out _)
   have c0 := ((H2.out.cell HMC.out 4 (.int .i64 lo))).p.c0
   go_wp2_with fail
   refine wp_region_any (by kernel_rfl) ?_
   try (change wpAny _ _ _ _ _ _ _ (World.drew _))
   refine wpAny_take (i := 0) (v := ?v0_1) rfl (by kernel_rfl) (by kernel_rfl) (by kernel_rfl) (fun _ _ _ h => h) (Or.inl ⟨by rfl, ?hy0_1⟩) ?rest0_1
   case hy0_1 => intro w; (first | (go_simp; done) | (go_simp; with_reducible rfl))
   refine wpAny_take (i := 1) (v := ?v1_2) rfl (by kernel_rfl) (by kernel_rfl) (by kernel_rfl) (fun _ _ _ h => h) (Or.inl ⟨by rfl, ?hy1_2⟩) ?rest1_2
   case hy1_2 => intro w; (first | (go_simp; done) | (go_simp; with_reducible rfl))
   refine wpAny_take (i := 2) (v := ?v2_3) rfl (by kernel_rfl) (by kernel_rfl) (by kernel_rfl) (fun _ _ _ h => h) (Or.inl ⟨by rfl, ?hy2_3⟩) ?rest2_3
   case hy2_3 => intro w; (first | (go_simp; done) | (go_simp; with_reducible rfl))
   refine wpAny_take (i := 3) (v := ?v3_4) rfl (by kernel_rfl) (by kernel_rfl) (by kernel_rfl) (fun _ _ _ h => h) (Or.inl ⟨by rfl, ?hy3_4⟩) ?rest3_4
   case hy3_4 => intro w; (first | (go_simp; done) | (go_simp; with_reducible rfl))
   refine wpAny_take (i := 5) (v := ?v5_5) rfl (by kernel_rfl) (by kernel_rfl) (by kernel_rfl) (fun _ _ _ h => h) (Or.inl ⟨by rfl, ?hy5_5⟩) ?rest5_5
   case hy5_5 => intro w; (first | (go_simp; done) | (go_simp; with_reducible rfl))
   refine wpAny_ready (rs := [4, 6]) (by kernel_rfl) (by simp) ?_
   refine AllReady.cons rfl (fun K hK => ?_) (AllReady.cons rfl (fun K hK => ?_) AllReady.nil)
   ·go_simp
    refine hK _ _ ?_
    clear hK K
    refine wpAny_ready (rs := [6]) (by kernel_rfl) (by simp) ?_
    refine AllReady.cons rfl (fun K hK => ?_) AllReady.nil
    go_simp
    have HR3 := lhid ((H2.out.cell HMC.out 4 (.int .i64 lo)).drew)
    with_reducible refine (count_k P R g cf L r2 2 4000 2 4000 _ HR3 (by omega) (by omega) (lhid rfl) (lhid rfl)).mono ?_
    rintro e w3 ho
    have HO3 := lhid (((HO2.out.setCell (p := ⟨M, 4, none⟩) (.inr (Nat.le_refl _)) (.int .i64 lo)).drew).step ho.1 HBW.out)
    have HM3 := lhid (Only.keep ho.1 HM2s4.out HMN.out)
    cases hp : cntP 2 4000 r2 with
    | er x =>
     have hx := ho.er hp
     have HP := lhid hp
     clear ho hp
     obtain rfl := hx
     dsimp only
     exact ⟨rfl, bout_er HO3.out (by have hp := HP.out; simp only [bdyP, Pr.then, HP1.out, HP2.out, hp])⟩
    | ok n r3 =>
     have hx := ho.ok hp
     have HP3 := lhid hp
     clear ho hp
     obtain ⟨v, rfl, rfl, hr⟩ := hx
     have H3 := lhid hr
     clear hr
     dsimp only
     refine hK _ _ ?_
     clear hK K
     have hle3 := cntP_le HP3.out
     cases hb : bytP n r3 with
     | er x =>
      obtain ⟨hbl, hbs, rfl⟩ := bytP_er hb
      have HBL := lhid hbl
      have HBS := lhid hbs
      have HP4 := lhid hb
      clear hbl hbs hb
      refine wpAny_ready (rs := [7]) (by kernel_rfl) (by simp) ?_
      refine AllReady.cons rfl (fun K hK => ?_) AllReady.nil
      go_simp
      with_reducible refine (take_any R (r3, false) n _ H3.out.r).mono ?_
      rintro e w4 ⟨rfl, hr, ho⟩
      rw [HBL.out]
      rw [HBS.out] at hr
      have HR4 := lhid hr
      have HO4 := lhid (HO3.out.step ho HBW.out)
      have HQ4 := lhid (H3.out.p.keep ho)
      have HM4 := lhid (Only.keep ho HM3.out HMN.out)
      clear hr ho
      dsimp only
      refine hK _ _ ?_
      clear hK K
      obtain ⟨cap, c, fz, hcv, hc1, hc2, hc3⟩ := conv_new ([] : Bs) w4
      have HC1 := lhid hc1
      have HC2 := lhid hc2
      have HC3 := lhid hc3
      clear hc1 hc2 hc3
      refine wpAny_ready (rs := [8]) (by kernel_rfl) (by simp) ?_
      refine AllReady.cons rfl (fun K hK => ?_) AllReady.nil
      go_simp
      refine hK _ _ ?_
      clear hK K
      have HM4a := lhid ((Below.heap_alloc w4 (.cells c 5 fz) _ (heap_lt HM4.out)).trans HM4.out)
      have qM := heap_cell (i := 5) HM4a.out rfl
      have zM := heap_thaw HM4a.out 5
      refine wpAny_ready (rs := [9]) (by kernel_rfl) (by simp) ?_
      refine AllReady.cons rfl (fun K hK => ?_) AllReady.nil
      go_simp
      refine hK _ _ ?_
      clear hK K
      refine wpAny_ready (rs := [10]) (by kernel_rfl) (by simp) ?_
      refine AllReady.cons rfl (fun K hK => ?_) AllReady.nil
      go_simp
      refine hK _ _ ?_
      clear hK K
      refine wpAny_ready (rs := [11]) (by kernel_rfl) (by simp) ?_
      refine AllReady.cons rfl (fun K hK => ?_) AllReady.nil
      go_simp
      refine hK _ _ ?_
      clear hK K
      refine wpAny_done (by kernel_rfl) ?_ _
      clear hcv
      have HPW := lhid (((HQ4.out.alloc (.cells c 5 fz)).cell HMC.out 5 (.slice (some ⟨w4.heap.size, 0, none⟩) 0 cap)).drew)
      have HRW : Hid (Rdr ((w4.alloc (.cells c 5 fz)).setCell ⟨M, 5, none⟩ (.slice (some ⟨w4.heap.size, 0, none⟩) 0 cap)).drew R ([], true)) := lhid ((HR4.out.alloc _).other (Nat.ne_of_lt HMC.out.2.1) _)
      have c0 := HPW.out.c0
      go_wp2_with fail
      with_reducible refine (refuseCutOff_yes P R ([], true) _ c0 HRW (lhid rfl)).mono ?_
      rintro e w5 ⟨rfl, q, rfl⟩
      go_wp2_with fail
      exact ⟨rfl, bout_er (((HO4.out.alloc HBW.out (.cells c 5 fz)).setCell (p := ⟨M, 5, none⟩) (.inr (Nat.le_refl _)) (.slice (some ⟨w4.heap.size, 0, none⟩) 0 cap)).drewN _) (by simp only [bdyP, Pr.then, HP1.out, HP2.out, HP3.out, HP4.out])⟩
     | ok code r4 =>
      obtain ⟨hbl, hbs⟩ := bytP_ok hb
      have HBL := lhid hbl
      have HBS := lhid hbs
      have HP4 := lhid hb
      have hcl : code.length ≤ maxLen := by have := bytP_len hb; unfold maxLen; omega
      clear hbl hbs hb
      refine wpAny_ready (rs := [7]) (by kernel_rfl) (by simp) ?_
      refine AllReady.cons rfl (fun K hK => ?_) AllReady.nil
      go_simp
      with_reducible refine (take_any R (r3, false) n _ H3.out.r).mono ?_
      rintro e w4 ⟨rfl, hr, ho⟩
      rw [HBL.out]
      rw [HBS.out] at hr
      have HR4 := lhid hr
      have HO4 := lhid (HO3.out.step ho HBW.out)
      have HQ4 := lhid (H3.out.p.keep ho)
      have HM4 := lhid (Only.keep ho HM3.out HMN.out)
      clear hr ho
      dsimp only
      refine hK _ _ ?_
      clear hK K
      obtain ⟨cap, c, fz, hcv, hc1, hc2, hc3⟩ := conv_new code w4
      have HC1 := lhid hc1
      have HC2 := lhid hc2
      have HC3 := lhid hc3
      clear hc1 hc2 hc3
      refine wpAny_ready (rs := [8]) (by kernel_rfl) (by simp) ?_
      refine AllReady.cons rfl (fun K hK => ?_) AllReady.nil
      go_simp
      refine hK _ _ ?_
      clear hK K
      have HM4a := lhid ((Below.heap_alloc w4 (.cells c 5 fz) _ (heap_lt HM4.out)).trans HM4.out)
      have qM := heap_cell (i := 5) HM4a.out rfl
      have zM := heap_thaw HM4a.out 5
      refine wpAny_ready (rs := [9]) (by kernel_rfl) (by simp) ?_
      refine AllReady.cons rfl (fun K hK => ?_) AllReady.nil
      go_simp
      refine hK _ _ ?_
      clear hK K
      refine wpAny_ready (rs := [10]) (by kernel_rfl) (by simp) ?_
      refine AllReady.cons rfl (fun K hK => ?_) AllReady.nil
      go_simp
      refine hK _ _ ?_
      clear hK K
      refine wpAny_ready (rs := [11]) (by kernel_rfl) (by simp) ?_
      refine AllReady.cons rfl (fun K hK => ?_) AllReady.nil
      go_simp
      refine hK _ _ ?_
      clear hK K
      refine wpAny_done (by kernel_rfl) ?_ _
      clear hcv
      have H4 : Hid (Rdy w4 P R g L cf r4) := lhid ⟨HQ4.out, HR4.out⟩
      have HW4 : Hid (Rdy ((w4.alloc (.cells c 5 fz)).setCell ⟨M, 5, none⟩ (.slice (some ⟨w4.heap.size, 0, none⟩) code.length cap)).drew P R g L cf r4) := lhid (((H4.out.alloc (.cells c 5 fz)).cell HMC.out 5 (.slice (some ⟨w4.heap.size, 0, none⟩) code.length cap)).drew)
      have HM4s : Hid (((w4.alloc (.cells c 5 fz)).setCell ⟨M, 5, none⟩ (.slice (some ⟨w4.heap.size, 0, none⟩) code.length cap)).drew.heap[M]? = some (.cells #[.int .i64 f, .string (tx m.1), .string (tx m.2), .int .i64 st, .int .i64 lo, .slice (some ⟨w4.heap.size, 0, none⟩) code.length cap, .slice none 0 0, .slice none 0 0] 62 (0, 0))) := lhid (heap_set HM4a.out _)
      have HBV : Hid (BytsO (w4.alloc (.cells c 5 fz)) (.slice (some ⟨w4.heap.size, 0, none⟩) code.length cap) code) := lhid (.inr ⟨w4.heap.size, cap, c, fz, rfl, HC1.out, HC2.out hcl, heap_alloc_new w4 _, HC3.out⟩)
      have HV1_4 : Hid (BytsO ((w4.alloc (.cells c 5 fz)).setCell ⟨M, 5, none⟩ (.slice (some ⟨w4.heap.size, 0, none⟩) code.length cap)).drew (.slice (some ⟨w4.heap.size, 0, none⟩) code.length cap) code) := lhid (byts_set HBV.out ⟨_, _, HM4a.out⟩ (by decide) 5 (.slice (some ⟨w4.heap.size, 0, none⟩) code.length cap))
      have HO4s := lhid (((HO4.out.alloc HBW.out (.cells c 5 fz)).setCell (p := ⟨M, 5, none⟩) (.inr (Nat.le_refl _)) (.slice (some ⟨w4.heap.size, 0, none⟩) code.length cap)).drew)
      have c0 := HW4.out.p.c0
      generalize ((w4.alloc (.cells c 5 fz)).setCell ⟨M, 5, none⟩ (.slice (some ⟨w4.heap.size, 0, none⟩) code.length cap)).drew = W4 at *
      generalize w4.heap.size = wb at *
      go_wp2_with fail
      with_reducible refine (refuseCutOff_no P R (r4, false) _ c0 (lhid HW4.out.r) (lhid rfl)).mono ?_
      rintro e w5 ⟨rfl, q, rfl⟩
      have HR5 := lhid (HW4.out.drewN q)
      go_wp2_with fail
      with_reducible refine (count_k P R g cf L r4 2 60 2 60 _ HR5 (by omega) (by omega) (lhid rfl) (lhid rfl)).mono ?_
      rintro e w5 ho
      have HO5 := lhid ((HO4s.out.drewN q).step ho.1 HBW.out)
      have HM5 := lhid (Only.keep ho.1 HM4s.out HMN.out)
      have HV1_5 := lhid (byts_rdr (byts_drewN HV1_4.out q) HR5.out.r ho.1)
      cases hp : cntP 2 60 r4 with
      | er x =>
       have hx := ho.er hp
       have HP := lhid hp
       clear ho hp
       obtain rfl := hx
       go_wp2_with fail
       exact ⟨rfl, bout_er HO5.out (by have hp := HP.out; simp only [bdyP, Pr.then, HP1.out, HP2.out, HP3.out, HP4.out, hp])⟩
      | ok k r5 =>
       have hx := ho.ok hp
       have HP5 := lhid hp
       clear ho hp
       obtain ⟨v, rfl, rfl, hr⟩ := hx
       have H5 := lhid hr
       clear hr
       have hle5 := cntP_le HP5.out
       have HR6 := lhid H5.out
       go_wp2_with fail
       with_reducible refine (listR_any P R g cf L r5 k _ HR6 (by omega)).mono ?_
       rintro e w6 ho
       have HO6 := lhid (HO5.out.step ho.1 HBW.out)
       have HM6 := lhid (Only.keep ho.1 HM5.out HMN.out)
       have HV1_6 := lhid (byts_rdr HV1_5.out HR6.out.r ho.1)
       cases hp : manyP (rowP L) k r5 [] with
       | er x =>
        have hx := ho.er hp
        have HP := lhid hp
        clear ho hp
        obtain rfl := hx
        go_wp2_with fail
        exact ⟨rfl, bout_er HO6.out (by have hp := HP.out; simp only [bdyP, Pr.then, HP1.out, HP2.out, HP3.out, HP4.out, HP5.out, hp])⟩
       | ok rows r6 =>
        have hx := ho.ok hp
        have HP6 := lhid hp
        clear ho hp
        obtain ⟨v, rfl, hv2, hr⟩ := hx
        have H6 := lhid hr
        clear hr
        obtain ⟨A2, c2, rfl⟩ := slO_shape hv2
        have HV2_6 := lhid hv2
        clear hv2
        have qHM6 := heap_cell (i := 6) HM6.out rfl
        have zHM6 := heap_thaw HM6.out 6
        have HM6s6 : Hid ((w6.setCell ⟨M, 6, none⟩ (.slice A2 rows.length c2)).heap[M]? = some (.cells #[.int .i64 f, .string (tx m.1), .string (tx m.2), .int .i64 st, .int .i64 lo, .slice (some ⟨wb, 0, none⟩) code.length cap, .slice A2 rows.length c2, .slice none 0 0] 62 (0, 0))) := lhid (heap_set HM6.out _)
        have HV1_6s6 := lhid (byts_set HV1_6.out ⟨_, _, HM6.out⟩ (by decide) 6 (.slice A2 rows.length c2))
        have HV2_6s6 := lhid (rws_set HV2_6.out ⟨_, _, HM6.out⟩ (by decide) 6 (.slice A2 rows.length c2))
        have HR7 := lhid (H6.out.cell HMC.out 6 (.slice A2 rows.length c2))
        go_wp2_with fail
        with_reducible refine (count_k P R g cf L r6 2 4000 2 4000 _ HR7 (by omega) (by omega) (lhid rfl) (lhid rfl)).mono ?_
        rintro e w7 ho
        have HO7 := lhid ((HO6.out.setCell (p := ⟨M, 6, none⟩) (.inr (Nat.le_refl _)) (.slice A2 rows.length c2)).step ho.1 HBW.out)
        have HM7 := lhid (Only.keep ho.1 HM6s6.out HMN.out)
        have HV1_7 := lhid (byts_rdr HV1_6s6.out HR7.out.r ho.1)
        have HV2_7 := lhid (rws_rdr HV2_6s6.out HR7.out.r ho.1)
        cases hp : cntP 2 4000 r6 with
        | er x =>
         have hx := ho.er hp
         have HP := lhid hp
         clear ho hp
         obtain rfl := hx
         go_wp2_with fail
         exact ⟨rfl, bout_er HO7.out (by have hp := HP.out; simp only [bdyP, Pr.then, HP1.out, HP2.out, HP3.out, HP4.out, HP5.out, HP6.out, hp])⟩
        | ok q2 r7 =>
         have hx := ho.ok hp
         have HP7 := lhid hp
         clear ho hp
         obtain ⟨v, rfl, rfl, hr⟩ := hx
         have H7 := lhid hr
         clear hr
         have hle7 := cntP_le HP7.out
         have HR8 := lhid H7.out
         go_wp2_with fail
         with_reducible refine (listF_any P R g cf L r7 q2 _ HR8 (by omega)).mono ?_
         rintro e w8 ho
         have HO8 := lhid (HO7.out.step ho.1 HBW.out)
         have HM8 := lhid (Only.keep ho.1 HM7.out HMN.out)
         have HV1_8 := lhid (byts_rdr HV1_7.out HR8.out.r ho.1)
         have HV2_8 := lhid (rws_rdr HV2_7.out HR8.out.r ho.1)
         cases hp : manyP (frmP L) q2 r7 [] with
         | er x =>
          have hx := ho.er hp
          have HP := lhid hp
          clear ho hp
          obtain rfl := hx
          go_wp2_with fail
          exact ⟨rfl, bout_er HO8.out (by have hp := HP.out; simp only [bdyP, Pr.then, HP1.out, HP2.out, HP3.out, HP4.out, HP5.out, HP6.out, HP7.out, hp])⟩
         | ok frames r8 =>
          have hx := ho.ok hp
          have HP8 := lhid hp
          clear ho hp
          obtain ⟨v, rfl, hv3, hr⟩ := hx
          have H8 := lhid hr
          clear hr
          obtain ⟨A3, c3, rfl⟩ := slO_shape hv3
          have HV3_8 := lhid hv3
          clear hv3
          have qHM7 := heap_cell (i := 7) HM8.out rfl
          have zHM7 := heap_thaw HM8.out 7
          have HM8s7 : Hid ((w8.setCell ⟨M, 7, none⟩ (.slice A3 frames.length c3)).heap[M]? = some (.cells #[.int .i64 f, .string (tx m.1), .string (tx m.2), .int .i64 st, .int .i64 lo, .slice (some ⟨wb, 0, none⟩) code.length cap, .slice A2 rows.length c2, .slice A3 frames.length c3] 62 (0, 0))) := lhid (heap_set HM8.out _)
          have HV1_8s7 := lhid (byts_set HV1_8.out ⟨_, _, HM8.out⟩ (by decide) 7 (.slice A3 frames.length c3))
          have HV2_8s7 := lhid (rws_set HV2_8.out ⟨_, _, HM8.out⟩ (by decide) 7 (.slice A3 frames.length c3))
          have HV3_8s7 := lhid (frms_set HV3_8.out ⟨_, _, HM8.out⟩ (by decide) 7 (.slice A3 frames.length c3))
          go_wp2_with fail
          go_end0
          exact bout_ok (m := (⟨f, m.1, m.2, st, lo, code, rows, frames⟩ : Met)) (HO8.out.setCell (p := ⟨M, 7, none⟩) (.inr (Nat.le_refl _)) (.slice A3 frames.length c3)) (by simp only [bdyP, Pr.then, HP1.out, HP2.out, HP3.out, HP4.out, HP5.out, HP6.out, HP7.out, HP8.out]) ⟨_, HM8s7.out, _, _, _, rfl, HV1_8s7.out, HV2_8s7.out, HV3_8s7.out⟩ (H8.out.cell HMC.out 7 (.slice A3 frames.length c3))
   ·go_simp
    have HR3 := lhid ((H2.out.cell HMC.out 4 (.int .i64 lo)).drew)
    with_reducible refine (count_k P R g cf L r2 2 4000 2 4000 _ HR3 (by omega) (by omega) (lhid rfl) (lhid rfl)).mono ?_
    rintro e w3 ho
    have HO3 := lhid (((HO2.out.setCell (p := ⟨M, 4, none⟩) (.inr (Nat.le_refl _)) (.int .i64 lo)).drew).step ho.1 HBW.out)
    have HM3 := lhid (Only.keep ho.1 HM2s4.out HMN.out)
    cases hp : cntP 2 4000 r2 with
    | er x =>
     have hx := ho.er hp
     have HP := lhid hp
     clear ho hp
     obtain rfl := hx
     dsimp only
     exact ⟨rfl, bout_er HO3.out (by have hp := HP.out; simp only [bdyP, Pr.then, HP1.out, HP2.out, hp])⟩
    | ok n r3 =>
     have hx := ho.ok hp
     have HP3 := lhid hp
     clear ho hp
     obtain ⟨v, rfl, rfl, hr⟩ := hx
     have H3 := lhid hr
     clear hr
     dsimp only
     refine hK _ _ ?_
     clear hK K
     have c0 := (H3.out).p.c0
     refine wpAny_ready (rs := [4]) (by kernel_rfl) (by simp) ?_
     refine AllReady.cons rfl (fun K hK => ?_) AllReady.nil
     go_simp
     refine hK _ _ ?_
     clear hK K
     have hle3 := cntP_le HP3.out
     cases hb : bytP n r3 with
     | er x =>
      obtain ⟨hbl, hbs, rfl⟩ := bytP_er hb
      have HBL := lhid hbl
      have HBS := lhid hbs
      have HP4 := lhid hb
      clear hbl hbs hb
      refine wpAny_ready (rs := [7]) (by kernel_rfl) (by simp) ?_
      refine AllReady.cons rfl (fun K hK => ?_) AllReady.nil
      go_simp
      with_reducible refine (take_any R (r3, false) n _ H3.out.r).mono ?_
      rintro e w4 ⟨rfl, hr, ho⟩
      rw [HBL.out]
      rw [HBS.out] at hr
      have HR4 := lhid hr
      have HO4 := lhid (HO3.out.step ho HBW.out)
      have HQ4 := lhid (H3.out.p.keep ho)
      have HM4 := lhid (Only.keep ho HM3.out HMN.out)
      clear hr ho
      dsimp only
      refine hK _ _ ?_
      clear hK K
      obtain ⟨cap, c, fz, hcv, hc1, hc2, hc3⟩ := conv_new ([] : Bs) w4
      have HC1 := lhid hc1
      have HC2 := lhid hc2
      have HC3 := lhid hc3
      clear hc1 hc2 hc3
      refine wpAny_ready (rs := [8]) (by kernel_rfl) (by simp) ?_
      refine AllReady.cons rfl (fun K hK => ?_) AllReady.nil
      go_simp
      refine hK _ _ ?_
      clear hK K
      have HM4a := lhid ((Below.heap_alloc w4 (.cells c 5 fz) _ (heap_lt HM4.out)).trans HM4.out)
      have qM := heap_cell (i := 5) HM4a.out rfl
      have zM := heap_thaw HM4a.out 5
      refine wpAny_ready (rs := [9]) (by kernel_rfl) (by simp) ?_
      refine AllReady.cons rfl (fun K hK => ?_) AllReady.nil
      go_simp
      refine hK _ _ ?_
      clear hK K
      refine wpAny_ready (rs := [10]) (by kernel_rfl) (by simp) ?_
      refine AllReady.cons rfl (fun K hK => ?_) AllReady.nil
      go_simp
      refine hK _ _ ?_
      clear hK K
      refine wpAny_ready (rs := [11]) (by kernel_rfl) (by simp) ?_
      refine AllReady.cons rfl (fun K hK => ?_) AllReady.nil
      go_simp
      refine hK _ _ ?_
      clear hK K
      refine wpAny_done (by kernel_rfl) ?_ _
      clear hcv
      have HPW := lhid (((HQ4.out.alloc (.cells c 5 fz)).cell HMC.out 5 (.slice (some ⟨w4.heap.size, 0, none⟩) 0 cap)).drew)
      have HRW : Hid (Rdr ((w4.alloc (.cells c 5 fz)).setCell ⟨M, 5, none⟩ (.slice (some ⟨w4.heap.size, 0, none⟩) 0 cap)).drew R ([], true)) := lhid ((HR4.out.alloc _).other (Nat.ne_of_lt HMC.out.2.1) _)
      have c0 := HPW.out.c0
      go_wp2_with fail
      with_reducible refine (refuseCutOff_yes P R ([], true) _ c0 HRW (lhid rfl)).mono ?_
      rintro e w5 ⟨rfl, q, rfl⟩
      go_wp2_with fail
      exact ⟨rfl, bout_er (((HO4.out.alloc HBW.out (.cells c 5 fz)).setCell (p := ⟨M, 5, none⟩) (.inr (Nat.le_refl _)) (.slice (some ⟨w4.heap.size, 0, none⟩) 0 cap)).drewN _) (by simp only [bdyP, Pr.then, HP1.out, HP2.out, HP3.out, HP4.out])⟩
     | ok code r4 =>
      obtain ⟨hbl, hbs⟩ := bytP_ok hb
      have HBL := lhid hbl
      have HBS := lhid hbs
      have HP4 := lhid hb
      have hcl : code.length ≤ maxLen := by have := bytP_len hb; unfold maxLen; omega
      clear hbl hbs hb
      refine wpAny_ready (rs := [7]) (by kernel_rfl) (by simp) ?_
      refine AllReady.cons rfl (fun K hK => ?_) AllReady.nil
      go_simp
      with_reducible refine (take_any R (r3, false) n _ H3.out.r).mono ?_
      rintro e w4 ⟨rfl, hr, ho⟩
      rw [HBL.out]
      rw [HBS.out] at hr
      have HR4 := lhid hr
      have HO4 := lhid (HO3.out.step ho HBW.out)
      have HQ4 := lhid (H3.out.p.keep ho)
      have HM4 := lhid (Only.keep ho HM3.out HMN.out)
      clear hr ho
      dsimp only
      refine hK _ _ ?_
      clear hK K
      obtain ⟨cap, c, fz, hcv, hc1, hc2, hc3⟩ := conv_new code w4
      have HC1 := lhid hc1
      have HC2 := lhid hc2
      have HC3 := lhid hc3
      clear hc1 hc2 hc3
      refine wpAny_ready (rs := [8]) (by kernel_rfl) (by simp) ?_
      refine AllReady.cons rfl (fun K hK => ?_) AllReady.nil
      go_simp
      refine hK _ _ ?_
      clear hK K
      have HM4a := lhid ((Below.heap_alloc w4 (.cells c 5 fz) _ (heap_lt HM4.out)).trans HM4.out)
      have qM := heap_cell (i := 5) HM4a.out rfl
      have zM := heap_thaw HM4a.out 5
      refine wpAny_ready (rs := [9]) (by kernel_rfl) (by simp) ?_
      refine AllReady.cons rfl (fun K hK => ?_) AllReady.nil
      go_simp
      refine hK _ _ ?_
      clear hK K
      refine wpAny_ready (rs := [10]) (by kernel_rfl) (by simp) ?_
      refine AllReady.cons rfl (fun K hK => ?_) AllReady.nil
      go_simp
      refine hK _ _ ?_
      clear hK K
      refine wpAny_ready (rs := [11]) (by kernel_rfl) (by simp) ?_
      refine AllReady.cons rfl (fun K hK => ?_) AllReady.nil
      go_simp
      refine hK _ _ ?_
      clear hK K
      refine wpAny_done (by kernel_rfl) ?_ _
      clear hcv
      have H4 : Hid (Rdy w4 P R g L cf r4) := lhid ⟨HQ4.out, HR4.out⟩
      have HW4 : Hid (Rdy ((w4.alloc (.cells c 5 fz)).setCell ⟨M, 5, none⟩ (.slice (some ⟨w4.heap.size, 0, none⟩) code.length cap)).drew P R g L cf r4) := lhid (((H4.out.alloc (.cells c 5 fz)).cell HMC.out 5 (.slice (some ⟨w4.heap.size, 0, none⟩) code.length cap)).drew)
      have HM4s : Hid (((w4.alloc (.cells c 5 fz)).setCell ⟨M, 5, none⟩ (.slice (some ⟨w4.heap.size, 0, none⟩) code.length cap)).drew.heap[M]? = some (.cells #[.int .i64 f, .string (tx m.1), .string (tx m.2), .int .i64 st, .int .i64 lo, .slice (some ⟨w4.heap.size, 0, none⟩) code.length cap, .slice none 0 0, .slice none 0 0] 62 (0, 0))) := lhid (heap_set HM4a.out _)
      have HBV : Hid (BytsO (w4.alloc (.cells c 5 fz)) (.slice (some ⟨w4.heap.size, 0, none⟩) code.length cap) code) := lhid (.inr ⟨w4.heap.size, cap, c, fz, rfl, HC1.out, HC2.out hcl, heap_alloc_new w4 _, HC3.out⟩)
      have HV1_4 : Hid (BytsO ((w4.alloc (.cells c 5 fz)).setCell ⟨M, 5, none⟩ (.slice (some ⟨w4.heap.size, 0, none⟩) code.length cap)).drew (.slice (some ⟨w4.heap.size, 0, none⟩) code.length cap) code) := lhid (byts_set HBV.out ⟨_, _, HM4a.out⟩ (by decide) 5 (.slice (some ⟨w4.heap.size, 0, none⟩) code.length cap))
      have HO4s := lhid (((HO4.out.alloc HBW.out (.cells c 5 fz)).setCell (p := ⟨M, 5, none⟩) (.inr (Nat.le_refl _)) (.slice (some ⟨w4.heap.size, 0, none⟩) code.length cap)).drew)
      have c0 := HW4.out.p.c0
      generalize ((w4.alloc (.cells c 5 fz)).setCell ⟨M, 5, none⟩ (.slice (some ⟨w4.heap.size, 0, none⟩) code.length cap)).drew = W4 at *
      generalize w4.heap.size = wb at *
      go_wp2_with fail
      with_reducible refine (refuseCutOff_no P R (r4, false) _ c0 (lhid HW4.out.r) (lhid rfl)).mono ?_
      rintro e w5 ⟨rfl, q, rfl⟩
      have HR5 := lhid (HW4.out.drewN q)
      go_wp2_with fail
      with_reducible refine (count_k P R g cf L r4 2 60 2 60 _ HR5 (by omega) (by omega) (lhid rfl) (lhid rfl)).mono ?_
      rintro e w5 ho
      have HO5 := lhid ((HO4s.out.drewN q).step ho.1 HBW.out)
      have HM5 := lhid (Only.keep ho.1 HM4s.out HMN.out)
      have HV1_5 := lhid (byts_rdr (byts_drewN HV1_4.out q) HR5.out.r ho.1)
      cases hp : cntP 2 60 r4 with
      | er x =>
       have hx := ho.er hp
       have HP := lhid hp
       clear ho hp
       obtain rfl := hx
       go_wp2_with fail
       exact ⟨rfl, bout_er HO5.out (by have hp := HP.out; simp only [bdyP, Pr.then, HP1.out, HP2.out, HP3.out, HP4.out, hp])⟩
      | ok k r5 =>
       have hx := ho.ok hp
       have HP5 := lhid hp
       clear ho hp
       obtain ⟨v, rfl, rfl, hr⟩ := hx
       have H5 := lhid hr
       clear hr
       have hle5 := cntP_le HP5.out
       have HR6 := lhid H5.out
       go_wp2_with fail
       with_reducible refine (listR_any P R g cf L r5 k _ HR6 (by omega)).mono ?_
       rintro e w6 ho
       have HO6 := lhid (HO5.out.step ho.1 HBW.out)
       have HM6 := lhid (Only.keep ho.1 HM5.out HMN.out)
       have HV1_6 := lhid (byts_rdr HV1_5.out HR6.out.r ho.1)
       cases hp : manyP (rowP L) k r5 [] with
       | er x =>
        have hx := ho.er hp
        have HP := lhid hp
        clear ho hp
        obtain rfl := hx
        go_wp2_with fail
        exact ⟨rfl, bout_er HO6.out (by have hp := HP.out; simp only [bdyP, Pr.then, HP1.out, HP2.out, HP3.out, HP4.out, HP5.out, hp])⟩
       | ok rows r6 =>
        have hx := ho.ok hp
        have HP6 := lhid hp
        clear ho hp
        obtain ⟨v, rfl, hv2, hr⟩ := hx
        have H6 := lhid hr
        clear hr
        obtain ⟨A2, c2, rfl⟩ := slO_shape hv2
        have HV2_6 := lhid hv2
        clear hv2
        have qHM6 := heap_cell (i := 6) HM6.out rfl
        have zHM6 := heap_thaw HM6.out 6
        have HM6s6 : Hid ((w6.setCell ⟨M, 6, none⟩ (.slice A2 rows.length c2)).heap[M]? = some (.cells #[.int .i64 f, .string (tx m.1), .string (tx m.2), .int .i64 st, .int .i64 lo, .slice (some ⟨wb, 0, none⟩) code.length cap, .slice A2 rows.length c2, .slice none 0 0] 62 (0, 0))) := lhid (heap_set HM6.out _)
        have HV1_6s6 := lhid (byts_set HV1_6.out ⟨_, _, HM6.out⟩ (by decide) 6 (.slice A2 rows.length c2))
        have HV2_6s6 := lhid (rws_set HV2_6.out ⟨_, _, HM6.out⟩ (by decide) 6 (.slice A2 rows.length c2))
        have HR7 := lhid (H6.out.cell HMC.out 6 (.slice A2 rows.length c2))
        go_wp2_with fail
        with_reducible refine (count_k P R g cf L r6 2 4000 2 4000 _ HR7 (by omega) (by omega) (lhid rfl) (lhid rfl)).mono ?_
        rintro e w7 ho
        have HO7 := lhid ((HO6.out.setCell (p := ⟨M, 6, none⟩) (.inr (Nat.le_refl _)) (.slice A2 rows.length c2)).step ho.1 HBW.out)
        have HM7 := lhid (Only.keep ho.1 HM6s6.out HMN.out)
        have HV1_7 := lhid (byts_rdr HV1_6s6.out HR7.out.r ho.1)
        have HV2_7 := lhid (rws_rdr HV2_6s6.out HR7.out.r ho.1)
        cases hp : cntP 2 4000 r6 with
        | er x =>
         have hx := ho.er hp
         have HP := lhid hp
         clear ho hp
         obtain rfl := hx
         go_wp2_with fail
         exact ⟨rfl, bout_er HO7.out (by have hp := HP.out; simp only [bdyP, Pr.then, HP1.out, HP2.out, HP3.out, HP4.out, HP5.out, HP6.out, hp])⟩
        | ok q2 r7 =>
         have hx := ho.ok hp
         have HP7 := lhid hp
         clear ho hp
         obtain ⟨v, rfl, rfl, hr⟩ := hx
         have H7 := lhid hr
         clear hr
         have hle7 := cntP_le HP7.out
         have HR8 := lhid H7.out
         go_wp2_with fail
         with_reducible refine (listF_any P R g cf L r7 q2 _ HR8 (by omega)).mono ?_
         rintro e w8 ho
         have HO8 := lhid (HO7.out.step ho.1 HBW.out)
         have HM8 := lhid (Only.keep ho.1 HM7.out HMN.out)
         have HV1_8 := lhid (byts_rdr HV1_7.out HR8.out.r ho.1)
         have HV2_8 := lhid (rws_rdr HV2_7.out HR8.out.r ho.1)
         cases hp : manyP (frmP L) q2 r7 [] with
         | er x =>
          have hx := ho.er hp
          have HP := lhid hp
          clear ho hp
          obtain rfl := hx
          go_wp2_with fail
          exact ⟨rfl, bout_er HO8.out (by have hp := HP.out; simp only [bdyP, Pr.then, HP1.out, HP2.out, HP3.out, HP4.out, HP5.out, HP6.out, HP7.out, hp])⟩
         | ok frames r8 =>
          have hx := ho.ok hp
          have HP8 := lhid hp
          clear ho hp
          obtain ⟨v, rfl, hv3, hr⟩ := hx
          have H8 := lhid hr
          clear hr
          obtain ⟨A3, c3, rfl⟩ := slO_shape hv3
          have HV3_8 := lhid hv3
          clear hv3
          have qHM7 := heap_cell (i := 7) HM8.out rfl
          have zHM7 := heap_thaw HM8.out 7
          have HM8s7 : Hid ((w8.setCell ⟨M, 7, none⟩ (.slice A3 frames.length c3)).heap[M]? = some (.cells #[.int .i64 f, .string (tx m.1), .string (tx m.2), .int .i64 st, .int .i64 lo, .slice (some ⟨wb, 0, none⟩) code.length cap, .slice A2 rows.length c2, .slice A3 frames.length c3] 62 (0, 0))) := lhid (heap_set HM8.out _)
          have HV1_8s7 := lhid (byts_set HV1_8.out ⟨_, _, HM8.out⟩ (by decide) 7 (.slice A3 frames.length c3))
          have HV2_8s7 := lhid (rws_set HV2_8.out ⟨_, _, HM8.out⟩ (by decide) 7 (.slice A3 frames.length c3))
          have HV3_8s7 := lhid (frms_set HV3_8.out ⟨_, _, HM8.out⟩ (by decide) 7 (.slice A3 frames.length c3))
          go_wp2_with fail
          go_end0
          exact bout_ok (m := (⟨f, m.1, m.2, st, lo, code, rows, frames⟩ : Met)) (HO8.out.setCell (p := ⟨M, 7, none⟩) (.inr (Nat.le_refl _)) (.slice A3 frames.length c3)) (by simp only [bdyP, Pr.then, HP1.out, HP2.out, HP3.out, HP4.out, HP5.out, HP6.out, HP7.out, HP8.out]) ⟨_, HM8s7.out, _, _, _, rfl, HV1_8s7.out, HV2_8s7.out, HV3_8s7.out⟩ (H8.out.cell HMC.out 7 (.slice A3 frames.length c3))
end Go.Proofs.YtgihfcimngogfaaGreat
