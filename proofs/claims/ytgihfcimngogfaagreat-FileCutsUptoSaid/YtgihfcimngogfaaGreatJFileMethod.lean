/- Contract of the parser's method. Written by gen_file6.py. -/
import Derived.Test.YtgihfcimngogfaaGreatJFileBody
import Derived.Test.YtgihfcimngogfaaGreatM11
import Derived.Test.YtgihfcimngogfaaGreatM5
namespace Go.Proofs.YtgihfcimngogfaaGreat
open Go.RowKit Go
set_option linter.unusedVariables false
theorem Rdy.below {w w' : World} {P R g cf : Nat} {L : List Con} {s : Bs} (h : Rdy w P R g L cf s) (hb : Below w.heap.size w w') : Rdy w' P R g L cf s :=
 ⟨⟨(hb.block P h.p.lt).trans h.p.blk, h.p.rows.of_block (hb.block g h.p.rows.lt), h.p.pr, h.p.gr, h.p.good, h.p.small, h.p.flag⟩, (hb.block R h.r.lt).trans h.r⟩
theorem methodT_no (l : Bs) (w : World) (h : Hid ((metB l).isSome = false)) (hs : l.length < 65536) :
  Calls Tryz.prog 114 #[.string (tx l)] w fun e w' => e = .returned (.tuple #[.slice none 0 0, .string ⟨#[]⟩, .int .i64 21]) ∧ Below w.heap.size w w' := by
 have hn : metB l = none := by simpa using h.out
 refine (method_r (tx l) none w (lhid (by rw [tx_list]; exact hn)) (lhid (tx_maxLen hs))).mono ?_
 rintro e w' ⟨h1, h2⟩
 exact ⟨h2, h1⟩
theorem methodT_yes (l : Bs) (w : World) (h : Hid ((metB l).isSome = true)) (hs : l.length < 65536) :
  Calls Tryz.prog 114 #[.string (tx l)] w fun e w' => (∃ v t, e = .returned (.tuple #[v, .string t, .int .i64 0])) ∧ Below w.heap.size w w' := by
 obtain ⟨⟨ps, rest⟩, hn⟩ := Option.isSome_iff_exists.1 h.out
 refine (method_r (tx l) (some (ps, rest)) w (lhid (by rw [tx_list]; exact hn)) (lhid (tx_maxLen hs))).mono ?_
 rintro e w' ⟨h1, v, h2, _⟩
 exact ⟨⟨v, _, h2⟩, h1⟩
theorem methodFits_r (cf f : Nat) (r : Bool) (w : World) (h1 : cf < 65536) (h2 : f < 65536) (hr : Hid (metFit cf f = r)) :
  Calls Tryz.prog 115 #[.int .i64 cf, .int .i64 f] w fun e w' => e = .returned (.bool r) ∧ w = w' := by
 rw [← hr.out]
 exact methodFits_any cf f w h1 h2
theorem Upto.ofOnly {a w w' : World} {M R : Nat} (h : Only R a w) (hM : a.heap.size ≤ M) (k : Upto M R w w') : Only R a w' :=
 ⟨k.os.trans h.os, k.tape.trans h.tape, k.output.trans h.output, Nat.le_trans h.size k.size, fun i hi hr => (k.block i (Nat.lt_of_lt_of_le hi hM) hr).trans (h.block i hi hr)⟩
set_option maxHeartbeats 16000000 in
set_option maxRecDepth 100000 in
theorem pmethod_any (P R g cf : Nat) (L : List Con) (s : Bs) (w : World) (h : Hid (Rdy w P R g L cf s)) :
  Calls Tryz.prog 92 #[.pointer (some ⟨P, 0, none⟩)] w (Out P R g L cf MetV (metP L cf s) w) := by
 have HB := lhid ((Only.refl R w).alloc (.cells #[.int .i64 0, .string ⟨#[]⟩, .string ⟨#[]⟩, .int .i64 0, .int .i64 0, .slice none 0 0, .slice none 0 0, .slice none 0 0] 62))
 have H0 := lhid (h.out.alloc (.cells #[.int .i64 0, .string ⟨#[]⟩, .string ⟨#[]⟩, .int .i64 0, .int .i64 0, .slice none 0 0, .slice none 0 0, .slice none 0 0] 62))
 have hlts := h.out.lts
 have HX0 := lhid (heap_alloc_new w (.cells #[.int .i64 0, .string ⟨#[]⟩, .string ⟨#[]⟩, .int .i64 0, .int .i64 0, .slice none 0 0, .slice none 0 0, .slice none 0 0] 62))
 have HXN : Hid (w.heap.size ≠ R) := lhid (by omega)
 have HXC : Hid (P < w.heap.size ∧ R < w.heap.size ∧ g < w.heap.size) := lhid (by omega)
 clear hlts
 go_enter Tryz.func92, Tryz.ntmps92
 have HR1 := lhid H0.out
 go_wp2_with fail
 with_reducible refine (someFlags_k P R g cf L s 1032 1032 (by omega) _ HR1 (lhid rfl)).mono ?_
 rintro e w1 ho
 have HO1 := lhid (HB.out.trans ho.1)
 have HX1 := lhid (Only.keep ho.1 HX0.out HXN.out)
 cases hp : flgP 1032 s with
 | er x =>
  have hx := ho.er hp
  have HP := lhid hp
  clear ho hp
  obtain rfl := hx
  go_wp2_with fail
  exact ⟨rfl, out_er HO1.out (by have hp := HP.out; simp only [metP, Pr.then, hp])⟩
 | ok f r =>
  have hx := ho.ok hp
  have HP1 := lhid hp
  clear ho hp
  obtain ⟨v, rfl, rfl, hr⟩ := hx
  have H1 := lhid hr
  clear hr
  have hltsHY := H1.out.lts
  have HYN : Hid (w1.heap.size ≠ R) := lhid (by omega)
  have HYC : Hid (P < w1.heap.size ∧ R < w1.heap.size ∧ g < w1.heap.size) := lhid (by omega)
  have HYL : Hid (w.heap.size ≤ w1.heap.size) := lhid HO1.out.size
  clear hltsHY
  have HX1n := lhid ((Below.heap_alloc w1 (.cells #[.int .i64 f, .string ⟨#[]⟩, .string ⟨#[]⟩, .int .i64 0, .int .i64 0, .slice none 0 0, .slice none 0 0, .slice none 0 0] 62) _ (heap_lt HX1.out)).trans HX1.out)
  have HXHYNE : Hid (w.heap.size ≠ w1.heap.size) := lhid (Nat.ne_of_lt (heap_lt HX1.out))
  have HY1n := lhid (heap_alloc_new w1 (.cells #[.int .i64 f, .string ⟨#[]⟩, .string ⟨#[]⟩, .int .i64 0, .int .i64 0, .slice none 0 0, .slice none 0 0, .slice none 0 0] 62))
  have HR2 := lhid (H1.out.alloc (.cells #[.int .i64 f, .string ⟨#[]⟩, .string ⟨#[]⟩, .int .i64 0, .int .i64 0, .slice none 0 0, .slice none 0 0, .slice none 0 0] 62))
  go_wp2_with fail
  with_reducible refine (nameAndDescriptor_any P R g cf L r _ HR2).mono ?_
  rintro e w2 ho
  have HO2 := lhid ((HO1.out.alloc (.cells #[.int .i64 f, .string ⟨#[]⟩, .string ⟨#[]⟩, .int .i64 0, .int .i64 0, .slice none 0 0, .slice none 0 0, .slice none 0 0] 62)).trans ho.1)
  have HX2 := lhid (Only.keep ho.1 HX1n.out HXN.out)
  have HY2 := lhid (Only.keep ho.1 HY1n.out HYN.out)
  cases hp : memP L r with
  | er x =>
   have hx := ho.er hp
   have HP := lhid hp
   clear ho hp
   obtain rfl := hx
   go_wp2_with fail
   exact ⟨rfl, out_er HO2.out (by have hp := HP.out; simp only [metP, Pr.then, HP1.out, hp])⟩
  | ok m r2 =>
   have hx := ho.ok hp
   have HP2 := lhid hp
   clear ho hp
   obtain ⟨v, rfl, rfl, hr⟩ := hx
   have H2 := lhid hr
   clear hr
   have hsh := memP_short h.out.p.good HP2.out
   have h16 := (flgP_16 HP1.out).1
   have qHY1 := heap_cell (i := 1) HY2.out rfl
   have zHY1 := heap_thaw HY2.out 1
   have HY2s1 : Hid ((w2.setCell ⟨w1.heap.size, 1, none⟩ (.string (tx m.1))).heap[w1.heap.size]? = some (.cells #[.int .i64 f, .string (tx m.1), .string ⟨#[]⟩, .int .i64 0, .int .i64 0, .slice none 0 0, .slice none 0 0, .slice none 0 0] 62 (0, 0))) := lhid (heap_set HY2.out _)
   have HX2s1 : Hid ((w2.setCell ⟨w1.heap.size, 1, none⟩ (.string (tx m.1))).heap[w.heap.size]? = some (.cells #[.int .i64 0, .string ⟨#[]⟩, .string ⟨#[]⟩, .int .i64 0, .int .i64 0, .slice none 0 0, .slice none 0 0, .slice none 0 0] 62 (0, 0))) := lhid ((Below.heap_setCell _ _ _ _ HXHYNE.out).trans HX2.out)
   have qHY2 := heap_cell (i := 2) HY2s1.out rfl
   have zHY2 := heap_thaw HY2s1.out 2
   have HY2s2 : Hid (((w2.setCell ⟨w1.heap.size, 1, none⟩ (.string (tx m.1))).setCell ⟨w1.heap.size, 2, none⟩ (.string (tx m.2))).heap[w1.heap.size]? = some (.cells #[.int .i64 f, .string (tx m.1), .string (tx m.2), .int .i64 0, .int .i64 0, .slice none 0 0, .slice none 0 0, .slice none 0 0] 62 (0, 0))) := lhid (heap_set HY2s1.out _)
   have HX2s2 : Hid (((w2.setCell ⟨w1.heap.size, 1, none⟩ (.string (tx m.1))).setCell ⟨w1.heap.size, 2, none⟩ (.string (tx m.2))).heap[w.heap.size]? = some (.cells #[.int .i64 0, .string ⟨#[]⟩, .string ⟨#[]⟩, .int .i64 0, .int .i64 0, .slice none 0 0, .slice none 0 0, .slice none 0 0] 62 (0, 0))) := lhid ((Below.heap_setCell _ _ _ _ HXHYNE.out).trans HX2s1.out)
   have g0 := heap_cell (i := 0) HY2s2.out rfl
   have zg0 := heap_thaw HY2s2.out 0
   have g1 := heap_cell (i := 1) HY2s2.out rfl
   have zg1 := heap_thaw HY2s2.out 1
   have g2 := heap_cell (i := 2) HY2s2.out rfl
   have zg2 := heap_thaw HY2s2.out 2
   have g3 := heap_cell (i := 3) HY2s2.out rfl
   have zg3 := heap_thaw HY2s2.out 3
   have g4 := heap_cell (i := 4) HY2s2.out rfl
   have zg4 := heap_thaw HY2s2.out 4
   have g5 := heap_cell (i := 5) HY2s2.out rfl
   have zg5 := heap_thaw HY2s2.out 5
   have g6 := heap_cell (i := 6) HY2s2.out rfl
   have zg6 := heap_thaw HY2s2.out 6
   have g7 := heap_cell (i := 7) HY2s2.out rfl
   have zg7 := heap_thaw HY2s2.out 7
   cases hnb : nameB m.1 true
   ·have HNB := lhid hnb
    clear hnb
    go_wp2_with fail
    with_reducible refine (nameT m.1 true false _ HNB hsh.1).mono ?_
    rintro e wz ⟨rfl, rfl⟩
    go_wp2_with fail
    with_reducible refine (refuse_yes 20 _).mono ?_
    rintro e wz ⟨rfl, rfl⟩
    go_wp2_with fail
    exact ⟨rfl, out_er ((HO2.out.setCell (p := ⟨w1.heap.size, 1, none⟩) (.inr HYL.out) (.string (tx m.1))).setCell (p := ⟨w1.heap.size, 2, none⟩) (.inr HYL.out) (.string (tx m.2))) (by simp only [metP, metJ, Pr.then, HP1.out, HP2.out]; rw [if_pos HNB.out])⟩
   ·have HNB := lhid hnb
    clear hnb
    go_wp2_with fail
    with_reducible refine (nameT m.1 true true _ HNB hsh.1).mono ?_
    rintro e wz ⟨rfl, rfl⟩
    go_wp2_with fail
    with_reducible refine (refuse_no 20 _).mono ?_
    rintro e wz ⟨rfl, rfl⟩
    cases hmb : (metB m.2).isSome
    ·have HMB := lhid hmb
     clear hmb
     go_wp2_with fail
     with_reducible refine (methodT_no m.2 _ HMB hsh.2).mono ?_
     rintro e wb ⟨rfl, hb⟩
     have HOB := lhid (((HO2.out.setCell (p := ⟨w1.heap.size, 1, none⟩) (.inr HYL.out) (.string (tx m.1))).setCell (p := ⟨w1.heap.size, 2, none⟩) (.inr HYL.out) (.string (tx m.2))).trans (Below.only hb))
     clear hb
     go_wp2_with fail
     with_reducible refine (refuse_yes 21 _).mono ?_
     rintro e wz ⟨rfl, rfl⟩
     go_wp2_with fail
     exact ⟨rfl, out_er HOB.out (by simp only [metP, metJ, Pr.then, HP1.out, HP2.out]; rw [if_neg (by rw [HNB.out]; simp), if_pos HMB.out])⟩
    ·have HMB := lhid hmb
     clear hmb
     go_wp2_with fail
     with_reducible refine (methodT_yes m.2 _ HMB hsh.2).mono ?_
     rintro e wb ⟨⟨v, t, rfl⟩, hb⟩
     have HOB := lhid (((HO2.out.setCell (p := ⟨w1.heap.size, 1, none⟩) (.inr HYL.out) (.string (tx m.1))).setCell (p := ⟨w1.heap.size, 2, none⟩) (.inr HYL.out) (.string (tx m.2))).trans (Below.only hb))
     have HRB := lhid (((H2.out.cell HYC.out 1 (.string (tx m.1))).cell HYC.out 2 (.string (tx m.2))).below hb)
     have HXB := lhid ((hb.block _ (heap_lt HX2s2.out)).trans HX2s2.out)
     have HYB := lhid ((hb.block _ (heap_lt HY2s2.out)).trans HY2s2.out)
     clear hb
     go_wp2_with fail
     with_reducible refine (refuse_no 0 _).mono ?_
     rintro e wz ⟨rfl, rfl⟩
     have hcf : cf < 65536 := h.out.p.flag
     have c2 := HRB.out.p.c2
     clear g0 zg0 g1 zg1 g2 zg2 g3 zg3 g4 zg4 g5 zg5 g6 zg6 g7 zg7
     have g0 := heap_cell (i := 0) HYB.out rfl
     have zg0 := heap_thaw HYB.out 0
     have g1 := heap_cell (i := 1) HYB.out rfl
     have zg1 := heap_thaw HYB.out 1
     have g2 := heap_cell (i := 2) HYB.out rfl
     have zg2 := heap_thaw HYB.out 2
     have g3 := heap_cell (i := 3) HYB.out rfl
     have zg3 := heap_thaw HYB.out 3
     have g4 := heap_cell (i := 4) HYB.out rfl
     have zg4 := heap_thaw HYB.out 4
     have g5 := heap_cell (i := 5) HYB.out rfl
     have zg5 := heap_thaw HYB.out 5
     have g6 := heap_cell (i := 6) HYB.out rfl
     have zg6 := heap_thaw HYB.out 6
     have g7 := heap_cell (i := 7) HYB.out rfl
     have zg7 := heap_thaw HYB.out 7
     cases hfb : metFit cf f
     ·have HFB := lhid hfb
      clear hfb
      go_wp2_with fail
      refine wp_region_any (by kernel_rfl) ?_
      try (change wpAny _ _ _ _ _ _ _ (World.drew _))
      refine wpAny_take (i := 0) (v := ?v0_1) rfl (by kernel_rfl) (by kernel_rfl) (by kernel_rfl) (fun _ _ _ h => h) (Or.inl ⟨by rfl, ?hy0_1⟩) ?rest0_1
      case hy0_1 => intro w; (first | (go_simp; done) | (go_simp; with_reducible rfl))
      refine wpAny_take (i := 1) (v := ?v1_2) rfl (by kernel_rfl) (by kernel_rfl) (by kernel_rfl) (fun _ _ _ h => h) (Or.inl ⟨by rfl, ?hy1_2⟩) ?rest1_2
      case hy1_2 => intro w; (first | (go_simp; done) | (go_simp; with_reducible rfl))
      refine wpAny_take (i := 2) (v := ?v2_3) rfl (by kernel_rfl) (by kernel_rfl) (by kernel_rfl) (fun _ _ _ h => h) (Or.inl ⟨by rfl, ?hy2_3⟩) ?rest2_3
      case hy2_3 => intro w; (first | (go_simp; done) | (go_simp; with_reducible rfl))
      refine wpAny_take (i := 4) (v := ?v4_4) rfl (by kernel_rfl) (by kernel_rfl) (by kernel_rfl) (fun _ _ _ h => h) (Or.inl ⟨by rfl, ?hy4_4⟩) ?rest4_4
      case hy4_4 => intro w; (first | (go_simp; done) | (go_simp; with_reducible rfl))
      refine wpAny_ready (rs := [3, 5]) (by kernel_rfl) (by simp) ?_
      refine AllReady.cons rfl (fun K hK => ?_) (AllReady.cons rfl (fun K hK => ?_) AllReady.nil)
      ·go_simp
       refine hK _ _ ?_
       clear hK K
       refine wpAny_ready (rs := [5]) (by kernel_rfl) (by simp) ?_
       refine AllReady.cons rfl (fun K hK => ?_) AllReady.nil
       go_simp
       refine hK _ _ ?_
       clear hK K
       refine wpAny_ready (rs := [6]) (by kernel_rfl) (by simp) ?_
       refine AllReady.cons rfl (fun K hK => ?_) AllReady.nil
       go_simp
       with_reducible refine (methodFits_r cf f false _ hcf h16 HFB).mono ?_
       rintro e wz ⟨rfl, rfl⟩
       dsimp only
       refine hK _ _ ?_
       clear hK K
       refine wpAny_ready (rs := [7]) (by kernel_rfl) (by simp) ?_
       refine AllReady.cons rfl (fun K hK => ?_) AllReady.nil
       go_simp
       refine hK _ _ ?_
       clear hK K
       refine wpAny_ready (rs := [8]) (by kernel_rfl) (by simp) ?_
       refine AllReady.cons rfl (fun K hK => ?_) AllReady.nil
       go_simp
       with_reducible refine (refuse_yes 22 _).mono ?_
       rintro e wz ⟨rfl, rfl⟩
       dsimp only
       exact ⟨rfl, out_er (HOB.out.drew) (by simp only [metP, metJ, Pr.then, HP1.out, HP2.out]; rw [if_neg (by rw [HNB.out]; simp), if_neg (by rw [HMB.out]; simp), if_pos HFB.out])⟩
      ·go_simp
       refine hK _ _ ?_
       clear hK K
       refine wpAny_ready (rs := [3]) (by kernel_rfl) (by simp) ?_
       refine AllReady.cons rfl (fun K hK => ?_) AllReady.nil
       go_simp
       refine hK _ _ ?_
       clear hK K
       refine wpAny_ready (rs := [6]) (by kernel_rfl) (by simp) ?_
       refine AllReady.cons rfl (fun K hK => ?_) AllReady.nil
       go_simp
       with_reducible refine (methodFits_r cf f false _ hcf h16 HFB).mono ?_
       rintro e wz ⟨rfl, rfl⟩
       dsimp only
       refine hK _ _ ?_
       clear hK K
       refine wpAny_ready (rs := [7]) (by kernel_rfl) (by simp) ?_
       refine AllReady.cons rfl (fun K hK => ?_) AllReady.nil
       go_simp
       refine hK _ _ ?_
       clear hK K
       refine wpAny_ready (rs := [8]) (by kernel_rfl) (by simp) ?_
       refine AllReady.cons rfl (fun K hK => ?_) AllReady.nil
       go_simp
       with_reducible refine (refuse_yes 22 _).mono ?_
       rintro e wz ⟨rfl, rfl⟩
       dsimp only
       exact ⟨rfl, out_er (HOB.out.drew) (by simp only [metP, metJ, Pr.then, HP1.out, HP2.out]; rw [if_neg (by rw [HNB.out]; simp), if_neg (by rw [HMB.out]; simp), if_pos HFB.out])⟩
     ·have HFB := lhid hfb
      clear hfb
      go_wp2_with fail
      refine wp_region_any (by kernel_rfl) ?_
      try (change wpAny _ _ _ _ _ _ _ (World.drew _))
      refine wpAny_take (i := 0) (v := ?v0_5) rfl (by kernel_rfl) (by kernel_rfl) (by kernel_rfl) (fun _ _ _ h => h) (Or.inl ⟨by rfl, ?hy0_5⟩) ?rest0_5
      case hy0_5 => intro w; (first | (go_simp; done) | (go_simp; with_reducible rfl))
      refine wpAny_take (i := 1) (v := ?v1_6) rfl (by kernel_rfl) (by kernel_rfl) (by kernel_rfl) (fun _ _ _ h => h) (Or.inl ⟨by rfl, ?hy1_6⟩) ?rest1_6
      case hy1_6 => intro w; (first | (go_simp; done) | (go_simp; with_reducible rfl))
      refine wpAny_take (i := 2) (v := ?v2_7) rfl (by kernel_rfl) (by kernel_rfl) (by kernel_rfl) (fun _ _ _ h => h) (Or.inl ⟨by rfl, ?hy2_7⟩) ?rest2_7
      case hy2_7 => intro w; (first | (go_simp; done) | (go_simp; with_reducible rfl))
      refine wpAny_take (i := 4) (v := ?v4_8) rfl (by kernel_rfl) (by kernel_rfl) (by kernel_rfl) (fun _ _ _ h => h) (Or.inl ⟨by rfl, ?hy4_8⟩) ?rest4_8
      case hy4_8 => intro w; (first | (go_simp; done) | (go_simp; with_reducible rfl))
      refine wpAny_ready (rs := [3, 5]) (by kernel_rfl) (by simp) ?_
      refine AllReady.cons rfl (fun K hK => ?_) (AllReady.cons rfl (fun K hK => ?_) AllReady.nil)
      ·go_simp
       refine hK _ _ ?_
       clear hK K
       refine wpAny_ready (rs := [5]) (by kernel_rfl) (by simp) ?_
       refine AllReady.cons rfl (fun K hK => ?_) AllReady.nil
       go_simp
       refine hK _ _ ?_
       clear hK K
       refine wpAny_ready (rs := [6]) (by kernel_rfl) (by simp) ?_
       refine AllReady.cons rfl (fun K hK => ?_) AllReady.nil
       go_simp
       with_reducible refine (methodFits_r cf f true _ hcf h16 HFB).mono ?_
       rintro e wz ⟨rfl, rfl⟩
       dsimp only
       refine hK _ _ ?_
       clear hK K
       refine wpAny_ready (rs := [7]) (by kernel_rfl) (by simp) ?_
       refine AllReady.cons rfl (fun K hK => ?_) AllReady.nil
       go_simp
       refine hK _ _ ?_
       clear hK K
       refine wpAny_ready (rs := [8]) (by kernel_rfl) (by simp) ?_
       refine AllReady.cons rfl (fun K hK => ?_) AllReady.nil
       go_simp
       with_reducible refine (refuse_no 22 _).mono ?_
       rintro e wz ⟨rfl, rfl⟩
       dsimp only
       refine hK _ _ ?_
       clear hK K
       refine wpAny_done (by kernel_rfl) ?_ _
       have a1 : bits .and .i64 (f : Int) 1024 = ((f &&& 1024 : Nat) : Int) := and16 f 1024 h16 (by omega)
       have HWB : Hid (Rdy wb.drew P R g L cf r2) := lhid HRB.out.drew
       have HXD : Hid (wb.drew.heap[w.heap.size]? = some (.cells #[.int .i64 0, .string ⟨#[]⟩, .string ⟨#[]⟩, .int .i64 0, .int .i64 0, .slice none 0 0, .slice none 0 0, .slice none 0 0] 62 (0, 0))) := lhid HXB.out
       have HYD : Hid (wb.drew.heap[w1.heap.size]? = some (.cells #[.int .i64 f, .string (tx m.1), .string (tx m.2), .int .i64 0, .int .i64 0, .slice none 0 0, .slice none 0 0, .slice none 0 0] 62 (0, 0))) := lhid HYB.out
       have HOD : Hid (Only R w wb.drew) := lhid HOB.out.drew
       clear g0 zg0 g1 zg1 g2 zg2 g3 zg3 g4 zg4 g5 zg5 g6 zg6 g7 zg7 HRB HXB HYB HOB c2
       generalize wb.drew = wd at *
       have g0 := heap_cell (i := 0) HYD.out rfl
       have zg0 := heap_thaw HYD.out 0
       have g1 := heap_cell (i := 1) HYD.out rfl
       have zg1 := heap_thaw HYD.out 1
       have g2 := heap_cell (i := 2) HYD.out rfl
       have zg2 := heap_thaw HYD.out 2
       have g3 := heap_cell (i := 3) HYD.out rfl
       have zg3 := heap_thaw HYD.out 3
       have g4 := heap_cell (i := 4) HYD.out rfl
       have zg4 := heap_thaw HYD.out 4
       have g5 := heap_cell (i := 5) HYD.out rfl
       have zg5 := heap_thaw HYD.out 5
       have g6 := heap_cell (i := 6) HYD.out rfl
       have zg6 := heap_thaw HYD.out 6
       have g7 := heap_cell (i := 7) HYD.out rfl
       have zg7 := heap_thaw HYD.out 7
       by_cases hab : f &&& 1024 = 0
       ·have HAB := lhid hab
        have a2 : (bits .and .i64 (f : Int) 1024 == 0) = true := by rw [a1, hab]; rfl
        clear hab a1
        clear g1 zg1 g2 zg2 g3 zg3 g4 zg4 g5 zg5 g6 zg6 g7 zg7
        go_wp2_with fail
        with_reducible refine (body_any P R g cf w1.heap.size L f m r2 _ HWB HYC.out HYD).mono ?_
        rintro e w3 ho
        have HO3 := lhid (Upto.ofOnly HOD.out HYL.out ho.1)
        have HX3 := lhid ((ho.1.block _ (Nat.lt_of_le_of_ne HYL.out HXHYNE.out) HXN.out).trans HXD.out)
        cases hp : bdyP L f m r2 with
        | er x =>
         have hx := ho.2
         rw [hp] at hx
         have HP := lhid hp
         clear ho hp
         obtain rfl := hx
         go_wp2_with fail
         exact ⟨rfl, out_er HO3.out (by simp only [metP, metJ, Pr.then, HP1.out, HP2.out]; rw [if_neg (by rw [HNB.out]; simp), if_neg (by rw [HMB.out]; simp), if_neg (by rw [HFB.out]; simp), if_pos HAB.out, HP.out])⟩
        | ok mm r3 =>
         have hx := ho.2
         rw [hp] at hx
         have HP := lhid hp
         clear ho hp
         obtain ⟨rfl, ⟨cs, hcs, x, y, z, rfl, hv1, hv2, hv3⟩, hr⟩ := hx
         have H3 := lhid hr
         have HCS := lhid hcs
         have HV1 := lhid hv1
         have HV2 := lhid hv2
         have HV3 := lhid hv3
         clear hr hcs hv1 hv2 hv3
         obtain ⟨xA, xc, rfl⟩ := byts_shape HV1.out
         obtain ⟨yA, yc, rfl⟩ := slO_shape HV2.out
         obtain ⟨zA, zc, rfl⟩ := slO_shape HV3.out
         have q0 := heap_cell (i := 0) HCS.out rfl
         have zq0 := heap_thaw HCS.out 0
         have q1 := heap_cell (i := 1) HCS.out rfl
         have zq1 := heap_thaw HCS.out 1
         have q2 := heap_cell (i := 2) HCS.out rfl
         have zq2 := heap_thaw HCS.out 2
         have q3 := heap_cell (i := 3) HCS.out rfl
         have zq3 := heap_thaw HCS.out 3
         have q4 := heap_cell (i := 4) HCS.out rfl
         have zq4 := heap_thaw HCS.out 4
         have q5 := heap_cell (i := 5) HCS.out rfl
         have zq5 := heap_thaw HCS.out 5
         have q6 := heap_cell (i := 6) HCS.out rfl
         have zq6 := heap_thaw HCS.out 6
         have q7 := heap_cell (i := 7) HCS.out rfl
         have zq7 := heap_thaw HCS.out 7
         have p0 := heap_cell (i := 0) HX3.out rfl
         have zp0 := heap_thaw HX3.out 0
         have p1 := heap_cell (i := 1) HX3.out rfl
         have zp1 := heap_thaw HX3.out 1
         have p2 := heap_cell (i := 2) HX3.out rfl
         have zp2 := heap_thaw HX3.out 2
         have p3 := heap_cell (i := 3) HX3.out rfl
         have zp3 := heap_thaw HX3.out 3
         have p4 := heap_cell (i := 4) HX3.out rfl
         have zp4 := heap_thaw HX3.out 4
         have p5 := heap_cell (i := 5) HX3.out rfl
         have zp5 := heap_thaw HX3.out 5
         have p6 := heap_cell (i := 6) HX3.out rfl
         have zp6 := heap_thaw HX3.out 6
         have p7 := heap_cell (i := 7) HX3.out rfl
         have zp7 := heap_thaw HX3.out 7
         go_wp2_with fail
         refine bodyPost_ret (v := .agg #[.int .i64 mm.flags, .string (tx mm.name), .string (tx mm.desc), .int .i64 mm.stack, .int .i64 mm.locals, .slice xA mm.code.length xc, .slice yA mm.rows.length yc, .slice zA mm.frames.length zc]) (by simp [results, Tryz.results92, go_sem, p0, p1, p2, p3, p4, p5, p6, p7]) rfl ?_
         exact out_ok (a := mm) (r := r3) (only_cells (Nat.le_refl _) [.int .i64 mm.flags, .string (tx mm.name), .string (tx mm.desc), .int .i64 mm.stack, .int .i64 mm.locals, .slice xA mm.code.length xc, .slice yA mm.rows.length yc, .slice zA mm.frames.length zc] 0 _ HO3.out) (by simp only [metP, metJ, Pr.then, HP1.out, HP2.out]; rw [if_neg (by rw [HNB.out]; simp), if_neg (by rw [HMB.out]; simp), if_neg (by rw [HFB.out]; simp), if_pos HAB.out, HP.out]) ⟨_, _, _, rfl, (byts_cells HV1.out ⟨_, _, HX3.out⟩ (by decide) [.int .i64 mm.flags, .string (tx mm.name), .string (tx mm.desc), .int .i64 mm.stack, .int .i64 mm.locals, .slice xA mm.code.length xc, .slice yA mm.rows.length yc, .slice zA mm.frames.length zc] 0), (rws_cells HV2.out ⟨_, _, HX3.out⟩ (by decide) [.int .i64 mm.flags, .string (tx mm.name), .string (tx mm.desc), .int .i64 mm.stack, .int .i64 mm.locals, .slice xA mm.code.length xc, .slice yA mm.rows.length yc, .slice zA mm.frames.length zc] 0), (frms_cells HV3.out ⟨_, _, HX3.out⟩ (by decide) [.int .i64 mm.flags, .string (tx mm.name), .string (tx mm.desc), .int .i64 mm.stack, .int .i64 mm.locals, .slice xA mm.code.length xc, .slice yA mm.rows.length yc, .slice zA mm.frames.length zc] 0)⟩ (rdy_cells HXC.out [.int .i64 mm.flags, .string (tx mm.name), .string (tx mm.desc), .int .i64 mm.stack, .int .i64 mm.locals, .slice xA mm.code.length xc, .slice yA mm.rows.length yc, .slice zA mm.frames.length zc] 0 _ H3.out)
       ·have HAB := lhid hab
        have a2 : (bits .and .i64 (f : Int) 1024 == 0) = false := by rw [a1, beq_eq_false_iff_ne]; omega
        clear hab a1
        clear g0 zg0 g1 zg1 g2 zg2 g3 zg3 g4 zg4 g5 zg5 g6 zg6 g7 zg7
        have q0 := heap_cell (i := 0) HYD.out rfl
        have zq0 := heap_thaw HYD.out 0
        have q1 := heap_cell (i := 1) HYD.out rfl
        have zq1 := heap_thaw HYD.out 1
        have q2 := heap_cell (i := 2) HYD.out rfl
        have zq2 := heap_thaw HYD.out 2
        have q3 := heap_cell (i := 3) HYD.out rfl
        have zq3 := heap_thaw HYD.out 3
        have q4 := heap_cell (i := 4) HYD.out rfl
        have zq4 := heap_thaw HYD.out 4
        have q5 := heap_cell (i := 5) HYD.out rfl
        have zq5 := heap_thaw HYD.out 5
        have q6 := heap_cell (i := 6) HYD.out rfl
        have zq6 := heap_thaw HYD.out 6
        have q7 := heap_cell (i := 7) HYD.out rfl
        have zq7 := heap_thaw HYD.out 7
        have p0 := heap_cell (i := 0) HXD.out rfl
        have zp0 := heap_thaw HXD.out 0
        have p1 := heap_cell (i := 1) HXD.out rfl
        have zp1 := heap_thaw HXD.out 1
        have p2 := heap_cell (i := 2) HXD.out rfl
        have zp2 := heap_thaw HXD.out 2
        have p3 := heap_cell (i := 3) HXD.out rfl
        have zp3 := heap_thaw HXD.out 3
        have p4 := heap_cell (i := 4) HXD.out rfl
        have zp4 := heap_thaw HXD.out 4
        have p5 := heap_cell (i := 5) HXD.out rfl
        have zp5 := heap_thaw HXD.out 5
        have p6 := heap_cell (i := 6) HXD.out rfl
        have zp6 := heap_thaw HXD.out 6
        have p7 := heap_cell (i := 7) HXD.out rfl
        have zp7 := heap_thaw HXD.out 7
        go_wp2_with fail
        refine bodyPost_ret (v := .agg #[.int .i64 f, .string (tx m.1), .string (tx m.2), .int .i64 0, .int .i64 0, .slice none 0 0, .slice none 0 0, .slice none 0 0]) (by simp [results, Tryz.results92, go_sem, p0, p1, p2, p3, p4, p5, p6, p7]) rfl ?_
        exact out_ok (a := (⟨f, m.1, m.2, 0, 0, [], [], []⟩ : Met)) (r := r2) (only_cells (Nat.le_refl _) [.int .i64 f, .string (tx m.1), .string (tx m.2), .int .i64 0, .int .i64 0, .slice none 0 0, .slice none 0 0, .slice none 0 0] 0 _ HOD.out) (by simp only [metP, metJ, Pr.then, HP1.out, HP2.out]; rw [if_neg (by rw [HNB.out]; simp), if_neg (by rw [HMB.out]; simp), if_neg (by rw [HFB.out]; simp), if_neg HAB.out]) ⟨_, _, _, rfl, .inl ⟨rfl, rfl⟩, ⟨[], World.ownsRow_nil _ _ _ _, rfl⟩, ⟨[], World.ownsRow_nil _ _ _ _, rfl⟩⟩ (rdy_cells HXC.out [.int .i64 f, .string (tx m.1), .string (tx m.2), .int .i64 0, .int .i64 0, .slice none 0 0, .slice none 0 0, .slice none 0 0] 0 _ HWB.out)
      ·go_simp
       refine hK _ _ ?_
       clear hK K
       refine wpAny_ready (rs := [3]) (by kernel_rfl) (by simp) ?_
       refine AllReady.cons rfl (fun K hK => ?_) AllReady.nil
       go_simp
       refine hK _ _ ?_
       clear hK K
       refine wpAny_ready (rs := [6]) (by kernel_rfl) (by simp) ?_
       refine AllReady.cons rfl (fun K hK => ?_) AllReady.nil
       go_simp
       with_reducible refine (methodFits_r cf f true _ hcf h16 HFB).mono ?_
       rintro e wz ⟨rfl, rfl⟩
       dsimp only
       refine hK _ _ ?_
       clear hK K
       refine wpAny_ready (rs := [7]) (by kernel_rfl) (by simp) ?_
       refine AllReady.cons rfl (fun K hK => ?_) AllReady.nil
       go_simp
       refine hK _ _ ?_
       clear hK K
       refine wpAny_ready (rs := [8]) (by kernel_rfl) (by simp) ?_
       refine AllReady.cons rfl (fun K hK => ?_) AllReady.nil
       go_simp
       with_reducible refine (refuse_no 22 _).mono ?_
       rintro e wz ⟨rfl, rfl⟩
       dsimp only
       refine hK _ _ ?_
       clear hK K
       refine wpAny_done (by kernel_rfl) ?_ _
       have a1 : bits .and .i64 (f : Int) 1024 = ((f &&& 1024 : Nat) : Int) := and16 f 1024 h16 (by omega)
       have HWB : Hid (Rdy wb.drew P R g L cf r2) := lhid HRB.out.drew
       have HXD : Hid (wb.drew.heap[w.heap.size]? = some (.cells #[.int .i64 0, .string ⟨#[]⟩, .string ⟨#[]⟩, .int .i64 0, .int .i64 0, .slice none 0 0, .slice none 0 0, .slice none 0 0] 62 (0, 0))) := lhid HXB.out
       have HYD : Hid (wb.drew.heap[w1.heap.size]? = some (.cells #[.int .i64 f, .string (tx m.1), .string (tx m.2), .int .i64 0, .int .i64 0, .slice none 0 0, .slice none 0 0, .slice none 0 0] 62 (0, 0))) := lhid HYB.out
       have HOD : Hid (Only R w wb.drew) := lhid HOB.out.drew
       clear g0 zg0 g1 zg1 g2 zg2 g3 zg3 g4 zg4 g5 zg5 g6 zg6 g7 zg7 HRB HXB HYB HOB c2
       generalize wb.drew = wd at *
       have g0 := heap_cell (i := 0) HYD.out rfl
       have zg0 := heap_thaw HYD.out 0
       have g1 := heap_cell (i := 1) HYD.out rfl
       have zg1 := heap_thaw HYD.out 1
       have g2 := heap_cell (i := 2) HYD.out rfl
       have zg2 := heap_thaw HYD.out 2
       have g3 := heap_cell (i := 3) HYD.out rfl
       have zg3 := heap_thaw HYD.out 3
       have g4 := heap_cell (i := 4) HYD.out rfl
       have zg4 := heap_thaw HYD.out 4
       have g5 := heap_cell (i := 5) HYD.out rfl
       have zg5 := heap_thaw HYD.out 5
       have g6 := heap_cell (i := 6) HYD.out rfl
       have zg6 := heap_thaw HYD.out 6
       have g7 := heap_cell (i := 7) HYD.out rfl
       have zg7 := heap_thaw HYD.out 7
       by_cases hab : f &&& 1024 = 0
       ·have HAB := lhid hab
        have a2 : (bits .and .i64 (f : Int) 1024 == 0) = true := by rw [a1, hab]; rfl
        clear hab a1
        clear g1 zg1 g2 zg2 g3 zg3 g4 zg4 g5 zg5 g6 zg6 g7 zg7
        go_wp2_with fail
        with_reducible refine (body_any P R g cf w1.heap.size L f m r2 _ HWB HYC.out HYD).mono ?_
        rintro e w3 ho
        have HO3 := lhid (Upto.ofOnly HOD.out HYL.out ho.1)
        have HX3 := lhid ((ho.1.block _ (Nat.lt_of_le_of_ne HYL.out HXHYNE.out) HXN.out).trans HXD.out)
        cases hp : bdyP L f m r2 with
        | er x =>
         have hx := ho.2
         rw [hp] at hx
         have HP := lhid hp
         clear ho hp
         obtain rfl := hx
         go_wp2_with fail
         exact ⟨rfl, out_er HO3.out (by simp only [metP, metJ, Pr.then, HP1.out, HP2.out]; rw [if_neg (by rw [HNB.out]; simp), if_neg (by rw [HMB.out]; simp), if_neg (by rw [HFB.out]; simp), if_pos HAB.out, HP.out])⟩
        | ok mm r3 =>
         have hx := ho.2
         rw [hp] at hx
         have HP := lhid hp
         clear ho hp
         obtain ⟨rfl, ⟨cs, hcs, x, y, z, rfl, hv1, hv2, hv3⟩, hr⟩ := hx
         have H3 := lhid hr
         have HCS := lhid hcs
         have HV1 := lhid hv1
         have HV2 := lhid hv2
         have HV3 := lhid hv3
         clear hr hcs hv1 hv2 hv3
         obtain ⟨xA, xc, rfl⟩ := byts_shape HV1.out
         obtain ⟨yA, yc, rfl⟩ := slO_shape HV2.out
         obtain ⟨zA, zc, rfl⟩ := slO_shape HV3.out
         have q0 := heap_cell (i := 0) HCS.out rfl
         have zq0 := heap_thaw HCS.out 0
         have q1 := heap_cell (i := 1) HCS.out rfl
         have zq1 := heap_thaw HCS.out 1
         have q2 := heap_cell (i := 2) HCS.out rfl
         have zq2 := heap_thaw HCS.out 2
         have q3 := heap_cell (i := 3) HCS.out rfl
         have zq3 := heap_thaw HCS.out 3
         have q4 := heap_cell (i := 4) HCS.out rfl
         have zq4 := heap_thaw HCS.out 4
         have q5 := heap_cell (i := 5) HCS.out rfl
         have zq5 := heap_thaw HCS.out 5
         have q6 := heap_cell (i := 6) HCS.out rfl
         have zq6 := heap_thaw HCS.out 6
         have q7 := heap_cell (i := 7) HCS.out rfl
         have zq7 := heap_thaw HCS.out 7
         have p0 := heap_cell (i := 0) HX3.out rfl
         have zp0 := heap_thaw HX3.out 0
         have p1 := heap_cell (i := 1) HX3.out rfl
         have zp1 := heap_thaw HX3.out 1
         have p2 := heap_cell (i := 2) HX3.out rfl
         have zp2 := heap_thaw HX3.out 2
         have p3 := heap_cell (i := 3) HX3.out rfl
         have zp3 := heap_thaw HX3.out 3
         have p4 := heap_cell (i := 4) HX3.out rfl
         have zp4 := heap_thaw HX3.out 4
         have p5 := heap_cell (i := 5) HX3.out rfl
         have zp5 := heap_thaw HX3.out 5
         have p6 := heap_cell (i := 6) HX3.out rfl
         have zp6 := heap_thaw HX3.out 6
         have p7 := heap_cell (i := 7) HX3.out rfl
         have zp7 := heap_thaw HX3.out 7
         go_wp2_with fail
         refine bodyPost_ret (v := .agg #[.int .i64 mm.flags, .string (tx mm.name), .string (tx mm.desc), .int .i64 mm.stack, .int .i64 mm.locals, .slice xA mm.code.length xc, .slice yA mm.rows.length yc, .slice zA mm.frames.length zc]) (by simp [results, Tryz.results92, go_sem, p0, p1, p2, p3, p4, p5, p6, p7]) rfl ?_
         exact out_ok (a := mm) (r := r3) (only_cells (Nat.le_refl _) [.int .i64 mm.flags, .string (tx mm.name), .string (tx mm.desc), .int .i64 mm.stack, .int .i64 mm.locals, .slice xA mm.code.length xc, .slice yA mm.rows.length yc, .slice zA mm.frames.length zc] 0 _ HO3.out) (by simp only [metP, metJ, Pr.then, HP1.out, HP2.out]; rw [if_neg (by rw [HNB.out]; simp), if_neg (by rw [HMB.out]; simp), if_neg (by rw [HFB.out]; simp), if_pos HAB.out, HP.out]) ⟨_, _, _, rfl, (byts_cells HV1.out ⟨_, _, HX3.out⟩ (by decide) [.int .i64 mm.flags, .string (tx mm.name), .string (tx mm.desc), .int .i64 mm.stack, .int .i64 mm.locals, .slice xA mm.code.length xc, .slice yA mm.rows.length yc, .slice zA mm.frames.length zc] 0), (rws_cells HV2.out ⟨_, _, HX3.out⟩ (by decide) [.int .i64 mm.flags, .string (tx mm.name), .string (tx mm.desc), .int .i64 mm.stack, .int .i64 mm.locals, .slice xA mm.code.length xc, .slice yA mm.rows.length yc, .slice zA mm.frames.length zc] 0), (frms_cells HV3.out ⟨_, _, HX3.out⟩ (by decide) [.int .i64 mm.flags, .string (tx mm.name), .string (tx mm.desc), .int .i64 mm.stack, .int .i64 mm.locals, .slice xA mm.code.length xc, .slice yA mm.rows.length yc, .slice zA mm.frames.length zc] 0)⟩ (rdy_cells HXC.out [.int .i64 mm.flags, .string (tx mm.name), .string (tx mm.desc), .int .i64 mm.stack, .int .i64 mm.locals, .slice xA mm.code.length xc, .slice yA mm.rows.length yc, .slice zA mm.frames.length zc] 0 _ H3.out)
       ·have HAB := lhid hab
        have a2 : (bits .and .i64 (f : Int) 1024 == 0) = false := by rw [a1, beq_eq_false_iff_ne]; omega
        clear hab a1
        clear g0 zg0 g1 zg1 g2 zg2 g3 zg3 g4 zg4 g5 zg5 g6 zg6 g7 zg7
        have q0 := heap_cell (i := 0) HYD.out rfl
        have zq0 := heap_thaw HYD.out 0
        have q1 := heap_cell (i := 1) HYD.out rfl
        have zq1 := heap_thaw HYD.out 1
        have q2 := heap_cell (i := 2) HYD.out rfl
        have zq2 := heap_thaw HYD.out 2
        have q3 := heap_cell (i := 3) HYD.out rfl
        have zq3 := heap_thaw HYD.out 3
        have q4 := heap_cell (i := 4) HYD.out rfl
        have zq4 := heap_thaw HYD.out 4
        have q5 := heap_cell (i := 5) HYD.out rfl
        have zq5 := heap_thaw HYD.out 5
        have q6 := heap_cell (i := 6) HYD.out rfl
        have zq6 := heap_thaw HYD.out 6
        have q7 := heap_cell (i := 7) HYD.out rfl
        have zq7 := heap_thaw HYD.out 7
        have p0 := heap_cell (i := 0) HXD.out rfl
        have zp0 := heap_thaw HXD.out 0
        have p1 := heap_cell (i := 1) HXD.out rfl
        have zp1 := heap_thaw HXD.out 1
        have p2 := heap_cell (i := 2) HXD.out rfl
        have zp2 := heap_thaw HXD.out 2
        have p3 := heap_cell (i := 3) HXD.out rfl
        have zp3 := heap_thaw HXD.out 3
        have p4 := heap_cell (i := 4) HXD.out rfl
        have zp4 := heap_thaw HXD.out 4
        have p5 := heap_cell (i := 5) HXD.out rfl
        have zp5 := heap_thaw HXD.out 5
        have p6 := heap_cell (i := 6) HXD.out rfl
        have zp6 := heap_thaw HXD.out 6
        have p7 := heap_cell (i := 7) HXD.out rfl
        have zp7 := heap_thaw HXD.out 7
        go_wp2_with fail
        refine bodyPost_ret (v := .agg #[.int .i64 f, .string (tx m.1), .string (tx m.2), .int .i64 0, .int .i64 0, .slice none 0 0, .slice none 0 0, .slice none 0 0]) (by simp [results, Tryz.results92, go_sem, p0, p1, p2, p3, p4, p5, p6, p7]) rfl ?_
        exact out_ok (a := (⟨f, m.1, m.2, 0, 0, [], [], []⟩ : Met)) (r := r2) (only_cells (Nat.le_refl _) [.int .i64 f, .string (tx m.1), .string (tx m.2), .int .i64 0, .int .i64 0, .slice none 0 0, .slice none 0 0, .slice none 0 0] 0 _ HOD.out) (by simp only [metP, metJ, Pr.then, HP1.out, HP2.out]; rw [if_neg (by rw [HNB.out]; simp), if_neg (by rw [HMB.out]; simp), if_neg (by rw [HFB.out]; simp), if_neg HAB.out]) ⟨_, _, _, rfl, .inl ⟨rfl, rfl⟩, ⟨[], World.ownsRow_nil _ _ _ _, rfl⟩, ⟨[], World.ownsRow_nil _ _ _ _, rfl⟩⟩ (rdy_cells HXC.out [.int .i64 f, .string (tx m.1), .string (tx m.2), .int .i64 0, .int .i64 0, .slice none 0 0, .slice none 0 0, .slice none 0 0] 0 _ HWB.out)
end Go.Proofs.YtgihfcimngogfaaGreat
