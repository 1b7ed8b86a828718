/- Contract of the document's Read. -/
import Derived.Test.YtgihfcimngogfaaGreatJPoolFilled
import Derived.Test.YtgihfcimngogfaaGreatJPoolDoc
import Derived.Test.YtgihfcimngogfaaGreatJPoolRead
namespace Go.Proofs.YtgihfcimngogfaaGreat
open Go.RowKit Go
set_option linter.unusedVariables false
theorem Doc.alloc {X : Tl} {w : World} {M : Nat} {v : Value} {k : Nat} {b : Bool} (h : Doc X w M v k b) (o : Obj) : Doc X (w.alloc o) M v k b := by
 unfold Doc
 rw [Below.heap_alloc _ _ _ h.lt]
 exact h
theorem Doc.other {X : Tl} {w : World} {M : Nat} {v : Value} {k : Nat} {b : Bool} (h : Doc X w M v k b) {p : Addr} (hp : M ≠ p.block) (u : Value) : Doc X (w.setCell p u) M v k b := by
 unfold Doc
 rw [Below.heap_setCell _ _ _ _ hp]
 exact h
theorem DocS.alloc {X : Tl} {B M : Nat} {w : World} {v : Value} {L : Bs} {s : St} (h : DocS X B w M v L s) (o : Obj) : DocS X B (w.alloc o) M v L s :=
 ⟨h.doc.alloc o, h.le, h.suf, rdB_below h.rd h.low ((Below.refl B w).alloc h.bw o), h.base, h.low, by have := h.bw; simp; omega⟩
theorem DocS.setC {X : Tl} {B M : Nat} {w : World} {v : Value} {L : Bs} {s : St} (h : DocS X B w M v L s) {b : Nat} (hb : M < b) (i : Nat) (u : Value) : DocS X B (w.setCell ⟨b, i, none⟩ u) M v L s :=
 ⟨h.doc.other (Nat.ne_of_lt hb) u, h.le, h.suf, rdB_below h.rd h.low ((Below.refl B w).setCell (p := ⟨b, i, none⟩) (Nat.le_of_lt (Nat.lt_of_le_of_lt h.base hb)) u), h.base, h.low, by have := h.bw; simpa [World.setCell] using this⟩
theorem DocS.below {X : Tl} {B M : Nat} {w w' : World} {v : Value} {L : Bs} {s : St} (h : DocS X B w M v L s) (hb : Below w.heap.size w w') : DocS X B w' M v L s :=
 ⟨(hb.block M h.doc.lt).trans h.doc, h.le, h.suf, rdB_below h.rd h.low (hb.mono h.bw), h.base, h.low, Nat.le_trans h.bw hb.size⟩
theorem DocS.lt {X : Tl} {B M : Nat} {w : World} {v : Value} {L : Bs} {s : St} (h : DocS X B w M v L s) : M < w.heap.size := h.doc.lt
theorem kind_cases (k : Nat) : k = 1 ∨ k = 3 ∨ k = 5 ∨ k = 7 ∨ k = 8 ∨ k = 9 ∨ k = 10 ∨ k = 11 ∨ knownK k = false := by
 by_cases h : knownK k = false
 ·simp [h]
 ·have h' : knownK k = true := by simpa using h
  unfold knownK at h'
  simp only [Bool.or_eq_true, beq_iff_eq] at h'
  rcases h' with ((((((h' | h') | h') | h') | h') | h') | h') | h' <;> simp [h']
theorem infoEnt2 : (Tryz.prog.info? 130).map (fun i => (i.zero, i.size, i.bytes)) = some (some (.agg #[.int .i64 0, .int .i64 0, .string ⟨#[]⟩, .string ⟨#[]⟩, .string ⟨#[]⟩, .int .i64 0, .int .i64 0, .int .i64 0]), 8, 88) := by kernel_rfl
theorem make_ents2 (n : Nat) (hn : n ≤ 1000) (w : World) :
  (Instr.makeSlice 128 (.int .i64 (n : Int)) (.int .i64 (n : Int))).run Tryz.prog w = .ok (.slice (some ⟨w.heap.size, 0, none⟩) n n) (w.alloc (.cells (madeCells (entV Ent.zero).toArray (n * 8)) 130)) := by
 obtain ⟨i0, hi0, hz0, hz1, hz2⟩ := info_parts infoEnt2
 have h := run_make (P := Tryz.prog) w 128 130 i0 _ Tryz.underlying128 hi0 hz0 .i64 .i64 n n (by omega) (Int.le_refl _) (by rw [hz2]; omega) (by omega)
 rw [h, hz1]
 rfl
theorem con_one (n : Nat) (h : 1 ≤ n) : List.replicate n (conV Con.zero) = conR [Con.zero] n := by
 unfold conR
 obtain ⟨m, rfl⟩ : ∃ m, n = m + 1 := ⟨n - 1, by omega⟩
 simp [List.replicate_succ]
def RefOut (X : Tl) (B M : Nat) (v : Value) (L : Bs) (r : Nat × List Con) (S : St) (w : World) (e : Ending) (w' : World) : Prop :=
 (if r.1 = 0 then ∃ g, e = .returned (.tuple #[.slice (some ⟨g, 0, none⟩) r.2.length r.2.length, .int .i64 0]) ∧ w.heap.size ≤ g ∧ RowsAt w' g 39 5 (r.2.map conV) else e = .returned (.tuple #[.slice none 0 0, .int .i64 r.1])) ∧ DocS X B w' M v L S ∧ Only M w w'
theorem refOut_err {X : Tl} {B M : Nat} {v : Value} {L : Bs} {r : Nat × List Con} {S : St} {w : World} {e : Ending} {w' : World} (x : Nat) (hx : x ≠ 0) (hr : r = (x, [])) (he : e = .returned (.tuple #[.slice none 0 0, .int .i64 x])) (h1 : DocS X B w' M v L S) (h2 : Only M w w') : RefOut X B M v L r S w e w' := by
 subst hr
 refine ⟨?_, h1, h2⟩
 rw [if_neg hx]
 exact he
def afterR (r1 : Nat × List Ent × St) : Nat × List Con := if r1.1 ≠ 0 then (r1.1, []) else resAll r1.2.1 r1.2.1 []
theorem afterR_err (x : Nat) (l : List Ent) (s : St) (h : x ≠ 0) : afterR (x, l, s) = (x, []) := by unfold afterR; rw [if_pos h]
theorem ents_good {k : Nat} {s : St} {acc : List Ent} {s' : St} (h : rdEnts k s [Ent.zero] = (0, acc, s')) :
  ZeroL acc ∧ ShortL acc ∧ (∀ x, x ∈ acc → x.kind ≤ 11) ∧ resAll acc acc [] = resAll acc (acc.drop 1) [Con.zero] := by
 obtain ⟨t, h1, _, h3⟩ := rdEnts_ok GoodE entE_good k s [Ent.zero] (by rw [h])
 rw [h] at h1
 simp only [List.cons_append, List.nil_append] at h1
 subst h1
 refine ⟨?_, ?_, ?_, ?_⟩
 ·intro x hx
  simp at hx
  subst hx
  rfl
 ·intro x hx
  rcases List.mem_cons.1 hx with rfl | hx
  ·exact Nat.zero_lt_succ _
  ·exact (h3 x hx).2
 ·intro x hx
  rcases List.mem_cons.1 hx with rfl | hx
  ·exact Nat.zero_le _
  ·have hk := (h3 x hx).1
   rcases kind_cases x.kind with e | e | e | e | e | e | e | e | e
   all_goals first | omega | (rw [hk] at e; cases e)
 ·rw [resAll_on (Ent.zero :: t) Ent.zero t [] rfl]
  rfl
theorem rows_round {w : World} {G T : Nat} {rows : List (List Value)} (h : RowsAt w G T 8 rows) {i : Nat} (hi : i < rows.length) (x : Ent) {C : Nat} (hC : G ≠ C) (j : Nat) (u : Value) :
  RowsAt ((w.setCell ⟨C, j, none⟩ u).setCells G (i * 8) (entV x)) G T 8 (rows.set i (entV x)) := (h.other (by exact hC) u).put i hi (entV x) rfl
set_option maxHeartbeats 16000000 in
set_option maxRecDepth 100000 in
theorem refRead_main (X : Tl) (B M : Nat) (v : Value) (L : Bs) (s : St) (w : World) (h : DocS X B w M v L s) (n : Nat) (hn : numN s 2 = n) (h1 : 1 ≤ n) (h2 : n ≤ 1000) (hb : (numS s 2).2 = false) (r1 : Nat × List Ent × St) (hr : rdEnts (n - 1) (numS s 2) [Ent.zero] = r1) :
  Calls Tryz.prog 47 #[.pointer (some ⟨M, 0, none⟩)] w (RefOut X B M v L (afterR r1) r1.2.2 w) := by
 have hlt := h.lt
 have HN := lhid hn
 have HR := lhid h
 have HB := lhid hb
 have HRR := lhid hr
 clear h hn hb hr
 have hwrap : wrap64 (n : Int) = n := IntWalk.wrap64_in _ (by omega)
 have hn0 : ((n : Int) == 0) = false := by rw [beq_eq_false_iff_ne]; omega
 have hn1 : ¬ (1000 : Int) < n := by omega
 go_enter Tryz.func47, Tryz.ntmps47
 go_wp2_with fail
 with_reducible refine (refNum_any X B M v L s 2 _ HR.out).mono ?_
 rintro e w1 ⟨rfl, hd, ho⟩
 rw [HN.out]
 have HD1 := lhid hd
 have HO1 := lhid ho
 have d2 : w1.cell? ⟨M, 2, none⟩ = some (.bool false) := by rw [← HB.out]; exact hd.doc.c2
 have hm1 := hd.lt
 clear hd ho
 have hmake := make_ents2 n h2
 go_wp2_with fail
 clear hmake d2 hn0 hn1 hwrap
 obtain ⟨G, hG⟩ : ∃ G, w1.heap.size = G := ⟨_, rfl⟩
 have HG : Hid (w.heap.size ≤ G ∧ M < G) := lhid (by have := HO1.out.size; omega)
 have hrows : RowsAt (w1.alloc (.cells (madeCells (entV Ent.zero).toArray (n * 8)) 130)) G 130 8 (entR [Ent.zero] n) := by
  rw [← entR_one n h1, ← hG]
  exact RowsAt.made w1 _ 8 n _ (entV Ent.zero) rfl rfl (by omega)
 have HROWS := lhid hrows
 rw [hG]
 clear hrows hG
 go_loopw [6] (fun i wr => ∃ (acc : List Ent) (s' : St), i = .int .i64 acc.length ∧ acc.length ≤ n ∧ Hid (DocS X B wr M v L s') ∧ Hid (RowsAt wr G 130 8 (entR acc n)) ∧ Hid (Only M w wr) ∧ Hid (rdEnts (n - acc.length) s' acc = r1)) (fun i _ => n - (intOf i).toNat)
 case atStart => exact ⟨[Ent.zero], numS s 2, rfl, h1, lhid (HD1.out.alloc _), HROWS, lhid (HO1.out.alloc _), HRR⟩
 case round =>
  obtain ⟨acc, s', rfl, hle, HD, HE, HO, HL⟩ := hrel
  clear hm1
  by_cases hlt2 : acc.length < n
  ·rcases kind_cases (numN s' 1) with hk | hk | hk | hk | hk | hk | hk | hk | hk
   ·have HK := lhid hk
    have HS : Hid (entS s' = takeS (numS (numS s' 1) 2) (numN (numS s' 1) 2)) := lhid (by unfold entS; rw [hk]; rfl)
    have HE' : Hid (entE s' = ⟨1, 0, takeL (numS (numS s' 1) 2) (numN (numS s' 1) 2), 0, 0, 0⟩) := lhid (by unfold entE; rw [hk]; rfl)
    have HX : Hid (entX s' = if (entS s').2 then 11 else 0) := lhid (by unfold entX entS; rw [hk]; rfl)
    clear hk
    go_wp2_with fail
    with_reducible refine (refNum_any X B M v L s' 1 _ HD.out).mono ?_
    rintro e w3 ⟨rfl, hd, ho⟩
    rw [HK.out]
    have HD3 := lhid hd
    have HE3 := lhid (HE.out.keep ho (Nat.ne_of_gt HG.out.2))
    have HO3 := lhid (HO.out.trans ho)
    have m3 := hd.lt
    have g3 := HE3.out.lt
    have b3 := HO3.out.size
    clear hd ho
    go_wp2_with fail
    have b2a := num2_lt (numS s' 1)
    have hba : wrap64 (numN (numS s' 1) 2 : Int) = numN (numS s' 1) 2 := IntWalk.wrap64_in _ (by omega)
    with_reducible refine (refNum_any X B M v L (numS s' 1) 2 _ (HD3.out.alloc _)).mono ?_
    rintro e w4 ⟨rfl, hd, ho⟩
    have HD4 := lhid hd
    have HC4 := lhid ((show EntAt (w3.alloc _) w3.heap.size 130 ⟨1, 0, [], 0, 0, 0⟩ from heap_alloc_new w3 _).keep ho (by omega))
    have HE4 := lhid ((HE3.out.alloc _).keep ho (Nat.ne_of_gt HG.out.2))
    have HO4 := lhid ((HO3.out.alloc _).trans ho)
    have m4 := hd.lt
    have g4 := HE4.out.lt
    have k4 := HC4.out.lt
    have b4 := HO4.out.size
    obtain ⟨x0, x1, x2, x3, x4, x5, x6, x7⟩ := HC4.out.cells
    have fx := HC4.out.thaw
    clear hd ho
    go_wp2_with fail
    clear x0 x1 x2 x3 x4 x5 x6 x7 fx
    with_reducible refine (refTake_any X B M v L (numS (numS s' 1) 2) (numN (numS s' 1) 2) _ HD4.out).mono ?_
    rintro e w5 ⟨rfl, hd, ho⟩
    have HD5 := lhid hd
    have HC5 := lhid (HC4.out.keep ho (by omega))
    have HE5 := lhid (HE4.out.keep ho (Nat.ne_of_gt HG.out.2))
    have HO5 := lhid (HO4.out.trans ho)
    have m5 := hd.lt
    have g5 := HE5.out.lt
    have k5 := HC5.out.lt
    have b5 := HO5.out.size
    obtain ⟨x0, x1, x2, x3, x4, x5, x6, x7⟩ := HC5.out.cells
    have fx := HC5.out.thaw
    clear hd ho
    have hne1 : ¬ M = w3.heap.size := by omega
    have hne2 : ¬ w3.heap.size = M := by omega
    cases hbad : (entS s').2
    ·have HBB : Hid ((takeS (numS (numS s' 1) 2) (numN (numS s' 1) 2)).2 = false) := lhid (by rw [← HS.out]; exact hbad)
     have HXX : Hid (entX s' = 0) := lhid (by rw [HX.out, hbad]; rfl)
     clear hbad
     have d2 : w5.cell? ⟨M, 2, none⟩ = some (.bool false) := by rw [← HBB.out]; exact HD5.out.doc.c2
     have a0 : w5.cell? ⟨G, acc.length * 8, none⟩ = some (.int .i64 0) := HE5.out.cell (entR_at acc n hlt2) (j := 0) rfl
     have a1 := HE5.out.cell (entR_at acc n hlt2) (j := 1) rfl
     have a2 := HE5.out.cell (entR_at acc n hlt2) (j := 2) rfl
     have a3 := HE5.out.cell (entR_at acc n hlt2) (j := 3) rfl
     have a4 := HE5.out.cell (entR_at acc n hlt2) (j := 4) rfl
     have a5 := HE5.out.cell (entR_at acc n hlt2) (j := 5) rfl
     have a6 := HE5.out.cell (entR_at acc n hlt2) (j := 6) rfl
     have a7 := HE5.out.cell (entR_at acc n hlt2) (j := 7) rfl
     have fa := HE5.out.fz
     have hMC : M < w3.heap.size := by omega
     have hWC : w.heap.size ≤ (w3.heap.size : Nat) := by omega
     go_wp2_with fail
     have HLX : Hid (rdEnts (n - (acc ++ [entE s']).length) (entS s') (acc ++ [entE s']) = r1) := lhid (by
      rw [← HL.out, show n - acc.length = n - (acc ++ [entE s']).length + 1 by simp; omega, rdEnts_on _ _ _ HXX.out])
     have hMG := HG.out.2
     have hWG := HG.out.1
     go_roundw
     case rel =>
      refine ⟨acc ++ [entE s'], entS s', by simp, by simp; omega, lhid ?_, lhid ?_, lhid ?_, HLX⟩
      ·rw [HS.out]
       repeat (first | with_reducible refine DocS.setC ?_ hMC _ _ | with_reducible refine DocS.setC ?_ hMG _ _ | with_reducible refine DocS.alloc ?_ _)
       exact HD5.out
      ·rw [← entR_set acc n hlt2, HE'.out]
       exact rows_round HE5.out (by rw [entR_len acc n hle]; exact hlt2) ⟨1, 0, takeL (numS (numS s' 1) 2) (numN (numS s' 1) 2), 0, 0, 0⟩ (C := w3.heap.size) (Nat.ne_of_lt g3) _ _
      ·repeat (first | with_reducible refine Only.setCell ?_ (.inr hWC) _ | with_reducible refine Only.setCell ?_ (.inr hWG) _ | with_reducible refine Only.alloc ?_ _)
       exact HO5.out
     case measure => simp [intOf]; omega
    ·have HBB : Hid ((takeS (numS (numS s' 1) 2) (numN (numS s' 1) 2)).2 = true) := lhid (by rw [← HS.out]; exact hbad)
     have HXX : Hid (entX s' = 11) := lhid (by rw [HX.out, hbad]; rfl)
     clear hbad
     have d2 : w5.cell? ⟨M, 2, none⟩ = some (.bool true) := by rw [← HBB.out]; exact HD5.out.doc.c2
     have hMC : M < w3.heap.size := by omega
     have hWC : w.heap.size ≤ (w3.heap.size : Nat) := by omega
     go_wp2_with fail
     go_ret2
     have hl := HL.out
     rw [show n - acc.length = n - acc.length - 1 + 1 by omega, rdEnts_no _ _ _ (by rw [HXX.out]; omega), HXX.out] at hl
     rw [← hl, afterR_err _ _ _ (by omega)]
     refine refOut_err 11 (by omega) rfl rfl ?_ ?_
     ·show DocS X B _ M v L (entS s')
      rw [HS.out]
      repeat (first | with_reducible refine DocS.setC ?_ hMC _ _ | with_reducible refine DocS.alloc ?_ _)
      exact HD5.out
     ·repeat (first | with_reducible refine Only.setCell ?_ (.inr hWC) _ | with_reducible refine Only.alloc ?_ _)
      exact HO5.out
   ·have HK := lhid hk
    have HS : Hid (entS s' = numS (numS s' 1) 4) := lhid (by unfold entS; rw [hk]; rfl)
    have HE' : Hid (entE s' = ⟨3, wrap64 (wrap32 (numN (numS s' 1) 4)), [], 0, 0, 0⟩) := lhid (by unfold entE; rw [hk]; rfl)
    have HX : Hid (entX s' = if (entS s').2 then 11 else 0) := lhid (by unfold entX entS; rw [hk]; rfl)
    clear hk
    go_wp2_with fail
    with_reducible refine (refNum_any X B M v L s' 1 _ HD.out).mono ?_
    rintro e w3 ⟨rfl, hd, ho⟩
    rw [HK.out]
    have HD3 := lhid hd
    have HE3 := lhid (HE.out.keep ho (Nat.ne_of_gt HG.out.2))
    have HO3 := lhid (HO.out.trans ho)
    have m3 := hd.lt
    have g3 := HE3.out.lt
    have b3 := HO3.out.size
    clear hd ho
    go_wp2_with fail
    with_reducible refine (refNum_any X B M v L (numS s' 1) 4 _ (HD3.out.alloc _)).mono ?_
    rintro e w4 ⟨rfl, hd, ho⟩
    have HD4 := lhid hd
    have HC4 := lhid ((show EntAt (w3.alloc _) w3.heap.size 130 ⟨3, 0, [], 0, 0, 0⟩ from heap_alloc_new w3 _).keep ho (by omega))
    have HE4 := lhid ((HE3.out.alloc _).keep ho (Nat.ne_of_gt HG.out.2))
    have HO4 := lhid ((HO3.out.alloc _).trans ho)
    have m4 := hd.lt
    have g4 := HE4.out.lt
    have k4 := HC4.out.lt
    have b4 := HO4.out.size
    obtain ⟨x0, x1, x2, x3, x4, x5, x6, x7⟩ := HC4.out.cells
    have fx := HC4.out.thaw
    clear hd ho
    have hne1 : ¬ M = w3.heap.size := by omega
    have hne2 : ¬ w3.heap.size = M := by omega
    cases hbad : (entS s').2
    ·have HBB : Hid ((numS (numS s' 1) 4).2 = false) := lhid (by rw [← HS.out]; exact hbad)
     have HXX : Hid (entX s' = 0) := lhid (by rw [HX.out, hbad]; rfl)
     clear hbad
     have d2 : w4.cell? ⟨M, 2, none⟩ = some (.bool false) := by rw [← HBB.out]; exact HD4.out.doc.c2
     have a0 : w4.cell? ⟨G, acc.length * 8, none⟩ = some (.int .i64 0) := HE4.out.cell (entR_at acc n hlt2) (j := 0) rfl
     have a1 := HE4.out.cell (entR_at acc n hlt2) (j := 1) rfl
     have a2 := HE4.out.cell (entR_at acc n hlt2) (j := 2) rfl
     have a3 := HE4.out.cell (entR_at acc n hlt2) (j := 3) rfl
     have a4 := HE4.out.cell (entR_at acc n hlt2) (j := 4) rfl
     have a5 := HE4.out.cell (entR_at acc n hlt2) (j := 5) rfl
     have a6 := HE4.out.cell (entR_at acc n hlt2) (j := 6) rfl
     have a7 := HE4.out.cell (entR_at acc n hlt2) (j := 7) rfl
     have fa := HE4.out.fz
     have hMC : M < w3.heap.size := by omega
     have hWC : w.heap.size ≤ (w3.heap.size : Nat) := by omega
     go_wp2_with fail
     have HLX : Hid (rdEnts (n - (acc ++ [entE s']).length) (entS s') (acc ++ [entE s']) = r1) := lhid (by
      rw [← HL.out, show n - acc.length = n - (acc ++ [entE s']).length + 1 by simp; omega, rdEnts_on _ _ _ HXX.out])
     have hMG := HG.out.2
     have hWG := HG.out.1
     go_roundw
     case rel =>
      refine ⟨acc ++ [entE s'], entS s', by simp, by simp; omega, lhid ?_, lhid ?_, lhid ?_, HLX⟩
      ·rw [HS.out]
       repeat (first | with_reducible refine DocS.setC ?_ hMC _ _ | with_reducible refine DocS.setC ?_ hMG _ _ | with_reducible refine DocS.alloc ?_ _)
       exact HD4.out
      ·rw [← entR_set acc n hlt2, HE'.out]
       exact rows_round HE4.out (by rw [entR_len acc n hle]; exact hlt2) ⟨3, wrap64 (wrap32 (numN (numS s' 1) 4)), [], 0, 0, 0⟩ (C := w3.heap.size) (Nat.ne_of_lt g3) _ _
      ·repeat (first | with_reducible refine Only.setCell ?_ (.inr hWC) _ | with_reducible refine Only.setCell ?_ (.inr hWG) _ | with_reducible refine Only.alloc ?_ _)
       exact HO4.out
     case measure => simp [intOf]; omega
    ·have HBB : Hid ((numS (numS s' 1) 4).2 = true) := lhid (by rw [← HS.out]; exact hbad)
     have HXX : Hid (entX s' = 11) := lhid (by rw [HX.out, hbad]; rfl)
     clear hbad
     have d2 : w4.cell? ⟨M, 2, none⟩ = some (.bool true) := by rw [← HBB.out]; exact HD4.out.doc.c2
     have hMC : M < w3.heap.size := by omega
     have hWC : w.heap.size ≤ (w3.heap.size : Nat) := by omega
     go_wp2_with fail
     go_ret2
     have hl := HL.out
     rw [show n - acc.length = n - acc.length - 1 + 1 by omega, rdEnts_no _ _ _ (by rw [HXX.out]; omega), HXX.out] at hl
     rw [← hl, afterR_err _ _ _ (by omega)]
     refine refOut_err 11 (by omega) rfl rfl ?_ ?_
     ·show DocS X B _ M v L (entS s')
      rw [HS.out]
      repeat (first | with_reducible refine DocS.setC ?_ hMC _ _ | with_reducible refine DocS.alloc ?_ _)
      exact HD4.out
     ·repeat (first | with_reducible refine Only.setCell ?_ (.inr hWC) _ | with_reducible refine Only.alloc ?_ _)
      exact HO4.out
   ·have HK := lhid hk
    have HS : Hid (entS s' = numS (numS s' 1) 8) := lhid (by unfold entS; rw [hk]; rfl)
    have HE' : Hid (entE s' = ⟨5, wrap64 (numN (numS s' 1) 8), [], 0, 0, 0⟩) := lhid (by unfold entE; rw [hk]; rfl)
    have HX : Hid (entX s' = if (entS s').2 then 11 else 0) := lhid (by unfold entX entS; rw [hk]; rfl)
    clear hk
    go_wp2_with fail
    with_reducible refine (refNum_any X B M v L s' 1 _ HD.out).mono ?_
    rintro e w3 ⟨rfl, hd, ho⟩
    rw [HK.out]
    have HD3 := lhid hd
    have HE3 := lhid (HE.out.keep ho (Nat.ne_of_gt HG.out.2))
    have HO3 := lhid (HO.out.trans ho)
    have m3 := hd.lt
    have g3 := HE3.out.lt
    have b3 := HO3.out.size
    clear hd ho
    go_wp2_with fail
    with_reducible refine (refNum_any X B M v L (numS s' 1) 8 _ (HD3.out.alloc _)).mono ?_
    rintro e w4 ⟨rfl, hd, ho⟩
    have HD4 := lhid hd
    have HC4 := lhid ((show EntAt (w3.alloc _) w3.heap.size 130 ⟨5, 0, [], 0, 0, 0⟩ from heap_alloc_new w3 _).keep ho (by omega))
    have HE4 := lhid ((HE3.out.alloc _).keep ho (Nat.ne_of_gt HG.out.2))
    have HO4 := lhid ((HO3.out.alloc _).trans ho)
    have m4 := hd.lt
    have g4 := HE4.out.lt
    have k4 := HC4.out.lt
    have b4 := HO4.out.size
    obtain ⟨x0, x1, x2, x3, x4, x5, x6, x7⟩ := HC4.out.cells
    have fx := HC4.out.thaw
    clear hd ho
    have hne1 : ¬ M = w3.heap.size := by omega
    have hne2 : ¬ w3.heap.size = M := by omega
    cases hbad : (entS s').2
    ·have HBB : Hid ((numS (numS s' 1) 8).2 = false) := lhid (by rw [← HS.out]; exact hbad)
     have HXX : Hid (entX s' = 0) := lhid (by rw [HX.out, hbad]; rfl)
     clear hbad
     have d2 : w4.cell? ⟨M, 2, none⟩ = some (.bool false) := by rw [← HBB.out]; exact HD4.out.doc.c2
     have a0 : w4.cell? ⟨G, acc.length * 8, none⟩ = some (.int .i64 0) := HE4.out.cell (entR_at acc n hlt2) (j := 0) rfl
     have a1 := HE4.out.cell (entR_at acc n hlt2) (j := 1) rfl
     have a2 := HE4.out.cell (entR_at acc n hlt2) (j := 2) rfl
     have a3 := HE4.out.cell (entR_at acc n hlt2) (j := 3) rfl
     have a4 := HE4.out.cell (entR_at acc n hlt2) (j := 4) rfl
     have a5 := HE4.out.cell (entR_at acc n hlt2) (j := 5) rfl
     have a6 := HE4.out.cell (entR_at acc n hlt2) (j := 6) rfl
     have a7 := HE4.out.cell (entR_at acc n hlt2) (j := 7) rfl
     have fa := HE4.out.fz
     have hMC : M < w3.heap.size := by omega
     have hWC : w.heap.size ≤ (w3.heap.size : Nat) := by omega
     go_wp2_with fail
     have HLX : Hid (rdEnts (n - (acc ++ [entE s']).length) (entS s') (acc ++ [entE s']) = r1) := lhid (by
      rw [← HL.out, show n - acc.length = n - (acc ++ [entE s']).length + 1 by simp; omega, rdEnts_on _ _ _ HXX.out])
     have hMG := HG.out.2
     have hWG := HG.out.1
     go_roundw
     case rel =>
      refine ⟨acc ++ [entE s'], entS s', by simp, by simp; omega, lhid ?_, lhid ?_, lhid ?_, HLX⟩
      ·rw [HS.out]
       repeat (first | with_reducible refine DocS.setC ?_ hMC _ _ | with_reducible refine DocS.setC ?_ hMG _ _ | with_reducible refine DocS.alloc ?_ _)
       exact HD4.out
      ·rw [← entR_set acc n hlt2, HE'.out]
       exact rows_round HE4.out (by rw [entR_len acc n hle]; exact hlt2) ⟨5, wrap64 (numN (numS s' 1) 8), [], 0, 0, 0⟩ (C := w3.heap.size) (Nat.ne_of_lt g3) _ _
      ·repeat (first | with_reducible refine Only.setCell ?_ (.inr hWC) _ | with_reducible refine Only.setCell ?_ (.inr hWG) _ | with_reducible refine Only.alloc ?_ _)
       exact HO4.out
     case measure => simp [intOf]; omega
    ·have HBB : Hid ((numS (numS s' 1) 8).2 = true) := lhid (by rw [← HS.out]; exact hbad)
     have HXX : Hid (entX s' = 11) := lhid (by rw [HX.out, hbad]; rfl)
     clear hbad
     have d2 : w4.cell? ⟨M, 2, none⟩ = some (.bool true) := by rw [← HBB.out]; exact HD4.out.doc.c2
     have hMC : M < w3.heap.size := by omega
     have hWC : w.heap.size ≤ (w3.heap.size : Nat) := by omega
     go_wp2_with fail
     go_ret2
     have hl := HL.out
     rw [show n - acc.length = n - acc.length - 1 + 1 by omega, rdEnts_no _ _ _ (by rw [HXX.out]; omega), HXX.out] at hl
     rw [← hl, afterR_err _ _ _ (by omega)]
     refine refOut_err 11 (by omega) rfl rfl ?_ ?_
     ·show DocS X B _ M v L (entS s')
      rw [HS.out]
      repeat (first | with_reducible refine DocS.setC ?_ hMC _ _ | with_reducible refine DocS.alloc ?_ _)
      exact HD4.out
     ·repeat (first | with_reducible refine Only.setCell ?_ (.inr hWC) _ | with_reducible refine Only.alloc ?_ _)
      exact HO4.out
   ·have HK := lhid hk
    have HS : Hid (entS s' = numS (numS s' 1) 2) := lhid (by unfold entS; rw [hk]; rfl)
    have HE' : Hid (entE s' = ⟨7, 0, [], numN (numS s' 1) 2, 0, 0⟩) := lhid (by unfold entE; rw [hk]; rfl)
    have HX : Hid (entX s' = if (entS s').2 then 11 else 0) := lhid (by unfold entX entS; rw [hk]; rfl)
    clear hk
    go_wp2_with fail
    with_reducible refine (refNum_any X B M v L s' 1 _ HD.out).mono ?_
    rintro e w3 ⟨rfl, hd, ho⟩
    rw [HK.out]
    have HD3 := lhid hd
    have HE3 := lhid (HE.out.keep ho (Nat.ne_of_gt HG.out.2))
    have HO3 := lhid (HO.out.trans ho)
    have m3 := hd.lt
    have g3 := HE3.out.lt
    have b3 := HO3.out.size
    clear hd ho
    go_wp2_with fail
    have b2a := num2_lt (numS s' 1)
    have hba : wrap64 (numN (numS s' 1) 2 : Int) = numN (numS s' 1) 2 := IntWalk.wrap64_in _ (by omega)
    with_reducible refine (refNum_any X B M v L (numS s' 1) 2 _ (HD3.out.alloc _)).mono ?_
    rintro e w4 ⟨rfl, hd, ho⟩
    have HD4 := lhid hd
    have HC4 := lhid ((show EntAt (w3.alloc _) w3.heap.size 130 ⟨7, 0, [], 0, 0, 0⟩ from heap_alloc_new w3 _).keep ho (by omega))
    have HE4 := lhid ((HE3.out.alloc _).keep ho (Nat.ne_of_gt HG.out.2))
    have HO4 := lhid ((HO3.out.alloc _).trans ho)
    have m4 := hd.lt
    have g4 := HE4.out.lt
    have k4 := HC4.out.lt
    have b4 := HO4.out.size
    obtain ⟨x0, x1, x2, x3, x4, x5, x6, x7⟩ := HC4.out.cells
    have fx := HC4.out.thaw
    clear hd ho
    have hne1 : ¬ M = w3.heap.size := by omega
    have hne2 : ¬ w3.heap.size = M := by omega
    cases hbad : (entS s').2
    ·have HBB : Hid ((numS (numS s' 1) 2).2 = false) := lhid (by rw [← HS.out]; exact hbad)
     have HXX : Hid (entX s' = 0) := lhid (by rw [HX.out, hbad]; rfl)
     clear hbad
     have d2 : w4.cell? ⟨M, 2, none⟩ = some (.bool false) := by rw [← HBB.out]; exact HD4.out.doc.c2
     have a0 : w4.cell? ⟨G, acc.length * 8, none⟩ = some (.int .i64 0) := HE4.out.cell (entR_at acc n hlt2) (j := 0) rfl
     have a1 := HE4.out.cell (entR_at acc n hlt2) (j := 1) rfl
     have a2 := HE4.out.cell (entR_at acc n hlt2) (j := 2) rfl
     have a3 := HE4.out.cell (entR_at acc n hlt2) (j := 3) rfl
     have a4 := HE4.out.cell (entR_at acc n hlt2) (j := 4) rfl
     have a5 := HE4.out.cell (entR_at acc n hlt2) (j := 5) rfl
     have a6 := HE4.out.cell (entR_at acc n hlt2) (j := 6) rfl
     have a7 := HE4.out.cell (entR_at acc n hlt2) (j := 7) rfl
     have fa := HE4.out.fz
     have hMC : M < w3.heap.size := by omega
     have hWC : w.heap.size ≤ (w3.heap.size : Nat) := by omega
     go_wp2_with fail
     have HLX : Hid (rdEnts (n - (acc ++ [entE s']).length) (entS s') (acc ++ [entE s']) = r1) := lhid (by
      rw [← HL.out, show n - acc.length = n - (acc ++ [entE s']).length + 1 by simp; omega, rdEnts_on _ _ _ HXX.out])
     have hMG := HG.out.2
     have hWG := HG.out.1
     go_roundw
     case rel =>
      refine ⟨acc ++ [entE s'], entS s', by simp, by simp; omega, lhid ?_, lhid ?_, lhid ?_, HLX⟩
      ·rw [HS.out]
       repeat (first | with_reducible refine DocS.setC ?_ hMC _ _ | with_reducible refine DocS.setC ?_ hMG _ _ | with_reducible refine DocS.alloc ?_ _)
       exact HD4.out
      ·rw [← entR_set acc n hlt2, HE'.out]
       exact rows_round HE4.out (by rw [entR_len acc n hle]; exact hlt2) ⟨7, 0, [], numN (numS s' 1) 2, 0, 0⟩ (C := w3.heap.size) (Nat.ne_of_lt g3) _ _
      ·repeat (first | with_reducible refine Only.setCell ?_ (.inr hWC) _ | with_reducible refine Only.setCell ?_ (.inr hWG) _ | with_reducible refine Only.alloc ?_ _)
       exact HO4.out
     case measure => simp [intOf]; omega
    ·have HBB : Hid ((numS (numS s' 1) 2).2 = true) := lhid (by rw [← HS.out]; exact hbad)
     have HXX : Hid (entX s' = 11) := lhid (by rw [HX.out, hbad]; rfl)
     clear hbad
     have d2 : w4.cell? ⟨M, 2, none⟩ = some (.bool true) := by rw [← HBB.out]; exact HD4.out.doc.c2
     have hMC : M < w3.heap.size := by omega
     have hWC : w.heap.size ≤ (w3.heap.size : Nat) := by omega
     go_wp2_with fail
     go_ret2
     have hl := HL.out
     rw [show n - acc.length = n - acc.length - 1 + 1 by omega, rdEnts_no _ _ _ (by rw [HXX.out]; omega), HXX.out] at hl
     rw [← hl, afterR_err _ _ _ (by omega)]
     refine refOut_err 11 (by omega) rfl rfl ?_ ?_
     ·show DocS X B _ M v L (entS s')
      rw [HS.out]
      repeat (first | with_reducible refine DocS.setC ?_ hMC _ _ | with_reducible refine DocS.alloc ?_ _)
      exact HD4.out
     ·repeat (first | with_reducible refine Only.setCell ?_ (.inr hWC) _ | with_reducible refine Only.alloc ?_ _)
      exact HO4.out
   ·have HK := lhid hk
    have HS : Hid (entS s' = numS (numS s' 1) 2) := lhid (by unfold entS; rw [hk]; rfl)
    have HE' : Hid (entE s' = ⟨8, 0, [], numN (numS s' 1) 2, 0, 0⟩) := lhid (by unfold entE; rw [hk]; rfl)
    have HX : Hid (entX s' = if (entS s').2 then 11 else 0) := lhid (by unfold entX entS; rw [hk]; rfl)
    clear hk
    go_wp2_with fail
    with_reducible refine (refNum_any X B M v L s' 1 _ HD.out).mono ?_
    rintro e w3 ⟨rfl, hd, ho⟩
    rw [HK.out]
    have HD3 := lhid hd
    have HE3 := lhid (HE.out.keep ho (Nat.ne_of_gt HG.out.2))
    have HO3 := lhid (HO.out.trans ho)
    have m3 := hd.lt
    have g3 := HE3.out.lt
    have b3 := HO3.out.size
    clear hd ho
    go_wp2_with fail
    have b2a := num2_lt (numS s' 1)
    have hba : wrap64 (numN (numS s' 1) 2 : Int) = numN (numS s' 1) 2 := IntWalk.wrap64_in _ (by omega)
    with_reducible refine (refNum_any X B M v L (numS s' 1) 2 _ (HD3.out.alloc _)).mono ?_
    rintro e w4 ⟨rfl, hd, ho⟩
    have HD4 := lhid hd
    have HC4 := lhid ((show EntAt (w3.alloc _) w3.heap.size 130 ⟨8, 0, [], 0, 0, 0⟩ from heap_alloc_new w3 _).keep ho (by omega))
    have HE4 := lhid ((HE3.out.alloc _).keep ho (Nat.ne_of_gt HG.out.2))
    have HO4 := lhid ((HO3.out.alloc _).trans ho)
    have m4 := hd.lt
    have g4 := HE4.out.lt
    have k4 := HC4.out.lt
    have b4 := HO4.out.size
    obtain ⟨x0, x1, x2, x3, x4, x5, x6, x7⟩ := HC4.out.cells
    have fx := HC4.out.thaw
    clear hd ho
    have hne1 : ¬ M = w3.heap.size := by omega
    have hne2 : ¬ w3.heap.size = M := by omega
    cases hbad : (entS s').2
    ·have HBB : Hid ((numS (numS s' 1) 2).2 = false) := lhid (by rw [← HS.out]; exact hbad)
     have HXX : Hid (entX s' = 0) := lhid (by rw [HX.out, hbad]; rfl)
     clear hbad
     have d2 : w4.cell? ⟨M, 2, none⟩ = some (.bool false) := by rw [← HBB.out]; exact HD4.out.doc.c2
     have a0 : w4.cell? ⟨G, acc.length * 8, none⟩ = some (.int .i64 0) := HE4.out.cell (entR_at acc n hlt2) (j := 0) rfl
     have a1 := HE4.out.cell (entR_at acc n hlt2) (j := 1) rfl
     have a2 := HE4.out.cell (entR_at acc n hlt2) (j := 2) rfl
     have a3 := HE4.out.cell (entR_at acc n hlt2) (j := 3) rfl
     have a4 := HE4.out.cell (entR_at acc n hlt2) (j := 4) rfl
     have a5 := HE4.out.cell (entR_at acc n hlt2) (j := 5) rfl
     have a6 := HE4.out.cell (entR_at acc n hlt2) (j := 6) rfl
     have a7 := HE4.out.cell (entR_at acc n hlt2) (j := 7) rfl
     have fa := HE4.out.fz
     have hMC : M < w3.heap.size := by omega
     have hWC : w.heap.size ≤ (w3.heap.size : Nat) := by omega
     go_wp2_with fail
     have HLX : Hid (rdEnts (n - (acc ++ [entE s']).length) (entS s') (acc ++ [entE s']) = r1) := lhid (by
      rw [← HL.out, show n - acc.length = n - (acc ++ [entE s']).length + 1 by simp; omega, rdEnts_on _ _ _ HXX.out])
     have hMG := HG.out.2
     have hWG := HG.out.1
     go_roundw
     case rel =>
      refine ⟨acc ++ [entE s'], entS s', by simp, by simp; omega, lhid ?_, lhid ?_, lhid ?_, HLX⟩
      ·rw [HS.out]
       repeat (first | with_reducible refine DocS.setC ?_ hMC _ _ | with_reducible refine DocS.setC ?_ hMG _ _ | with_reducible refine DocS.alloc ?_ _)
       exact HD4.out
      ·rw [← entR_set acc n hlt2, HE'.out]
       exact rows_round HE4.out (by rw [entR_len acc n hle]; exact hlt2) ⟨8, 0, [], numN (numS s' 1) 2, 0, 0⟩ (C := w3.heap.size) (Nat.ne_of_lt g3) _ _
      ·repeat (first | with_reducible refine Only.setCell ?_ (.inr hWC) _ | with_reducible refine Only.setCell ?_ (.inr hWG) _ | with_reducible refine Only.alloc ?_ _)
       exact HO4.out
     case measure => simp [intOf]; omega
    ·have HBB : Hid ((numS (numS s' 1) 2).2 = true) := lhid (by rw [← HS.out]; exact hbad)
     have HXX : Hid (entX s' = 11) := lhid (by rw [HX.out, hbad]; rfl)
     clear hbad
     have d2 : w4.cell? ⟨M, 2, none⟩ = some (.bool true) := by rw [← HBB.out]; exact HD4.out.doc.c2
     have hMC : M < w3.heap.size := by omega
     have hWC : w.heap.size ≤ (w3.heap.size : Nat) := by omega
     go_wp2_with fail
     go_ret2
     have hl := HL.out
     rw [show n - acc.length = n - acc.length - 1 + 1 by omega, rdEnts_no _ _ _ (by rw [HXX.out]; omega), HXX.out] at hl
     rw [← hl, afterR_err _ _ _ (by omega)]
     refine refOut_err 11 (by omega) rfl rfl ?_ ?_
     ·show DocS X B _ M v L (entS s')
      rw [HS.out]
      repeat (first | with_reducible refine DocS.setC ?_ hMC _ _ | with_reducible refine DocS.alloc ?_ _)
      exact HD4.out
     ·repeat (first | with_reducible refine Only.setCell ?_ (.inr hWC) _ | with_reducible refine Only.alloc ?_ _)
      exact HO4.out
   ·have HK := lhid hk
    have HS : Hid (entS s' = numS (numS (numS (numS s' 1) 2) 2) 2) := lhid (by unfold entS; rw [hk]; rfl)
    have HE' : Hid (entE s' = ⟨9, 0, [], numN (numS s' 1) 2, numN (numS (numS s' 1) 2) 2, numN (numS (numS (numS s' 1) 2) 2) 2⟩) := lhid (by unfold entE; rw [hk]; rfl)
    have HX : Hid (entX s' = if (entS s').2 then 11 else 0) := lhid (by unfold entX entS; rw [hk]; rfl)
    clear hk
    go_wp2_with fail
    with_reducible refine (refNum_any X B M v L s' 1 _ HD.out).mono ?_
    rintro e w3 ⟨rfl, hd, ho⟩
    rw [HK.out]
    have HD3 := lhid hd
    have HE3 := lhid (HE.out.keep ho (Nat.ne_of_gt HG.out.2))
    have HO3 := lhid (HO.out.trans ho)
    have m3 := hd.lt
    have g3 := HE3.out.lt
    have b3 := HO3.out.size
    clear hd ho
    go_wp2_with fail
    have b2a := num2_lt (numS s' 1)
    have hba : wrap64 (numN (numS s' 1) 2 : Int) = numN (numS s' 1) 2 := IntWalk.wrap64_in _ (by omega)
    with_reducible refine (refNum_any X B M v L (numS s' 1) 2 _ (HD3.out.alloc _)).mono ?_
    rintro e w4 ⟨rfl, hd, ho⟩
    have HD4 := lhid hd
    have HC4 := lhid ((show EntAt (w3.alloc _) w3.heap.size 130 ⟨9, 0, [], 0, 0, 0⟩ from heap_alloc_new w3 _).keep ho (by omega))
    have HE4 := lhid ((HE3.out.alloc _).keep ho (Nat.ne_of_gt HG.out.2))
    have HO4 := lhid ((HO3.out.alloc _).trans ho)
    have m4 := hd.lt
    have g4 := HE4.out.lt
    have k4 := HC4.out.lt
    have b4 := HO4.out.size
    obtain ⟨x0, x1, x2, x3, x4, x5, x6, x7⟩ := HC4.out.cells
    have fx := HC4.out.thaw
    clear hd ho
    go_wp2_with fail
    clear x0 x1 x2 x3 x4 x5 x6 x7 fx
    clear b2a hba
    have b2b := num2_lt (numS (numS s' 1) 2)
    have hbb : wrap64 (numN (numS (numS s' 1) 2) 2 : Int) = numN (numS (numS s' 1) 2) 2 := IntWalk.wrap64_in _ (by omega)
    with_reducible refine (refNum_any X B M v L (numS (numS s' 1) 2) 2 _ (HD4.out.setC (by omega) _ _)).mono ?_
    rintro e w5 ⟨rfl, hd, ho⟩
    have HD5 := lhid hd
    have HC5 := lhid ((HC4.out.set 5 _ ⟨9, 0, [], numN (numS s' 1) 2, 0, 0⟩ rfl).keep ho (by omega))
    have HE5 := lhid ((HE4.out.other (by dsimp only; omega) _).keep ho (Nat.ne_of_gt HG.out.2))
    have HO5 := lhid ((HO4.out.setCell (.inr (by dsimp only; omega)) _).trans ho)
    have m5 := hd.lt
    have g5 := HE5.out.lt
    have k5 := HC5.out.lt
    have b5 := HO5.out.size
    obtain ⟨x0, x1, x2, x3, x4, x5, x6, x7⟩ := HC5.out.cells
    have fx := HC5.out.thaw
    clear hd ho
    go_wp2_with fail
    clear x0 x1 x2 x3 x4 x5 x6 x7 fx
    clear b2b hbb
    have b2c := num2_lt (numS (numS (numS s' 1) 2) 2)
    have hbc : wrap64 (numN (numS (numS (numS s' 1) 2) 2) 2 : Int) = numN (numS (numS (numS s' 1) 2) 2) 2 := IntWalk.wrap64_in _ (by omega)
    with_reducible refine (refNum_any X B M v L (numS (numS (numS s' 1) 2) 2) 2 _ (HD5.out.setC (by omega) _ _)).mono ?_
    rintro e w6 ⟨rfl, hd, ho⟩
    have HD6 := lhid hd
    have HC6 := lhid ((HC5.out.set 6 _ ⟨9, 0, [], numN (numS s' 1) 2, numN (numS (numS s' 1) 2) 2, 0⟩ rfl).keep ho (by omega))
    have HE6 := lhid ((HE5.out.other (by dsimp only; omega) _).keep ho (Nat.ne_of_gt HG.out.2))
    have HO6 := lhid ((HO5.out.setCell (.inr (by dsimp only; omega)) _).trans ho)
    have m6 := hd.lt
    have g6 := HE6.out.lt
    have k6 := HC6.out.lt
    have b6 := HO6.out.size
    obtain ⟨x0, x1, x2, x3, x4, x5, x6, x7⟩ := HC6.out.cells
    have fx := HC6.out.thaw
    clear hd ho
    have hne1 : ¬ M = w3.heap.size := by omega
    have hne2 : ¬ w3.heap.size = M := by omega
    cases hbad : (entS s').2
    ·have HBB : Hid ((numS (numS (numS (numS s' 1) 2) 2) 2).2 = false) := lhid (by rw [← HS.out]; exact hbad)
     have HXX : Hid (entX s' = 0) := lhid (by rw [HX.out, hbad]; rfl)
     clear hbad
     have d2 : w6.cell? ⟨M, 2, none⟩ = some (.bool false) := by rw [← HBB.out]; exact HD6.out.doc.c2
     have a0 : w6.cell? ⟨G, acc.length * 8, none⟩ = some (.int .i64 0) := HE6.out.cell (entR_at acc n hlt2) (j := 0) rfl
     have a1 := HE6.out.cell (entR_at acc n hlt2) (j := 1) rfl
     have a2 := HE6.out.cell (entR_at acc n hlt2) (j := 2) rfl
     have a3 := HE6.out.cell (entR_at acc n hlt2) (j := 3) rfl
     have a4 := HE6.out.cell (entR_at acc n hlt2) (j := 4) rfl
     have a5 := HE6.out.cell (entR_at acc n hlt2) (j := 5) rfl
     have a6 := HE6.out.cell (entR_at acc n hlt2) (j := 6) rfl
     have a7 := HE6.out.cell (entR_at acc n hlt2) (j := 7) rfl
     have fa := HE6.out.fz
     have hMC : M < w3.heap.size := by omega
     have hWC : w.heap.size ≤ (w3.heap.size : Nat) := by omega
     go_wp2_with fail
     have HLX : Hid (rdEnts (n - (acc ++ [entE s']).length) (entS s') (acc ++ [entE s']) = r1) := lhid (by
      rw [← HL.out, show n - acc.length = n - (acc ++ [entE s']).length + 1 by simp; omega, rdEnts_on _ _ _ HXX.out])
     have hMG := HG.out.2
     have hWG := HG.out.1
     go_roundw
     case rel =>
      refine ⟨acc ++ [entE s'], entS s', by simp, by simp; omega, lhid ?_, lhid ?_, lhid ?_, HLX⟩
      ·rw [HS.out]
       repeat (first | with_reducible refine DocS.setC ?_ hMC _ _ | with_reducible refine DocS.setC ?_ hMG _ _ | with_reducible refine DocS.alloc ?_ _)
       exact HD6.out
      ·rw [← entR_set acc n hlt2, HE'.out]
       exact rows_round HE6.out (by rw [entR_len acc n hle]; exact hlt2) ⟨9, 0, [], numN (numS s' 1) 2, numN (numS (numS s' 1) 2) 2, numN (numS (numS (numS s' 1) 2) 2) 2⟩ (C := w3.heap.size) (Nat.ne_of_lt g3) _ _
      ·repeat (first | with_reducible refine Only.setCell ?_ (.inr hWC) _ | with_reducible refine Only.setCell ?_ (.inr hWG) _ | with_reducible refine Only.alloc ?_ _)
       exact HO6.out
     case measure => simp [intOf]; omega
    ·have HBB : Hid ((numS (numS (numS (numS s' 1) 2) 2) 2).2 = true) := lhid (by rw [← HS.out]; exact hbad)
     have HXX : Hid (entX s' = 11) := lhid (by rw [HX.out, hbad]; rfl)
     clear hbad
     have d2 : w6.cell? ⟨M, 2, none⟩ = some (.bool true) := by rw [← HBB.out]; exact HD6.out.doc.c2
     have hMC : M < w3.heap.size := by omega
     have hWC : w.heap.size ≤ (w3.heap.size : Nat) := by omega
     go_wp2_with fail
     go_ret2
     have hl := HL.out
     rw [show n - acc.length = n - acc.length - 1 + 1 by omega, rdEnts_no _ _ _ (by rw [HXX.out]; omega), HXX.out] at hl
     rw [← hl, afterR_err _ _ _ (by omega)]
     refine refOut_err 11 (by omega) rfl rfl ?_ ?_
     ·show DocS X B _ M v L (entS s')
      rw [HS.out]
      repeat (first | with_reducible refine DocS.setC ?_ hMC _ _ | with_reducible refine DocS.alloc ?_ _)
      exact HD6.out
     ·repeat (first | with_reducible refine Only.setCell ?_ (.inr hWC) _ | with_reducible refine Only.alloc ?_ _)
      exact HO6.out
   ·have HK := lhid hk
    have HS : Hid (entS s' = numS (numS (numS (numS s' 1) 2) 2) 2) := lhid (by unfold entS; rw [hk]; rfl)
    have HE' : Hid (entE s' = ⟨10, 0, [], numN (numS s' 1) 2, numN (numS (numS s' 1) 2) 2, numN (numS (numS (numS s' 1) 2) 2) 2⟩) := lhid (by unfold entE; rw [hk]; rfl)
    have HX : Hid (entX s' = if (entS s').2 then 11 else 0) := lhid (by unfold entX entS; rw [hk]; rfl)
    clear hk
    go_wp2_with fail
    with_reducible refine (refNum_any X B M v L s' 1 _ HD.out).mono ?_
    rintro e w3 ⟨rfl, hd, ho⟩
    rw [HK.out]
    have HD3 := lhid hd
    have HE3 := lhid (HE.out.keep ho (Nat.ne_of_gt HG.out.2))
    have HO3 := lhid (HO.out.trans ho)
    have m3 := hd.lt
    have g3 := HE3.out.lt
    have b3 := HO3.out.size
    clear hd ho
    go_wp2_with fail
    have b2a := num2_lt (numS s' 1)
    have hba : wrap64 (numN (numS s' 1) 2 : Int) = numN (numS s' 1) 2 := IntWalk.wrap64_in _ (by omega)
    with_reducible refine (refNum_any X B M v L (numS s' 1) 2 _ (HD3.out.alloc _)).mono ?_
    rintro e w4 ⟨rfl, hd, ho⟩
    have HD4 := lhid hd
    have HC4 := lhid ((show EntAt (w3.alloc _) w3.heap.size 130 ⟨10, 0, [], 0, 0, 0⟩ from heap_alloc_new w3 _).keep ho (by omega))
    have HE4 := lhid ((HE3.out.alloc _).keep ho (Nat.ne_of_gt HG.out.2))
    have HO4 := lhid ((HO3.out.alloc _).trans ho)
    have m4 := hd.lt
    have g4 := HE4.out.lt
    have k4 := HC4.out.lt
    have b4 := HO4.out.size
    obtain ⟨x0, x1, x2, x3, x4, x5, x6, x7⟩ := HC4.out.cells
    have fx := HC4.out.thaw
    clear hd ho
    go_wp2_with fail
    clear x0 x1 x2 x3 x4 x5 x6 x7 fx
    clear b2a hba
    have b2b := num2_lt (numS (numS s' 1) 2)
    have hbb : wrap64 (numN (numS (numS s' 1) 2) 2 : Int) = numN (numS (numS s' 1) 2) 2 := IntWalk.wrap64_in _ (by omega)
    with_reducible refine (refNum_any X B M v L (numS (numS s' 1) 2) 2 _ (HD4.out.setC (by omega) _ _)).mono ?_
    rintro e w5 ⟨rfl, hd, ho⟩
    have HD5 := lhid hd
    have HC5 := lhid ((HC4.out.set 5 _ ⟨10, 0, [], numN (numS s' 1) 2, 0, 0⟩ rfl).keep ho (by omega))
    have HE5 := lhid ((HE4.out.other (by dsimp only; omega) _).keep ho (Nat.ne_of_gt HG.out.2))
    have HO5 := lhid ((HO4.out.setCell (.inr (by dsimp only; omega)) _).trans ho)
    have m5 := hd.lt
    have g5 := HE5.out.lt
    have k5 := HC5.out.lt
    have b5 := HO5.out.size
    obtain ⟨x0, x1, x2, x3, x4, x5, x6, x7⟩ := HC5.out.cells
    have fx := HC5.out.thaw
    clear hd ho
    go_wp2_with fail
    clear x0 x1 x2 x3 x4 x5 x6 x7 fx
    clear b2b hbb
    have b2c := num2_lt (numS (numS (numS s' 1) 2) 2)
    have hbc : wrap64 (numN (numS (numS (numS s' 1) 2) 2) 2 : Int) = numN (numS (numS (numS s' 1) 2) 2) 2 := IntWalk.wrap64_in _ (by omega)
    with_reducible refine (refNum_any X B M v L (numS (numS (numS s' 1) 2) 2) 2 _ (HD5.out.setC (by omega) _ _)).mono ?_
    rintro e w6 ⟨rfl, hd, ho⟩
    have HD6 := lhid hd
    have HC6 := lhid ((HC5.out.set 6 _ ⟨10, 0, [], numN (numS s' 1) 2, numN (numS (numS s' 1) 2) 2, 0⟩ rfl).keep ho (by omega))
    have HE6 := lhid ((HE5.out.other (by dsimp only; omega) _).keep ho (Nat.ne_of_gt HG.out.2))
    have HO6 := lhid ((HO5.out.setCell (.inr (by dsimp only; omega)) _).trans ho)
    have m6 := hd.lt
    have g6 := HE6.out.lt
    have k6 := HC6.out.lt
    have b6 := HO6.out.size
    obtain ⟨x0, x1, x2, x3, x4, x5, x6, x7⟩ := HC6.out.cells
    have fx := HC6.out.thaw
    clear hd ho
    have hne1 : ¬ M = w3.heap.size := by omega
    have hne2 : ¬ w3.heap.size = M := by omega
    cases hbad : (entS s').2
    ·have HBB : Hid ((numS (numS (numS (numS s' 1) 2) 2) 2).2 = false) := lhid (by rw [← HS.out]; exact hbad)
     have HXX : Hid (entX s' = 0) := lhid (by rw [HX.out, hbad]; rfl)
     clear hbad
     have d2 : w6.cell? ⟨M, 2, none⟩ = some (.bool false) := by rw [← HBB.out]; exact HD6.out.doc.c2
     have a0 : w6.cell? ⟨G, acc.length * 8, none⟩ = some (.int .i64 0) := HE6.out.cell (entR_at acc n hlt2) (j := 0) rfl
     have a1 := HE6.out.cell (entR_at acc n hlt2) (j := 1) rfl
     have a2 := HE6.out.cell (entR_at acc n hlt2) (j := 2) rfl
     have a3 := HE6.out.cell (entR_at acc n hlt2) (j := 3) rfl
     have a4 := HE6.out.cell (entR_at acc n hlt2) (j := 4) rfl
     have a5 := HE6.out.cell (entR_at acc n hlt2) (j := 5) rfl
     have a6 := HE6.out.cell (entR_at acc n hlt2) (j := 6) rfl
     have a7 := HE6.out.cell (entR_at acc n hlt2) (j := 7) rfl
     have fa := HE6.out.fz
     have hMC : M < w3.heap.size := by omega
     have hWC : w.heap.size ≤ (w3.heap.size : Nat) := by omega
     go_wp2_with fail
     have HLX : Hid (rdEnts (n - (acc ++ [entE s']).length) (entS s') (acc ++ [entE s']) = r1) := lhid (by
      rw [← HL.out, show n - acc.length = n - (acc ++ [entE s']).length + 1 by simp; omega, rdEnts_on _ _ _ HXX.out])
     have hMG := HG.out.2
     have hWG := HG.out.1
     go_roundw
     case rel =>
      refine ⟨acc ++ [entE s'], entS s', by simp, by simp; omega, lhid ?_, lhid ?_, lhid ?_, HLX⟩
      ·rw [HS.out]
       repeat (first | with_reducible refine DocS.setC ?_ hMC _ _ | with_reducible refine DocS.setC ?_ hMG _ _ | with_reducible refine DocS.alloc ?_ _)
       exact HD6.out
      ·rw [← entR_set acc n hlt2, HE'.out]
       exact rows_round HE6.out (by rw [entR_len acc n hle]; exact hlt2) ⟨10, 0, [], numN (numS s' 1) 2, numN (numS (numS s' 1) 2) 2, numN (numS (numS (numS s' 1) 2) 2) 2⟩ (C := w3.heap.size) (Nat.ne_of_lt g3) _ _
      ·repeat (first | with_reducible refine Only.setCell ?_ (.inr hWC) _ | with_reducible refine Only.setCell ?_ (.inr hWG) _ | with_reducible refine Only.alloc ?_ _)
       exact HO6.out
     case measure => simp [intOf]; omega
    ·have HBB : Hid ((numS (numS (numS (numS s' 1) 2) 2) 2).2 = true) := lhid (by rw [← HS.out]; exact hbad)
     have HXX : Hid (entX s' = 11) := lhid (by rw [HX.out, hbad]; rfl)
     clear hbad
     have d2 : w6.cell? ⟨M, 2, none⟩ = some (.bool true) := by rw [← HBB.out]; exact HD6.out.doc.c2
     have hMC : M < w3.heap.size := by omega
     have hWC : w.heap.size ≤ (w3.heap.size : Nat) := by omega
     go_wp2_with fail
     go_ret2
     have hl := HL.out
     rw [show n - acc.length = n - acc.length - 1 + 1 by omega, rdEnts_no _ _ _ (by rw [HXX.out]; omega), HXX.out] at hl
     rw [← hl, afterR_err _ _ _ (by omega)]
     refine refOut_err 11 (by omega) rfl rfl ?_ ?_
     ·show DocS X B _ M v L (entS s')
      rw [HS.out]
      repeat (first | with_reducible refine DocS.setC ?_ hMC _ _ | with_reducible refine DocS.alloc ?_ _)
      exact HD6.out
     ·repeat (first | with_reducible refine Only.setCell ?_ (.inr hWC) _ | with_reducible refine Only.alloc ?_ _)
      exact HO6.out
   ·have HK := lhid hk
    have HS : Hid (entS s' = numS (numS (numS (numS s' 1) 2) 2) 2) := lhid (by unfold entS; rw [hk]; rfl)
    have HE' : Hid (entE s' = ⟨11, 0, [], numN (numS s' 1) 2, numN (numS (numS s' 1) 2) 2, numN (numS (numS (numS s' 1) 2) 2) 2⟩) := lhid (by unfold entE; rw [hk]; rfl)
    have HX : Hid (entX s' = if (entS s').2 then 11 else 0) := lhid (by unfold entX entS; rw [hk]; rfl)
    clear hk
    go_wp2_with fail
    with_reducible refine (refNum_any X B M v L s' 1 _ HD.out).mono ?_
    rintro e w3 ⟨rfl, hd, ho⟩
    rw [HK.out]
    have HD3 := lhid hd
    have HE3 := lhid (HE.out.keep ho (Nat.ne_of_gt HG.out.2))
    have HO3 := lhid (HO.out.trans ho)
    have m3 := hd.lt
    have g3 := HE3.out.lt
    have b3 := HO3.out.size
    clear hd ho
    go_wp2_with fail
    have b2a := num2_lt (numS s' 1)
    have hba : wrap64 (numN (numS s' 1) 2 : Int) = numN (numS s' 1) 2 := IntWalk.wrap64_in _ (by omega)
    with_reducible refine (refNum_any X B M v L (numS s' 1) 2 _ (HD3.out.alloc _)).mono ?_
    rintro e w4 ⟨rfl, hd, ho⟩
    have HD4 := lhid hd
    have HC4 := lhid ((show EntAt (w3.alloc _) w3.heap.size 130 ⟨11, 0, [], 0, 0, 0⟩ from heap_alloc_new w3 _).keep ho (by omega))
    have HE4 := lhid ((HE3.out.alloc _).keep ho (Nat.ne_of_gt HG.out.2))
    have HO4 := lhid ((HO3.out.alloc _).trans ho)
    have m4 := hd.lt
    have g4 := HE4.out.lt
    have k4 := HC4.out.lt
    have b4 := HO4.out.size
    obtain ⟨x0, x1, x2, x3, x4, x5, x6, x7⟩ := HC4.out.cells
    have fx := HC4.out.thaw
    clear hd ho
    go_wp2_with fail
    clear x0 x1 x2 x3 x4 x5 x6 x7 fx
    clear b2a hba
    have b2b := num2_lt (numS (numS s' 1) 2)
    have hbb : wrap64 (numN (numS (numS s' 1) 2) 2 : Int) = numN (numS (numS s' 1) 2) 2 := IntWalk.wrap64_in _ (by omega)
    with_reducible refine (refNum_any X B M v L (numS (numS s' 1) 2) 2 _ (HD4.out.setC (by omega) _ _)).mono ?_
    rintro e w5 ⟨rfl, hd, ho⟩
    have HD5 := lhid hd
    have HC5 := lhid ((HC4.out.set 5 _ ⟨11, 0, [], numN (numS s' 1) 2, 0, 0⟩ rfl).keep ho (by omega))
    have HE5 := lhid ((HE4.out.other (by dsimp only; omega) _).keep ho (Nat.ne_of_gt HG.out.2))
    have HO5 := lhid ((HO4.out.setCell (.inr (by dsimp only; omega)) _).trans ho)
    have m5 := hd.lt
    have g5 := HE5.out.lt
    have k5 := HC5.out.lt
    have b5 := HO5.out.size
    obtain ⟨x0, x1, x2, x3, x4, x5, x6, x7⟩ := HC5.out.cells
    have fx := HC5.out.thaw
    clear hd ho
    go_wp2_with fail
    clear x0 x1 x2 x3 x4 x5 x6 x7 fx
    clear b2b hbb
    have b2c := num2_lt (numS (numS (numS s' 1) 2) 2)
    have hbc : wrap64 (numN (numS (numS (numS s' 1) 2) 2) 2 : Int) = numN (numS (numS (numS s' 1) 2) 2) 2 := IntWalk.wrap64_in _ (by omega)
    with_reducible refine (refNum_any X B M v L (numS (numS (numS s' 1) 2) 2) 2 _ (HD5.out.setC (by omega) _ _)).mono ?_
    rintro e w6 ⟨rfl, hd, ho⟩
    have HD6 := lhid hd
    have HC6 := lhid ((HC5.out.set 6 _ ⟨11, 0, [], numN (numS s' 1) 2, numN (numS (numS s' 1) 2) 2, 0⟩ rfl).keep ho (by omega))
    have HE6 := lhid ((HE5.out.other (by dsimp only; omega) _).keep ho (Nat.ne_of_gt HG.out.2))
    have HO6 := lhid ((HO5.out.setCell (.inr (by dsimp only; omega)) _).trans ho)
    have m6 := hd.lt
    have g6 := HE6.out.lt
    have k6 := HC6.out.lt
    have b6 := HO6.out.size
    obtain ⟨x0, x1, x2, x3, x4, x5, x6, x7⟩ := HC6.out.cells
    have fx := HC6.out.thaw
    clear hd ho
    have hne1 : ¬ M = w3.heap.size := by omega
    have hne2 : ¬ w3.heap.size = M := by omega
    cases hbad : (entS s').2
    ·have HBB : Hid ((numS (numS (numS (numS s' 1) 2) 2) 2).2 = false) := lhid (by rw [← HS.out]; exact hbad)
     have HXX : Hid (entX s' = 0) := lhid (by rw [HX.out, hbad]; rfl)
     clear hbad
     have d2 : w6.cell? ⟨M, 2, none⟩ = some (.bool false) := by rw [← HBB.out]; exact HD6.out.doc.c2
     have a0 : w6.cell? ⟨G, acc.length * 8, none⟩ = some (.int .i64 0) := HE6.out.cell (entR_at acc n hlt2) (j := 0) rfl
     have a1 := HE6.out.cell (entR_at acc n hlt2) (j := 1) rfl
     have a2 := HE6.out.cell (entR_at acc n hlt2) (j := 2) rfl
     have a3 := HE6.out.cell (entR_at acc n hlt2) (j := 3) rfl
     have a4 := HE6.out.cell (entR_at acc n hlt2) (j := 4) rfl
     have a5 := HE6.out.cell (entR_at acc n hlt2) (j := 5) rfl
     have a6 := HE6.out.cell (entR_at acc n hlt2) (j := 6) rfl
     have a7 := HE6.out.cell (entR_at acc n hlt2) (j := 7) rfl
     have fa := HE6.out.fz
     have hMC : M < w3.heap.size := by omega
     have hWC : w.heap.size ≤ (w3.heap.size : Nat) := by omega
     go_wp2_with fail
     have HLX : Hid (rdEnts (n - (acc ++ [entE s']).length) (entS s') (acc ++ [entE s']) = r1) := lhid (by
      rw [← HL.out, show n - acc.length = n - (acc ++ [entE s']).length + 1 by simp; omega, rdEnts_on _ _ _ HXX.out])
     have hMG := HG.out.2
     have hWG := HG.out.1
     go_roundw
     case rel =>
      refine ⟨acc ++ [entE s'], entS s', by simp, by simp; omega, lhid ?_, lhid ?_, lhid ?_, HLX⟩
      ·rw [HS.out]
       repeat (first | with_reducible refine DocS.setC ?_ hMC _ _ | with_reducible refine DocS.setC ?_ hMG _ _ | with_reducible refine DocS.alloc ?_ _)
       exact HD6.out
      ·rw [← entR_set acc n hlt2, HE'.out]
       exact rows_round HE6.out (by rw [entR_len acc n hle]; exact hlt2) ⟨11, 0, [], numN (numS s' 1) 2, numN (numS (numS s' 1) 2) 2, numN (numS (numS (numS s' 1) 2) 2) 2⟩ (C := w3.heap.size) (Nat.ne_of_lt g3) _ _
      ·repeat (first | with_reducible refine Only.setCell ?_ (.inr hWC) _ | with_reducible refine Only.setCell ?_ (.inr hWG) _ | with_reducible refine Only.alloc ?_ _)
       exact HO6.out
     case measure => simp [intOf]; omega
    ·have HBB : Hid ((numS (numS (numS (numS s' 1) 2) 2) 2).2 = true) := lhid (by rw [← HS.out]; exact hbad)
     have HXX : Hid (entX s' = 11) := lhid (by rw [HX.out, hbad]; rfl)
     clear hbad
     have d2 : w6.cell? ⟨M, 2, none⟩ = some (.bool true) := by rw [← HBB.out]; exact HD6.out.doc.c2
     have hMC : M < w3.heap.size := by omega
     have hWC : w.heap.size ≤ (w3.heap.size : Nat) := by omega
     go_wp2_with fail
     go_ret2
     have hl := HL.out
     rw [show n - acc.length = n - acc.length - 1 + 1 by omega, rdEnts_no _ _ _ (by rw [HXX.out]; omega), HXX.out] at hl
     rw [← hl, afterR_err _ _ _ (by omega)]
     refine refOut_err 11 (by omega) rfl rfl ?_ ?_
     ·show DocS X B _ M v L (entS s')
      rw [HS.out]
      repeat (first | with_reducible refine DocS.setC ?_ hMC _ _ | with_reducible refine DocS.alloc ?_ _)
      exact HD6.out
     ·repeat (first | with_reducible refine Only.setCell ?_ (.inr hWC) _ | with_reducible refine Only.alloc ?_ _)
      exact HO6.out
   ·obtain ⟨k, hkk⟩ : ∃ k, numN s' 1 = k := ⟨_, rfl⟩
    rw [hkk] at hk
    obtain ⟨t1, t3, t5, t7, t8, t9, t10, t11⟩ := other_tests k hk
    have bk := num1_lt s'
    rw [hkk] at bk
    have hbk : wrap64 (k : Int) = k := IntWalk.wrap64_in _ (by omega)
    have HK := lhid hkk
    have HKN := lhid hk
    have HS : Hid (entS s' = (numS s' 1)) := lhid (by unfold entS; rw [hkk]; exact bodyS_other _ _ hk)
    have HX : Hid (entX s' = if (entS s').2 then 11 else 12) := lhid (by unfold entX entS; rw [hkk, hk]; rfl)
    clear hkk hk
    go_wp2_with fail
    with_reducible refine (refNum_any X B M v L s' 1 _ HD.out).mono ?_
    rintro e w3 ⟨rfl, hd, ho⟩
    rw [HK.out]
    have HD3 := lhid hd
    have HE3 := lhid (HE.out.keep ho (Nat.ne_of_gt HG.out.2))
    have HO3 := lhid (HO.out.trans ho)
    have m3 := hd.lt
    have g3 := HE3.out.lt
    have b3 := HO3.out.size
    clear hd ho
    have hne1 : ¬ M = w3.heap.size := by omega
    have hne2 : ¬ w3.heap.size = M := by omega
    cases hbad : (entS s').2
    ·have HBB : Hid (((numS s' 1)).2 = false) := lhid (by rw [← HS.out]; exact hbad)
     have HXX : Hid (entX s' = 12) := lhid (by rw [HX.out, hbad]; rfl)
     clear hbad
     have d2 : w3.cell? ⟨M, 2, none⟩ = some (.bool false) := by rw [← HBB.out]; exact HD3.out.doc.c2
     have hMC : M < w3.heap.size := by omega
     have hWC : w.heap.size ≤ (w3.heap.size : Nat) := by omega
     go_wp2_with fail
     go_ret2
     have hl := HL.out
     rw [show n - acc.length = n - acc.length - 1 + 1 by omega, rdEnts_no _ _ _ (by rw [HXX.out]; omega), HXX.out] at hl
     rw [← hl, afterR_err _ _ _ (by omega)]
     refine refOut_err 12 (by omega) rfl rfl ?_ ?_
     ·show DocS X B _ M v L (entS s')
      rw [HS.out]
      repeat (first | with_reducible refine DocS.setC ?_ hMC _ _ | with_reducible refine DocS.alloc ?_ _)
      exact HD3.out
     ·repeat (first | with_reducible refine Only.setCell ?_ (.inr hWC) _ | with_reducible refine Only.alloc ?_ _)
      exact HO3.out
    ·have HBB : Hid (((numS s' 1)).2 = true) := lhid (by rw [← HS.out]; exact hbad)
     have HXX : Hid (entX s' = 11) := lhid (by rw [HX.out, hbad]; rfl)
     clear hbad
     have d2 : w3.cell? ⟨M, 2, none⟩ = some (.bool true) := by rw [← HBB.out]; exact HD3.out.doc.c2
     have hMC : M < w3.heap.size := by omega
     have hWC : w.heap.size ≤ (w3.heap.size : Nat) := by omega
     go_wp2_with fail
     go_ret2
     have hl := HL.out
     rw [show n - acc.length = n - acc.length - 1 + 1 by omega, rdEnts_no _ _ _ (by rw [HXX.out]; omega), HXX.out] at hl
     rw [← hl, afterR_err _ _ _ (by omega)]
     refine refOut_err 11 (by omega) rfl rfl ?_ ?_
     ·show DocS X B _ M v L (entS s')
      rw [HS.out]
      repeat (first | with_reducible refine DocS.setC ?_ hMC _ _ | with_reducible refine DocS.alloc ?_ _)
      exact HD3.out
     ·repeat (first | with_reducible refine Only.setCell ?_ (.inr hWC) _ | with_reducible refine Only.alloc ?_ _)
      exact HO3.out
  ·have he : acc.length = n := by omega
   have HF : Hid (r1 = (0, acc, s')) := lhid (by rw [← HL.out, he, Nat.sub_self]; rfl)
   obtain ⟨hz, hs, hk11, hone⟩ := ents_good (by rw [HRR.out]; exact HF.out : rdEnts (n - 1) (numS s 2) [Ent.zero] = (0, acc, s'))
   have HZ := lhid hz
   have HSH := lhid hs
   have HK11 := lhid hk11
   obtain ⟨r2, hr2⟩ : ∃ r2, resAll acc acc [] = r2 := ⟨_, rfl⟩
   have HR2 : Hid (afterR r1 = r2) := lhid (by rw [HF.out]; exact hr2)
   have HRS : Hid (resAll acc (acc.drop 1) [Con.zero] = r2) := lhid (by rw [← hone]; exact hr2)
   have HE0 : Hid (RowsAt wr G 130 8 (acc.map entV)) := lhid (by rw [← entR_full acc n he]; exact HE.out)
   have HN2 := lhid he
   clear hz hs hk11 hone hr2 he
   have hmake := make_cons n h2
   go_wp2_with fail
   clear hmake
   obtain ⟨G2, hG2⟩ : ∃ G2, wr.heap.size = G2 := ⟨_, rfl⟩
   have HG2 : Hid (w.heap.size ≤ G2 ∧ M < G2 ∧ G < G2) := lhid (by have q1 := HO.out.size; have q2 := HD.out.lt; have q3 := HE0.out.lt; omega)
   have hrows : RowsAt (wr.alloc (.cells (madeCells (conV Con.zero).toArray (n * 5)) 39)) G2 39 5 (conR [Con.zero] n) := by
    rw [← con_one n h1, ← hG2]
    exact RowsAt.made wr _ 5 n _ (conV Con.zero) rfl rfl (by omega)
   have HROWS2 := lhid hrows
   rw [hG2]
   clear hrows hG2
   go_loopw [11] (fun i wr2 => ∃ (acc2 : List Con), i = .int .i64 acc2.length ∧ acc2.length ≤ n ∧ Hid (DocS X B wr2 M v L s') ∧ Hid (RowsAt wr2 G 130 8 (acc.map entV)) ∧ Hid (RowsAt wr2 G2 39 5 (conR acc2 n)) ∧ Hid (Only M w wr2) ∧ Hid (resAll acc (acc.drop acc2.length) acc2 = r2)) (fun i _ => n - (intOf i).toNat)
   case atStart => exact ⟨[Con.zero], rfl, h1, lhid (HD.out.alloc _), lhid (HE0.out.alloc _), HROWS2, lhid (HO.out.alloc _), HRS⟩
   case round =>
    obtain ⟨acc2, rfl, hle2, HD2, HE2, HC2, HO2, HL2⟩ := hrel
    by_cases hlt3 : acc2.length < n
    ·obtain ⟨x, hx⟩ : ∃ x, acc[acc2.length]? = some x := ⟨_, List.getElem?_eq_getElem (by rw [HN2.out]; exact hlt3)⟩
     have hdrop : acc.drop acc2.length = x :: acc.drop (acc2.length + 1) := by
      obtain ⟨h1, h2⟩ := List.getElem?_eq_some_iff.1 hx
      rw [List.drop_eq_getElem_cons h1, h2]
     have HX11 := lhid (HK11.out x (List.mem_of_getElem? hx))
     obtain ⟨a0, a1, a2, a3, a4, a5, a6, a7⟩ := rows_at HE2.out hx
     obtain ⟨q, hq⟩ : ∃ q, resOne acc x = q := ⟨_, rfl⟩
     have HQ := lhid hq
     have HDR := lhid hdrop
     clear hdrop hx hq
     have hw2 := HG2.out.1
     have hw3 := HG2.out.2.1
     have hw4 := HG2.out.2.2
     by_cases hq0 : q.1 = 0
     ·have HL3 : Hid (resAll acc (acc.drop (acc2 ++ [q.2]).length) (acc2 ++ [q.2]) = r2) := lhid (by
       rw [← HL2.out, HDR.out, resAll_on acc x _ acc2 (by rw [HQ.out]; exact hq0), HQ.out]; simp)
      have HQ0 : Hid ((q.1 : Int) = 0) := lhid (by omega)
      clear hq0
      go_wp2_with fail
      with_reducible refine (filled_any G acc n x _ HE2.out HN2 HZ HSH HX11.out).mono ?_
      rintro e w3 ⟨rfl, hb⟩
      rw [HQ.out, HQ0.out]
      have HE3 := lhid (below_rows HE2.out hb)
      have HC3 := lhid (below_rows HC2.out hb)
      have HD3 := lhid (HD2.out.below hb)
      have HO3 := lhid (HO2.out.trans (Below.only hb))
      have hgs := HC3.out.lt
      clear hb a0 a1 a2 a3 a4 a5 a6 a7
      have a0 : w3.cell? ⟨G2, acc2.length * 5, none⟩ = some (.int .i64 0) := HC3.out.cell (conR_at acc2 n hlt3) (j := 0) rfl
      have a1 := HC3.out.cell (conR_at acc2 n hlt3) (j := 1) rfl
      have a2 := HC3.out.cell (conR_at acc2 n hlt3) (j := 2) rfl
      have a3 := HC3.out.cell (conR_at acc2 n hlt3) (j := 3) rfl
      have a4 := HC3.out.cell (conR_at acc2 n hlt3) (j := 4) rfl
      have fa := HC3.out.fz
      go_wp2_with fail
      go_roundw
      case rel =>
       refine ⟨acc2 ++ [q.2], by simp, by simp; omega, lhid ?_, lhid ?_, lhid ?_, lhid ?_, HL3⟩
       ·repeat (first | with_reducible refine DocS.setC ?_ hw3 _ _ | with_reducible refine DocS.alloc ?_ _)
        exact HD3.out
       ·refine RowsAt.alloc ?_ _
        repeat (refine RowsAt.other ?_ (by dsimp only; omega) _)
        exact HE3.out
       ·rw [← conR_set acc2 n hlt3]
        exact (HC3.out.put acc2.length (by rw [conR_len acc2 n hle2]; exact hlt3) (conV q.2) rfl).alloc _
       ·repeat (first | with_reducible refine Only.setCell ?_ (.inr hw2) _ | with_reducible refine Only.alloc ?_ _)
        exact HO3.out
      case measure => simp [intOf]; omega
     ·have HL3 : Hid (r2 = (q.1, [])) := lhid (by
       rw [← HL2.out, HDR.out, resAll_no acc x _ acc2 (by rw [HQ.out]; exact hq0), HQ.out])
      have hq1 : ((q.1 : Int) != 0) = true := by rw [bne_iff_ne]; omega
      have hq2 : ((q.1 : Int) == 0) = false := by rw [beq_eq_false_iff_ne]; omega
      have HQ0 := lhid hq0
      clear hq0
      go_wp2_with fail
      with_reducible refine (filled_any G acc n x _ HE2.out HN2 HZ HSH HX11.out).mono ?_
      rintro e w3 ⟨rfl, hb⟩
      rw [HQ.out]
      have HD3 := lhid (HD2.out.below hb)
      have HO3 := lhid (HO2.out.trans (Below.only hb))
      clear hb a0 a1 a2 a3 a4 a5 a6 a7
      go_wp2_with fail
      go_ret2
      refine refOut_err q.1 HQ0.out (by rw [HR2.out, HL3.out]) rfl ?_ ?_
      ·rw [HF.out]
       exact HD3.out.alloc _
      ·exact HO3.out.alloc _
    ·have he2 : acc2.length = n := by omega
     have HFF : Hid (r2 = (0, acc2)) := lhid (by
      rw [← HL2.out, he2, ← HN2.out, List.drop_length]; rfl)
     have HCF := lhid (show RowsAt _ G2 39 5 (acc2.map conV) from by rw [← conR_full acc2 n he2]; exact HC2.out)
     have HEN := lhid he2
     clear he2
     go_wp2_with fail
     go_ret2
     rw [HR2.out, HFF.out, HF.out]
     refine ⟨?_, HD2.out, HO2.out⟩
     rw [if_pos rfl]
     refine ⟨G2, ?_, HG2.out.1, HCF.out⟩
     show _ = Ending.returned (.tuple #[.slice (some ⟨G2, 0, none⟩) acc2.length acc2.length, .int .i64 0])
     rw [HEN.out]
     rfl
end Go.Proofs.YtgihfcimngogfaaGreat
