/- Texts of this claim, joined: PoolEntries, PoolAt. -/
import Derived.Test.YtgihfcimngogfaaGreatJPoolEntry
import Derived.Test.YtgihfcimngogfaaGreatM1
import Derived.OwnWalk
namespace Go.Proofs.YtgihfcimngogfaaGreat
open Go.RowKit Go
set_option linter.unusedVariables false
def entR (acc : List Ent) (n : Nat) : List (List Value) := (acc ++ List.replicate (n - acc.length) Ent.zero).map entV
theorem entR_len (acc : List Ent) (n : Nat) (h : acc.length ≤ n) : (entR acc n).length = n := by unfold entR; simp; omega
theorem entR_at (acc : List Ent) (n : Nat) (h : acc.length < n) : (entR acc n)[acc.length]? = some (entV Ent.zero) := by
 unfold entR
 rw [List.getElem?_map, List.getElem?_append_right (Nat.le_refl _), Nat.sub_self, List.getElem?_replicate, if_pos (by omega)]
 rfl
theorem entR_set (acc : List Ent) (n : Nat) (h : acc.length < n) (x : Ent) : (entR acc n).set acc.length (entV x) = entR (acc ++ [x]) n := by
 unfold entR
 obtain ⟨m, hm⟩ : ∃ m, n - acc.length = m + 1 := ⟨n - acc.length - 1, by omega⟩
 rw [hm, List.length_append, show n - (acc.length + [x].length) = m by simp; omega, List.replicate_succ, ← List.map_set, List.set_append_right _ _ (Nat.le_refl _), Nat.sub_self, List.set_cons_zero]
 simp
theorem entR_full (acc : List Ent) (n : Nat) (h : acc.length = n) : entR acc n = acc.map entV := by
 unfold entR
 rw [h, Nat.sub_self]
 simp
theorem entR_one (n : Nat) (h : 1 ≤ n) : List.replicate n (entV Ent.zero) = entR [Ent.zero] n := by
 unfold entR
 obtain ⟨m, rfl⟩ : ∃ m, n = m + 1 := ⟨n - 1, by omega⟩
 simp [List.replicate_succ]
theorem infoEnt : (Tryz.prog.info? 144).map (fun i => (i.zero, i.size, i.bytes)) = some (some (.agg #[.int .i64 0, .int .i64 0, .string ⟨#[]⟩, .string ⟨#[]⟩, .string ⟨#[]⟩, .int .i64 0, .int .i64 0, .int .i64 0]), 8, 88) := by kernel_rfl
theorem make_ents (n : Nat) (hn : n ≤ 1000) (w : World) :
  (Instr.makeSlice 139 (.int .i64 (n : Int)) (.int .i64 (n : Int))).run Tryz.prog w = .ok (.slice (some ⟨w.heap.size, 0, none⟩) n n) (w.alloc (.cells (madeCells (entV Ent.zero).toArray (n * 8)) 144)) := by
 obtain ⟨i0, hi0, hz0, hz1, hz2⟩ := info_parts infoEnt
 have h := run_make (P := Tryz.prog) w 139 144 i0 _ Tryz.underlying139 hi0 hz0 .i64 .i64 n n (by omega) (Int.le_refl _) (by rw [hz2]; omega) (by omega)
 rw [h, hz1]
 rfl
def EntsOut (R : Nat) (s : St) (w : World) (e : Ending) (w' : World) : Prop :=
 (if (rdHead s).1 = 0 then ∃ g, e = .returned (.tuple #[.slice (some ⟨g, 0, none⟩) (rdHead s).2.1.length (rdHead s).2.1.length, .int .i64 0]) ∧ w.heap.size ≤ g ∧ RowsAt w' g 144 8 ((rdHead s).2.1.map entV) else e = .returned (.tuple #[.slice none 0 0, .int .i64 (rdHead s).1])) ∧ Rdr w' R (rdHead s).2.2 ∧ Only R w w'
def RdsOut (r : Nat × List Ent × St) (R : Nat) (w : World) (e : Ending) (w' : World) : Prop :=
 (if r.1 = 0 then ∃ g, e = .returned (.tuple #[.slice (some ⟨g, 0, none⟩) r.2.1.length r.2.1.length, .int .i64 0]) ∧ w.heap.size ≤ g ∧ RowsAt w' g 144 8 (r.2.1.map entV) else e = .returned (.tuple #[.slice none 0 0, .int .i64 r.1])) ∧ Rdr w' R r.2.2 ∧ Only R w w'
set_option maxHeartbeats 4000000 in
set_option maxRecDepth 100000 in
theorem readEntries_main (R : Nat) (s : St) (w : World) (h : Rdr w R s) (n : Nat) (hn : numN s 2 = n) (h1 : 1 ≤ n) (h2 : n ≤ 1000) (hb : (numS s 2).2 = false) (r : Nat × List Ent × St) (hr : rdEnts (n - 1) (numS s 2) [Ent.zero] = r) :
  Calls Tryz.prog 83 #[.pointer (some ⟨R, 0, none⟩)] w (RdsOut r R w) := by
 have hlt := h.lt
 have HN := lhid hn
 have HR := lhid h
 have HB := lhid hb
 have HRR := lhid hr
 clear h hn hb hr
 have hwrap : wrap64 (n : Int) = n := IntWalk.wrap64_in _ (by omega)
 go_enter Tryz.func83, Tryz.ntmps83
 go_wp2_with fail
 with_reducible refine (num_any R s 2 _ HR.out).mono ?_
 rintro e w1 ⟨rfl, hr, ho⟩
 rw [HN.out]
 have HR1 := lhid hr
 have HO1 := lhid ho
 clear hr ho
 go_wp2_with fail
 with_reducible refine (cutOff_any R _ false _ HR1 HB).mono ?_
 rintro e w2 ⟨rfl, q, rfl⟩
 have hmake := make_ents n h2
 have c1 : ¬ (n : Int) < 1 := by omega
 have c2 : ¬ (1000 : Int) < n := by omega
 go_wp2_with fail
 clear hmake
 have HG : Hid (w.heap.size ≤ w1.heap.size ∧ R < w1.heap.size) := lhid ⟨HO1.out.size, by have := HO1.out.size; omega⟩
 go_loopw [6] (fun i wr => ∃ (acc : List Ent) (s' : St), i = .int .i64 acc.length ∧ acc.length ≤ n ∧ Hid (Rdr wr R s') ∧ Hid (RowsAt wr w1.heap.size 144 8 (entR acc n)) ∧ Hid (Only R w wr) ∧ Hid (rdEnts (n - acc.length) s' acc = r)) (fun i _ => n - (intOf i).toNat)
 case atStart =>
  refine ⟨[Ent.zero], numS s 2, rfl, h1, lhid ((HR1.out.drewN q).alloc _), lhid ?_, lhid ((HO1.out.drewN q).alloc _), HRR⟩
  rw [← entR_one n h1]
  exact RowsAt.made (w1.drewN q) _ 8 n _ (entV Ent.zero) rfl rfl (by omega)
 case round =>
  obtain ⟨acc, s', rfl, hle, HR2, HE, HO, HL⟩ := hrel
  clear c1 c2 hwrap
  by_cases hlt2 : acc.length < n
  ·have hgl := HG.out.2
   by_cases hx : entX s' = 0
   ·have HX := lhid hx
    have HL2 : Hid (rdEnts (n - (acc ++ [entE s']).length) (entS s') (acc ++ [entE s']) = r) := lhid (by
     rw [← HL.out, show n - acc.length = n - (acc ++ [entE s']).length + 1 by simp; omega, rdEnts_on _ _ _ hx])
    have hxn : ((entX s' : Nat) : Int) = 0 := by omega
    have HXN := lhid hxn
    clear hx hxn
    go_wp2_with fail
    with_reducible refine (readEntry_any R s' _ HR2.out).mono ?_
    rintro e w3 ⟨⟨y, rfl, hy⟩, hr, ho⟩
    rw [HXN.out]
    have HY := lhid (hy HX.out)
    have HR3 := lhid hr
    have HE3 := lhid (HE.out.keep ho (by omega))
    have HO3 := lhid (HO.out.trans ho)
    have hgs := HE3.out.lt
    have a0 : w3.cell? ⟨w1.heap.size, acc.length * 8, none⟩ = some (.int .i64 0) := HE3.out.cell (entR_at acc n hlt2) (j := 0) rfl
    have a1 := HE3.out.cell (entR_at acc n hlt2) (j := 1) rfl
    have a2 := HE3.out.cell (entR_at acc n hlt2) (j := 2) rfl
    have a3 := HE3.out.cell (entR_at acc n hlt2) (j := 3) rfl
    have a4 := HE3.out.cell (entR_at acc n hlt2) (j := 4) rfl
    have a5 := HE3.out.cell (entR_at acc n hlt2) (j := 5) rfl
    have a6 := HE3.out.cell (entR_at acc n hlt2) (j := 6) rfl
    have a7 := HE3.out.cell (entR_at acc n hlt2) (j := 7) rfl
    have fa := HE3.out.fz
    clear hr ho hy
    go_wp2_with fail
    obtain rfl : y = entE s' := HY.out
    have hw1 := HG.out.1
    go_roundw
    case rel =>
     refine ⟨acc ++ [entE s'], entS s', by simp, by simp; omega, lhid ?_, lhid ?_, lhid ?_, HL2⟩
     ·refine Rdr.alloc ?_ _
      repeat (refine Rdr.other ?_ (by dsimp only; omega) _)
      exact HR3.out
     ·rw [← entR_set acc n hlt2]
      exact (HE3.out.put acc.length (by rw [entR_len acc n hle]; exact hlt2) (entV (entE s')) rfl).alloc _
     ·refine Only.alloc ?_ _
      repeat (refine Only.setCell ?_ (.inr hw1) _)
      exact HO3.out
    case measure => simp [intOf]; omega
   ·have hxp : 0 < entX s' := by omega
    have HL2 : Hid (r = (entX s', [], entS s')) := lhid (by
     rw [← HL.out, show n - acc.length = n - acc.length - 1 + 1 by omega, rdEnts_no _ _ _ hx])
    obtain ⟨x, hxx⟩ : ∃ x, entX s' = x := ⟨_, rfl⟩
    rw [hxx] at hxp hx
    have HXX := lhid hxx
    have hx0 : ((x : Int) != 0) = true := by rw [bne_iff_ne]; omega
    have hx1 : ((x : Int) == 0) = false := by rw [beq_eq_false_iff_ne]; omega
    clear hxx hx
    go_wp2_with fail
    with_reducible refine (readEntry_any R s' _ HR2.out).mono ?_
    rintro e w3 ⟨⟨y, rfl, hy⟩, hr, ho⟩
    rw [HXX.out]
    have HR3 := lhid hr
    have HO3 := lhid (HO.out.trans ho)
    clear hr ho hy
    go_wp2_with fail
    go_ret2
    rw [HL2.out]
    refine ⟨?_, HR3.out.alloc _, HO3.out.alloc _⟩
    rw [if_neg (by show entX s' ≠ 0; rw [HXX.out]; omega)]
    show _ = Ending.returned (.tuple #[.slice none 0 0, .int .i64 (entX s')])
    rw [HXX.out]
    rfl
  ·have he : acc.length = n := by omega
   have HF : Hid (r = (0, acc, s')) := lhid (by rw [← HL.out, he, Nat.sub_self]; rfl)
   have HE2 : Hid (RowsAt wr w1.heap.size 144 8 (acc.map entV)) := lhid (by rw [← entR_full acc n he]; exact HE.out)
   have HEN := lhid he
   clear he
   go_wp2_with fail
   go_ret2
   rw [HF.out]
   refine ⟨?_, HR2.out, HO.out⟩
   rw [if_pos rfl]
   refine ⟨w1.heap.size, ?_, HG.out.1, HE2.out⟩
   show _ = Ending.returned (.tuple #[.slice (some ⟨w1.heap.size, 0, none⟩) acc.length acc.length, .int .i64 0])
   rw [HEN.out]
   rfl
set_option maxHeartbeats 2000000 in
set_option maxRecDepth 100000 in
theorem readEntries_end (R : Nat) (s : St) (w : World) (h : Rdr w R s) (hb : (numS s 2).2 = true) :
  Calls Tryz.prog 83 #[.pointer (some ⟨R, 0, none⟩)] w (EntsOut R s w) := by
 have HR := lhid h
 have HB := lhid hb
 have HH : Hid (rdHead s = (11, [], numS s 2)) := lhid (by unfold rdHead; rw [hb]; rfl)
 clear h hb
 go_enter Tryz.func83, Tryz.ntmps83
 go_wp2_with fail
 with_reducible refine (num_any R s 2 _ HR.out).mono ?_
 rintro e w1 ⟨rfl, hr, ho⟩
 have HR1 := lhid hr
 have HO1 := lhid ho
 clear hr ho
 go_wp2_with fail
 with_reducible refine (cutOff_any R _ true _ HR1 HB).mono ?_
 rintro e w2 ⟨rfl, q, rfl⟩
 go_wp2_with fail
 go_ret2
 unfold EntsOut
 rw [HH.out]
 exact ⟨rfl, HR1.out, HO1.out.drewN q⟩
set_option maxHeartbeats 2000000 in
set_option maxRecDepth 100000 in
theorem readEntries_many (R : Nat) (s : St) (w : World) (h : Rdr w R s) (hb : (numS s 2).2 = false) (hn : numN s 2 = 0 ∨ 1000 < numN s 2) :
  Calls Tryz.prog 83 #[.pointer (some ⟨R, 0, none⟩)] w (EntsOut R s w) := by
 have HR := lhid h
 have HB := lhid hb
 have HH : Hid (rdHead s = (12, [], numS s 2)) := lhid (by unfold rdHead; rw [hb, if_neg (by simp), if_pos hn])
 have hl := num2_lt s
 obtain ⟨n, hnn⟩ : ∃ n, numN s 2 = n := ⟨_, rfl⟩
 rw [hnn] at hn hl
 have HN := lhid hnn
 clear h hb hnn
 have hwrap : wrap64 (n : Int) = n := IntWalk.wrap64_in _ (by omega)
 rcases hn with rfl | hn
 ·go_enter Tryz.func83, Tryz.ntmps83
  go_wp2_with fail
  with_reducible refine (num_any R s 2 _ HR.out).mono ?_
  rintro e w1 ⟨rfl, hr, ho⟩
  rw [HN.out]
  have HR1 := lhid hr
  have HO1 := lhid ho
  clear hr ho
  go_wp2_with fail
  with_reducible refine (cutOff_any R _ false _ HR1 HB).mono ?_
  rintro e w2 ⟨rfl, q, rfl⟩
  go_wp2_with fail
  go_ret2
  unfold EntsOut
  rw [HH.out]
  exact ⟨rfl, HR1.out, HO1.out.drewN q⟩
 ·have c2 : (1000 : Int) < n := by omega
  have c1 : ¬ (n : Int) < 1 := by omega
  go_enter Tryz.func83, Tryz.ntmps83
  go_wp2_with fail
  with_reducible refine (num_any R s 2 _ HR.out).mono ?_
  rintro e w1 ⟨rfl, hr, ho⟩
  rw [HN.out]
  have HR1 := lhid hr
  have HO1 := lhid ho
  clear hr ho
  go_wp2_with fail
  with_reducible refine (cutOff_any R _ false _ HR1 HB).mono ?_
  rintro e w2 ⟨rfl, q, rfl⟩
  go_wp2_with fail
  go_ret2
  unfold EntsOut
  rw [HH.out]
  exact ⟨rfl, HR1.out, HO1.out.drewN q⟩
theorem readEntries_any (R : Nat) (s : St) (w : World) (h : Rdr w R s) :
  Calls Tryz.prog 83 #[.pointer (some ⟨R, 0, none⟩)] w (EntsOut R s w) := by
 cases hb : (numS s 2).2
 ·by_cases hn : numN s 2 = 0 ∨ 1000 < numN s 2
  ·exact readEntries_many R s w h hb hn
  ·have := readEntries_main R s w h _ rfl (by omega) (by omega) hb _ rfl
   have hh : rdHead s = rdEnts (numN s 2 - 1) (numS s 2) [Ent.zero] := by unfold rdHead; rw [hb, if_neg (by simp), if_neg hn]
   rw [← hh] at this
   exact this
 ·exact readEntries_end R s w h hb
end Go.Proofs.YtgihfcimngogfaaGreat
namespace Go.Proofs.YtgihfcimngogfaaGreat
open Go.RowKit Go
set_option linter.unusedVariables false
theorem entAt_some {l : List Ent} {i k : Nat} {x : Ent} (h : entAt l i k = some x) : l[i]? = some x ∧ x.kind = k := by
 unfold entAt at h
 cases hl : l[i]? with
 | none => rw [hl] at h; cases h
 | some y =>
  rw [hl] at h
  simp only at h
  by_cases hy : y.kind = k
  ·rw [if_pos hy] at h
   cases h
   exact ⟨rfl, hy⟩
  ·rw [if_neg hy] at h
   cases h
theorem entAt_none {l : List Ent} {i k : Nat} (h : entAt l i k = none) : l.length ≤ i ∨ ∃ x, l[i]? = some x ∧ x.kind ≠ k := by
 unfold entAt at h
 cases hl : l[i]? with
 | none => exact .inl (List.getElem?_eq_none_iff.1 hl)
 | some y =>
  rw [hl] at h
  simp only at h
  by_cases hy : y.kind = k
  ·rw [if_pos hy] at h; cases h
  ·exact .inr ⟨y, rfl, hy⟩
theorem rows_at {w : World} {g T : Nat} {l : List Ent} (h : RowsAt w g T 8 (l.map entV)) {i : Nat} {x : Ent} (hx : l[i]? = some x) :
  w.cell? ⟨g, i * 8, none⟩ = some (.int .i64 x.kind) ∧ w.cell? ⟨g, i * 8 + 1, none⟩ = some (.int .i64 x.num) ∧ w.cell? ⟨g, i * 8 + 2, none⟩ = some (.string (tx x.text)) ∧ w.cell? ⟨g, i * 8 + 3, none⟩ = some (.string ⟨#[]⟩) ∧ w.cell? ⟨g, i * 8 + 4, none⟩ = some (.string ⟨#[]⟩) ∧ w.cell? ⟨g, i * 8 + 5, none⟩ = some (.int .i64 x.a) ∧ w.cell? ⟨g, i * 8 + 6, none⟩ = some (.int .i64 x.b) ∧ w.cell? ⟨g, i * 8 + 7, none⟩ = some (.int .i64 x.d) := by
 have hr : (l.map entV)[i]? = some (entV x) := by rw [List.getElem?_map, hx]; rfl
 exact ⟨h.cell hr (j := 0) rfl, h.cell hr (j := 1) rfl, h.cell hr (j := 2) rfl, h.cell hr (j := 3) rfl, h.cell hr (j := 4) rfl, h.cell hr (j := 5) rfl, h.cell hr (j := 6) rfl, h.cell hr (j := 7) rfl⟩
set_option maxHeartbeats 4000000 in
set_option maxRecDepth 100000 in
theorem entryAt_no (g : Nat) (l : List Ent) (n i k : Nat) (kk : Int) (w : World) (h : RowsAt w g 144 8 (l.map entV)) (hn : Hid (l.length = n)) (hk : Hid (kk = k)) (hat : Hid (entAt l i k = none)) :
  Calls Tryz.prog 139 #[.slice (some ⟨g, 0, none⟩) n n, .int .i64 i, .int .i64 kk] w fun e w' => e = .returned (.tuple #[.agg #[.int .i64 0, .int .i64 0, .string ⟨#[]⟩, .string ⟨#[]⟩, .string ⟨#[]⟩, .int .i64 0, .int .i64 0, .int .i64 0], .bool false]) ∧ Below w.heap.size w w' := by
 rcases entAt_none hat.out with hl | ⟨x, hx, hne⟩
 ·have hge : ¬ (i < n) := by rw [← hn.out]; omega
  clear h
  go_enter Tryz.func139, Tryz.ntmps139
  go_wp2_with fail
  refine bodyPost_ret (v := .tuple #[.agg #[.int .i64 0, .int .i64 0, .string ⟨#[]⟩, .string ⟨#[]⟩, .string ⟨#[]⟩, .int .i64 0, .int .i64 0, .int .i64 0], .bool false]) (by simp [results, Tryz.results139, go_sem]) rfl ⟨rfl, ?_⟩
  exact (Below.refl _ _).alloc (Nat.le_refl _) _
 ·have hlt : i < n := by rw [← hn.out]; exact (List.getElem?_eq_some_iff.1 hx).1
  obtain ⟨a0, a1, a2, a3, a4, a5, a6, a7⟩ := rows_at h hx
  have hgs := h.lt
  have t1 : ((x.kind : Int) != kk) = true := by rw [bne_iff_ne, hk.out]; omega
  have t2 : ((x.kind : Int) == kk) = false := by rw [beq_eq_false_iff_ne, hk.out]; omega
  clear h hx hne a1 a2 a3 a4 a5 a6 a7
  go_enter Tryz.func139, Tryz.ntmps139
  go_wp2_with fail
  refine bodyPost_ret (v := .tuple #[.agg #[.int .i64 0, .int .i64 0, .string ⟨#[]⟩, .string ⟨#[]⟩, .string ⟨#[]⟩, .int .i64 0, .int .i64 0, .int .i64 0], .bool false]) (by simp [results, Tryz.results139, go_sem]) rfl ⟨rfl, ?_⟩
  exact (Below.refl _ _).alloc (Nat.le_refl _) _
set_option maxHeartbeats 4000000 in
set_option maxRecDepth 100000 in
theorem entryAt_yes (g : Nat) (l : List Ent) (n i k : Nat) (kk : Int) (x : Ent) (w : World) (h : RowsAt w g 144 8 (l.map entV)) (hn : Hid (l.length = n)) (hk : Hid (kk = k)) (hat : Hid (entAt l i k = some x)) :
  Calls Tryz.prog 139 #[.slice (some ⟨g, 0, none⟩) n n, .int .i64 i, .int .i64 kk] w fun e w' => e = .returned (.tuple #[.agg #[.int .i64 x.kind, .int .i64 x.num, .string (tx x.text), .string ⟨#[]⟩, .string ⟨#[]⟩, .int .i64 x.a, .int .i64 x.b, .int .i64 x.d], .bool true]) ∧ Below w.heap.size w w' := by
 obtain ⟨hx, hxk⟩ := entAt_some hat.out
 have hlt : i < n := by rw [← hn.out]; exact (List.getElem?_eq_some_iff.1 hx).1
 obtain ⟨a0, a1, a2, a3, a4, a5, a6, a7⟩ := rows_at h hx
 have hgs := h.lt
 have t1 : ((x.kind : Int) != kk) = false := by rw [bne_eq_false_iff_eq, hk.out]; omega
 have t2 : ((x.kind : Int) == kk) = true := by rw [beq_iff_eq, hk.out]; omega
 clear h hx hxk
 go_enter Tryz.func139, Tryz.ntmps139
 go_wp2_with fail
 refine bodyPost_ret (v := .tuple #[.agg #[.int .i64 x.kind, .int .i64 x.num, .string (tx x.text), .string ⟨#[]⟩, .string ⟨#[]⟩, .int .i64 x.a, .int .i64 x.b, .int .i64 x.d], .bool true]) (by simp [results, Tryz.results139, go_sem]) rfl ⟨rfl, ?_⟩
 exact (Below.refl _ _).alloc (Nat.le_refl _) _
set_option maxHeartbeats 4000000 in
set_option maxRecDepth 100000 in
theorem textAt_no (g : Nat) (l : List Ent) (n i : Nat) (w : World) (h : Hid (RowsAt w g 144 8 (l.map entV))) (hn : Hid (l.length = n)) (hat : Hid (textAt l i = none)) :
  Calls Tryz.prog 121 #[.slice (some ⟨g, 0, none⟩) n n, .int .i64 i] w fun e w' => e = .returned (.tuple #[.string ⟨#[]⟩, .bool false]) ∧ Below w.heap.size w w' := by
 have HA : Hid (entAt l i 1 = none) := lhid (by have := hat.out; unfold textAt at this; simpa using this)
 have HK : Hid ((1 : Int) = (1 : Nat)) := lhid rfl
 go_enter Tryz.func121, Tryz.ntmps121
 go_wp2_with fail
 with_reducible refine (entryAt_no g l n i 1 1 _ h.out hn HK HA).mono ?_
 rintro e w1 ⟨rfl, hb⟩
 have HB := lhid hb
 clear hb
 go_wp2_with fail
 go_ret2
 exact ⟨rfl, HB.out.alloc HB.out.size _⟩
set_option maxHeartbeats 4000000 in
set_option maxRecDepth 100000 in
theorem textAt_yes (g : Nat) (l : List Ent) (n i : Nat) (t : Bs) (w : World) (h : Hid (RowsAt w g 144 8 (l.map entV))) (hn : Hid (l.length = n)) (hat : Hid (textAt l i = some t)) :
  Calls Tryz.prog 121 #[.slice (some ⟨g, 0, none⟩) n n, .int .i64 i] w fun e w' => e = .returned (.tuple #[.string (tx t), .bool true]) ∧ Below w.heap.size w w' := by
 obtain ⟨x, HA, HT⟩ : ∃ x, Hid (entAt l i 1 = some x) ∧ Hid (x.text = t) := by
  have := hat.out
  unfold textAt at this
  obtain ⟨x, h1, h2⟩ := Option.map_eq_some_iff.1 this
  exact ⟨x, lhid h1, lhid h2⟩
 have HK : Hid ((1 : Int) = (1 : Nat)) := lhid rfl
 go_enter Tryz.func121, Tryz.ntmps121
 go_wp2_with fail
 with_reducible refine (entryAt_yes g l n i 1 1 x _ h.out hn HK HA).mono ?_
 rintro e w1 ⟨rfl, hb⟩
 rw [HT.out]
 have HB := lhid hb
 clear hb
 go_wp2_with fail
 go_ret2
 exact ⟨rfl, HB.out.alloc HB.out.size _⟩
theorem below_rows {w w' : World} {g T k : Nat} {rows : List (List Value)} (h : RowsAt w g T k rows) (hb : Below w.heap.size w w') : RowsAt w' g T k rows := h.of_block (hb.block g h.lt)
set_option maxHeartbeats 4000000 in
set_option maxRecDepth 100000 in
theorem classAt_no (g : Nat) (l : List Ent) (n i : Nat) (w : World) (h : Hid (RowsAt w g 144 8 (l.map entV))) (hn : Hid (l.length = n)) (hat : Hid (classAt l i = none)) :
  Calls Tryz.prog 123 #[.slice (some ⟨g, 0, none⟩) n n, .int .i64 i] w fun e w' => e = .returned (.tuple #[.string ⟨#[]⟩, .bool false]) ∧ Below w.heap.size w w' := by
 have HK : Hid ((7 : Int) = (7 : Nat)) := lhid rfl
 cases hx : entAt l i 7 with
 | none =>
  have HA := lhid hx
  clear hx
  go_enter Tryz.func123, Tryz.ntmps123
  go_wp2_with fail
  with_reducible refine (entryAt_no g l n i 7 7 _ h.out hn HK HA).mono ?_
  rintro e w1 ⟨rfl, hb⟩
  have HB := lhid hb
  clear hb
  go_wp2_with fail
  go_ret2
  exact ⟨rfl, HB.out.alloc HB.out.size _⟩
 | some x =>
  have HA := lhid hx
  have HT : Hid (textAt l x.a = none) := lhid (by have := hat.out; unfold classAt at this; rw [hx] at this; exact this)
  clear hx
  go_enter Tryz.func123, Tryz.ntmps123
  go_wp2_with fail
  with_reducible refine (entryAt_yes g l n i 7 7 x _ h.out hn HK HA).mono ?_
  rintro e w1 ⟨rfl, hb⟩
  have HB := lhid hb
  clear hb
  go_wp2_with fail
  with_reducible refine (textAt_no g l n x.a _ (lhid ((below_rows h.out HB.out).alloc _)) hn HT).mono ?_
  rintro e w2 ⟨rfl, hb⟩
  have HB2 := lhid hb
  clear hb
  go_wp2_with fail
  go_ret2
  exact ⟨rfl, (HB.out.alloc HB.out.size _).trans (HB2.out.mono (by have := HB.out.size; simp; omega))⟩
set_option maxHeartbeats 4000000 in
set_option maxRecDepth 100000 in
theorem classAt_yes (g : Nat) (l : List Ent) (n i : Nat) (t : Bs) (w : World) (h : Hid (RowsAt w g 144 8 (l.map entV))) (hn : Hid (l.length = n)) (hat : Hid (classAt l i = some t)) :
  Calls Tryz.prog 123 #[.slice (some ⟨g, 0, none⟩) n n, .int .i64 i] w fun e w' => e = .returned (.tuple #[.string (tx t), .bool true]) ∧ Below w.heap.size w w' := by
 have HK : Hid ((7 : Int) = (7 : Nat)) := lhid rfl
 obtain ⟨x, HA, HT⟩ : ∃ x, Hid (entAt l i 7 = some x) ∧ Hid (textAt l x.a = some t) := by
  have := hat.out
  unfold classAt at this
  obtain ⟨x, h1, h2⟩ := Option.bind_eq_some_iff.1 this
  exact ⟨x, lhid h1, lhid h2⟩
 go_enter Tryz.func123, Tryz.ntmps123
 go_wp2_with fail
 with_reducible refine (entryAt_yes g l n i 7 7 x _ h.out hn HK HA).mono ?_
 rintro e w1 ⟨rfl, hb⟩
 have HB := lhid hb
 clear hb
 go_wp2_with fail
 with_reducible refine (textAt_yes g l n x.a t _ (lhid ((below_rows h.out HB.out).alloc _)) hn HT).mono ?_
 rintro e w2 ⟨rfl, hb⟩
 have HB2 := lhid hb
 clear hb
 go_wp2_with fail
 go_ret2
 exact ⟨rfl, (HB.out.alloc HB.out.size _).trans (HB2.out.mono (by have := HB.out.size; simp; omega))⟩
end Go.Proofs.YtgihfcimngogfaaGreat
