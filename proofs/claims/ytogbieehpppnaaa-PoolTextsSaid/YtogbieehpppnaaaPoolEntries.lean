/- Contract of readEntries. -/
import Derived.Test.YtogbieehpppnaaaPoolEntry
import Derived.Test.YtogbieehpppnaaaPoolRows
import Derived.OwnWalk
namespace Go.Proofs.Ytogbieehpppnaaa
open Go.RowKit Go
set_option linter.unusedVariables false

/-- The rows of a slice of n constants as they are told, those of acc first. -/
def entR (acc : List Ent) (n : Nat) : List (List Value) := (acc ++ List.replicate (n - acc.length) Ent.zero).map entV
theorem entR_len (acc : List Ent) (n : Nat) (h : acc.length ≤ n) : (entR acc n).length = n := by unfold entR; simp; omega
theorem entR_at (acc : List Ent) (n : Nat) (h : acc.length < n) : (entR acc n)[acc.length]? = some (entV Ent.zero) := by
  unfold entR
  rw [List.getElem?_map, List.getElem?_append_right (Nat.le_refl _), Nat.sub_self, List.getElem?_replicate, if_pos (by omega)]
  rfl
theorem entR_set (acc : List Ent) (n : Nat) (h : acc.length < n) (x : Ent) : (entR acc n).set acc.length (entV x) = entR (acc ++ [x]) n := by
  unfold entR
  obtain ⟨m, hm⟩ : ∃ m, n - acc.length = m + 1 := ⟨n - acc.length - 1, by omega⟩
  rw [hm, List.length_append, show n - (acc.length + [x].length) = m by simp; omega, List.replicate_succ, ← List.map_set, List.set_append_right _ _ (Nat.le_refl _), Nat.sub_self, List.set_cons_zero]
  simp
theorem entR_full (acc : List Ent) (n : Nat) (h : acc.length = n) : entR acc n = acc.map entV := by
  unfold entR
  rw [h, Nat.sub_self]
  simp
theorem entR_one (n : Nat) (h : 1 ≤ n) : List.replicate n (entV Ent.zero) = entR [Ent.zero] n := by
  unfold entR
  obtain ⟨m, rfl⟩ : ∃ m, n = m + 1 := ⟨n - 1, by omega⟩
  simp [List.replicate_succ]
theorem infoEnt : (Try.prog.info? 64).map (fun i => (i.zero, i.size, i.bytes)) = some (some (.agg #[.int .i64 0, .int .i64 0, .string ⟨#[]⟩, .string ⟨#[]⟩, .string ⟨#[]⟩, .int .i64 0, .int .i64 0, .int .i64 0]), 8, 88) := by kernel_rfl
theorem make_ents (n : Nat) (hn : n ≤ 1000) (w : World) :
    (Instr.makeSlice 59 (.int .i64 (n : Int)) (.int .i64 (n : Int))).run Try.prog w = .ok (.slice (some ⟨w.heap.size, 0, none⟩) n n) (w.alloc (.cells (madeCells (entV Ent.zero).toArray (n * 8)) 64)) := by
  obtain ⟨i0, hi0, hz0, hz1, hz2⟩ := info_parts infoEnt
  have h := run_make (P := Try.prog) w 59 64 i0 _ Try.underlying59 hi0 hz0 .i64 .i64 n n (by omega) (Int.le_refl _) (by rw [hz2]; omega) (by omega)
  rw [h, hz1]
  rfl
/-- What readEntries answers. -/
def EntsOut (R : Nat) (s : St) (w : World) (e : Ending) (w' : World) : Prop :=
  (if (rdHead s).1 = 0 then ∃ g, e = .returned (.tuple #[.slice (some ⟨g, 0, none⟩) (rdHead s).2.1.length (rdHead s).2.1.length, .int .i64 0]) ∧ w.heap.size ≤ g ∧ RowsAt w' g 64 8 ((rdHead s).2.1.map entV) else e = .returned (.tuple #[.slice none 0 0, .int .i64 (rdHead s).1])) ∧ Rdr w' R (rdHead s).2.2 ∧ Only R w w'
/-- .. from a round on. -/
def RdsOut (r : Nat × List Ent × St) (R : Nat) (w : World) (e : Ending) (w' : World) : Prop :=
  (if r.1 = 0 then ∃ g, e = .returned (.tuple #[.slice (some ⟨g, 0, none⟩) r.2.1.length r.2.1.length, .int .i64 0]) ∧ w.heap.size ≤ g ∧ RowsAt w' g 64 8 (r.2.1.map entV) else e = .returned (.tuple #[.slice none 0 0, .int .i64 r.1])) ∧ Rdr w' R r.2.2 ∧ Only R w w'

set_option maxHeartbeats 4000000 in
set_option maxRecDepth 100000 in
theorem readEntries_main (R : Nat) (s : St) (w : World) (h : Rdr w R s) (n : Nat) (hn : numN s 2 = n) (h1 : 1 ≤ n) (h2 : n ≤ 1000) (hb : (numS s 2).2 = false) (r : Nat × List Ent × St) (hr : rdEnts (n - 1) (numS s 2) [Ent.zero] = r) :
    Calls Try.prog 22 #[.pointer (some ⟨R, 0, none⟩)] w (RdsOut r R w) := by
  have hlt := h.lt
  have HN := lhid hn
  have HR := lhid h
  have HB := lhid hb
  have HRR := lhid hr
  clear h hn hb hr
  have hwrap : wrap64 (n : Int) = n := IntWalk.wrap64_in _ (by omega)
  go_enter Try.func22, Try.ntmps22
  go_wp2_with fail
  with_reducible refine (num_any R s 2 _ HR.out).mono ?_
  rintro e w1 ⟨rfl, hr, ho⟩
  rw [HN.out]
  have HR1 := lhid hr
  have HO1 := lhid ho
  clear hr ho
  go_wp2_with fail
  with_reducible refine (cutOff_any R _ false _ HR1 HB).mono ?_
  rintro e w2 ⟨rfl, q, rfl⟩
  have hmake := make_ents n h2
  have c1 : ¬ (n : Int) < 1 := by omega
  have c2 : ¬ (1000 : Int) < n := by omega
  go_wp2_with fail
  clear hmake
  have HG : Hid (w.heap.size ≤ w1.heap.size ∧ R < w1.heap.size) := lhid ⟨HO1.out.size, by have := HO1.out.size; omega⟩
  go_loopw [6] (fun i wr => ∃ (acc : List Ent) (s' : St), i = .int .i64 acc.length ∧ acc.length ≤ n ∧ Hid (Rdr wr R s') ∧ Hid (RowsAt wr w1.heap.size 64 8 (entR acc n)) ∧ Hid (Only R w wr) ∧ Hid (rdEnts (n - acc.length) s' acc = r)) (fun i _ => n - (intOf i).toNat)
  case atStart =>
    refine ⟨[Ent.zero], numS s 2, rfl, h1, lhid ((HR1.out.drewN q).alloc _), lhid ?_, lhid ((HO1.out.drewN q).alloc _), HRR⟩
    rw [← entR_one n h1]
    exact RowsAt.made (w1.drewN q) _ 8 n _ (entV Ent.zero) rfl rfl (by omega)
  case round =>
    obtain ⟨acc, s', rfl, hle, HR2, HE, HO, HL⟩ := hrel
    clear c1 c2 hwrap
    by_cases hlt2 : acc.length < n
    · have hgl := HG.out.2
      by_cases hx : entX s' = 0
      · have HX := lhid hx
        have HL2 : Hid (rdEnts (n - (acc ++ [entE s']).length) (entS s') (acc ++ [entE s']) = r) := lhid (by
          rw [← HL.out, show n - acc.length = n - (acc ++ [entE s']).length + 1 by simp; omega, rdEnts_on _ _ _ hx])
        have hxn : ((entX s' : Nat) : Int) = 0 := by omega
        have HXN := lhid hxn
        clear hx hxn
        go_wp2_with fail
        with_reducible refine (readEntry_any R s' _ HR2.out).mono ?_
        rintro e w3 ⟨⟨y, rfl, hy⟩, hr, ho⟩
        rw [HXN.out]
        have HY := lhid (hy HX.out)
        have HR3 := lhid hr
        have HE3 := lhid (HE.out.keep ho (by omega))
        have HO3 := lhid (HO.out.trans ho)
        have hgs := HE3.out.lt
        have a0 : w3.cell? ⟨w1.heap.size, acc.length * 8, none⟩ = some (.int .i64 0) := HE3.out.cell (entR_at acc n hlt2) (j := 0) rfl
        have a1 := HE3.out.cell (entR_at acc n hlt2) (j := 1) rfl
        have a2 := HE3.out.cell (entR_at acc n hlt2) (j := 2) rfl
        have a3 := HE3.out.cell (entR_at acc n hlt2) (j := 3) rfl
        have a4 := HE3.out.cell (entR_at acc n hlt2) (j := 4) rfl
        have a5 := HE3.out.cell (entR_at acc n hlt2) (j := 5) rfl
        have a6 := HE3.out.cell (entR_at acc n hlt2) (j := 6) rfl
        have a7 := HE3.out.cell (entR_at acc n hlt2) (j := 7) rfl
        have fa := HE3.out.fz
        clear hr ho hy
        go_wp2_with fail
        obtain rfl : y = entE s' := HY.out
        have hw1 := HG.out.1
        go_roundw
        case rel =>
          refine ⟨acc ++ [entE s'], entS s', by simp, by simp; omega, lhid ?_, lhid ?_, lhid ?_, HL2⟩
          · refine Rdr.alloc ?_ _
            repeat (refine Rdr.other ?_ (by dsimp only; omega) _)
            exact HR3.out
          · rw [← entR_set acc n hlt2]
            exact (HE3.out.put acc.length (by rw [entR_len acc n hle]; exact hlt2) (entV (entE s')) rfl).alloc _
          · refine Only.alloc ?_ _
            repeat (refine Only.setCell ?_ (.inr hw1) _)
            exact HO3.out
        case measure => simp [intOf]; omega
      · have hxp : 0 < entX s' := by omega
        have HL2 : Hid (r = (entX s', [], entS s')) := lhid (by
          rw [← HL.out, show n - acc.length = n - acc.length - 1 + 1 by omega, rdEnts_no _ _ _ hx])
        obtain ⟨x, hxx⟩ : ∃ x, entX s' = x := ⟨_, rfl⟩
        rw [hxx] at hxp hx
        have HXX := lhid hxx
        have hx0 : ((x : Int) != 0) = true := by rw [bne_iff_ne]; omega
        have hx1 : ((x : Int) == 0) = false := by rw [beq_eq_false_iff_ne]; omega
        clear hxx hx
        go_wp2_with fail
        with_reducible refine (readEntry_any R s' _ HR2.out).mono ?_
        rintro e w3 ⟨⟨y, rfl, hy⟩, hr, ho⟩
        rw [HXX.out]
        have HR3 := lhid hr
        have HO3 := lhid (HO.out.trans ho)
        clear hr ho hy
        go_wp2_with fail
        go_ret2
        rw [HL2.out]
        refine ⟨?_, HR3.out.alloc _, HO3.out.alloc _⟩
        rw [if_neg (by show entX s' ≠ 0; rw [HXX.out]; omega)]
        show _ = Ending.returned (.tuple #[.slice none 0 0, .int .i64 (entX s')])
        rw [HXX.out]
        rfl
    · have he : acc.length = n := by omega
      have HF : Hid (r = (0, acc, s')) := lhid (by rw [← HL.out, he, Nat.sub_self]; rfl)
      have HE2 : Hid (RowsAt wr w1.heap.size 64 8 (acc.map entV)) := lhid (by rw [← entR_full acc n he]; exact HE.out)
      have HEN := lhid he
      clear he
      go_wp2_with fail
      go_ret2
      rw [HF.out]
      refine ⟨?_, HR2.out, HO.out⟩
      rw [if_pos rfl]
      refine ⟨w1.heap.size, ?_, HG.out.1, HE2.out⟩
      show _ = Ending.returned (.tuple #[.slice (some ⟨w1.heap.size, 0, none⟩) acc.length acc.length, .int .i64 0])
      rw [HEN.out]
      rfl

set_option maxHeartbeats 2000000 in
set_option maxRecDepth 100000 in
theorem readEntries_end (R : Nat) (s : St) (w : World) (h : Rdr w R s) (hb : (numS s 2).2 = true) :
    Calls Try.prog 22 #[.pointer (some ⟨R, 0, none⟩)] w (EntsOut R s w) := by
  have HR := lhid h
  have HB := lhid hb
  have HH : Hid (rdHead s = (11, [], numS s 2)) := lhid (by unfold rdHead; rw [hb]; rfl)
  clear h hb
  go_enter Try.func22, Try.ntmps22
  go_wp2_with fail
  with_reducible refine (num_any R s 2 _ HR.out).mono ?_
  rintro e w1 ⟨rfl, hr, ho⟩
  have HR1 := lhid hr
  have HO1 := lhid ho
  clear hr ho
  go_wp2_with fail
  with_reducible refine (cutOff_any R _ true _ HR1 HB).mono ?_
  rintro e w2 ⟨rfl, q, rfl⟩
  go_wp2_with fail
  go_ret2
  unfold EntsOut
  rw [HH.out]
  exact ⟨rfl, HR1.out, HO1.out.drewN q⟩
set_option maxHeartbeats 2000000 in
set_option maxRecDepth 100000 in
theorem readEntries_many (R : Nat) (s : St) (w : World) (h : Rdr w R s) (hb : (numS s 2).2 = false) (hn : numN s 2 = 0 ∨ 1000 < numN s 2) :
    Calls Try.prog 22 #[.pointer (some ⟨R, 0, none⟩)] w (EntsOut R s w) := by
  have HR := lhid h
  have HB := lhid hb
  have HH : Hid (rdHead s = (12, [], numS s 2)) := lhid (by unfold rdHead; rw [hb, if_neg (by simp), if_pos hn])
  have hl := num2_lt s
  obtain ⟨n, hnn⟩ : ∃ n, numN s 2 = n := ⟨_, rfl⟩
  rw [hnn] at hn hl
  have HN := lhid hnn
  clear h hb hnn
  have hwrap : wrap64 (n : Int) = n := IntWalk.wrap64_in _ (by omega)
  rcases hn with rfl | hn
  · go_enter Try.func22, Try.ntmps22
    go_wp2_with fail
    with_reducible refine (num_any R s 2 _ HR.out).mono ?_
    rintro e w1 ⟨rfl, hr, ho⟩
    rw [HN.out]
    have HR1 := lhid hr
    have HO1 := lhid ho
    clear hr ho
    go_wp2_with fail
    with_reducible refine (cutOff_any R _ false _ HR1 HB).mono ?_
    rintro e w2 ⟨rfl, q, rfl⟩
    go_wp2_with fail
    go_ret2
    unfold EntsOut
    rw [HH.out]
    exact ⟨rfl, HR1.out, HO1.out.drewN q⟩
  · have c2 : (1000 : Int) < n := by omega
    have c1 : ¬ (n : Int) < 1 := by omega
    go_enter Try.func22, Try.ntmps22
    go_wp2_with fail
    with_reducible refine (num_any R s 2 _ HR.out).mono ?_
    rintro e w1 ⟨rfl, hr, ho⟩
    rw [HN.out]
    have HR1 := lhid hr
    have HO1 := lhid ho
    clear hr ho
    go_wp2_with fail
    with_reducible refine (cutOff_any R _ false _ HR1 HB).mono ?_
    rintro e w2 ⟨rfl, q, rfl⟩
    go_wp2_with fail
    go_ret2
    unfold EntsOut
    rw [HH.out]
    exact ⟨rfl, HR1.out, HO1.out.drewN q⟩
theorem readEntries_any (R : Nat) (s : St) (w : World) (h : Rdr w R s) :
    Calls Try.prog 22 #[.pointer (some ⟨R, 0, none⟩)] w (EntsOut R s w) := by
  cases hb : (numS s 2).2
  · by_cases hn : numN s 2 = 0 ∨ 1000 < numN s 2
    · exact readEntries_many R s w h hb hn
    · have := readEntries_main R s w h _ rfl (by omega) (by omega) hb _ rfl
      have hh : rdHead s = rdEnts (numN s 2 - 1) (numS s 2) [Ent.zero] := by unfold rdHead; rw [hb, if_neg (by simp), if_neg hn]
      rw [← hh] at this
      exact this
  · exact readEntries_end R s w h hb
end Go.Proofs.Ytogbieehpppnaaa
