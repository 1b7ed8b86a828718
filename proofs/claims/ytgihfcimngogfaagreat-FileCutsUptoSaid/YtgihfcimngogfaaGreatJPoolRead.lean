/- Contracts of resolve and Read. -/
import Derived.Test.YtgihfcimngogfaaGreatJPoolMember
import Derived.Test.YtgihfcimngogfaaGreatM2
namespace Go.Proofs.YtgihfcimngogfaaGreat
open Go.RowKit Go
set_option linter.unusedVariables false
theorem res_text (l : List Ent) (x : Ent) (h : x.kind = 7 ∨ x.kind = 8) : resOne l x = resText l x := by unfold resOne; rw [if_pos h]
theorem res_mem (l : List Ent) (x : Ent) (h : x.kind = 9 ∨ x.kind = 10 ∨ x.kind = 11) : resOne l x = resMem l x := by unfold resOne; rw [if_neg (by omega), if_pos h]
theorem res_told (l : List Ent) (x : Ent) (h : x.kind ≠ 7 ∧ x.kind ≠ 8 ∧ x.kind ≠ 9 ∧ x.kind ≠ 10 ∧ x.kind ≠ 11) : resOne l x = (0, ⟨x.kind, x.num, x.text, [], []⟩) := by unfold resOne; rw [if_neg (by omega), if_neg (by omega)]
set_option maxHeartbeats 4000000 in
set_option maxRecDepth 100000 in
theorem resolve_told (g : Nat) (l : List Ent) (n : Nat) (x : Ent) (w : World) (h : x.kind ≠ 7 ∧ x.kind ≠ 8 ∧ x.kind ≠ 9 ∧ x.kind ≠ 10 ∧ x.kind ≠ 11) :
  Calls Tryz.prog 84 #[.slice (some ⟨g, 0, none⟩) n n, .agg #[.int .i64 x.kind, .int .i64 x.num, .string (tx x.text), .string ⟨#[]⟩, .string ⟨#[]⟩, .int .i64 x.a, .int .i64 x.b, .int .i64 x.d]] w (ResOut (resOne l x) w) := by
 have HP := lhid (res_told l x h)
 have t7 : ((x.kind : Int) == 7) = false := by rw [beq_eq_false_iff_ne]; omega
 have t8 : ((x.kind : Int) == 8) = false := by rw [beq_eq_false_iff_ne]; omega
 have t9 : ((x.kind : Int) == 9) = false := by rw [beq_eq_false_iff_ne]; omega
 have t10 : ((x.kind : Int) == 10) = false := by rw [beq_eq_false_iff_ne]; omega
 have t11 : ((x.kind : Int) == 11) = false := by rw [beq_eq_false_iff_ne]; omega
 clear h
 go_enter Tryz.func84, Tryz.ntmps84
 go_wp2_with fail
 refine bodyPost_ret (v := .tuple #[.agg #[.int .i64 x.kind, .int .i64 x.num, .string (tx x.text), .string ⟨#[]⟩, .string ⟨#[]⟩], .int .i64 0]) (by simp [results, Tryz.results84, go_sem]) rfl ?_
 rw [HP.out]
 exact ⟨rfl, ((Below.refl _ _).alloc (Nat.le_refl _) _).alloc (by simp) _⟩
set_option maxHeartbeats 4000000 in
set_option maxRecDepth 100000 in
theorem resolve_text (g : Nat) (l : List Ent) (n : Nat) (x : Ent) (w : World) (h : RowsAt w g 144 8 (l.map entV)) (hn : Hid (l.length = n)) (hs : Hid (ShortL l)) (hk : x.kind = 7 ∨ x.kind = 8) :
  Calls Tryz.prog 84 #[.slice (some ⟨g, 0, none⟩) n n, .agg #[.int .i64 x.kind, .int .i64 x.num, .string (tx x.text), .string ⟨#[]⟩, .string ⟨#[]⟩, .int .i64 x.a, .int .i64 x.b, .int .i64 x.d]] w (ResOut (resOne l x) w) := by
 have HH := lhid h
 have hsz := h.lt
 have HK := lhid hk
 have HP := lhid (res_text l x hk)
 obtain ⟨q, hq⟩ : ∃ q, resText l x = q := ⟨_, rfl⟩
 rw [HP.out, hq]
 have HQ := lhid hq
 clear h hq HP
 have t7 : ((x.kind : Int) == 7) = decide (x.kind = 7) := by rw [Bool.eq_iff_iff, beq_iff_eq, decide_eq_true_eq]; omega
 have t8 : ((x.kind : Int) == 8) = decide (x.kind = 8) := by rw [Bool.eq_iff_iff, beq_iff_eq, decide_eq_true_eq]; omega
 rcases hk with hk | hk
 ·rw [decide_eq_true hk] at t7
  clear hk t8
  go_enter Tryz.func84, Tryz.ntmps84
  go_wp2_with fail
  with_reducible refine (resolveText_any g l n x _ ((HH.out.alloc _).alloc _) hn hs HK.out).mono ?_
  rintro e w1 ⟨rfl, hb⟩
  rw [HQ.out]
  have HB := lhid ((((Below.refl _ w).alloc (Nat.le_refl _) _).alloc (by simp) _).trans (hb.mono (by simp; omega)))
  have HC := lhid (ConAt.below (x := Con.zero) (new_two w _ _) hb (by simp))
  obtain ⟨p0, p1, p2, p3, p4⟩ := HC.out.cells
  have fp := HC.out.thaw
  clear hb
  go_wp2_with fail
  refine bodyPost_ret (v := .tuple #[.agg #[.int .i64 q.2.kind, .int .i64 q.2.num, .string (tx q.2.text), .string (tx q.2.name), .string (tx q.2.desc)], .int .i64 q.1]) (by simp [results, Tryz.results84, go_sem, p0, p1, p2, p3, p4]) rfl ?_
  refine ⟨rfl, ?_⟩
  repeat (refine Below.setCell ?_ (by simp) _)
  exact HB.out
 ·rw [decide_eq_true hk] at t8
  rw [decide_eq_false (by omega)] at t7
  clear hk
  go_enter Tryz.func84, Tryz.ntmps84
  go_wp2_with fail
  with_reducible refine (resolveText_any g l n x _ ((HH.out.alloc _).alloc _) hn hs HK.out).mono ?_
  rintro e w1 ⟨rfl, hb⟩
  rw [HQ.out]
  have HB := lhid ((((Below.refl _ w).alloc (Nat.le_refl _) _).alloc (by simp) _).trans (hb.mono (by simp; omega)))
  have HC := lhid (ConAt.below (x := Con.zero) (new_two w _ _) hb (by simp))
  obtain ⟨p0, p1, p2, p3, p4⟩ := HC.out.cells
  have fp := HC.out.thaw
  clear hb
  go_wp2_with fail
  refine bodyPost_ret (v := .tuple #[.agg #[.int .i64 q.2.kind, .int .i64 q.2.num, .string (tx q.2.text), .string (tx q.2.name), .string (tx q.2.desc)], .int .i64 q.1]) (by simp [results, Tryz.results84, go_sem, p0, p1, p2, p3, p4]) rfl ?_
  refine ⟨rfl, ?_⟩
  repeat (refine Below.setCell ?_ (by simp) _)
  exact HB.out
set_option maxHeartbeats 4000000 in
set_option maxRecDepth 100000 in
theorem resolve_mem (g : Nat) (l : List Ent) (n : Nat) (x : Ent) (w : World) (h : RowsAt w g 144 8 (l.map entV)) (hn : Hid (l.length = n)) (hs : Hid (ShortL l)) (hk : x.kind = 9 ∨ x.kind = 10 ∨ x.kind = 11) :
  Calls Tryz.prog 84 #[.slice (some ⟨g, 0, none⟩) n n, .agg #[.int .i64 x.kind, .int .i64 x.num, .string (tx x.text), .string ⟨#[]⟩, .string ⟨#[]⟩, .int .i64 x.a, .int .i64 x.b, .int .i64 x.d]] w (ResOut (resOne l x) w) := by
 have HH := lhid h
 have hsz := h.lt
 have HP := lhid (res_mem l x hk)
 obtain ⟨q, hq⟩ : ∃ q, resMem l x = q := ⟨_, rfl⟩
 rw [HP.out, hq]
 have HQ := lhid hq
 clear h hq HP
 have t7 : ((x.kind : Int) == 7) = false := by rw [beq_eq_false_iff_ne]; omega
 have t8 : ((x.kind : Int) == 8) = false := by rw [beq_eq_false_iff_ne]; omega
 have t9 : ((x.kind : Int) == 9) = decide (x.kind = 9) := by rw [Bool.eq_iff_iff, beq_iff_eq, decide_eq_true_eq]; omega
 have t10 : ((x.kind : Int) == 10) = decide (x.kind = 10) := by rw [Bool.eq_iff_iff, beq_iff_eq, decide_eq_true_eq]; omega
 have t11 : ((x.kind : Int) == 11) = decide (x.kind = 11) := by rw [Bool.eq_iff_iff, beq_iff_eq, decide_eq_true_eq]; omega
 rcases hk with hk | hk | hk
 ·rw [decide_eq_true hk] at t9
  clear hk t10 t11
  go_enter Tryz.func84, Tryz.ntmps84
  go_wp2_with fail
  with_reducible refine (resolveMember_any g l n x _ ((HH.out.alloc _).alloc _) hn hs).mono ?_
  rintro e w1 ⟨rfl, hb⟩
  rw [HQ.out]
  have HB := lhid ((((Below.refl _ w).alloc (Nat.le_refl _) _).alloc (by simp) _).trans (hb.mono (by simp; omega)))
  have HC := lhid (ConAt.below (x := Con.zero) (new_two w _ _) hb (by simp))
  obtain ⟨p0, p1, p2, p3, p4⟩ := HC.out.cells
  have fp := HC.out.thaw
  clear hb
  go_wp2_with fail
  refine bodyPost_ret (v := .tuple #[.agg #[.int .i64 q.2.kind, .int .i64 q.2.num, .string (tx q.2.text), .string (tx q.2.name), .string (tx q.2.desc)], .int .i64 q.1]) (by simp [results, Tryz.results84, go_sem, p0, p1, p2, p3, p4]) rfl ?_
  refine ⟨rfl, ?_⟩
  repeat (refine Below.setCell ?_ (by simp) _)
  exact HB.out
 ·rw [decide_eq_false (by omega)] at t9
  rw [decide_eq_true hk] at t10
  clear hk t11
  go_enter Tryz.func84, Tryz.ntmps84
  go_wp2_with fail
  with_reducible refine (resolveMember_any g l n x _ ((HH.out.alloc _).alloc _) hn hs).mono ?_
  rintro e w1 ⟨rfl, hb⟩
  rw [HQ.out]
  have HB := lhid ((((Below.refl _ w).alloc (Nat.le_refl _) _).alloc (by simp) _).trans (hb.mono (by simp; omega)))
  have HC := lhid (ConAt.below (x := Con.zero) (new_two w _ _) hb (by simp))
  obtain ⟨p0, p1, p2, p3, p4⟩ := HC.out.cells
  have fp := HC.out.thaw
  clear hb
  go_wp2_with fail
  refine bodyPost_ret (v := .tuple #[.agg #[.int .i64 q.2.kind, .int .i64 q.2.num, .string (tx q.2.text), .string (tx q.2.name), .string (tx q.2.desc)], .int .i64 q.1]) (by simp [results, Tryz.results84, go_sem, p0, p1, p2, p3, p4]) rfl ?_
  refine ⟨rfl, ?_⟩
  repeat (refine Below.setCell ?_ (by simp) _)
  exact HB.out
 ·rw [decide_eq_false (by omega)] at t9 t10
  rw [decide_eq_true hk] at t11
  clear hk
  go_enter Tryz.func84, Tryz.ntmps84
  go_wp2_with fail
  with_reducible refine (resolveMember_any g l n x _ ((HH.out.alloc _).alloc _) hn hs).mono ?_
  rintro e w1 ⟨rfl, hb⟩
  rw [HQ.out]
  have HB := lhid ((((Below.refl _ w).alloc (Nat.le_refl _) _).alloc (by simp) _).trans (hb.mono (by simp; omega)))
  have HC := lhid (ConAt.below (x := Con.zero) (new_two w _ _) hb (by simp))
  obtain ⟨p0, p1, p2, p3, p4⟩ := HC.out.cells
  have fp := HC.out.thaw
  clear hb
  go_wp2_with fail
  refine bodyPost_ret (v := .tuple #[.agg #[.int .i64 q.2.kind, .int .i64 q.2.num, .string (tx q.2.text), .string (tx q.2.name), .string (tx q.2.desc)], .int .i64 q.1]) (by simp [results, Tryz.results84, go_sem, p0, p1, p2, p3, p4]) rfl ?_
  refine ⟨rfl, ?_⟩
  repeat (refine Below.setCell ?_ (by simp) _)
  exact HB.out
theorem resolve_any (g : Nat) (l : List Ent) (n : Nat) (x : Ent) (w : World) (h : RowsAt w g 144 8 (l.map entV)) (hn : Hid (l.length = n)) (hs : Hid (ShortL l)) :
  Calls Tryz.prog 84 #[.slice (some ⟨g, 0, none⟩) n n, .agg #[.int .i64 x.kind, .int .i64 x.num, .string (tx x.text), .string ⟨#[]⟩, .string ⟨#[]⟩, .int .i64 x.a, .int .i64 x.b, .int .i64 x.d]] w (ResOut (resOne l x) w) := by
 by_cases h1 : x.kind = 7 ∨ x.kind = 8
 ·exact resolve_text g l n x w h hn hs h1
 by_cases h2 : x.kind = 9 ∨ x.kind = 10 ∨ x.kind = 11
 ·exact resolve_mem g l n x w h hn hs h2
 ·exact resolve_told g l n x w (by omega)
def conR (acc : List Con) (n : Nat) : List (List Value) := (acc ++ List.replicate (n - acc.length) Con.zero).map conV
theorem conR_len (acc : List Con) (n : Nat) (h : acc.length ≤ n) : (conR acc n).length = n := by unfold conR; simp; omega
theorem conR_at (acc : List Con) (n : Nat) (h : acc.length < n) : (conR acc n)[acc.length]? = some (conV Con.zero) := by
 unfold conR
 rw [List.getElem?_map, List.getElem?_append_right (Nat.le_refl _), Nat.sub_self, List.getElem?_replicate, if_pos (by omega)]
 rfl
theorem conR_set (acc : List Con) (n : Nat) (h : acc.length < n) (x : Con) : (conR acc n).set acc.length (conV x) = conR (acc ++ [x]) n := by
 unfold conR
 obtain ⟨m, hm⟩ : ∃ m, n - acc.length = m + 1 := ⟨n - acc.length - 1, by omega⟩
 rw [hm, List.length_append, show n - (acc.length + [x].length) = m by simp; omega, List.replicate_succ, ← List.map_set, List.set_append_right _ _ (Nat.le_refl _), Nat.sub_self, List.set_cons_zero]
 simp
theorem conR_full (acc : List Con) (n : Nat) (h : acc.length = n) : conR acc n = acc.map conV := by
 unfold conR
 rw [h, Nat.sub_self]
 simp
theorem conR_none (n : Nat) : List.replicate n (conV Con.zero) = conR [] n := by
 unfold conR
 simp
theorem infoCon : (Tryz.prog.info? 39).map (fun i => (i.zero, i.size, i.bytes)) = some (some (.agg #[.int .i64 0, .int .i64 0, .string ⟨#[]⟩, .string ⟨#[]⟩, .string ⟨#[]⟩]), 5, 64) := by kernel_rfl
theorem make_cons (n : Nat) (hn : n ≤ 1000) (w : World) :
  (Instr.makeSlice 23 (.int .i64 (n : Int)) (.int .i64 (n : Int))).run Tryz.prog w = .ok (.slice (some ⟨w.heap.size, 0, none⟩) n n) (w.alloc (.cells (madeCells (conV Con.zero).toArray (n * 5)) 39)) := by
 obtain ⟨i0, hi0, hz0, hz1, hz2⟩ := info_parts infoCon
 have h := run_make (P := Tryz.prog) w 23 39 i0 _ Tryz.underlying23 hi0 hz0 .i64 .i64 n n (by omega) (Int.le_refl _) (by rw [hz2]; omega) (by omega)
 rw [h, hz1]
 rfl
def ReadOut (R : Nat) (r : Nat × List Con) (S : St) (w : World) (e : Ending) (w' : World) : Prop :=
 (if r.1 = 0 then ∃ g, e = .returned (.tuple #[.slice (some ⟨g, 0, none⟩) r.2.length r.2.length, .int .i64 0]) ∧ w.heap.size ≤ g ∧ RowsAt w' g 39 5 (r.2.map conV) else e = .returned (.tuple #[.slice none 0 0, .int .i64 r.1])) ∧ Rdr w' R S ∧ Only R w w'
theorem head_short (s : St) (h : (rdHead s).1 = 0) : ShortL (rdHead s).2.1 := by
 obtain ⟨t, h1, _, _, h4⟩ := rdHead_ok s h
 rw [h1]
 intro x hx
 rcases List.mem_cons.1 hx with rfl | hx
 ·exact Nat.zero_lt_succ _
 ·exact (h4 x hx).2
set_option maxHeartbeats 4000000 in
set_option maxRecDepth 100000 in
theorem read_no (R : Nat) (s : St) (w : World) (h : Rdr w R s) (hx : (rdHead s).1 ≠ 0) :
  Calls Tryz.prog 57 #[.pointer (some ⟨R, 0, none⟩)] w (ReadOut R ((rdHead s).1, []) (rdHead s).2.2 w) := by
 have HR := lhid h
 have HX := lhid hx
 obtain ⟨x, hxx⟩ : ∃ x, (rdHead s).1 = x := ⟨_, rfl⟩
 rw [hxx] at hx ⊢
 have HXX := lhid hxx
 have hx0 : ((x : Int) != 0) = true := by rw [bne_iff_ne]; omega
 have hx1 : ((x : Int) == 0) = false := by rw [beq_eq_false_iff_ne]; omega
 have HN := lhid hx
 clear h hxx hx
 go_enter Tryz.func57, Tryz.ntmps57
 go_wp2_with fail
 with_reducible refine (readEntries_any R s _ HR.out).mono ?_
 rintro e w1 ⟨he, hr, ho⟩
 rw [if_neg HX.out, HXX.out] at he
 subst he
 have HR1 := lhid hr
 have HO1 := lhid ho
 clear hr ho
 go_wp2_with fail
 go_ret2
 refine ⟨?_, HR1.out, HO1.out⟩
 rw [if_neg HN.out]
 rfl
set_option maxHeartbeats 4000000 in
set_option maxRecDepth 100000 in
theorem read_yes (R : Nat) (s : St) (w : World) (h : Rdr w R s) (hx : (rdHead s).1 = 0) (r : Nat × List Con) (hr : resAll (rdHead s).2.1 (rdHead s).2.1 [] = r) :
  Calls Tryz.prog 57 #[.pointer (some ⟨R, 0, none⟩)] w (ReadOut R r (rdHead s).2.2 w) := by
 have HR := lhid h
 have HX := lhid hx
 have HRR := lhid hr
 have HS := lhid (head_short s hx)
 have hlt := h.lt
 obtain ⟨l, hl⟩ : ∃ l, (rdHead s).2.1 = l := ⟨_, rfl⟩
 obtain ⟨S, hS⟩ : ∃ S, (rdHead s).2.2 = S := ⟨_, rfl⟩
 have hlen : l.length ≤ 1000 := by
  obtain ⟨t, h1, h2, _⟩ := rdHead_ok s hx
  rw [← hl, h1]
  exact h2
 have HL := lhid hl
 have HSS := lhid hS
 rw [hS]
 have HRR2 : Hid (resAll l l [] = r) := lhid (by rw [← hl]; exact hr)
 have HS2 : Hid (ShortL l) := lhid (by rw [← hl]; exact HS.out)
 obtain ⟨n, hn⟩ : ∃ n, l.length = n := ⟨_, rfl⟩
 have HN := lhid hn
 rw [hn] at hlen
 clear h hx hr HRR HS hl hS hn
 go_enter Tryz.func57, Tryz.ntmps57
 go_wp2_with fail
 with_reducible refine (readEntries_any R s _ HR.out).mono ?_
 rintro e w1 ⟨he, hr, ho⟩
 rw [if_pos HX.out, HL.out, HN.out] at he
 rw [HSS.out] at hr
 obtain ⟨g, rfl, hg, hrows⟩ := he
 have HE1 := lhid hrows
 have HR1 := lhid hr
 have HO1 := lhid ho
 have hgl := hrows.lt
 have HG : Hid (w.heap.size ≤ g ∧ w.heap.size ≤ w1.heap.size) := lhid ⟨hg, ho.size⟩
 have HNE : Hid (g < w1.heap.size ∧ R < w1.heap.size) := lhid ⟨hgl, hr.lt⟩
 clear hrows hr ho hg
 have hmake := make_cons n hlen
 go_wp2_with fail
 clear hmake hgl
 go_loopw [22] (fun i wr => ∃ (acc : List Con), i = .int .i64 acc.length ∧ acc.length ≤ n ∧ Hid (Rdr wr R S) ∧ Hid (RowsAt wr g 144 8 (l.map entV)) ∧ Hid (RowsAt wr w1.heap.size 39 5 (conR acc n)) ∧ Hid (Only R w wr) ∧ Hid (resAll l (l.drop acc.length) acc = r)) (fun i _ => n - (intOf i).toNat)
 case atStart =>
  refine ⟨[], rfl, Nat.zero_le _, lhid (HR1.out.alloc _), lhid (HE1.out.alloc _), lhid ?_, lhid (HO1.out.alloc _), HRR2⟩
  rw [← conR_none n]
  exact RowsAt.made w1 _ 5 n _ (conV Con.zero) rfl rfl (by omega)
 case round =>
  obtain ⟨acc, rfl, hle, HR2, HE, HC, HO, HL2⟩ := hrel
  by_cases hlt2 : acc.length < n
  ·obtain ⟨x, hx⟩ : ∃ x, l[acc.length]? = some x := ⟨_, List.getElem?_eq_getElem (by rw [HN.out]; exact hlt2)⟩
   have hdrop : l.drop acc.length = x :: l.drop (acc.length + 1) := by
    obtain ⟨h1, h2⟩ := List.getElem?_eq_some_iff.1 hx
    rw [List.drop_eq_getElem_cons h1, h2]
   obtain ⟨a0, a1, a2, a3, a4, a5, a6, a7⟩ := rows_at HE.out hx
   have hgs := HE.out.lt
   obtain ⟨q, hq⟩ : ∃ q, resOne l x = q := ⟨_, rfl⟩
   have HQ := lhid hq
   have HD := lhid hdrop
   clear hdrop hx hq
   by_cases hq0 : q.1 = 0
   ·have HL3 : Hid (resAll l (l.drop (acc ++ [q.2]).length) (acc ++ [q.2]) = r) := lhid (by
     rw [← HL2.out, HD.out, resAll_on l x _ acc (by rw [HQ.out]; exact hq0), HQ.out]; simp)
    have HQ0 : Hid ((q.1 : Int) = 0) := lhid (by omega)
    clear hq0
    go_wp2_with fail
    with_reducible refine (resolve_any g l n x _ (HE.out.alloc _) HN HS2).mono ?_
    rintro e w3 ⟨rfl, hb⟩
    rw [HQ.out, HQ0.out]
    have hb0 := ((Below.refl _ wr).alloc (Nat.le_refl _) _).trans (hb.mono (by simp))
    have HE3 := lhid (below_rows HE.out hb0)
    have HC3 := lhid (below_rows HC.out hb0)
    have HR3 : Hid (Rdr w3 R S) := lhid ((hb0.block R HR2.out.lt).trans HR2.out)
    have HO3 := lhid (HO.out.trans (Below.only hb0))
    clear hb hb0 a0 a1 a2 a3 a4 a5 a6 a7 hgs
    have a0 : w3.cell? ⟨w1.heap.size, acc.length * 5, none⟩ = some (.int .i64 0) := HC3.out.cell (conR_at acc n hlt2) (j := 0) rfl
    have a1 := HC3.out.cell (conR_at acc n hlt2) (j := 1) rfl
    have a2 := HC3.out.cell (conR_at acc n hlt2) (j := 2) rfl
    have a3 := HC3.out.cell (conR_at acc n hlt2) (j := 3) rfl
    have a4 := HC3.out.cell (conR_at acc n hlt2) (j := 4) rfl
    have fa := HC3.out.fz
    go_wp2_with fail
    have hw1 := HG.out.2
    have hne := HNE.out
    go_roundw
    case rel =>
     refine ⟨acc ++ [q.2], by simp, by simp; omega, lhid ?_, lhid ?_, lhid ?_, lhid ?_, HL3⟩
     ·repeat (refine Rdr.other ?_ (by dsimp only; omega) _)
      exact HR3.out
     ·repeat (refine RowsAt.other ?_ (by dsimp only; omega) _)
      exact HE3.out
     ·rw [← conR_set acc n hlt2]
      exact HC3.out.put acc.length (by rw [conR_len acc n hle]; exact hlt2) (conV q.2) rfl
     ·repeat (refine Only.setCell ?_ (.inr hw1) _)
      exact HO3.out
    case measure => simp [intOf]; omega
   ·have HL3 : Hid (r = (q.1, [])) := lhid (by
     rw [← HL2.out, HD.out, resAll_no l x _ acc (by rw [HQ.out]; exact hq0), HQ.out])
    have hq1 : ((q.1 : Int) != 0) = true := by rw [bne_iff_ne]; omega
    have hq2 : ((q.1 : Int) == 0) = false := by rw [beq_eq_false_iff_ne]; omega
    have HQ0 := lhid hq0
    clear hq0
    go_wp2_with fail
    with_reducible refine (resolve_any g l n x _ (HE.out.alloc _) HN HS2).mono ?_
    rintro e w3 ⟨rfl, hb⟩
    rw [HQ.out]
    have hb0 := ((Below.refl _ wr).alloc (Nat.le_refl _) _).trans (hb.mono (by simp))
    have HC3 := lhid (below_rows HC.out hb0)
    have HR3 : Hid (Rdr w3 R S) := lhid ((hb0.block R HR2.out.lt).trans HR2.out)
    have HO3 := lhid (HO.out.trans (Below.only hb0))
    clear hb hb0 a0 a1 a2 a3 a4 a5 a6 a7 hgs
    have a0 : w3.cell? ⟨w1.heap.size, acc.length * 5, none⟩ = some (.int .i64 0) := HC3.out.cell (conR_at acc n hlt2) (j := 0) rfl
    have a1 := HC3.out.cell (conR_at acc n hlt2) (j := 1) rfl
    have a2 := HC3.out.cell (conR_at acc n hlt2) (j := 2) rfl
    have a3 := HC3.out.cell (conR_at acc n hlt2) (j := 3) rfl
    have a4 := HC3.out.cell (conR_at acc n hlt2) (j := 4) rfl
    have fa := HC3.out.fz
    go_wp2_with fail
    have hw1 := HG.out.2
    have hne := HNE.out
    go_ret2
    rw [HL3.out]
    refine ⟨?_, ?_, ?_⟩
    ·rw [if_neg HQ0.out]
     rfl
    ·repeat (refine Rdr.other ?_ (by dsimp only; omega) _)
     exact HR3.out
    ·repeat (refine Only.setCell ?_ (.inr hw1) _)
     exact HO3.out
  ·have he : acc.length = n := by omega
   have HF : Hid (r = (0, acc)) := lhid (by
    rw [← HL2.out, he, ← HN.out, List.drop_length]; rfl)
   have HC2 : Hid (RowsAt wr w1.heap.size 39 5 (acc.map conV)) := lhid (by rw [← conR_full acc n he]; exact HC.out)
   have HEN := lhid he
   clear he
   go_wp2_with fail
   go_ret2
   rw [HF.out]
   refine ⟨?_, HR2.out, HO.out⟩
   rw [if_pos rfl]
   refine ⟨w1.heap.size, ?_, HG.out.2, HC2.out⟩
   show _ = Ending.returned (.tuple #[.slice (some ⟨w1.heap.size, 0, none⟩) acc.length acc.length, .int .i64 0])
   rw [HEN.out]
   rfl
theorem read_any (R : Nat) (s : St) (w : World) (h : Rdr w R s) :
  Calls Tryz.prog 57 #[.pointer (some ⟨R, 0, none⟩)] w (ReadOut R (poolX s, poolL s) (poolS s) w) := by
 by_cases hx : (rdHead s).1 = 0
 ·have := read_yes R s w h hx _ rfl
  unfold poolX poolL poolS
  rw [if_neg (by omega), if_neg (by omega)]
  exact this
 ·have := read_no R s w h hx
  unfold poolX poolL poolS
  rw [if_pos hx, if_pos hx]
  exact this
end Go.Proofs.YtgihfcimngogfaaGreat
