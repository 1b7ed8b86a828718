/- Contracts of the parser's small readers. Written by gen_file1.py. -/
import Derived.Test.YtgihfcimngogfaaGreatJFileBase
import Derived.Test.YtgihfcimngogfaaGreatM5
namespace Go.Proofs.YtgihfcimngogfaaGreat
open Go.RowKit Go
set_option linter.unusedVariables false
theorem number_k (P R g cf : Nat) (L : List Con) (s : Bs) (n : Nat) (m : Int) (w : World) (h : Hid (Rdy w P R g L cf s)) (h1 : 1 ≤ n) (h2 : n ≤ 2) (hm : Hid (m = n)) :
  Calls Tryz.prog 108 #[.pointer (some ⟨P, 0, none⟩), .int .i64 m] w (Out P R g L cf IntV (numP n s) w) := by
 rw [hm.out]
 exact number_any P R g cf L s n w h h1 h2
theorem numP_16 {n : Nat} {s r : Bs} {k : Nat} (h2 : n ≤ 2) (h : numP n s = .ok k r) : k < 65536 := by
 have h3 := (numP_lt h).1
 have h4 := pow_mono n 2 h2
 omega
set_option maxHeartbeats 4000000 in
set_option maxRecDepth 100000 in
theorem count_any (P R g cf : Nat) (L : List Con) (s : Bs) (n most : Nat) (h1 : 1 ≤ n) (h2 : n ≤ 2) (w : World) (h : Hid (Rdy w P R g L cf s)) :
  Calls Tryz.prog 88 #[.pointer (some ⟨P, 0, none⟩), .int .i64 n, .int .i64 most] w (Out P R g L cf IntV (cntP n most s) w) := by
 go_enter Tryz.func88, Tryz.ntmps88
 go_wp2_with fail
 with_reducible refine (number_any P R g cf L s n _ h h1 h2).mono ?_
 rintro e w1 ho
 have HO1 := lhid ho.1
 cases hp : numP n s with
 | er x =>
  have hx := ho.er hp
  have HP := lhid hp
  clear ho hp
  obtain rfl := hx
  go_wp2_with fail
  exact ⟨rfl, out_er HO1.out (by have hp := HP.out; unfold cntP; rw [hp]; rfl)⟩
 | ok k r =>
  have hx := ho.ok hp
  have HP1 := lhid hp
  clear ho hp
  obtain ⟨v, rfl, rfl, hr⟩ := hx
  have H1 := lhid hr
  clear hr
  by_cases hm : most < k
  ·have hgt : (most : Int) < k := by omega
   go_wp2_with fail
   with_reducible refine (refuse_yes 2 _).mono ?_
   rintro e w2 ⟨rfl, rfl⟩
   go_wp2_with fail
   exact ⟨rfl, out_er HO1.out (by unfold cntP; rw [HP1.out]; simp [Pr.then, hm])⟩
  ·have hgt : ¬ (most : Int) < k := by omega
   go_wp2_with fail
   with_reducible refine (refuse_no 2 _).mono ?_
   rintro e w2 ⟨rfl, rfl⟩
   go_wp2_with fail
   go_ret
   exact out_ok HO1.out (by unfold cntP; rw [HP1.out]; simp only [Pr.then]; rw [if_neg hm]) rfl H1.out
set_option maxHeartbeats 4000000 in
set_option maxRecDepth 100000 in
theorem someFlags_any (P R g cf : Nat) (L : List Con) (s : Bs) (b : Nat) (hb : b < 65536) (w : World) (h : Hid (Rdy w P R g L cf s)) :
  Calls Tryz.prog 85 #[.pointer (some ⟨P, 0, none⟩), .int .i64 b] w (Out P R g L cf IntV (flgP b s) w) := by
 go_enter Tryz.func85, Tryz.ntmps85
 go_wp2_with fail
 with_reducible refine (number_k P R g cf L s 2 2 _ h (by omega) (by omega) (lhid rfl)).mono ?_
 rintro e w1 ho
 have HO1 := lhid ho.1
 cases hp : numP 2 s with
 | er x =>
  have hx := ho.er hp
  have HP := lhid hp
  clear ho hp
  obtain rfl := hx
  go_wp2_with fail
  exact ⟨rfl, out_er HO1.out (by have hp := HP.out; unfold flgP; rw [hp]; rfl)⟩
 | ok k r =>
  have hx := ho.ok hp
  have HP1 := lhid hp
  clear ho hp
  obtain ⟨v, rfl, rfl, hr⟩ := hx
  have H1 := lhid hr
  clear hr
  have h16 := numP_16 (Nat.le_refl 2) HP1.out
  by_cases hm : k &&& b = k
  ·have hz := (bits16 k b h16 hb).2 hm
   have hne : (bits .andNot .i64 (k : Int) (b : Int) != 0) = false := by rw [hz]; rfl
   go_wp2_with fail
   with_reducible refine (refuse_no 22 _).mono ?_
   rintro e w2 ⟨rfl, rfl⟩
   go_wp2_with fail
   go_ret
   exact out_ok HO1.out (by unfold flgP; rw [HP1.out]; simp only [Pr.then]; rw [if_pos hm]) rfl H1.out
  ·have hz : ¬ bits .andNot .i64 (k : Int) (b : Int) = 0 := fun e => hm ((bits16 k b h16 hb).1 e)
   have hne : (bits .andNot .i64 (k : Int) (b : Int) != 0) = true := by rw [bne_iff_ne]; exact hz
   go_wp2_with fail
   with_reducible refine (refuse_yes 22 _).mono ?_
   rintro e w2 ⟨rfl, rfl⟩
   go_wp2_with fail
   exact ⟨rfl, out_er HO1.out (by unfold flgP; rw [HP1.out]; simp only [Pr.then]; rw [if_neg hm])⟩
def ConV (_ : World) (c : Con) (v : Value) : Prop := v = .agg #[.int .i64 c.kind, .int .i64 c.num, .string (tx c.text), .string (tx c.name), .string (tx c.desc)]
set_option maxHeartbeats 4000000 in
set_option maxRecDepth 100000 in
theorem constantAt_any (P R g cf : Nat) (L : List Con) (s : Bs) (i k : Nat) (kk : Int) (w : World) (h : Hid (Rdy w P R g L cf s)) (hkk : Hid (kk = k)) :
  Calls Tryz.prog 126 #[.pointer (some ⟨P, 0, none⟩), .int .i64 i, .int .i64 kk] w (Out P R g L cf ConV (atP L i k s) w) := by
 have c1 := h.out.p.c1
 have hP := h.out.p.lt
 have hG := h.out.p.rows.lt
 have hB := lhid ((Only.refl R w).alloc (.cells #[.int .i64 0, .int .i64 0, .string ⟨#[]⟩, .string ⟨#[]⟩, .string ⟨#[]⟩] 39))
 cases hk : kAt L i k with
 | none =>
  have HA : Hid (atP L i k s = .er 12) := lhid (by unfold atP; rw [hk])
  rcases kAt_none hk with hl | ⟨x, hx, hne⟩
  ·have hge : ¬ ((i : Int) < L.length) := by omega
   have hge2 : (L.length : Int) ≤ i := by omega
   clear hk
   go_enter Tryz.func126, Tryz.ntmps126
   go_wp2_with fail
   with_reducible refine (refuse_yes 12 _).mono ?_
   rintro e w2 ⟨rfl, rfl⟩
   go_wp2_with fail
   exact ⟨rfl, out_er hB.out HA.out⟩
  ·have hlt : (i : Int) < L.length := by have := (List.getElem?_eq_some_iff.1 hx).1; omega
   have hlt2 : ¬ (L.length : Int) ≤ i := by omega
   have hlt3 : i < L.length := by omega
   obtain ⟨a0, a1, a2, a3, a4⟩ := con_at h.out.p.rows hx
   have t1 : ((x.kind : Int) != kk) = true := by rw [bne_iff_ne, hkk.out]; omega
   clear hk hx a1 a2 a3 a4 hne
   go_enter Tryz.func126, Tryz.ntmps126
   go_wp2_with fail
   with_reducible refine (refuse_yes 12 _).mono ?_
   rintro e w2 ⟨rfl, rfl⟩
   go_wp2_with fail
   exact ⟨rfl, out_er hB.out HA.out⟩
 | some x =>
  have HA : Hid (atP L i k s = .ok x s) := lhid (by unfold atP; rw [hk])
  obtain ⟨hx, hxk⟩ := kAt_some hk
  have hlt : (i : Int) < L.length := by have := (List.getElem?_eq_some_iff.1 hx).1; omega
  have hlt2 : ¬ (L.length : Int) ≤ i := by omega
  have hlt3 : i < L.length := by omega
  obtain ⟨a0, a1, a2, a3, a4⟩ := con_at h.out.p.rows hx
  have t1 : ((x.kind : Int) != kk) = false := by rw [bne_eq_false_iff_eq, hkk.out]; omega
  clear hk hx hxk
  go_enter Tryz.func126, Tryz.ntmps126
  go_wp2_with fail
  with_reducible refine (refuse_no 12 _).mono ?_
  rintro e w2 ⟨rfl, rfl⟩
  go_wp2_with fail
  refine bodyPost_ret (v := .agg #[.int .i64 x.kind, .int .i64 x.num, .string (tx x.text), .string (tx x.name), .string (tx x.desc)]) (by simp [results, Tryz.results126, go_sem]) rfl ?_
  exact out_ok ((Only.refl R w).alloc _) HA.out rfl ⟨h.out.p.alloc _, h.out.r.alloc _⟩
theorem field_text (a b c d e : Value) : ∀ w : World, (Instr.field 39 (.agg #[a, b, c, d, e]) 2).run Tryz.prog w = .ok c w := fun _ => by kernel_rfl
set_option maxHeartbeats 4000000 in
set_option maxRecDepth 100000 in
theorem constant_any (P R g cf : Nat) (L : List Con) (s : Bs) (k : Nat) (kk : Int) (w : World) (h : Hid (Rdy w P R g L cf s)) (hkk : Hid (kk = k)) :
  Calls Tryz.prog 109 #[.pointer (some ⟨P, 0, none⟩), .int .i64 kk] w (Out P R g L cf ConV (conP L k s) w) := by
 have HB := lhid ((Only.refl R w).alloc (.cells #[.int .i64 0, .int .i64 0, .string ⟨#[]⟩, .string ⟨#[]⟩, .string ⟨#[]⟩] 39))
 have H0 := lhid (h.out.alloc (.cells #[.int .i64 0, .int .i64 0, .string ⟨#[]⟩, .string ⟨#[]⟩, .string ⟨#[]⟩] 39))
 have HX0 := lhid (heap_alloc_new w (.cells #[.int .i64 0, .int .i64 0, .string ⟨#[]⟩, .string ⟨#[]⟩, .string ⟨#[]⟩] 39))
 have hlts := h.out.lts
 have HN : Hid (w.heap.size ≠ R) := lhid (by omega)
 have HC := lhid hlts
 clear hlts
 go_enter Tryz.func109, Tryz.ntmps109
 go_wp2_with fail
 with_reducible refine (number_k P R g cf L s 2 2 _ H0 (by omega) (by omega) (lhid rfl)).mono ?_
 rintro e w1 ho
 have HO1 := lhid (HB.out.trans ho.1)
 have HX1 := lhid (Only.keep ho.1 HX0.out HN.out)
 cases hp : numP 2 s with
 | er x =>
  have hx := ho.er hp
  have HP := lhid hp
  clear ho hp
  obtain rfl := hx
  go_wp2_with fail
  exact ⟨rfl, out_er HO1.out (by have hp := HP.out; unfold conP; rw [hp]; rfl)⟩
 | ok i r =>
  have hx := ho.ok hp
  have HP1 := lhid hp
  clear ho hp
  obtain ⟨v, rfl, rfl, hr⟩ := hx
  have H1 := lhid hr
  clear hr
  go_wp2_with fail
  with_reducible refine (constantAt_any P R g cf L r i k kk _ H1 hkk).mono ?_
  rintro e w2 ho
  have HO2 := lhid (HO1.out.trans ho.1)
  have HX2 := lhid (Only.keep ho.1 HX1.out HN.out)
  cases hp : atP L i k r with
  | er x =>
   have hx := ho.er hp
   have HP := lhid hp
   clear ho hp
   obtain rfl := hx
   go_wp2_with fail
   exact ⟨rfl, out_er HO2.out (by have hp := HP.out; unfold conP; rw [HP1.out]; exact hp)⟩
  | ok c r2 =>
   have hx := ho.ok hp
   have HP2 := lhid hp
   clear ho hp
   obtain ⟨v, rfl, rfl, hr⟩ := hx
   have H2 := lhid hr
   clear hr
   have p0 := heap_cell (i := 0) HX2.out rfl
   have f0 := heap_thaw HX2.out 0
   have p1 := heap_cell (i := 1) HX2.out rfl
   have f1 := heap_thaw HX2.out 1
   have p2 := heap_cell (i := 2) HX2.out rfl
   have f2 := heap_thaw HX2.out 2
   have p3 := heap_cell (i := 3) HX2.out rfl
   have f3 := heap_thaw HX2.out 3
   have p4 := heap_cell (i := 4) HX2.out rfl
   have f4 := heap_thaw HX2.out 4
   go_wp2_with fail
   refine bodyPost_ret (v := .agg #[.int .i64 c.kind, .int .i64 c.num, .string (tx c.text), .string (tx c.name), .string (tx c.desc)]) (by simp [results, Tryz.results109, go_sem, p0, p1, p2, p3, p4]) rfl ?_
   exact out_ok (((((HO2.out.setCell (.inr (Nat.le_refl _)) _).setCell (.inr (Nat.le_refl _)) _).setCell (.inr (Nat.le_refl _)) _).setCell (.inr (Nat.le_refl _)) _).setCell (.inr (Nat.le_refl _)) _) (by unfold conP; rw [HP1.out]; exact HP2.out) rfl (((((H2.out.cell HC.out _ _).cell HC.out _ _).cell HC.out _ _).cell HC.out _ _).cell HC.out _ _)
set_option maxHeartbeats 4000000 in
set_option maxRecDepth 100000 in
theorem isArray_any (t : Bs) (b : Bool) (w : World) (hn : Hid (namedB t = true)) (hb : Hid ((t.head? == some 91) = b)) :
  Calls Tryz.prog 110 #[.string (tx t)] w fun e w' => e = .returned (.bool b) ∧ w = w' := by
 have he : elemL (tx t).data.toList = if b then t.drop 1 else [] := by
  rw [tx_list]
  unfold elemL
  rw [← hb.out]
  simp
 cases b
 ·have HE := lhid he
  clear he
  go_enter Tryz.func110, Tryz.ntmps110
  go_wp2_with fail
  with_reducible refine (element_any (tx t) _).mono ?_
  rintro e w1 ⟨rfl, rfl⟩
  rw [HE.out]
  go_wp2_with fail
  go_ret
  exact ⟨rfl, rfl⟩
 ·have hne := named_arr hn.out (by simpa using hb.out)
  obtain ⟨c, l, hl⟩ : ∃ c l, t.drop 1 = c :: l := List.exists_cons_of_ne_nil hne
  have HE : Hid (elemL (tx t).data.toList = c :: l) := lhid (by rw [he]; exact hl)
  have hq : ((mk (c :: l)).toList == []) = false := by rw [Lib.toList_data]; rfl
  have hq2 : (mk (c :: l)).toList.isEmpty = false := by rw [Lib.toList_data]; rfl
  clear he hne hl
  go_enter Tryz.func110, Tryz.ntmps110
  go_wp2_with fail
  with_reducible refine (element_any (tx t) _).mono ?_
  rintro e w1 ⟨rfl, rfl⟩
  rw [HE.out]
  generalize mk (c :: l) = q at hq hq2
  go_wp2_with fail
  go_ret
  exact ⟨rfl, rfl⟩
theorem con_named {L : List Con} {s r : Bs} {c : Con} (hg : ∀ c, c ∈ L → GoodC c) (h : conP L 7 s = .ok c r) : namedB c.text = true ∧ c.text.length < 65536 := by
 unfold conP at h
 cases hp : numP 2 s with
 | er x => rw [hp] at h; cases h
 | ok i r1 =>
  rw [hp] at h
  simp only [Pr.then] at h
  unfold atP at h
  cases hk : kAt L i 7 with
  | none => rw [hk] at h; cases h
  | some c' =>
   rw [hk] at h
   cases h
   obtain ⟨h1, h2⟩ := kAt_some hk
   have hgc := hg c (List.mem_of_getElem? h1)
   exact ⟨hgc.named h2, hgc.text⟩
theorem at_named {L : List Con} {i : Nat} {s r : Bs} {c : Con} (hg : ∀ c, c ∈ L → GoodC c) (h : atP L i 7 s = .ok c r) : namedB c.text = true ∧ c.text.length < 65536 := by
 unfold atP at h
 cases hk : kAt L i 7 with
 | none => rw [hk] at h; cases h
 | some c' =>
  rw [hk] at h
  cases h
  obtain ⟨h1, h2⟩ := kAt_some hk
  have hgc := hg c (List.mem_of_getElem? h1)
  exact ⟨hgc.named h2, hgc.text⟩
theorem con_short {L : List Con} {k : Nat} {s r : Bs} {c : Con} (hg : ∀ c, c ∈ L → GoodC c) (h : conP L k s = .ok c r) : c.text.length < 65536 := by
 unfold conP at h
 cases hp : numP 2 s with
 | er x => rw [hp] at h; cases h
 | ok i r1 =>
  rw [hp] at h
  simp only [Pr.then] at h
  unfold atP at h
  cases hk : kAt L i k with
  | none => rw [hk] at h; cases h
  | some c' =>
   rw [hk] at h
   cases h
   obtain ⟨h1, h2⟩ := kAt_some hk
   exact (hg c (List.mem_of_getElem? h1)).text
set_option maxHeartbeats 4000000 in
set_option maxRecDepth 100000 in
theorem className_any (P R g cf : Nat) (L : List Con) (s : Bs) (w : World) (h : Hid (Rdy w P R g L cf s)) :
  Calls Tryz.prog 86 #[.pointer (some ⟨P, 0, none⟩)] w (Out P R g L cf TxtV (clsP L s) w) := by
 go_enter Tryz.func86, Tryz.ntmps86
 go_wp2_with fail
 with_reducible refine (constant_any P R g cf L s 7 7 _ h (lhid rfl)).mono ?_
 rintro e w1 ho
 have HO1 := lhid ho.1
 cases hp : conP L 7 s with
 | er x =>
  have hx := ho.er hp
  have HP := lhid hp
  clear ho hp
  obtain rfl := hx
  go_wp2_with fail
  exact ⟨rfl, out_er HO1.out (by have hp := HP.out; unfold clsP; rw [hp]; rfl)⟩
 | ok c r =>
  have hx := ho.ok hp
  have HP1 := lhid hp
  clear ho hp
  obtain ⟨v, rfl, rfl, hr⟩ := hx
  have H1 := lhid hr
  clear hr
  have hft := field_text (.int .i64 c.kind) (.int .i64 c.num) (.string (tx c.text)) (.string (tx c.name)) (.string (tx c.desc))
  have hnm := con_named h.out.p.good HP1.out
  have HNM := lhid hnm.1
  cases hb : (c.text.head? == some 91)
  ·have HB := lhid hb
   clear hb hnm
   go_wp2_with fail
   with_reducible refine (isArray_any c.text false _ HNM HB).mono ?_
   rintro e w2 ⟨rfl, rfl⟩
   go_wp2_with fail
   with_reducible refine (refuse_no 20 _).mono ?_
   rintro e w2 ⟨rfl, rfl⟩
   go_wp2_with fail
   go_ret
   exact out_ok HO1.out (by unfold clsP; rw [HP1.out]; simp only [Pr.then, flatP]; rw [if_neg (by simpa using HB.out)]) rfl H1.out
  ·have HB := lhid hb
   clear hb hnm
   go_wp2_with fail
   with_reducible refine (isArray_any c.text true _ HNM HB).mono ?_
   rintro e w2 ⟨rfl, rfl⟩
   go_wp2_with fail
   with_reducible refine (refuse_yes 20 _).mono ?_
   rintro e w2 ⟨rfl, rfl⟩
   go_wp2_with fail
   exact ⟨rfl, out_er HO1.out (by unfold clsP; rw [HP1.out]; simp only [Pr.then, flatP]; rw [if_pos (by simpa using HB.out)])⟩
def TxtsV (_ : World) (m : Bs × Bs) (v : Value) : Prop := v = .tuple #[.string (tx m.1), .string (tx m.2)]
set_option maxHeartbeats 4000000 in
set_option maxRecDepth 100000 in
theorem nameAndDescriptor_any (P R g cf : Nat) (L : List Con) (s : Bs) (w : World) (h : Hid (Rdy w P R g L cf s)) :
  Calls Tryz.prog 111 #[.pointer (some ⟨P, 0, none⟩)] w (Out P R g L cf TxtsV (memP L s) w) := by
 go_enter Tryz.func111, Tryz.ntmps111
 go_wp2_with fail
 with_reducible refine (constant_any P R g cf L s 1 1 _ h (lhid rfl)).mono ?_
 rintro e w1 ho
 have HO1 := lhid ho.1
 cases hp : conP L 1 s with
 | er x =>
  have hx := ho.er hp
  have HP := lhid hp
  clear ho hp
  obtain rfl := hx
  go_wp2_with fail
  exact ⟨rfl, out_er HO1.out (by have hp := HP.out; unfold memP; rw [hp]; rfl)⟩
 | ok a r =>
  have hx := ho.ok hp
  have HP1 := lhid hp
  clear ho hp
  obtain ⟨v, rfl, rfl, hr⟩ := hx
  have H1 := lhid hr
  clear hr
  have hft := field_text (.int .i64 a.kind) (.int .i64 a.num) (.string (tx a.text)) (.string (tx a.name)) (.string (tx a.desc))
  go_wp2_with fail
  with_reducible refine (constant_any P R g cf L r 1 1 _ H1 (lhid rfl)).mono ?_
  rintro e w2 ho
  have HO2 := lhid (HO1.out.trans ho.1)
  cases hp : conP L 1 r with
  | er x =>
   have hx := ho.er hp
   have HP := lhid hp
   clear ho hp
   obtain rfl := hx
   go_wp2_with fail
   exact ⟨rfl, out_er HO2.out (by have hp := HP.out; unfold memP; rw [HP1.out]; simp only [Pr.then]; rw [hp])⟩
  | ok b r2 =>
   have hx := ho.ok hp
   have HP2 := lhid hp
   clear ho hp
   obtain ⟨v, rfl, rfl, hr⟩ := hx
   have H2 := lhid hr
   clear hr
   have hft := field_text (.int .i64 b.kind) (.int .i64 b.num) (.string (tx b.text)) (.string (tx b.name)) (.string (tx b.desc))
   go_wp2_with fail
   go_ret2
   exact out_ok (a := (a.text, b.text)) (r := r2) HO2.out (by unfold memP; rw [HP1.out]; simp only [Pr.then]; rw [HP2.out]) rfl H2.out
set_option maxHeartbeats 4000000 in
set_option maxRecDepth 100000 in
theorem methodFits_any (cf f : Nat) (w : World) (h1 : cf < 65536) (h2 : f < 65536) :
  Calls Tryz.prog 115 #[.int .i64 cf, .int .i64 f] w fun e w' => e = .returned (.bool (metFit cf f)) ∧ w = w' := by
 have a1 := and16 f 1024 h2 (by omega)
 have a2 := and16 cf 512 h1 (by omega)
 have a3 := and16 cf 1024 h1 (by omega)
 have a4 := and16 f 8 h2 (by omega)
 have b1 : bits .and .i64 (f : Int) 1024 = ((f &&& 1024 : Nat) : Int) := a1
 have b2 : bits .and .i64 (cf : Int) 512 = ((cf &&& 512 : Nat) : Int) := a2
 have b3 : bits .and .i64 (cf : Int) 1024 = ((cf &&& 1024 : Nat) : Int) := a3
 have b4 : bits .and .i64 (f : Int) 8 = ((f &&& 8 : Nat) : Int) := a4
 clear a1 a2 a3 a4
 unfold metFit
 generalize f &&& 1024 = x1 at *
 generalize cf &&& 512 = x2 at *
 generalize cf &&& 1024 = x3 at *
 generalize f &&& 8 = x4 at *
 by_cases h : x1 = 0
 ·subst h
  by_cases h : x2 = 0
  ·subst h
   go_enter Tryz.func115, Tryz.ntmps115
   go_wp2_with fail
   go_ret
   exact ⟨rfl, rfl⟩
  ·have t : ((x2 : Int) == 0) = false := by rw [beq_eq_false_iff_ne]; omega
   go_enter Tryz.func115, Tryz.ntmps115
   go_wp2_with fail
   go_ret
   exact ⟨rfl, rfl⟩
 ·have t : ((x1 : Int) == 0) = false := by rw [beq_eq_false_iff_ne]; omega
  rw [if_neg h]
  by_cases h3 : x3 = 0
  ·subst h3
   have t2 : (((0 : Nat) : Int) != 0) = false := rfl
   go_enter Tryz.func115, Tryz.ntmps115
   go_wp2_with fail
   go_ret
   exact ⟨rfl, rfl⟩
  ·have t3 : ((x3 : Int) != 0) = true := by rw [bne_iff_ne]; omega
   rw [decide_eq_true h3]
   by_cases h4 : x4 = 0
   ·subst h4
    go_enter Tryz.func115, Tryz.ntmps115
    go_wp2_with fail
    go_ret
    exact ⟨rfl, rfl⟩
   ·have t4 : ((x4 : Int) == 0) = false := by rw [beq_eq_false_iff_ne]; omega
    rw [decide_eq_false h4]
    go_enter Tryz.func115, Tryz.ntmps115
    go_wp2_with fail
    go_ret
    exact ⟨rfl, rfl⟩
end Go.Proofs.YtgihfcimngogfaaGreat
