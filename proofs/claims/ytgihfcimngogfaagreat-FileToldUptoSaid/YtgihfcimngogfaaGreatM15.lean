/- Texts of this claim, joined: FileFile, FileCatch, FileParse. -/
import Derived.Test.YtgihfcimngogfaaGreatJFileClass
import Derived.Test.YtgihfcimngogfaaGreatJFileTwice
import Derived.Test.YtgihfcimngogfaaGreatM6
import Derived.Defers
import Derived.Recover
import Derived.Laws.Pointers
namespace Go.Proofs.YtgihfcimngogfaaGreat
open Go.RowKit Go
set_option linter.unusedVariables false
def FOut (P R : Nat) (p : Pr Cls) (w : World) (e : Ending) (w' : World) : Prop :=
 Two P R w w' ∧ match p with
 | .ok c r => ∃ v g, e = .returned v ∧ ClsV g w' c v
 | .er x => e = .panicked [pan x]
theorem fout_er {P R : Nat} {p : Pr Cls} {x : Nat} {w w' : World} (ho : Two P R w w') (hp : p = .er x) : FOut P R p w (.panicked [pan x]) w' := by
 subst hp
 exact ⟨ho, rfl⟩
theorem fout_ok {P R g : Nat} {p : Pr Cls} {c : Cls} {r : Bs} {v : Value} {w w' : World} (ho : Two P R w w') (hp : p = .ok c r) (hv : ClsV g w' c v) : FOut P R p w (.returned v) w' := by
 subst hp
 exact ⟨ho, v, g, rfl, hv⟩
theorem Two.trans {P R : Nat} {a b c : World} (h : Two P R a b) (k : Two P R b c) : Two P R a c :=
 ⟨k.os.trans h.os, k.tape.trans h.tape, k.output.trans h.output, Nat.le_trans h.size k.size, fun i hi hr hp => (k.block i (Nat.lt_of_lt_of_le hi h.size) hr hp).trans (h.block i hi hr hp)⟩
theorem two_below {P R : Nat} {a w w' : World} (h : Two P R a w) (hb : Below w.heap.size w w') : Two P R a w' := h.step (Below.only hb)
theorem rows_cells {g b T k : Nat} {rows : List (List Value)} (hn : g ≠ b) : ∀ (vs : List Value) (o : Nat) (w : World), RowsAt w g T k rows → RowsAt (w.setCells b o vs) g T k rows
 | [], _, _, h => h
 | v :: r, o, w, h => by
  rw [World.setCells]
  exact rows_cells hn r (o + 1) _ (h.other hn v)
theorem then_ok_inv {α β : Type} {p : Pr α} {k : α → Bs → Pr β} {b : β} {r : Bs} (h : p.then k = .ok b r) : ∃ a r1, p = .ok a r1 ∧ k a r1 = .ok b r := by
 cases p with
 | ok a r1 => exact ⟨a, r1, rfl, h⟩
 | er x => cases h
theorem manyP_len {α : Type} (p : Bs → Pr α) : ∀ (n : Nat) (s : Bs) (acc l : List α) (r : Bs), manyP p n s acc = .ok l r → l.length = acc.length + n
 | 0, s, acc, l, r, h => by cases h; rfl
 | n + 1, s, acc, l, r, h => by
  rw [manyP] at h
  obtain ⟨a, r1, _, h2⟩ := then_ok_inv h
  have := manyP_len p n _ _ _ _ h2
  rw [this]
  simp
  omega
theorem behP_len {L : List Con} {s r : Bs} {c : Cls} (h : behP L s = .ok c r) : c.fields.length ≤ 60 ∧ c.methods.length ≤ 60 ∧ c.ifaces.length ≤ 8 ∧ c.pool = L := by
 unfold behP at h
 obtain ⟨cf, r1, h1, h⟩ := then_ok_inv h
 split at h
 ·cases h
 obtain ⟨nm, r2, h2, h⟩ := then_ok_inv h
 obtain ⟨sp, r3, h3, h⟩ := then_ok_inv h
 obtain ⟨a, r4, h4, h⟩ := then_ok_inv h
 obtain ⟨is, r5, h5, h⟩ := then_ok_inv h
 obtain ⟨b, r6, h6, h⟩ := then_ok_inv h
 obtain ⟨fs, r7, h7, h⟩ := then_ok_inv h
 obtain ⟨d, r8, h8, h⟩ := then_ok_inv h
 obtain ⟨ms, r9, h9, h⟩ := then_ok_inv h
 cases h
 have e1 := manyP_len _ _ _ _ _ _ h5
 have e2 := manyP_len _ _ _ _ _ _ h7
 have e3 := manyP_len _ _ _ _ _ _ h9
 have c1 := cntP_le h4
 have c2 := cntP_le h6
 have c3 := cntP_le h8
 simp at e1 e2 e3
 exact ⟨by show fs.length ≤ 60; omega, by show ms.length ≤ 60; omega, by show is.length ≤ 8; omega, rfl⟩
theorem magic_bad {s : Bs} (h : s.length < 4 ∨ s.take 4 ≠ [82, 69, 71, 76]) : takeL (s, false) 4 ≠ [82, 69, 71, 76] := by
 by_cases hl : s.length < 4
 ·rw [takeL_no (by simp; omega)]
  simp
 ·rw [takeL_yes (by simp; omega)]
  rcases h with h | h
  ·exact absurd h hl
  ·simpa using h
theorem magic_good {s : Bs} (h : ¬ (s.length < 4 ∨ s.take 4 ≠ [82, 69, 71, 76])) : takeL (s, false) 4 = [82, 69, 71, 76] ∧ takeS (s, false) 4 = (s.drop 4, false) := by
 have h1 : ¬ s.length < 4 := fun e => h (.inl e)
 have h2 : s.take 4 = [82, 69, 71, 76] := by
  by_cases e : s.take 4 = [82, 69, 71, 76]
  ·exact e
  ·exact absurd (.inr e) h
 rw [takeL_yes (by simp; omega), takeS_yes (by simp; omega)]
 exact ⟨by simpa using h2, by simp⟩
set_option maxHeartbeats 16000000 in
set_option maxRecDepth 100000 in
theorem file_any (P R : Nat) (s : Bs) (w : World) (hP : Hid (w.heap[P]? = some (.cells #[.pointer (some ⟨R, 0, none⟩), .slice none 0 0, .int .i64 0] 68 (0, 0)))) (hR : Hid (Rdr w R (s, false))) (hpr : P ≠ R) :
  Calls Tryz.prog 30 #[.pointer (some ⟨P, 0, none⟩)] w (FOut P R (filP s) w) := by
 have c0 := heap_cell (i := 0) hP.out rfl
 have hlt := heap_lt hP.out
 have hrl := hR.out.lt
 have HX0 := lhid (heap_alloc_new w (.cells #[.int .i64 0, .string ⟨#[]⟩, .string ⟨#[]⟩, .slice none 0 0, .slice none 0 0, .slice none 0 0, .slice none 0 0] 27))
 have HXN : Hid (w.heap.size ≠ R) := lhid (by omega)
 have HXP : Hid (w.heap.size ≠ P) := lhid (by omega)
 have HPR := lhid hpr
 have HP0 : Hid ((w.alloc (.cells #[.int .i64 0, .string ⟨#[]⟩, .string ⟨#[]⟩, .slice none 0 0, .slice none 0 0, .slice none 0 0, .slice none 0 0] 27)).heap[P]? = some (.cells #[.pointer (some ⟨R, 0, none⟩), .slice none 0 0, .int .i64 0] 68 (0, 0))) := lhid ((Below.heap_alloc _ _ _ hlt).trans hP.out)
 have HR0 : Hid (Rdr (w.alloc (.cells #[.int .i64 0, .string ⟨#[]⟩, .string ⟨#[]⟩, .slice none 0 0, .slice none 0 0, .slice none 0 0, .slice none 0 0] 27)) R (s, false)) := lhid (hR.out.alloc _)
 have HO0 : Hid (Two P R w (w.alloc (.cells #[.int .i64 0, .string ⟨#[]⟩, .string ⟨#[]⟩, .slice none 0 0, .slice none 0 0, .slice none 0 0, .slice none 0 0] 27))) := lhid ((Two.refl P R w).alloc _)
 by_cases hm : s.length < 4 ∨ s.take 4 ≠ [82, 69, 71, 76]
 ·have hb := magic_bad hm
  have HM : Hid (filP s = .er 10) := lhid (by unfold filP; rw [if_pos hm])
  generalize htk : takeL (s, false) 4 = tk at hb
  have HTK := lhid htk
  have hq : ((tx tk).toList == [82, 69, 71, 76]) = false := by rw [tx_toList, beq_eq_false_iff_ne]; exact hb
  clear hm hb htk
  go_enter Tryz.func30, Tryz.ntmps30
  go_wp2_with fail
  with_reducible refine (take_any R (s, false) 4 _ HR0.out).mono ?_
  rintro e w1 ⟨rfl, hr, ho⟩
  rw [HTK.out]
  have HO1 := lhid (HO0.out.step ho)
  clear hr ho
  go_wp2_with fail
  with_reducible refine (refuse_yes 10 _).mono ?_
  rintro e wz ⟨rfl, rfl⟩
  go_wp2_with fail
  exact ⟨rfl, fout_er HO1.out HM.out⟩
 ·have hg := magic_good hm
  have HTK := lhid hg.1
  have HTS := lhid hg.2
  have HMG := lhid hm
  have hq : ((tx [82, 69, 71, 76]).toList == [82, 69, 71, 76]) = true := by rw [tx_toList]; rfl
  clear hm hg
  generalize htk : tx [82, 69, 71, 76] = tk at hq
  go_enter Tryz.func30, Tryz.ntmps30
  go_wp2_with fail
  with_reducible refine (take_any R (s, false) 4 _ HR0.out).mono ?_
  rintro e w1 ⟨rfl, hr, ho⟩
  rw [HTK.out, htk]
  rw [HTS.out] at hr
  have HR1 := lhid hr
  have HO1 := lhid (HO0.out.step ho)
  have HX1 := lhid (ho.keep HX0.out HXN.out)
  have HP1 := lhid (ho.keep HP0.out HPR.out)
  have d0 := heap_cell (i := 0) HP1.out rfl
  clear hr ho htk c0
  go_wp2_with fail
  with_reducible refine (refuse_no 10 _).mono ?_
  rintro e wz ⟨rfl, rfl⟩
  by_cases hx : poolX (s.drop 4, false) = 0
  case neg =>
   obtain ⟨x, hxx⟩ : ∃ x, poolX (s.drop 4, false) = x := ⟨_, rfl⟩
   have hx0 : x ≠ 0 := by rw [← hxx]; exact hx
   have HX := lhid hxx
   have t1 : ((x : Int) != 0) = true := by rw [bne_iff_ne]; omega
   have HM : Hid (filP s = .er x) := lhid (by unfold filP; rw [if_neg HMG.out, if_pos hx, hxx])
   clear hx hxx
   go_wp2_with fail
   with_reducible refine (read_err R (s.drop 4, false) x _ HR1 HX hx0).mono ?_
   rintro e w2 ⟨rfl, hr, ho⟩
   have HO2 := lhid (HO1.out.step ho)
   clear hr ho
   go_wp2_with fail
   with_reducible refine (refuse_yes x _).mono ?_
   rintro e wz ⟨rfl, rfl⟩
   go_wp2_with fail
   exact ⟨rfl, fout_er HO2.out HM.out⟩
  case pos =>
   obtain ⟨L, hL⟩ : ∃ L, poolL (s.drop 4, false) = L := ⟨_, rfl⟩
   obtain ⟨r0, hr0⟩ : ∃ r0, (poolS (s.drop 4, false)).1 = r0 := ⟨_, rfl⟩
   have hps : poolS (s.drop 4, false) = (r0, false) := by rw [← hr0]; exact Prod.ext rfl (poolS_whole hx)
   have hgood := poolL_good hx
   have hsmall := poolL_small hx
   rw [hL] at hgood hsmall
   have HX := lhid hx
   have HL := lhid hL
   have HPS := lhid hps
   have HGOOD := lhid hgood
   have HSMALL := lhid hsmall
   have HF : Hid (filP s = (behP L r0).then endC) := lhid (by unfold filP; rw [if_neg HMG.out, if_neg (by rw [hx]; simp), hL, hr0])
   clear hx hL hr0 hps hgood hsmall
   go_wp2_with fail
   with_reducible refine (read_ok R (s.drop 4, false) L _ HR1 HX HL).mono ?_
   rintro e w2 ⟨⟨g, rfl, hg, hrows⟩, hr, ho⟩
   rw [HPS.out] at hr
   have HR2 := lhid hr
   have HO2 := lhid (HO1.out.step ho)
   have HX2 := lhid (ho.keep HX1.out HXN.out)
   have HP2 := lhid (ho.keep HP1.out HPR.out)
   have HG : Hid (g ≠ R ∧ g ≠ P ∧ g ≠ w.heap.size) := lhid ⟨by have := HR1.out.lt; omega, by have := heap_lt HP1.out; omega, by have := heap_lt HX1.out; omega⟩
   have HROWS := lhid hrows
   have e0 := heap_cell (i := 0) HP2.out rfl
   have e1 := heap_cell (i := 1) HP2.out rfl
   have ez := heap_thaw HP2.out 1
   clear hr ho hg hrows d0
   go_wp2_with fail
   with_reducible refine (refuse_no 0 _).mono ?_
   rintro e wz ⟨rfl, rfl⟩
   have HP3 := lhid (heap_set (i := 1) HP2.out (.slice (some ⟨g, 0, none⟩) L.length L.length))
   have HR3 : Hid (Rdy (w2.setCell ⟨P, 1, none⟩ (.slice (some ⟨g, 0, none⟩) L.length L.length)) P R g L 0 r0) := lhid ⟨⟨HP3.out, HROWS.out.other HG.out.2.1 _, HPR.out, HG.out.1, HGOOD.out, HSMALL.out, by omega⟩, HR2.out.other (by exact fun e => HPR.out e.symm) _⟩
   have HX3 : Hid ((w2.setCell ⟨P, 1, none⟩ (.slice (some ⟨g, 0, none⟩) L.length L.length)).heap[w.heap.size]? = some (.cells #[.int .i64 0, .string ⟨#[]⟩, .string ⟨#[]⟩, .slice none 0 0, .slice none 0 0, .slice none 0 0, .slice none 0 0] 27)) := lhid ((Below.heap_setCell _ _ _ _ HXP.out).trans HX2.out)
   have HO3 := lhid (HO2.out.setCell (p := ⟨P, 1, none⟩) (.inl (.inr rfl)) (.slice (some ⟨g, 0, none⟩) L.length L.length))
   go_wp2_with fail
   with_reducible refine (class_any P R g 0 L r0 _ HR3).mono ?_
   rintro e w4 ho
   have HO4 := lhid (show Two P R w w4 from HO3.out.trans ho.1)
   have HX4 := lhid (ho.1.keep HX3.out HXN.out HXP.out)
   cases hp : behP L r0 with
   | er x =>
    have hx := ho.2
    rw [hp] at hx
    have HBP := lhid hp
    clear ho hp
    obtain rfl := hx
    go_wp2_with fail
    exact ⟨rfl, fout_er HO4.out (by rw [HF.out, HBP.out]; rfl)⟩
   | ok c r =>
    have hx := ho.2
    rw [hp] at hx
    have HBP := lhid hp
    clear ho hp
    obtain ⟨v, cf, rfl, ⟨a, b, d, rfl, h1, h2, h3, h4⟩, hr⟩ := hx
    obtain ⟨aA, ac, rfl⟩ := slO_shape h1
    obtain ⟨bA, bc, rfl⟩ := slO_shape h3
    obtain ⟨dA, dc, rfl⟩ := slO_shape h4
    have HR4 := lhid hr
    have e0 := hr.p.c0
    have hpl := hr.p.lt
    have HC5 := lhid (heap_alloc_new w4 (.cells #[.int .i64 c.flags, .string (tx c.name), .string (tx c.super), .slice aA c.ifaces.length ac, .slice (some ⟨g, 0, none⟩) c.pool.length c.pool.length, .slice bA c.fields.length bc, .slice dA c.methods.length dc] 27))
    have HS5 := lhid (strs_alloc h1 (.cells #[.int .i64 c.flags, .string (tx c.name), .string (tx c.super), .slice aA c.ifaces.length ac, .slice (some ⟨g, 0, none⟩) c.pool.length c.pool.length, .slice bA c.fields.length bc, .slice dA c.methods.length dc] 27))
    have HW5 := lhid (h2.alloc (.cells #[.int .i64 c.flags, .string (tx c.name), .string (tx c.super), .slice aA c.ifaces.length ac, .slice (some ⟨g, 0, none⟩) c.pool.length c.pool.length, .slice bA c.fields.length bc, .slice dA c.methods.length dc] 27))
    have HF5 := lhid (flds_alloc h3 (.cells #[.int .i64 c.flags, .string (tx c.name), .string (tx c.super), .slice aA c.ifaces.length ac, .slice (some ⟨g, 0, none⟩) c.pool.length c.pool.length, .slice bA c.fields.length bc, .slice dA c.methods.length dc] 27))
    have HM5 := lhid (mets_alloc h4 (.cells #[.int .i64 c.flags, .string (tx c.name), .string (tx c.super), .slice aA c.ifaces.length ac, .slice (some ⟨g, 0, none⟩) c.pool.length c.pool.length, .slice bA c.fields.length bc, .slice dA c.methods.length dc] 27))
    have HX5 := lhid ((Below.heap_alloc w4 (.cells #[.int .i64 c.flags, .string (tx c.name), .string (tx c.super), .slice aA c.ifaces.length ac, .slice (some ⟨g, 0, none⟩) c.pool.length c.pool.length, .slice bA c.fields.length bc, .slice dA c.methods.length dc] 27) _ (heap_lt HX4.out)).trans HX4.out)
    have HR5 : Hid (Rdr (w4.alloc (.cells #[.int .i64 c.flags, .string (tx c.name), .string (tx c.super), .slice aA c.ifaces.length ac, .slice (some ⟨g, 0, none⟩) c.pool.length c.pool.length, .slice bA c.fields.length bc, .slice dA c.methods.length dc] 27)) R (r, false)) := lhid (hr.r.alloc _)
    have HO5 := lhid (HO4.out.alloc (.cells #[.int .i64 c.flags, .string (tx c.name), .string (tx c.super), .slice aA c.ifaces.length ac, .slice (some ⟨g, 0, none⟩) c.pool.length c.pool.length, .slice bA c.fields.length bc, .slice dA c.methods.length dc] 27))
    have HCN : Hid (w4.heap.size ≠ w.heap.size) := lhid (Nat.ne_of_gt (heap_lt HX4.out))
    clear h1 h2 h3 h4 hr
    go_wp2_with fail
    with_reducible refine (left_r R (r, false) r.length true _ HR5 (lhid rfl) (lhid rfl)).mono ?_
    rintro e w5 ⟨rfl, n5, rfl⟩
    cases r with
    | cons c1 r1 =>
     have t1 : 0 < (c1 :: r1 : Bs).length := by simp
     generalize hrl : (c1 :: r1 : Bs).length = rl at t1
     have HM : Hid (filP s = .er 11) := lhid (by rw [HF.out, HBP.out]; rfl)
     go_wp2_with fail
     with_reducible refine (refuse_yes 11 _).mono ?_
     rintro e wz ⟨rfl, rfl⟩
     go_wp2_with fail
     exact ⟨rfl, fout_er (HO5.out.drewN n5) HM.out⟩
    | nil =>
     have t1 : ¬ (0 : Int) < (([] : Bs).length : Nat) := by simp
     go_wp2_with fail
     with_reducible refine (refuse_no 11 _).mono ?_
     rintro e wz ⟨rfl, rfl⟩
     have hlen := behP_len HBP.out
     have hl1 := hlen.1
     have hl2 := hlen.2.1
     clear hlen
     have g5 := heap_cell (i := 5) HC5.out rfl
     go_wp2_with fail
     with_reducible refine (fieldKeys_any c.fields _ _ (lhid (flds_drewN HF5.out n5)) hl1).mono ?_
     rintro e w6 ⟨kv, rfl, hk, hb⟩
     have HK6 := lhid hk
     have HO6 := lhid (two_below (HO5.out.drewN n5) hb)
     have HC6 := lhid ((hb.block _ (heap_lt HC5.out)).trans HC5.out)
     have HX6 := lhid ((hb.block _ (heap_lt HX5.out)).trans HX5.out)
     have HS6 := lhid (strs_stay (Ts := tC) (by simp [tC, tM, tF]) (strs_drewN HS5.out n5) (Stay.below hb))
     have HF6 := lhid (flds_stay (Ts := tC) (by simp [tC]) (flds_drewN HF5.out n5) (Stay.below hb))
     have HM6 := lhid (mets_stay (fun _ h => h) (mets_drewN HM5.out n5) (Stay.below hb))
     have HW6 := lhid (below_rows (HW5.out.drewN n5) hb)
     clear hk hb g5
     obtain ⟨kA, kc, rfl⟩ := slO_shape HK6.out
     have HK6b : Hid (KeysO w6 (.slice kA c.fields.length kc) (c.fields.map (fun f : Fld => (f.name, ([] : Bs))))) := lhid (by have := HK6.out; rwa [List.length_map] at this)
     go_wp2_with fail
     with_reducible refine (anyTwice_any _ _ _ HK6b (by simpa using hl1)).mono ?_
     rintro e w7 ⟨rfl, hb⟩
     have HO7 := lhid (two_below HO6.out hb)
     have HC7 := lhid ((hb.block _ (heap_lt HC6.out)).trans HC6.out)
     have HX7 := lhid ((hb.block _ (heap_lt HX6.out)).trans HX6.out)
     have HS7 := lhid (strs_stay (Ts := tC) (by simp [tC, tM, tF]) HS6.out (Stay.below hb))
     have HF7 := lhid (flds_stay (Ts := tC) (by simp [tC]) HF6.out (Stay.below hb))
     have HM7 := lhid (mets_stay (fun _ h => h) HM6.out (Stay.below hb))
     have HW7 := lhid (below_rows HW6.out hb)
     clear hb
     have hfk : twiceB (c.fields.map (fun f : Fld => (f.name, ([] : Bs)))) = twiceB (fKeys c) := rfl
     rw [hfk]
     clear hfk
     have HE : Hid (filP s = endC c []) := lhid (by rw [HF.out, HBP.out]; rfl)
     have g6 := heap_cell (i := 6) HC7.out rfl
     cases ht : twiceB (fKeys c) with
     | true =>
      have HM : Hid (filP s = .er 23) := lhid (by rw [HE.out]; unfold endC; rw [ht]; rfl)
      clear ht
      go_wp2_with fail
      with_reducible refine (refuse_yes 23 _).mono ?_
      rintro e wz ⟨rfl, rfl⟩
      go_wp2_with fail
      exact ⟨rfl, fout_er HO7.out HM.out⟩
     | false =>
      have HT := lhid ht
      clear ht
      go_wp2_with fail
      with_reducible refine (methodKeys_any c.methods _ _ HM7 hl2).mono ?_
      rintro e w8 ⟨kv, rfl, hk, hb⟩
      have HK8 := lhid hk
      have HO8 := lhid (two_below HO7.out hb)
      have HC8 := lhid ((hb.block _ (heap_lt HC7.out)).trans HC7.out)
      have HX8 := lhid ((hb.block _ (heap_lt HX7.out)).trans HX7.out)
      have HS8 := lhid (strs_stay (Ts := tC) (by simp [tC, tM, tF]) HS7.out (Stay.below hb))
      have HF8 := lhid (flds_stay (Ts := tC) (by simp [tC]) HF7.out (Stay.below hb))
      have HM8 := lhid (mets_stay (fun _ h => h) HM7.out (Stay.below hb))
      have HW8 := lhid (below_rows HW7.out hb)
      clear hk hb g6
      obtain ⟨kA2, kc2, rfl⟩ := slO_shape HK8.out
      have HK8b : Hid (KeysO w8 (.slice kA2 c.methods.length kc2) (c.methods.map (fun m : Met => (m.name, m.desc)))) := lhid (by have := HK8.out; rwa [List.length_map] at this)
      go_wp2_with fail
      with_reducible refine (anyTwice_any _ _ _ HK8b (by simpa using hl2)).mono ?_
      rintro e w9 ⟨rfl, hb⟩
      have HO9 := lhid (two_below HO8.out hb)
      have HC9 := lhid ((hb.block _ (heap_lt HC8.out)).trans HC8.out)
      have HX9 := lhid ((hb.block _ (heap_lt HX8.out)).trans HX8.out)
      have HS9 := lhid (strs_stay (Ts := tC) (by simp [tC, tM, tF]) HS8.out (Stay.below hb))
      have HF9 := lhid (flds_stay (Ts := tC) (by simp [tC]) HF8.out (Stay.below hb))
      have HM9 := lhid (mets_stay (fun _ h => h) HM8.out (Stay.below hb))
      have HW9 := lhid (below_rows HW8.out hb)
      clear hb
      have hfk : twiceB (c.methods.map (fun m : Met => (m.name, m.desc))) = twiceB (mKeys c) := rfl
      rw [hfk]
      clear hfk
      cases ht : twiceB (mKeys c) with
      | true =>
       have HM : Hid (filP s = .er 23) := lhid (by rw [HE.out]; unfold endC; rw [HT.out, ht]; rfl)
       clear ht
       go_wp2_with fail
       with_reducible refine (refuse_yes 23 _).mono ?_
       rintro e wz ⟨rfl, rfl⟩
       go_wp2_with fail
       exact ⟨rfl, fout_er HO9.out HM.out⟩
      | false =>
       have HM : Hid (filP s = .ok c []) := lhid (by rw [HE.out]; unfold endC; rw [HT.out, ht]; rfl)
       clear ht
       go_wp2_with fail
       with_reducible refine (refuse_no 23 _).mono ?_
       rintro e wz ⟨rfl, rfl⟩
       have q0 := heap_cell (i := 0) HC9.out rfl
       have p0 := heap_cell (i := 0) HX9.out rfl
       have z0 := heap_thaw HX9.out 0
       have q1 := heap_cell (i := 1) HC9.out rfl
       have p1 := heap_cell (i := 1) HX9.out rfl
       have z1 := heap_thaw HX9.out 1
       have q2 := heap_cell (i := 2) HC9.out rfl
       have p2 := heap_cell (i := 2) HX9.out rfl
       have z2 := heap_thaw HX9.out 2
       have q3 := heap_cell (i := 3) HC9.out rfl
       have p3 := heap_cell (i := 3) HX9.out rfl
       have z3 := heap_thaw HX9.out 3
       have q4 := heap_cell (i := 4) HC9.out rfl
       have p4 := heap_cell (i := 4) HX9.out rfl
       have z4 := heap_thaw HX9.out 4
       have q5 := heap_cell (i := 5) HC9.out rfl
       have p5 := heap_cell (i := 5) HX9.out rfl
       have z5 := heap_thaw HX9.out 5
       have q6 := heap_cell (i := 6) HC9.out rfl
       have p6 := heap_cell (i := 6) HX9.out rfl
       have z6 := heap_thaw HX9.out 6
       go_wp2_with fail
       refine bodyPost_ret (v := .agg #[.int .i64 c.flags, .string (tx c.name), .string (tx c.super), .slice aA c.ifaces.length ac, .slice (some ⟨g, 0, none⟩) c.pool.length c.pool.length, .slice bA c.fields.length bc, .slice dA c.methods.length dc]) (by simp [results, Tryz.results30, go_sem, p0, p1, p2, p3, p4, p5, p6]) rfl ?_
       exact fout_ok (c := c) (r := []) (two_cells (Nat.le_refl _) [.int .i64 c.flags, .string (tx c.name), .string (tx c.super), .slice aA c.ifaces.length ac, .slice (some ⟨g, 0, none⟩) c.pool.length c.pool.length, .slice bA c.fields.length bc, .slice dA c.methods.length dc] 0 _ HO9.out) HM.out ⟨_, _, _, rfl, strs_cells HS9.out ⟨_, _, HX9.out⟩ (by decide) [.int .i64 c.flags, .string (tx c.name), .string (tx c.super), .slice aA c.ifaces.length ac, .slice (some ⟨g, 0, none⟩) c.pool.length c.pool.length, .slice bA c.fields.length bc, .slice dA c.methods.length dc] 0, rows_cells HG.out.2.2 [.int .i64 c.flags, .string (tx c.name), .string (tx c.super), .slice aA c.ifaces.length ac, .slice (some ⟨g, 0, none⟩) c.pool.length c.pool.length, .slice bA c.fields.length bc, .slice dA c.methods.length dc] 0 _ HW9.out, flds_cells HF9.out ⟨_, _, HX9.out⟩ (by decide) [.int .i64 c.flags, .string (tx c.name), .string (tx c.super), .slice aA c.ifaces.length ac, .slice (some ⟨g, 0, none⟩) c.pool.length c.pool.length, .slice bA c.fields.length bc, .slice dA c.methods.length dc] 0, mets_cells HM9.out ⟨_, _, HX9.out⟩ (by decide) [.int .i64 c.flags, .string (tx c.name), .string (tx c.super), .slice aA c.ifaces.length ac, .slice (some ⟨g, 0, none⟩) c.pool.length c.pool.length, .slice bA c.fields.length bc, .slice dA c.methods.length dc] 0⟩
end Go.Proofs.YtgihfcimngogfaaGreat
namespace Go.Proofs.YtgihfcimngogfaaGreat
open Go.RowKit Go
set_option linter.unusedVariables false
abbrev zeroC : List Value := [.int .i64 0, .string ⟨#[]⟩, .string ⟨#[]⟩, .slice none 0 0, .slice none 0 0, .slice none 0 0, .slice none 0 0]
set_option maxHeartbeats 4000000 in
set_option maxRecDepth 100000 in
theorem catch_idle (C E : Nat) (w : World) :
  CallsD Tryz.prog 28 #[.pointer (some ⟨C, 0, none⟩), .pointer (some ⟨E, 0, none⟩)] .returning w fun e u' w' =>
   e = .returned (.tuple #[]) ∧ u' = .returning ∧ w' = w := by
 refine callsD_of_wpS Tryz.func28 rfl fun c₀ cs hu => ?_
 apply wpS_seq
 apply wpS_region
 simp [wpOpsS, go_sem, recoverD, hu, Tryz.ntmps28, Exit.thenS]
 rw [show (#[Value.pointer (some ⟨C, 0, none⟩), Value.pointer (some ⟨E, 0, none⟩)] ++ ((Array.replicate 7 undef).setIfInBounds 1 Value.nilIface).setIfInBounds 0 Value.nilIface : Array Value) = #[Value.pointer (some ⟨C, 0, none⟩), Value.pointer (some ⟨E, 0, none⟩), Value.nilIface, Value.nilIface, undef, undef, undef, undef, undef] from rfl]
 refine wpS_of_wp ?_
 go_wp2_with fail
 cases c₀
 simp_all [bodyPostS, results, Tryz.results28]
theorem cells_other {b k : Nat} (hk : k ≠ b) : ∀ (vs : List Value) (o : Nat) (w : World), (w.setCells b o vs).heap[k]? = w.heap[k]?
 | [], _, _ => rfl
 | v :: r, o, w => by
  rw [World.setCells, cells_other hk r (o + 1) _]
  exact Below.heap_setCell _ _ _ _ hk
theorem below_cells {B b : Nat} {a : World} (hb : B ≤ b) : ∀ (vs : List Value) (o : Nat) (w : World), Below B a w → Below B a (w.setCells b o vs)
 | [], _, _, h => h
 | v :: r, o, w, h => by
  rw [World.setCells]
  exact below_cells hb r (o + 1) _ (h.setCell hb v)
theorem catch_world (B C E : Nat) (x y : Int) (w : World) (hC : w.heap[C]? = some (.cells zeroC.toArray 27 (0, 0))) (hE : w.heap[E]? = some (.cells #[.int .i64 y] 32 (0, 0))) (hBC : B ≤ C) (hBE : B ≤ E) (hCE : C ≠ E) :
  Below B w (((((((((w.setCell ⟨C, 0, none⟩ (.int .i64 0)).setCell ⟨C, 1, none⟩ (.string ⟨#[]⟩)).setCell ⟨C, 2, none⟩ (.string ⟨#[]⟩)).setCell ⟨C, 3, none⟩ (.slice none 0 0)).setCell ⟨C, 4, none⟩ (.slice none 0 0)).setCell ⟨C, 5, none⟩ (.slice none 0 0)).setCell ⟨C, 6, none⟩ (.slice none 0 0)).setCell ⟨E, 0, none⟩ (.int .i64 x)).drew) ∧ (((((((((w.setCell ⟨C, 0, none⟩ (.int .i64 0)).setCell ⟨C, 1, none⟩ (.string ⟨#[]⟩)).setCell ⟨C, 2, none⟩ (.string ⟨#[]⟩)).setCell ⟨C, 3, none⟩ (.slice none 0 0)).setCell ⟨C, 4, none⟩ (.slice none 0 0)).setCell ⟨C, 5, none⟩ (.slice none 0 0)).setCell ⟨C, 6, none⟩ (.slice none 0 0)).setCell ⟨E, 0, none⟩ (.int .i64 x)).drew).heap[C]? = some (.cells zeroC.toArray 27 (0, 0)) ∧ (((((((((w.setCell ⟨C, 0, none⟩ (.int .i64 0)).setCell ⟨C, 1, none⟩ (.string ⟨#[]⟩)).setCell ⟨C, 2, none⟩ (.string ⟨#[]⟩)).setCell ⟨C, 3, none⟩ (.slice none 0 0)).setCell ⟨C, 4, none⟩ (.slice none 0 0)).setCell ⟨C, 5, none⟩ (.slice none 0 0)).setCell ⟨C, 6, none⟩ (.slice none 0 0)).setCell ⟨E, 0, none⟩ (.int .i64 x)).drew).heap[E]? = some (.cells #[.int .i64 x] 32 (0, 0)) := by
 have e : putA zeroC.toArray 0 zeroC = zeroC.toArray := by simp [putA, zeroC]
 have hw : (((((((w.setCell ⟨C, 0, none⟩ (.int .i64 0)).setCell ⟨C, 1, none⟩ (.string ⟨#[]⟩)).setCell ⟨C, 2, none⟩ (.string ⟨#[]⟩)).setCell ⟨C, 3, none⟩ (.slice none 0 0)).setCell ⟨C, 4, none⟩ (.slice none 0 0)).setCell ⟨C, 5, none⟩ (.slice none 0 0)).setCell ⟨C, 6, none⟩ (.slice none 0 0)) = w.setCells C 0 zeroC := by simp [World.setCells]
 rw [hw]
 have h1 := heap_setCells zeroC 0 w _ hC
 rw [e] at h1
 have h2 := (cells_other (fun e => hCE e.symm : E ≠ C) zeroC 0 w).trans hE
 have h3 := below_cells hBC zeroC 0 w (Below.refl B w)
 generalize w.setCells C 0 zeroC = w2 at *
 exact ⟨(h3.setCell (p := ⟨E, 0, none⟩) hBE _).drew, (Below.heap_setCell _ _ _ _ hCE).trans h1, heap_set (i := 0) h2 _⟩
set_option maxHeartbeats 400000 in
set_option maxRecDepth 100000 in
theorem catch_panic (B C E : Nat) (x y : Int) (w : World) (hC : w.heap[C]? = some (.cells zeroC.toArray 27 (0, 0))) (hE : w.heap[E]? = some (.cells #[.int .i64 y] 32 (0, 0))) (hBC : B ≤ C) (hBE : B ≤ E) (hCE : C ≠ E) :
  CallsD Tryz.prog 28 #[.pointer (some ⟨C, 0, none⟩), .pointer (some ⟨E, 0, none⟩)] (.panicking [pan x]) w fun e u' w' =>
   e = .returned (.tuple #[]) ∧ u' = .panicking [{ pan x with recovered := true }] ∧ Below B w w' ∧ w'.heap[C]? = some (.cells zeroC.toArray 27 (0, 0)) ∧ w'.heap[E]? = some (.cells #[.int .i64 x] 32 (0, 0)) := by
 refine callsD_of_wpS Tryz.func28 rfl fun c₀ cs hu => ?_
 apply wpS_seq
 apply wpS_region
 simp [wpOpsS, go_sem, recoverD, hu, Tryz.ntmps28, Exit.thenS]
 rw [show (#[Value.pointer (some ⟨C, 0, none⟩), Value.pointer (some ⟨E, 0, none⟩)] ++ ((Array.replicate 7 undef).setIfInBounds 1 (Value.iface 32 (Value.int IntKind.i64 x))).setIfInBounds 0 (Value.iface 32 (Value.int IntKind.i64 x)) : Array Value) = #[Value.pointer (some ⟨C, 0, none⟩), Value.pointer (some ⟨E, 0, none⟩), (Value.iface 32 (Value.int IntKind.i64 x)), (Value.iface 32 (Value.int IntKind.i64 x)), undef, undef, undef, undef, undef] from rfl]
 have fin : ∀ (a : Act) (W : World), a.defers = [] → Below B w W → W.heap[C]? = some (.cells zeroC.toArray 27 (0, 0)) → W.heap[E]? = some (.cells #[.int .i64 x] 32 (0, 0)) →
   bodyPostS Tryz.prog Tryz.f28 c₀ cs (fun e u' w' => e = .returned (.tuple #[]) ∧ u' = .panicking [{ v := Value.iface 32 (.int .i64 x), recovered := true }] ∧ Below B w w' ∧ w'.heap[C]? = some (.cells zeroC.toArray 27 (0, 0)) ∧ w'.heap[E]? = some (.cells #[.int .i64 x] 32 (0, 0))) Exit.normal a
    ({ fn := c₀.fn, tmps := c₀.tmps, todo := c₀.todo, defers := c₀.defers, mode := FrameMode.panicking [{ v := Value.iface 32 (.int .i64 x), recovered := true }], kind := c₀.kind, roundOf := c₀.roundOf } :: cs) W := by
  intro a W ha h1 h2 h3
  refine ⟨ha, _, rfl, .tuple #[], ?_, rfl, rfl, h1, h2, h3⟩
  simp [results, Tryz.results28]
 refine wpS_of_wp ?_
 go_wp2_with fail
 have q0 := heap_cell (i := 0) hE rfl
 have z0 := heap_thaw hE 0
 have p0 := heap_cell (i := 0) hC rfl
 have zp0 := heap_thaw hC 0
 have p1 := heap_cell (i := 1) hC rfl
 have zp1 := heap_thaw hC 1
 have p2 := heap_cell (i := 2) hC rfl
 have zp2 := heap_thaw hC 2
 have p3 := heap_cell (i := 3) hC rfl
 have zp3 := heap_thaw hC 3
 have p4 := heap_cell (i := 4) hC rfl
 have zp4 := heap_thaw hC 4
 have p5 := heap_cell (i := 5) hC rfl
 have zp5 := heap_thaw hC 5
 have p6 := heap_cell (i := 6) hC rfl
 have zp6 := heap_thaw hC 6
 have hta : ∀ W : World, (Instr.typeAssert (.iface 32 (.int .i64 x)) 20 32 false).run Tryz.prog W = .ok (.int .i64 x) W := fun _ => by kernel_rfl
 have hCE2 : ¬ C = E := hCE
 have hEC2 : ¬ E = C := fun e => hCE e.symm
 go_region
 have hcw := catch_world B C E x y w hC hE hBC hBE hCE
 exact fin _ _ rfl hcw.1 hcw.2.1 hcw.2.2
end Go.Proofs.YtgihfcimngogfaaGreat
namespace Go.Proofs.YtgihfcimngogfaaGreat
open Go.RowKit Go
set_option linter.unusedVariables false
def POut (p : Pr Cls) (w : World) (e : Ending) (w' : World) : Prop :=
 Below w.heap.size w w' ∧ match p with
 | .ok c _ => ∃ cv g, e = .returned (.tuple #[cv, .int .i64 0]) ∧ ClsV g w' c cv
 | .er x => e = .returned (.tuple #[.agg zeroC.toArray, .int .i64 x])
theorem pout_er {p : Pr Cls} {x : Nat} {w w' : World} (ho : Below w.heap.size w w') (hp : p = .er x) : POut p w (.returned (.tuple #[.agg #[.int .i64 0, .string ⟨#[]⟩, .string ⟨#[]⟩, .slice none 0 0, .slice none 0 0, .slice none 0 0, .slice none 0 0], .int .i64 x])) w' := by
 subst hp
 exact ⟨ho, rfl⟩
theorem pout_ok {p : Pr Cls} {c : Cls} {r : Bs} {g : Nat} {cv : Value} {w w' : World} (ho : Below w.heap.size w w') (hp : p = .ok c r) (hv : ClsV g w' c cv) : POut p w (.returned (.tuple #[cv, .int .i64 0])) w' := by
 subst hp
 exact ⟨ho, cv, g, rfl, hv⟩
abbrev zC : Obj := .cells #[.int .i64 0, .string ⟨#[]⟩, .string ⟨#[]⟩, .slice none 0 0, .slice none 0 0, .slice none 0 0, .slice none 0 0] 27
abbrev zE : Obj := .cells #[.int .i64 0] 32
set_option maxHeartbeats 1000000 in
set_option maxRecDepth 100000 in
theorem parse_long (v : Value) (l : Bs) (w : World) (h : Hid (RdB w v l)) (hl : 65536 < l.length) :
  Calls Tryz.prog 13 #[v] w (POut (parP l) w) := by
 obtain ⟨A, cap, rfl, hm⟩ := rdB_form h.out
 have HP : Hid (parP l = .er 2) := lhid (by unfold parP; rw [if_pos hl])
 have t : (65536 : Int) < l.length := by omega
 have HB : Hid (Below w.heap.size w ((w.alloc zC).alloc (.cells #[.int .i64 2] 32))) := lhid (((Below.refl w.heap.size w).alloc (Nat.le_refl _) _).alloc (by simp) _)
 have hmf : ∀ (fn : Fn) (first cap : Array Value) (w : World), (Instr.makeFunc fn first cap).run Tryz.prog w = .ok (.func fn first cap) w := fun _ _ _ _ => rfl
 go_enter_defers Tryz.func13, Tryz.ntmps13
 go_wp2_with fail
 refine ⟨.tuple #[.agg #[.int .i64 0, .string ⟨#[]⟩, .string ⟨#[]⟩, .slice none 0 0, .slice none 0 0, .slice none 0 0, .slice none 0 0], .int .i64 2], by simp [results, Tryz.results13, go_sem], pout_er HB.out HP.out⟩
theorem Two.below {P R B : Nat} {w w' : World} (h : Two P R w w') (hP : B ≤ P) (hR : B ≤ R) (hB : B ≤ w.heap.size) : Below B w w' := ⟨h.os, h.tape, h.output, h.size, fun k hk => h.block k (by omega) (by omega) (by omega)⟩
set_option maxHeartbeats 4000000 in
set_option maxRecDepth 100000 in
theorem parse_main (v : Value) (l : Bs) (w : World) (h : Hid (RdB w v l)) (hl : ¬ 65536 < l.length) :
  Calls Tryz.prog 13 #[v] w (POut (parP l) w) := by
 have HP : Hid (parP l = filP l) := lhid (by unfold parP; rw [if_neg hl])
 have hb2 : Below w.heap.size w ((w.alloc zC).alloc zE) := ((Below.refl w.heap.size w).alloc (Nat.le_refl _) _).alloc (by simp) _
 have HV : Hid (RdB ((w.alloc zC).alloc zE) v l) := lhid (rdB_below h.out (rdB_low h.out) hb2)
 have HB2 := lhid hb2
 have HC2 := lhid (new_one w zC zE)
 have HE2 := lhid (new_two w zC zE)
 clear hb2
 obtain ⟨A, cap, rfl, hm⟩ := rdB_form h.out
 have t : ¬ (65536 : Int) < l.length := by omega
 have hmf : ∀ (fn : Fn) (first cap : Array Value) (w : World), (Instr.makeFunc fn first cap).run Tryz.prog w = .ok (.func fn first cap) w := fun _ _ _ _ => rfl
 go_enter_defers Tryz.func13, Tryz.ntmps13
 go_wp2_with fail
 with_reducible refine (from_any _ l _ HV.out).mono ?_
 rintro e w1 ⟨rfl, rfl⟩
 have hs2 : ((w.alloc zC).alloc zE).heap.size = w.heap.size + 2 := by simp
 have HRD : Hid (Rdr ((((w.alloc zC).alloc zE).alloc (.cells #[.string (tx l), .bool false] 105)).alloc (.cells #[.pointer (some ⟨w.heap.size + 2, 0, none⟩), .slice none 0 0, .int .i64 0] 68)) (w.heap.size + 2) (l, false)) := lhid (by
  rw [← hs2]
  exact (rdr_new _ l).alloc _)
 have HPP : Hid (((((w.alloc zC).alloc zE).alloc (.cells #[.string (tx l), .bool false] 105)).alloc (.cells #[.pointer (some ⟨w.heap.size + 2, 0, none⟩), .slice none 0 0, .int .i64 0] 68)).heap[w.heap.size + 3]? = some (.cells #[.pointer (some ⟨w.heap.size + 2, 0, none⟩), .slice none 0 0, .int .i64 0] 68 (0, 0))) := lhid (by
  have := heap_alloc_new (((w.alloc zC).alloc zE).alloc (.cells #[.string (tx l), .bool false] 105)) (.cells #[.pointer (some ⟨w.heap.size + 2, 0, none⟩), .slice none 0 0, .int .i64 0] 68)
  simpa using this)
 have HC3 : Hid (((((w.alloc zC).alloc zE).alloc (.cells #[.string (tx l), .bool false] 105)).alloc (.cells #[.pointer (some ⟨w.heap.size + 2, 0, none⟩), .slice none 0 0, .int .i64 0] 68)).heap[w.heap.size]? = some zC) := lhid (by
  rw [Below.heap_alloc _ _ _ (by simp; omega), Below.heap_alloc _ _ _ (by simp; omega)]
  exact HC2.out)
 have HE3 : Hid (((((w.alloc zC).alloc zE).alloc (.cells #[.string (tx l), .bool false] 105)).alloc (.cells #[.pointer (some ⟨w.heap.size + 2, 0, none⟩), .slice none 0 0, .int .i64 0] 68)).heap[w.heap.size + 1]? = some zE) := lhid (by
  rw [Below.heap_alloc _ _ _ (by simp), Below.heap_alloc _ _ _ (by simp)]
  exact HE2.out)
 have HB3 : Hid (Below w.heap.size w ((((w.alloc zC).alloc zE).alloc (.cells #[.string (tx l), .bool false] 105)).alloc (.cells #[.pointer (some ⟨w.heap.size + 2, 0, none⟩), .slice none 0 0, .int .i64 0] 68))) := lhid ((HB2.out.alloc (by simp; omega) _).alloc (by simp; omega) _)
 have HSZ : Hid (w.heap.size ≤ ((((w.alloc zC).alloc zE).alloc (.cells #[.string (tx l), .bool false] 105)).alloc (.cells #[.pointer (some ⟨w.heap.size + 2, 0, none⟩), .slice none 0 0, .int .i64 0] 68)).heap.size) := lhid (by simp; omega)
 clear hs2
 go_wp2_with fail
 with_reducible refine (file_any (w.heap.size + 3) (w.heap.size + 2) l _ HPP HRD (by omega)).mono ?_
 rintro e w4 ⟨ho, hx⟩
 have HB4 := lhid (HB3.out.trans (ho.below (by omega) (by omega) HSZ.out))
 have HC4 := lhid (ho.keep HC3.out (by omega) (by omega))
 have HE4 := lhid (ho.keep HE3.out (by omega) (by omega))
 clear ho
 cases hp : filP l with
 | er x =>
  rw [hp] at hx
  have HF : Hid (parP l = .er x) := lhid (HP.out.trans hp)
  clear hp
  obtain rfl := hx
  go_wp2_with fail
  refine leaves_cons (f := 28) (args := #[.pointer (some ⟨w.heap.size, 0, none⟩), .pointer (some ⟨w.heap.size + 1, 0, none⟩)]) (by simp) (by simp [go_sem]) ?_
  refine (catch_panic w.heap.size w.heap.size (w.heap.size + 1) x 0 w4 HC4.out HE4.out (Nat.le_refl _) (by omega) (by omega)).mono ?_
  rintro e u' w5 ⟨rfl, rfl, hb, hc, he⟩
  have p0 := heap_cell (i := 0) hc rfl
  have p1 := heap_cell (i := 1) hc rfl
  have p2 := heap_cell (i := 2) hc rfl
  have p3 := heap_cell (i := 3) hc rfl
  have p4 := heap_cell (i := 4) hc rfl
  have p5 := heap_cell (i := 5) hc rfl
  have p6 := heap_cell (i := 6) hc rfl
  have q0 := heap_cell (i := 0) he rfl
  change Leaves _ _ _ _ [] (settle _) _
  refine ⟨.tuple #[.agg #[.int .i64 0, .string ⟨#[]⟩, .string ⟨#[]⟩, .slice none 0 0, .slice none 0 0, .slice none 0 0, .slice none 0 0], .int .i64 x], by simp [results, Tryz.results13, go_sem, p0, p1, p2, p3, p4, p5, p6, q0], pout_er (HB4.out.trans hb) HF.out⟩
 | ok c r =>
  rw [hp] at hx
  have HF : Hid (parP l = .ok c r) := lhid (HP.out.trans hp)
  clear hp
  obtain ⟨cv, g, rfl, a, b, d, rfl, h1, h2, h3, h4⟩ := hx
  obtain ⟨aA, ac, rfl⟩ := slO_shape h1
  obtain ⟨bA, bc, rfl⟩ := slO_shape h3
  obtain ⟨dA, dc, rfl⟩ := slO_shape h4
  have HE5 : Hid (((w4.setCells w.heap.size 0 [.int .i64 c.flags, .string (tx c.name), .string (tx c.super), .slice aA c.ifaces.length ac, .slice (some ⟨g, 0, none⟩) c.pool.length c.pool.length, .slice bA c.fields.length bc, .slice dA c.methods.length dc]).setCell ⟨w.heap.size + 1, 0, none⟩ (.int .i64 0)).heap[w.heap.size + 1]? = some (.cells #[.int .i64 0] 32 (0, 0))) := lhid (heap_set (i := 0) ((cells_other (by omega) _ 0 w4).trans HE4.out) _)
  have hbe : Boxed (w4.setCells w.heap.size 0 [.int .i64 c.flags, .string (tx c.name), .string (tx c.super), .slice aA c.ifaces.length ac, .slice (some ⟨g, 0, none⟩) c.pool.length c.pool.length, .slice bA c.fields.length bc, .slice dA c.methods.length dc]) (w.heap.size + 1) 32 := ⟨_, _, (cells_other (by omega) _ 0 w4).trans HE4.out⟩
  have H1 := lhid (strs_set (strs_cells h1 ⟨_, _, HC4.out⟩ (by decide) [.int .i64 c.flags, .string (tx c.name), .string (tx c.super), .slice aA c.ifaces.length ac, .slice (some ⟨g, 0, none⟩) c.pool.length c.pool.length, .slice bA c.fields.length bc, .slice dA c.methods.length dc] 0) hbe (by decide) 0 (.int .i64 0))
  have H3 := lhid (flds_set (flds_cells h3 ⟨_, _, HC4.out⟩ (by decide) [.int .i64 c.flags, .string (tx c.name), .string (tx c.super), .slice aA c.ifaces.length ac, .slice (some ⟨g, 0, none⟩) c.pool.length c.pool.length, .slice bA c.fields.length bc, .slice dA c.methods.length dc] 0) hbe (by decide) 0 (.int .i64 0))
  have H4 := lhid (mets_set (mets_cells h4 ⟨_, _, HC4.out⟩ (by decide) [.int .i64 c.flags, .string (tx c.name), .string (tx c.super), .slice aA c.ifaces.length ac, .slice (some ⟨g, 0, none⟩) c.pool.length c.pool.length, .slice bA c.fields.length bc, .slice dA c.methods.length dc] 0) hbe (by decide) 0 (.int .i64 0))
  have hgc : g ≠ w.heap.size ∧ g ≠ w.heap.size + 1 := by
   obtain ⟨cc, hcc, _⟩ := h2
   refine ⟨?_, ?_⟩
   ·rintro rfl
    rw [HC4.out] at hcc
    injection hcc with hcc
    injection hcc with _ hcc _
    exact absurd hcc (by decide)
   ·rintro rfl
    rw [HE4.out] at hcc
    injection hcc with hcc
    injection hcc with _ hcc _
    exact absurd hcc (by decide)
  have H2 := lhid (RowsAt.other (rows_cells hgc.1 [.int .i64 c.flags, .string (tx c.name), .string (tx c.super), .slice aA c.ifaces.length ac, .slice (some ⟨g, 0, none⟩) c.pool.length c.pool.length, .slice bA c.fields.length bc, .slice dA c.methods.length dc] 0 w4 h2) (p := ⟨w.heap.size + 1, 0, none⟩) hgc.2 (.int .i64 0))
  have HB5 := lhid ((below_cells (Nat.le_refl _) [.int .i64 c.flags, .string (tx c.name), .string (tx c.super), .slice aA c.ifaces.length ac, .slice (some ⟨g, 0, none⟩) c.pool.length c.pool.length, .slice bA c.fields.length bc, .slice dA c.methods.length dc] 0 w4 HB4.out).setCell (p := ⟨w.heap.size + 1, 0, none⟩) (Nat.le_succ _) (.int .i64 0))
  clear h1 h2 h3 h4 hbe hgc
  have q0 := heap_cell (i := 0) HE4.out rfl
  have y0 := heap_thaw HE4.out 0
  have p0 := heap_cell (i := 0) HC4.out rfl
  have z0 := heap_thaw HC4.out 0
  have p1 := heap_cell (i := 1) HC4.out rfl
  have z1 := heap_thaw HC4.out 1
  have p2 := heap_cell (i := 2) HC4.out rfl
  have z2 := heap_thaw HC4.out 2
  have p3 := heap_cell (i := 3) HC4.out rfl
  have z3 := heap_thaw HC4.out 3
  have p4 := heap_cell (i := 4) HC4.out rfl
  have z4 := heap_thaw HC4.out 4
  have p5 := heap_cell (i := 5) HC4.out rfl
  have z5 := heap_thaw HC4.out 5
  have p6 := heap_cell (i := 6) HC4.out rfl
  have z6 := heap_thaw HC4.out 6
  go_wp2_with fail
  refine leaves_cons (f := 28) (args := #[.pointer (some ⟨w.heap.size, 0, none⟩), .pointer (some ⟨w.heap.size + 1, 0, none⟩)]) (by simp) (by simp [go_sem]) ?_
  refine (catch_idle w.heap.size (w.heap.size + 1) _).mono ?_
  rintro e u' w5 ⟨rfl, rfl, rfl⟩
  change Leaves _ _ _ _ [] (settle _) _
  refine ⟨.tuple #[.agg #[.int .i64 c.flags, .string (tx c.name), .string (tx c.super), .slice aA c.ifaces.length ac, .slice (some ⟨g, 0, none⟩) c.pool.length c.pool.length, .slice bA c.fields.length bc, .slice dA c.methods.length dc], .int .i64 0], by simp [results, Tryz.results13, go_sem, p0, p1, p2, p3, p4, p5, p6, q0], ?_⟩
  exact pout_ok (c := c) (r := r) HB5.out HF.out ⟨_, _, _, rfl, H1.out, H2.out, H3.out, H4.out⟩
theorem parse_any (v : Value) (l : Bs) (w : World) (h : Hid (RdB w v l)) :
  Calls Tryz.prog 13 #[v] w (POut (parP l) w) := by
 by_cases hl : 65536 < l.length
 ·exact parse_long v l w h hl
 ·exact parse_main v l w h hl
end Go.Proofs.YtgihfcimngogfaaGreat
