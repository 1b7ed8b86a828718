/- Contract of the parser's file. Written by gen_file9.py. -/
import Derived.Test.YtdlmadckpcnkoaaGreatJFileClass
import Derived.Test.YtdlmadckpcnkoaaGreatJFileTwice
import Derived.Test.YtdlmadckpcnkoaaGreatM6
namespace Go.Proofs.YtdlmadckpcnkoaaGreat
open Go.RowKit Go
set_option linter.unusedVariables false

/-- How file ends: the class, or the panic. -/
def FOut (P R : Nat) (p : Pr Cls) (w : World) (e : Ending) (w' : World) : Prop :=
  Two P R w w' ∧ match p with
  | .ok c r => ∃ v g, e = .returned v ∧ ClsV g w' c v
  | .er x => e = .panicked [pan x]
theorem fout_er {P R : Nat} {p : Pr Cls} {x : Nat} {w w' : World} (ho : Two P R w w') (hp : p = .er x) : FOut P R p w (.panicked [pan x]) w' := by
  subst hp
  exact ⟨ho, rfl⟩
theorem fout_ok {P R g : Nat} {p : Pr Cls} {c : Cls} {r : Bs} {v : Value} {w w' : World} (ho : Two P R w w') (hp : p = .ok c r) (hv : ClsV g w' c v) : FOut P R p w (.returned v) w' := by
  subst hp
  exact ⟨ho, v, g, rfl, hv⟩
theorem Two.trans {P R : Nat} {a b c : World} (h : Two P R a b) (k : Two P R b c) : Two P R a c :=
  ⟨k.os.trans h.os, k.tape.trans h.tape, k.output.trans h.output, Nat.le_trans h.size k.size, fun i hi hr hp => (k.block i (Nat.lt_of_lt_of_le hi h.size) hr hp).trans (h.block i hi hr hp)⟩
theorem two_below {P R : Nat} {a w w' : World} (h : Two P R a w) (hb : Below w.heap.size w w') : Two P R a w' := h.step (Below.only hb)
theorem rows_cells {g b T k : Nat} {rows : List (List Value)} (hn : g ≠ b) : ∀ (vs : List Value) (o : Nat) (w : World), RowsAt w g T k rows → RowsAt (w.setCells b o vs) g T k rows
  | [], _, _, h => h
  | v :: r, o, w, h => by
    rw [World.setCells]
    exact rows_cells hn r (o + 1) _ (h.other hn v)
theorem cls_below {g : Nat} {w w' : World} {is : Value} {l : List Bs} (h : StrsO w is l) (hb : Below w.heap.size w w') : StrsO w' is l := strs_stay (Ts := tC) (by simp [tC, tM, tF]) h (Stay.below hb)
theorem then_ok_inv {α β : Type} {p : Pr α} {k : α → Bs → Pr β} {b : β} {r : Bs} (h : p.then k = .ok b r) : ∃ a r1, p = .ok a r1 ∧ k a r1 = .ok b r := by
  cases p with
  | ok a r1 => exact ⟨a, r1, rfl, h⟩
  | er x => cases h
theorem manyP_len {α : Type} (p : Bs → Pr α) : ∀ (n : Nat) (s : Bs) (acc l : List α) (r : Bs), manyP p n s acc = .ok l r → l.length = acc.length + n
  | 0, s, acc, l, r, h => by cases h; rfl
  | n + 1, s, acc, l, r, h => by
    rw [manyP] at h
    obtain ⟨a, r1, _, h2⟩ := then_ok_inv h
    have := manyP_len p n _ _ _ _ h2
    rw [this]
    simp
    omega
theorem behP_len {L : List Con} {s r : Bs} {c : Cls} (h : behP L s = .ok c r) : c.fields.length ≤ 60 ∧ c.methods.length ≤ 60 ∧ c.ifaces.length ≤ 8 ∧ c.pool = L := by
  unfold behP at h
  obtain ⟨cf, r1, h1, h⟩ := then_ok_inv h
  split at h
  · cases h
  obtain ⟨nm, r2, h2, h⟩ := then_ok_inv h
  obtain ⟨sp, r3, h3, h⟩ := then_ok_inv h
  obtain ⟨a, r4, h4, h⟩ := then_ok_inv h
  obtain ⟨is, r5, h5, h⟩ := then_ok_inv h
  obtain ⟨b, r6, h6, h⟩ := then_ok_inv h
  obtain ⟨fs, r7, h7, h⟩ := then_ok_inv h
  obtain ⟨d, r8, h8, h⟩ := then_ok_inv h
  obtain ⟨ms, r9, h9, h⟩ := then_ok_inv h
  cases h
  have e1 := manyP_len _ _ _ _ _ _ h5
  have e2 := manyP_len _ _ _ _ _ _ h7
  have e3 := manyP_len _ _ _ _ _ _ h9
  have c1 := cntP_le h4
  have c2 := cntP_le h6
  have c3 := cntP_le h8
  simp at e1 e2 e3
  exact ⟨by show fs.length ≤ 60; omega, by show ms.length ≤ 60; omega, by show is.length ≤ 8; omega, rfl⟩
theorem magic_bad {s : Bs} (h : s.length < 4 ∨ s.take 4 ≠ [82, 69, 71, 76]) : takeL (s, false) 4 ≠ [82, 69, 71, 76] := by
  by_cases hl : s.length < 4
  · rw [takeL_no (by simp; omega)]
    simp
  · rw [takeL_yes (by simp; omega)]
    rcases h with h | h
    · exact absurd h hl
    · simpa using h
theorem magic_good {s : Bs} (h : ¬ (s.length < 4 ∨ s.take 4 ≠ [82, 69, 71, 76])) : takeL (s, false) 4 = [82, 69, 71, 76] ∧ takeS (s, false) 4 = (s.drop 4, false) := by
  have h1 : ¬ s.length < 4 := fun e => h (.inl e)
  have h2 : s.take 4 = [82, 69, 71, 76] := by
    by_cases e : s.take 4 = [82, 69, 71, 76]
    · exact e
    · exact absurd (.inr e) h
  rw [takeL_yes (by simp; omega), takeS_yes (by simp; omega)]
  exact ⟨by simpa using h2, by simp⟩
set_option maxHeartbeats 16000000 in
set_option maxRecDepth 100000 in
theorem file_any (P R : Nat) (s : Bs) (w : World) (hP : Hid (w.heap[P]? = some (.cells #[.pointer (some ⟨R, 0, none⟩), .slice none 0 0, .int .i64 0] 65 (0, 0)))) (hR : Hid (Rdr w R (s, false))) (hpr : P ≠ R) :
    Calls Tryz.prog 31 #[.pointer (some ⟨P, 0, none⟩)] w (FOut P R (filP s) w) := by
  have c0 := heap_cell (i := 0) hP.out rfl
  have hlt := heap_lt hP.out
  have hrl := hR.out.lt
  have HX0 := lhid (heap_alloc_new w (.cells #[.int .i64 0, .string ⟨#[]⟩, .string ⟨#[]⟩, .slice none 0 0, .slice none 0 0, .slice none 0 0, .slice none 0 0] 29))
  have HXN : Hid (w.heap.size ≠ R) := lhid (by omega)
  have HXP : Hid (w.heap.size ≠ P) := lhid (by omega)
  have HPR := lhid hpr
  have HP0 : Hid ((w.alloc (.cells #[.int .i64 0, .string ⟨#[]⟩, .string ⟨#[]⟩, .slice none 0 0, .slice none 0 0, .slice none 0 0, .slice none 0 0] 29)).heap[P]? = some (.cells #[.pointer (some ⟨R, 0, none⟩), .slice none 0 0, .int .i64 0] 65 (0, 0))) := lhid ((Below.heap_alloc _ _ _ hlt).trans hP.out)
  have HR0 : Hid (Rdr (w.alloc (.cells #[.int .i64 0, .string ⟨#[]⟩, .string ⟨#[]⟩, .slice none 0 0, .slice none 0 0, .slice none 0 0, .slice none 0 0] 29)) R (s, false)) := lhid (hR.out.alloc _)
  have HO0 : Hid (Two P R w (w.alloc (.cells #[.int .i64 0, .string ⟨#[]⟩, .string ⟨#[]⟩, .slice none 0 0, .slice none 0 0, .slice none 0 0, .slice none 0 0] 29))) := lhid ((Two.refl P R w).alloc _)
  by_cases hm : s.length < 4 ∨ s.take 4 ≠ [82, 69, 71, 76]
  · have hb := magic_bad hm
    have HM : Hid (filP s = .er 10) := lhid (by unfold filP; rw [if_pos hm])
    generalize htk : takeL (s, false) 4 = tk at hb
    have HTK := lhid htk
    have hq : ((tx tk).toList == [82, 69, 71, 76]) = false := by rw [tx_toList, beq_eq_false_iff_ne]; exact hb
    clear hm hb htk
    go_enter Tryz.func31, Tryz.ntmps31
    go_wp2_with fail
    with_reducible refine (take_any R (s, false) 4 _ HR0.out).mono ?_
    rintro e w1 ⟨rfl, hr, ho⟩
    rw [HTK.out]
    have HO1 := lhid (HO0.out.step ho)
    clear hr ho
    go_wp2_with fail
    with_reducible refine (refuse_yes 10 _).mono ?_
    rintro e wz ⟨rfl, rfl⟩
    go_wp2_with fail
    exact ⟨rfl, fout_er HO1.out HM.out⟩
  · have hg := magic_good hm
    have HTK := lhid hg.1
    have HTS := lhid hg.2
    have HMG := lhid hm
    have hq : ((tx [82, 69, 71, 76]).toList == [82, 69, 71, 76]) = true := by rw [tx_toList]; rfl
    clear hm hg
    generalize htk : tx [82, 69, 71, 76] = tk at hq
    go_enter Tryz.func31, Tryz.ntmps31
    go_wp2_with fail
    with_reducible refine (take_any R (s, false) 4 _ HR0.out).mono ?_
    rintro e w1 ⟨rfl, hr, ho⟩
    rw [HTK.out, htk]
    rw [HTS.out] at hr
    have HR1 := lhid hr
    have HO1 := lhid (HO0.out.step ho)
    have HX1 := lhid (ho.keep HX0.out HXN.out)
    have HP1 := lhid (ho.keep HP0.out HPR.out)
    have d0 := heap_cell (i := 0) HP1.out rfl
    clear hr ho htk c0
    go_wp2_with fail
    with_reducible refine (refuse_no 10 _).mono ?_
    rintro e wz ⟨rfl, rfl⟩
    by_cases hx : poolX (s.drop 4, false) = 0
    case neg =>
      obtain ⟨x, hxx⟩ : ∃ x, poolX (s.drop 4, false) = x := ⟨_, rfl⟩
      have hx0 : x ≠ 0 := by rw [← hxx]; exact hx
      have HX := lhid hxx
      have t1 : ((x : Int) != 0) = true := by rw [bne_iff_ne]; omega
      have HM : Hid (filP s = .er x) := lhid (by unfold filP; rw [if_neg HMG.out, if_pos hx, hxx])
      clear hx hxx
      go_wp2_with fail
      with_reducible refine (read_err R (s.drop 4, false) x _ HR1 HX hx0).mono ?_
      rintro e w2 ⟨rfl, hr, ho⟩
      have HO2 := lhid (HO1.out.step ho)
      clear hr ho
      go_wp2_with fail
      with_reducible refine (refuse_yes x _).mono ?_
      rintro e wz ⟨rfl, rfl⟩
      go_wp2_with fail
      exact ⟨rfl, fout_er HO2.out HM.out⟩
    case pos =>
      obtain ⟨L, hL⟩ : ∃ L, poolL (s.drop 4, false) = L := ⟨_, rfl⟩
      obtain ⟨r0, hr0⟩ : ∃ r0, (poolS (s.drop 4, false)).1 = r0 := ⟨_, rfl⟩
      have hps : poolS (s.drop 4, false) = (r0, false) := by rw [← hr0]; exact Prod.ext rfl (poolS_whole hx)
      have hgood := poolL_good hx
      have hsmall := poolL_small hx
      rw [hL] at hgood hsmall
      have HX := lhid hx
      have HL := lhid hL
      have HPS := lhid hps
      have HGOOD := lhid hgood
      have HSMALL := lhid hsmall
      have HF : Hid (filP s = (behP L r0).then endC) := lhid (by unfold filP; rw [if_neg HMG.out, if_neg (by rw [hx]; simp), hL, hr0])
      clear hx hL hr0 hps hgood hsmall
      go_wp2_with fail
      with_reducible refine (read_ok R (s.drop 4, false) L _ HR1 HX HL).mono ?_
      rintro e w2 ⟨⟨g, rfl, hg, hrows⟩, hr, ho⟩
      rw [HPS.out] at hr
      have HR2 := lhid hr
      have HO2 := lhid (HO1.out.step ho)
      have HX2 := lhid (ho.keep HX1.out HXN.out)
      have HP2 := lhid (ho.keep HP1.out HPR.out)
      have HG : Hid (g ≠ R ∧ g ≠ P ∧ g ≠ w.heap.size) := lhid ⟨by have := HR1.out.lt; omega, by have := heap_lt HP1.out; omega, by have := heap_lt HX1.out; omega⟩
      have HROWS := lhid hrows
      have e0 := heap_cell (i := 0) HP2.out rfl
      have e1 := heap_cell (i := 1) HP2.out rfl
      have ez := heap_thaw HP2.out 1
      clear hr ho hg hrows d0
      go_wp2_with fail
      with_reducible refine (refuse_no 0 _).mono ?_
      rintro e wz ⟨rfl, rfl⟩
      have HP3 := lhid (heap_set (i := 1) HP2.out (.slice (some ⟨g, 0, none⟩) L.length L.length))
      have HR3 : Hid (Rdy (w2.setCell ⟨P, 1, none⟩ (.slice (some ⟨g, 0, none⟩) L.length L.length)) P R g L 0 r0) := lhid ⟨⟨HP3.out, HROWS.out.other HG.out.2.1 _, HPR.out, HG.out.1, HGOOD.out, HSMALL.out, by omega⟩, HR2.out.other (by exact fun e => HPR.out e.symm) _⟩
      have HX3 : Hid ((w2.setCell ⟨P, 1, none⟩ (.slice (some ⟨g, 0, none⟩) L.length L.length)).heap[w.heap.size]? = some (.cells #[.int .i64 0, .string ⟨#[]⟩, .string ⟨#[]⟩, .slice none 0 0, .slice none 0 0, .slice none 0 0, .slice none 0 0] 29)) := lhid ((Below.heap_setCell _ _ _ _ HXP.out).trans HX2.out)
      have HO3 := lhid (HO2.out.setCell (p := ⟨P, 1, none⟩) (.inl (.inr rfl)) (.slice (some ⟨g, 0, none⟩) L.length L.length))
      go_wp2_with fail
      with_reducible refine (class_any P R g 0 L r0 _ HR3).mono ?_
      rintro e w4 ho
      have HO4 := lhid (show Two P R w w4 from HO3.out.trans ho.1)
      have HX4 := lhid (ho.1.keep HX3.out HXN.out HXP.out)
      cases hp : behP L r0 with
      | er x =>
        have hx := ho.2
        rw [hp] at hx
        have HBP := lhid hp
        clear ho hp
        obtain rfl := hx
        go_wp2_with fail
        exact ⟨rfl, fout_er HO4.out (by rw [HF.out, HBP.out]; rfl)⟩
      | ok c r =>
        have hx := ho.2
        rw [hp] at hx
        have HBP := lhid hp
        clear ho hp
        obtain ⟨v, cf, rfl, ⟨a, b, d, rfl, h1, h2, h3, h4⟩, hr⟩ := hx
        obtain ⟨aA, ac, rfl⟩ := slO_shape h1
        obtain ⟨bA, bc, rfl⟩ := slO_shape h3
        obtain ⟨dA, dc, rfl⟩ := slO_shape h4
        have HR4 := lhid hr
        have e0 := hr.p.c0
        have hpl := hr.p.lt
        have HC5 := lhid (heap_alloc_new w4 (.cells #[.int .i64 c.flags, .string (tx c.name), .string (tx c.super), .slice aA c.ifaces.length ac, .slice (some ⟨g, 0, none⟩) c.pool.length c.pool.length, .slice bA c.fields.length bc, .slice dA c.methods.length dc] 29))
        have HS5 := lhid (strs_alloc h1 (.cells #[.int .i64 c.flags, .string (tx c.name), .string (tx c.super), .slice aA c.ifaces.length ac, .slice (some ⟨g, 0, none⟩) c.pool.length c.pool.length, .slice bA c.fields.length bc, .slice dA c.methods.length dc] 29))
        have HW5 := lhid (h2.alloc (.cells #[.int .i64 c.flags, .string (tx c.name), .string (tx c.super), .slice aA c.ifaces.length ac, .slice (some ⟨g, 0, none⟩) c.pool.length c.pool.length, .slice bA c.fields.length bc, .slice dA c.methods.length dc] 29))
        have HF5 := lhid (flds_alloc h3 (.cells #[.int .i64 c.flags, .string (tx c.name), .string (tx c.super), .slice aA c.ifaces.length ac, .slice (some ⟨g, 0, none⟩) c.pool.length c.pool.length, .slice bA c.fields.length bc, .slice dA c.methods.length dc] 29))
        have HM5 := lhid (mets_alloc h4 (.cells #[.int .i64 c.flags, .string (tx c.name), .string (tx c.super), .slice aA c.ifaces.length ac, .slice (some ⟨g, 0, none⟩) c.pool.length c.pool.length, .slice bA c.fields.length bc, .slice dA c.methods.length dc] 29))
        have HX5 := lhid ((Below.heap_alloc w4 (.cells #[.int .i64 c.flags, .string (tx c.name), .string (tx c.super), .slice aA c.ifaces.length ac, .slice (some ⟨g, 0, none⟩) c.pool.length c.pool.length, .slice bA c.fields.length bc, .slice dA c.methods.length dc] 29) _ (heap_lt HX4.out)).trans HX4.out)
        have HR5 : Hid (Rdr (w4.alloc (.cells #[.int .i64 c.flags, .string (tx c.name), .string (tx c.super), .slice aA c.ifaces.length ac, .slice (some ⟨g, 0, none⟩) c.pool.length c.pool.length, .slice bA c.fields.length bc, .slice dA c.methods.length dc] 29)) R (r, false)) := lhid (hr.r.alloc _)
        have HO5 := lhid (HO4.out.alloc (.cells #[.int .i64 c.flags, .string (tx c.name), .string (tx c.super), .slice aA c.ifaces.length ac, .slice (some ⟨g, 0, none⟩) c.pool.length c.pool.length, .slice bA c.fields.length bc, .slice dA c.methods.length dc] 29))
        have HCN : Hid (w4.heap.size ≠ w.heap.size) := lhid (Nat.ne_of_gt (heap_lt HX4.out))
        clear h1 h2 h3 h4 hr
        go_wp2_with fail
        with_reducible refine (left_r R (r, false) r.length true _ HR5 (lhid rfl) (lhid rfl)).mono ?_
        rintro e w5 ⟨rfl, n5, rfl⟩
        cases r with
        | cons c1 r1 =>
          have t1 : 0 < (c1 :: r1 : Bs).length := by simp
          generalize hrl : (c1 :: r1 : Bs).length = rl at t1
          have HM : Hid (filP s = .er 11) := lhid (by rw [HF.out, HBP.out]; rfl)
          go_wp2_with fail
          with_reducible refine (refuse_yes 11 _).mono ?_
          rintro e wz ⟨rfl, rfl⟩
          go_wp2_with fail
          exact ⟨rfl, fout_er (HO5.out.drewN n5) HM.out⟩
        | nil =>
          have t1 : ¬ (0 : Int) < (([] : Bs).length : Nat) := by simp
          go_wp2_with fail
          with_reducible refine (refuse_no 11 _).mono ?_
          rintro e wz ⟨rfl, rfl⟩
          have hlen := behP_len HBP.out
          have hl1 := hlen.1
          have hl2 := hlen.2.1
          clear hlen
          have g5 := heap_cell (i := 5) HC5.out rfl
          go_wp2_with fail
          with_reducible refine (fieldKeys_any c.fields _ _ (lhid (flds_drewN HF5.out n5)) hl1).mono ?_
          rintro e w6 ⟨kv, rfl, hk, hb⟩
          have HK6 := lhid hk
          have HO6 := lhid (two_below (HO5.out.drewN n5) hb)
          have HC6 := lhid ((hb.block _ (heap_lt HC5.out)).trans HC5.out)
          have HX6 := lhid ((hb.block _ (heap_lt HX5.out)).trans HX5.out)
          have HS6 := lhid (strs_stay (Ts := tC) (by simp [tC, tM, tF]) (strs_drewN HS5.out n5) (Stay.below hb))
          have HF6 := lhid (flds_stay (Ts := tC) (by simp [tC]) (flds_drewN HF5.out n5) (Stay.below hb))
          have HM6 := lhid (mets_stay (fun _ h => h) (mets_drewN HM5.out n5) (Stay.below hb))
          have HW6 := lhid (below_rows (HW5.out.drewN n5) hb)
          clear hk hb g5
          obtain ⟨kA, kc, rfl⟩ := slO_shape HK6.out
          have HK6b : Hid (KeysO w6 (.slice kA c.fields.length kc) (c.fields.map (fun f : Fld => (f.name, ([] : Bs))))) := lhid (by have := HK6.out; rwa [List.length_map] at this)
          go_wp2_with fail
          with_reducible refine (anyTwice_any _ _ _ HK6b (by simpa using hl1)).mono ?_
          rintro e w7 ⟨rfl, hb⟩
          have HO7 := lhid (two_below HO6.out hb)
          have HC7 := lhid ((hb.block _ (heap_lt HC6.out)).trans HC6.out)
          have HX7 := lhid ((hb.block _ (heap_lt HX6.out)).trans HX6.out)
          have HS7 := lhid (strs_stay (Ts := tC) (by simp [tC, tM, tF]) HS6.out (Stay.below hb))
          have HF7 := lhid (flds_stay (Ts := tC) (by simp [tC]) HF6.out (Stay.below hb))
          have HM7 := lhid (mets_stay (fun _ h => h) HM6.out (Stay.below hb))
          have HW7 := lhid (below_rows HW6.out hb)
          clear hb
          have hfk : twiceB (c.fields.map (fun f : Fld => (f.name, ([] : Bs)))) = twiceB (fKeys c) := rfl
          rw [hfk]
          clear hfk
          have HE : Hid (filP s = endC c []) := lhid (by rw [HF.out, HBP.out]; rfl)
          have g6 := heap_cell (i := 6) HC7.out rfl
          cases ht : twiceB (fKeys c) with
          | true =>
            have HM : Hid (filP s = .er 23) := lhid (by rw [HE.out]; unfold endC; rw [ht]; rfl)
            clear ht
            go_wp2_with fail
            with_reducible refine (refuse_yes 23 _).mono ?_
            rintro e wz ⟨rfl, rfl⟩
            go_wp2_with fail
            exact ⟨rfl, fout_er HO7.out HM.out⟩
          | false =>
            have HT := lhid ht
            clear ht
            go_wp2_with fail
            with_reducible refine (methodKeys_any c.methods _ _ HM7 hl2).mono ?_
            rintro e w8 ⟨kv, rfl, hk, hb⟩
            have HK8 := lhid hk
            have HO8 := lhid (two_below HO7.out hb)
            have HC8 := lhid ((hb.block _ (heap_lt HC7.out)).trans HC7.out)
            have HX8 := lhid ((hb.block _ (heap_lt HX7.out)).trans HX7.out)
            have HS8 := lhid (strs_stay (Ts := tC) (by simp [tC, tM, tF]) HS7.out (Stay.below hb))
            have HF8 := lhid (flds_stay (Ts := tC) (by simp [tC]) HF7.out (Stay.below hb))
            have HM8 := lhid (mets_stay (fun _ h => h) HM7.out (Stay.below hb))
            have HW8 := lhid (below_rows HW7.out hb)
            clear hk hb g6
            obtain ⟨kA2, kc2, rfl⟩ := slO_shape HK8.out
            have HK8b : Hid (KeysO w8 (.slice kA2 c.methods.length kc2) (c.methods.map (fun m : Met => (m.name, m.desc)))) := lhid (by have := HK8.out; rwa [List.length_map] at this)
            go_wp2_with fail
            with_reducible refine (anyTwice_any _ _ _ HK8b (by simpa using hl2)).mono ?_
            rintro e w9 ⟨rfl, hb⟩
            have HO9 := lhid (two_below HO8.out hb)
            have HC9 := lhid ((hb.block _ (heap_lt HC8.out)).trans HC8.out)
            have HX9 := lhid ((hb.block _ (heap_lt HX8.out)).trans HX8.out)
            have HS9 := lhid (strs_stay (Ts := tC) (by simp [tC, tM, tF]) HS8.out (Stay.below hb))
            have HF9 := lhid (flds_stay (Ts := tC) (by simp [tC]) HF8.out (Stay.below hb))
            have HM9 := lhid (mets_stay (fun _ h => h) HM8.out (Stay.below hb))
            have HW9 := lhid (below_rows HW8.out hb)
            clear hb
            have hfk : twiceB (c.methods.map (fun m : Met => (m.name, m.desc))) = twiceB (mKeys c) := rfl
            rw [hfk]
            clear hfk
            cases ht : twiceB (mKeys c) with
            | true =>
              have HM : Hid (filP s = .er 23) := lhid (by rw [HE.out]; unfold endC; rw [HT.out, ht]; rfl)
              clear ht
              go_wp2_with fail
              with_reducible refine (refuse_yes 23 _).mono ?_
              rintro e wz ⟨rfl, rfl⟩
              go_wp2_with fail
              exact ⟨rfl, fout_er HO9.out HM.out⟩
            | false =>
              have HM : Hid (filP s = .ok c []) := lhid (by rw [HE.out]; unfold endC; rw [HT.out, ht]; rfl)
              clear ht
              go_wp2_with fail
              with_reducible refine (refuse_no 23 _).mono ?_
              rintro e wz ⟨rfl, rfl⟩
              have q0 := heap_cell (i := 0) HC9.out rfl
              have p0 := heap_cell (i := 0) HX9.out rfl
              have z0 := heap_thaw HX9.out 0
              have q1 := heap_cell (i := 1) HC9.out rfl
              have p1 := heap_cell (i := 1) HX9.out rfl
              have z1 := heap_thaw HX9.out 1
              have q2 := heap_cell (i := 2) HC9.out rfl
              have p2 := heap_cell (i := 2) HX9.out rfl
              have z2 := heap_thaw HX9.out 2
              have q3 := heap_cell (i := 3) HC9.out rfl
              have p3 := heap_cell (i := 3) HX9.out rfl
              have z3 := heap_thaw HX9.out 3
              have q4 := heap_cell (i := 4) HC9.out rfl
              have p4 := heap_cell (i := 4) HX9.out rfl
              have z4 := heap_thaw HX9.out 4
              have q5 := heap_cell (i := 5) HC9.out rfl
              have p5 := heap_cell (i := 5) HX9.out rfl
              have z5 := heap_thaw HX9.out 5
              have q6 := heap_cell (i := 6) HC9.out rfl
              have p6 := heap_cell (i := 6) HX9.out rfl
              have z6 := heap_thaw HX9.out 6
              go_wp2_with fail
              refine bodyPost_ret (v := .agg #[.int .i64 c.flags, .string (tx c.name), .string (tx c.super), .slice aA c.ifaces.length ac, .slice (some ⟨g, 0, none⟩) c.pool.length c.pool.length, .slice bA c.fields.length bc, .slice dA c.methods.length dc]) (by simp [results, Tryz.results31, go_sem, p0, p1, p2, p3, p4, p5, p6]) rfl ?_
              exact fout_ok (c := c) (r := []) (two_cells (Nat.le_refl _) [.int .i64 c.flags, .string (tx c.name), .string (tx c.super), .slice aA c.ifaces.length ac, .slice (some ⟨g, 0, none⟩) c.pool.length c.pool.length, .slice bA c.fields.length bc, .slice dA c.methods.length dc] 0 _ HO9.out) HM.out ⟨_, _, _, rfl, strs_cells HS9.out ⟨_, _, HX9.out⟩ (by decide) [.int .i64 c.flags, .string (tx c.name), .string (tx c.super), .slice aA c.ifaces.length ac, .slice (some ⟨g, 0, none⟩) c.pool.length c.pool.length, .slice bA c.fields.length bc, .slice dA c.methods.length dc] 0, rows_cells HG.out.2.2 [.int .i64 c.flags, .string (tx c.name), .string (tx c.super), .slice aA c.ifaces.length ac, .slice (some ⟨g, 0, none⟩) c.pool.length c.pool.length, .slice bA c.fields.length bc, .slice dA c.methods.length dc] 0 _ HW9.out, flds_cells HF9.out ⟨_, _, HX9.out⟩ (by decide) [.int .i64 c.flags, .string (tx c.name), .string (tx c.super), .slice aA c.ifaces.length ac, .slice (some ⟨g, 0, none⟩) c.pool.length c.pool.length, .slice bA c.fields.length bc, .slice dA c.methods.length dc] 0, mets_cells HM9.out ⟨_, _, HX9.out⟩ (by decide) [.int .i64 c.flags, .string (tx c.name), .string (tx c.super), .slice aA c.ifaces.length ac, .slice (some ⟨g, 0, none⟩) c.pool.length c.pool.length, .slice bA c.fields.length bc, .slice dA c.methods.length dc] 0⟩
end Go.Proofs.YtdlmadckpcnkoaaGreat
