/- Contract of the document's body. Written by gen_ref6.py. -/
import Derived.Test.YtgihfcimngogfaaGreatM11
import Derived.Test.YtgihfcimngogfaaGreatJFileClass
import Derived.Deep.AppendLies
import Derived.Deep.RegionLaw
import Derived.Deep.CutBlock
namespace Go.Proofs.YtgihfcimngogfaaGreat
open Go.RowKit Go
set_option linter.unusedVariables false
def rCgh (L : List Con) (k : Nat) (σ : Sg) : Bs × Sg := if k = 0 then ([], σ) else match kAt L k 7 with
 | none => ([], wrS 12 σ)
 | some c => if c.text.head? = some 91 then ([], wrS 12 σ) else (c.text, σ)
def rRow (L : List Con) (σ : Sg) : Rw × Sg :=
 (⟨(rNum 2 σ).1, (rNum 2 (rNum 2 σ).2).1, (rNum 2 (rNum 2 (rNum 2 σ).2).2).1, (rCgh L (rNum 2 (rNum 2 (rNum 2 (rNum 2 σ).2).2).2).1 (rNum 2 (rNum 2 (rNum 2 (rNum 2 σ).2).2).2).2).1⟩, (rCgh L (rNum 2 (rNum 2 (rNum 2 (rNum 2 σ).2).2).2).1 (rNum 2 (rNum 2 (rNum 2 (rNum 2 σ).2).2).2).2).2)
def manyR {α : Type} (f : Sg → α × Sg) : Nat → List α → Sg → List α × Sg
 | 0, acc, σ => (acc, σ)
 | n + 1, acc, σ => if σ.1 ≠ 0 then (acc, σ) else manyR f n (acc ++ [(f σ).1]) (f σ).2
def rFrm (L : List Con) (σ : Sg) : Frm × Sg := (⟨(rNum 2 σ).1, (rTys L 40 (rNum 2 σ).2).1, (rTys L 20 (rTys L 40 (rNum 2 σ).2).2).1⟩, (rTys L 20 (rTys L 40 (rNum 2 σ).2).2).2)
def rCode (n : Nat) (σ : Sg) : Bs × Sg := if σ.1 ≠ 0 then ([], σ) else if (takeS σ.2 n).2 then (takeL σ.2 n, (11, takeS σ.2 n)) else (takeL σ.2 n, (0, takeS σ.2 n))
def rTail (L : List Con) (f : Nat) (m : Bs × Bs) (st lo : Nat) (code : Bs × Sg) : Met × Sg :=
 (fun k => (fun rows => (fun q => (fun frs => (⟨f, m.1, m.2, st, lo, code.1, rows.1, frs.1⟩, frs.2)) (manyR (rFrm L) q.1 [] q.2)) (rCnt 2 4000 rows.2)) (manyR (rRow L) k.1 [] k.2)) (rCnt 2 60 code.2)
def rBdy (L : List Con) (f : Nat) (m : Bs × Bs) (σ : Sg) : Met × Sg :=
 rTail L f m (rCnt 2 20 σ).1 (rCnt 2 40 (rCnt 2 20 σ).2).1 (rCode (rCnt 2 4000 (rCnt 2 40 (rCnt 2 20 σ).2).2).1 (rCnt 2 4000 (rCnt 2 40 (rCnt 2 20 σ).2).2).2)
theorem rNum_pos {n : Nat} {σ : Sg} (h : (rNum n σ).1 ≠ 0) : (rNum n σ).2.1 = 0 := by
 unfold rNum at h ⊢
 split
 ·rename_i h1
  rw [if_pos h1] at h
  exact absurd rfl h
 ·rename_i h1
  rw [if_neg h1] at h
  split
  ·rename_i h2
   rw [if_pos h2] at h
   exact absurd rfl h
  ·rfl
abbrev tR : List TypeId := [94, 39]
theorem Rf.turn {ρ : Rc} {σ : Sg} {w w' : World} (h : Rf ρ σ w) (hs : Stay tR w w') (hb : Below ρ.B w w') : Rf ρ σ w' := by
 refine ⟨⟨hs _ _ _ _ (by show 94 ∈ _; simp) h.d.doc, h.d.le, h.d.suf, rdB_below h.d.rd h.d.low hb, h.d.base, h.d.low, Nat.le_trans h.d.bw hb.size⟩, fun h0 => ⟨(h.pool h0).1, ?_, (h.pool h0).2.2⟩, h.good, h.small⟩
 obtain ⟨c, h1, h2⟩ := (h.pool h0).2.1
 exact ⟨c, hs _ _ _ _ (by simp) h1, h2⟩
theorem Rf.set {ρ : Rc} {σ : Sg} {w : World} (h : Rf ρ σ w) {b : Nat} {t : TypeId} (hb : Boxed w b t) (ht : t ∉ tR) (hB : ρ.B ≤ b) (i : Nat) (u : Value) : Rf ρ σ (w.setCell ⟨b, i, none⟩ u) := by
 obtain ⟨c, f, hb⟩ := hb
 exact h.turn ((Stay.refl tR w).set (p := ⟨b, i, none⟩) hb ht u) ((Below.refl ρ.B w).setCell (p := ⟨b, i, none⟩) hB u)
theorem Two.grown {P R : Nat} {a w w' : World} {row : Option Nat} (h : Two P R a w) (hg : w.grownBy w' row) (hr : ∀ k, row = some k → a.heap.size ≤ k) : Two P R a w' :=
 ⟨hg.os.trans h.os, hg.tape.trans h.tape, hg.output.trans h.output, Nat.le_trans h.size hg.size, fun k hk hR hP => (hg.block k (Nat.lt_of_lt_of_le hk h.size) (fun e => by have := hr k e.symm; omega)).trans (h.block k hk hR hP)⟩
theorem own_far {w w' : World} {B e size n : Nat} {v : Value} {xs : List Value} (h : w.ownsRow B e size v n xs) (hk : ∀ g, v.ownBlock = some g → w'.heap[g]? = w.heap[g]?) : w'.ownsRow B e size v n xs := by
 refine ⟨h.1, ?_⟩
 rcases h.2 with h2 | ⟨g, cap, cur, rfl, h2, h3, h4⟩
 ·exact .inl h2
 ·exact .inr ⟨g, cap, cur, rfl, h2, (hk g rfl).trans h3, h4⟩
set_option maxHeartbeats 16000000 in
set_option maxRecDepth 100000 in
theorem rbody_any (ρ : Rc) (σ : Sg) (D f : Nat) (m : Bs × Bs) (w : World) (h : Hid (Rf ρ σ w)) (hD : Hid (w.heap[D]? = some (.cells #[.int .i64 f, .string (tx m.1), .string (tx m.2), .int .i64 0, .int .i64 0, .slice none 0 0, .slice none 0 0, .slice none 0 0] 62 (0, 0)))) (hDM : D ≠ ρ.M) (hDB : ρ.B ≤ D) :
    Calls Tryz.prog 82 #[.pointer (some ⟨ρ.M, 0, none⟩), .pointer (some ⟨D, 0, none⟩)] w fun e w' => e = .returned (.tuple #[]) ∧ Two D ρ.M w w' ∧ Rf ρ (rBdy ρ.L f m σ).2 w' ∧ ∃ cs : List Value, w'.heap[D]? = some (.cells cs.toArray 62 (0, 0)) ∧ MetE w' (rBdy ρ.L f m σ).1 cs := by
  have HDM : Hid (D ≠ ρ.M) := lhid hDM
  have hdl := heap_lt hD.out
  have HDL := lhid hdl
  have hml := h.out.lt
  have HBW : Hid (ρ.B ≤ w.heap.size) := lhid h.out.d.bw
  have HDB := lhid hDB
  have HO0 : Hid (Two D ρ.M w w) := lhid (Two.refl D ρ.M w)
  go_enter Tryz.func82, Tryz.ntmps82
  obtain ⟨⟨st, t1⟩, hk1⟩ : ∃ p, rCnt 2 20 σ = p := ⟨_, rfl⟩
  have HK1 := lhid hk1
  clear hk1
  have HRx2 := lhid h.out
  go_wp2_with fail
  with_reducible refine (rcount_any ρ σ 2 20 2 20 _ HRx2 (by omega) (lhid rfl) (lhid rfl)).mono ?_
  rintro e w2 ⟨rfl, hr, ho⟩
  rw [HK1.out] at hr ⊢
  have HR2 := lhid hr
  have HS2 := lhid (Rf.stay h.out ho)
  have HO2 := lhid (HO0.out.step ho)
  have D_2 := lhid (Only.keep ho hD.out HDM.out)
  clear hr ho
  have q3 := heap_cell (i := 3) D_2.out rfl
  have z3 := heap_thaw D_2.out 3
  have D_3 : Hid ((w2.setCell ⟨D, 3, none⟩ (.int .i64 st)).heap[D]? = some (.cells #[.int .i64 f, .string (tx m.1), .string (tx m.2), .int .i64 st, .int .i64 0, .slice none 0 0, .slice none 0 0, .slice none 0 0] 62 (0, 0))) := lhid (heap_set D_2.out _)
  have HR3 := lhid (Rf.set HR2.out (show Boxed _ _ 62 from ⟨_, _, D_2.out⟩) (by decide) HDB.out 3 (.int .i64 st))
  have HO3 := lhid (HO2.out.setCell (p := ⟨D, 3, none⟩) (.inl (.inr rfl)) (.int .i64 st))
  obtain ⟨⟨lo, t4⟩, hk4⟩ : ∃ p, rCnt 2 40 t1 = p := ⟨_, rfl⟩
  have HK4 := lhid hk4
  clear hk4
  have HRx5 := lhid HR3.out
  go_wp2_with fail
  with_reducible refine (rcount_any ρ t1 2 40 2 40 _ HRx5 (by omega) (lhid rfl) (lhid rfl)).mono ?_
  rintro e w5 ⟨rfl, hr, ho⟩
  rw [HK4.out] at hr ⊢
  have HR5 := lhid hr
  have HS5 := lhid (Rf.stay HR3.out ho)
  have HO5 := lhid (HO3.out.step ho)
  have D_5 := lhid (Only.keep ho D_3.out HDM.out)
  clear hr ho
  have q6 := heap_cell (i := 4) D_5.out rfl
  have z6 := heap_thaw D_5.out 4
  have D_6 : Hid ((w5.setCell ⟨D, 4, none⟩ (.int .i64 lo)).heap[D]? = some (.cells #[.int .i64 f, .string (tx m.1), .string (tx m.2), .int .i64 st, .int .i64 lo, .slice none 0 0, .slice none 0 0, .slice none 0 0] 62 (0, 0))) := lhid (heap_set D_5.out _)
  have HR6 := lhid (Rf.set HR5.out (show Boxed _ _ 62 from ⟨_, _, D_5.out⟩) (by decide) HDB.out 4 (.int .i64 lo))
  have HO6 := lhid (HO5.out.setCell (p := ⟨D, 4, none⟩) (.inl (.inr rfl)) (.int .i64 lo))
  have hnle := rCnt_le 2 4000 t4
  obtain ⟨⟨n, t7⟩, hk7⟩ : ∃ p, rCnt 2 4000 t4 = p := ⟨_, rfl⟩
  have HK7 := lhid hk7
  clear hk7
  rw [HK7.out] at hnle
  have hnle2 : n ≤ 4000 := hnle
  clear hnle
  have HRx8 := lhid HR6.out
  go_wp2_with fail
  with_reducible refine (rcount_any ρ t4 2 4000 2 4000 _ HRx8 (by omega) (lhid rfl) (lhid rfl)).mono ?_
  rintro e w8 ⟨rfl, hr, ho⟩
  rw [HK7.out] at hr ⊢
  have HR8 := lhid hr
  have HS8 := lhid (Rf.stay HR6.out ho)
  have HO8 := lhid (HO6.out.step ho)
  have D_8 := lhid (Only.keep ho D_6.out HDM.out)
  clear hr ho
  have c4 := HR8.out.c4
  obtain ⟨⟨cd, t8⟩, hcd⟩ : ∃ p, rCode n t7 = p := ⟨_, rfl⟩
  have HCD := lhid hcd
  clear hcd
  go_upto_if 28 with fail
  go_cut [] from 12 (fun wc => ∃ v, Hid (wc.heap[D]? = some (.cells #[.int .i64 f, .string (tx m.1), .string (tx m.2), .int .i64 st, .int .i64 lo, v, .slice none 0 0, .slice none 0 0] 62 (0, 0))) ∧ Hid (BytsO wc v cd) ∧ Hid (Rf ρ t8 wc) ∧ Hid (Two D ρ.M w wc))
  case first =>
    by_cases h0 : t7.1 = 0
    · have t0 : ((t7.1 : Int) == 0) = true := by rw [h0]; rfl
      have H0 := lhid h0
      clear h0
      go_wp2_with fail
      with_reducible refine (refTake_any (tlR ρ.pv t7.1) ρ.B ρ.M ρ.v ρ.Lb t7.2 n _ HR8.out.d).mono ?_
      rintro e wT ⟨rfl, hd, ho⟩
      obtain ⟨⟨sl, sb⟩, hsb⟩ : ∃ p, takeS t7.2 n = p := ⟨_, rfl⟩
      rw [hsb] at hd
      have HSB := lhid hsb
      clear hsb
      have HRT : Hid (Rf ρ (0, (sl, sb)) wT) := lhid ⟨by rw [← H0.out]; exact hd, fun _ => ⟨(HR8.out.pool H0.out).1, (HR8.out.pool H0.out).2.1.keep ho (HR8.out.pool H0.out).2.2, (HR8.out.pool H0.out).2.2⟩, h.out.good, h.out.small⟩
      have HOT := lhid (HO8.out.step ho)
      have HDT := lhid (Only.keep ho D_8.out HDM.out)
      have hwT := HOT.out.size
      clear hd ho
      have hcl : (takeL t7.2 n).length ≤ maxLen := by have := takeL_short t7.2 n; unfold maxLen; omega
      obtain ⟨cap, c, fz, hcv, hc1, hc2, hc3⟩ := conv_new (takeL t7.2 n) wT
      have HC1 := lhid hc1
      have HC2 := lhid (hc2 hcl)
      have HC3 := lhid hc3
      clear hc1 hc2 hc3 hcl
      have HDTa := lhid ((Below.heap_alloc wT (.cells c 5 fz) _ (heap_lt HDT.out)).trans HDT.out)
      have qM := heap_cell (i := 5) HDTa.out rfl
      have zM := heap_thaw HDTa.out 5
      generalize hcode : takeL t7.2 n = code at *
      have HCO := lhid hcode
      clear hcode
      have HRS : Hid (Rf ρ (0, (sl, sb)) ((wT.alloc (.cells c 5 fz)).setCell ⟨D, 5, none⟩ (.slice (some ⟨wT.heap.size, 0, none⟩) code.length cap))) := lhid (Rf.set (HRT.out.alloc (.cells c 5 fz)) ⟨_, _, HDTa.out⟩ (by decide) HDB.out 5 (.slice (some ⟨wT.heap.size, 0, none⟩) code.length cap))
      have HDS : Hid (((wT.alloc (.cells c 5 fz)).setCell ⟨D, 5, none⟩ (.slice (some ⟨wT.heap.size, 0, none⟩) code.length cap)).heap[D]? = some (.cells #[.int .i64 f, .string (tx m.1), .string (tx m.2), .int .i64 st, .int .i64 lo, .slice (some ⟨wT.heap.size, 0, none⟩) code.length cap, .slice none 0 0, .slice none 0 0] 62 (0, 0))) := lhid (heap_set HDTa.out _)
      have HBV : Hid (BytsO (wT.alloc (.cells c 5 fz)) (.slice (some ⟨wT.heap.size, 0, none⟩) code.length cap) code) := lhid (.inr ⟨wT.heap.size, cap, c, fz, rfl, HC1.out, HC2.out, heap_alloc_new wT _, HC3.out⟩)
      have HBS : Hid (BytsO ((wT.alloc (.cells c 5 fz)).setCell ⟨D, 5, none⟩ (.slice (some ⟨wT.heap.size, 0, none⟩) code.length cap)) (.slice (some ⟨wT.heap.size, 0, none⟩) code.length cap) code) := lhid (byts_set HBV.out ⟨_, _, HDTa.out⟩ (by decide) 5 (.slice (some ⟨wT.heap.size, 0, none⟩) code.length cap))
      have HOS : Hid (Two D ρ.M w ((wT.alloc (.cells c 5 fz)).setCell ⟨D, 5, none⟩ (.slice (some ⟨wT.heap.size, 0, none⟩) code.length cap))) := lhid ((HOT.out.alloc (.cells c 5 fz)).setCell (p := ⟨D, 5, none⟩) (.inl (.inr rfl)) (.slice (some ⟨wT.heap.size, 0, none⟩) code.length cap))
      have HRd : Hid (Rf ρ (0, (sl, sb)) ((wT.alloc (.cells c 5 fz)).setCell ⟨D, 5, none⟩ (.slice (some ⟨wT.heap.size, 0, none⟩) code.length cap)).drew) := lhid (HRS.out.drewN 1)
      have HOd : Hid (Two D ρ.M w ((wT.alloc (.cells c 5 fz)).setCell ⟨D, 5, none⟩ (.slice (some ⟨wT.heap.size, 0, none⟩) code.length cap)).drew) := lhid ⟨HOS.out.os, HOS.out.tape, HOS.out.output, HOS.out.size, HOS.out.block⟩
      have HDd : Hid (((wT.alloc (.cells c 5 fz)).setCell ⟨D, 5, none⟩ (.slice (some ⟨wT.heap.size, 0, none⟩) code.length cap)).drew.heap[D]? = some (.cells #[.int .i64 f, .string (tx m.1), .string (tx m.2), .int .i64 st, .int .i64 lo, .slice (some ⟨wT.heap.size, 0, none⟩) code.length cap, .slice none 0 0, .slice none 0 0] 62 (0, 0))) := lhid HDS.out
      have HBd : Hid (BytsO ((wT.alloc (.cells c 5 fz)).setCell ⟨D, 5, none⟩ (.slice (some ⟨wT.heap.size, 0, none⟩) code.length cap)).drew (.slice (some ⟨wT.heap.size, 0, none⟩) code.length cap) code) := lhid (byts_drewN HBS.out 1)
      have d2 : ((wT.alloc (.cells c 5 fz)).setCell ⟨D, 5, none⟩ (.slice (some ⟨wT.heap.size, 0, none⟩) code.length cap)).cell? ⟨ρ.M, 2, none⟩ = some (.bool sb) := HRS.out.c2
      cases sb with
      | true =>
        have HE : Hid ((code, (11, (sl, true))) = (cd, t8)) := lhid (by rw [← HCD.out, rCode, if_neg (by rw [H0.out]; simp), HSB.out, if_pos rfl, HCO.out])
        have e1 := congrArg Prod.fst HE.out
        have e2 := congrArg Prod.snd HE.out
        dsimp only at e1 e2
        subst e1 e2
        go_wp2_with fail
        with_reducible refine (rwrong_any ρ (0, (sl, true)) 11 11 (by decide) _ HRd (lhid rfl)).mono ?_
        rintro e w2 ⟨rfl, hr, ho⟩
        rw [wrS_new 11 rfl] at hr
        go_wp2_with fail
        go_meet
        case rel =>
          exact ⟨_, lhid (Only.keep ho HDd.out HDM.out), lhid (byts_stay (by simp [tC, tM, tF]) HBd.out (Rf.stay HRd.out ho)), lhid hr, lhid (HOd.out.step ho)⟩
      | false =>
        have HE : Hid ((code, (0, (sl, false))) = (cd, t8)) := lhid (by rw [← HCD.out, rCode, if_neg (by rw [H0.out]; simp), HSB.out, if_neg (by simp), HCO.out])
        have e1 := congrArg Prod.fst HE.out
        have e2 := congrArg Prod.snd HE.out
        dsimp only at e1 e2
        subst e1 e2
        go_wp2_with fail
        go_meet
        case rel =>
          exact ⟨_, HDd, HBd, HRd, HOd⟩
    · have t0 : ((t7.1 : Int) == 0) = false := by rw [beq_eq_false_iff_ne]; omega
      have H0 := lhid h0
      clear h0
      have HE : Hid (([], t7) = (cd, t8)) := lhid (by rw [← HCD.out, rCode, if_pos H0.out])
      have e1 := congrArg Prod.fst HE.out
      have e2 := congrArg Prod.snd HE.out
      dsimp only at e1 e2
      subst e1 e2
      go_wp2_with fail
      go_meet
      case rel =>
        exact ⟨_, lhid D_8.out, lhid (.inl ⟨rfl, rfl⟩), lhid HR8.out, lhid HO8.out⟩
  case rest =>
    obtain ⟨v5, HDc, HB5, HRc, HOc⟩ := hcut
    clear c4 HR8 HO8 D_8 HS8 HRx8 HR6 HO6 D_6 q6 z6 HS5 HO5 D_5 HR5 HRx5 HR3 HO3 D_3 q3 z3 HS2 HO2 D_2 HR2 HRx2
    have hkle := rCnt_le 2 60 t8
    obtain ⟨⟨k, t9⟩, hk9⟩ : ∃ p, rCnt 2 60 t8 = p := ⟨_, rfl⟩
    have HK9 := lhid hk9
    clear hk9
    rw [HK9.out] at hkle
    have hkle2 : k ≤ 60 := hkle
    clear hkle
    go_wp2_with fail
    with_reducible refine (rcount_any ρ t8 2 60 2 60 _ HRc (by omega) (lhid rfl) (lhid rfl)).mono ?_
    rintro e w9 ⟨rfl, hr, ho⟩
    rw [HK9.out] at hr ⊢
    have HR9 := lhid hr
    have HO9 := lhid (HOc.out.step ho)
    have HD9 := lhid (Only.keep ho HDc.out HDM.out)
    have HB9 := lhid (byts_stay (by simp [tC, tM, tF]) HB5.out (Rf.stay HRc.out ho))
    clear hr ho HDc HB5 HRc HOc
    obtain ⟨⟨rows, τr⟩, hrows⟩ : ∃ p, manyR (rRow ρ.L) k [] t9 = p := ⟨_, rfl⟩
    have HROWS := lhid hrows
    clear hrows
    obtain ⟨i0, hi0, hz0, hz1, hz2⟩ := info_parts infoRw
    go_upto_block 0 with fail
    go_cut [] from 12 (fun wc => ∃ (A : Option Addr) (c : Nat) (xs : List Value), Hid (wc.heap[D]? = some (.cells #[.int .i64 f, .string (tx m.1), .string (tx m.2), .int .i64 st, .int .i64 lo, v5, .slice A rows.length c, .slice none 0 0] 62 (0, 0))) ∧ Hid (wc.ownsRow w.heap.size 88 4 (.slice A rows.length c) rows.length xs) ∧ Hid (ListE (RwE wc) rows xs) ∧ Hid (BytsO wc v5 cd) ∧ Hid (Rf ρ τr wc) ∧ Hid (Two D ρ.M w wc))
    case first =>
      go_wp2_with fail
      go_loopw [6] (fun i wr => ∃ (acc : List Rw) (σ' : Sg) (A : Option Addr) (c : Nat) (xs : List Value), i = .int .i64 acc.length ∧ acc.length ≤ k ∧ Hid (wr.heap[D]? = some (.cells #[.int .i64 f, .string (tx m.1), .string (tx m.2), .int .i64 st, .int .i64 lo, v5, .slice A acc.length c, .slice none 0 0] 62 (0, 0))) ∧ Hid (wr.ownsRow w.heap.size 88 4 (.slice A acc.length c) acc.length xs) ∧ Hid (ListE (RwE wr) acc xs) ∧ Hid (BytsO wr v5 cd) ∧ Hid (Rf ρ σ' wr) ∧ Hid (Two D ρ.M w wr) ∧ Hid (manyR (rRow ρ.L) (k - acc.length) acc σ' = (rows, τr))) (fun i _ => k - (intOf i).toNat)
      case atStart => exact ⟨[], _, none, 0, [], rfl, Nat.zero_le _, HD9, lhid (World.ownsRow_nil _ _ _ _), lhid rfl, HB9, HR9, HO9, HROWS⟩
      case round =>
        clear HD9 HB9 HR9 HO9 HROWS
        obtain ⟨acc, σ', A, c, xs, rfl, hle, HDr, HWr, HE1, HBr, HRr, HOr, HM⟩ := hrel
        have c4 := HRr.out.c4
        by_cases hlt : acc.length < k
        · have hlt2 : (acc.length : Int) < k := by omega
          by_cases h0 : σ'.1 = 0
          · have t0 : ((σ'.1 : Int) == 0) = true := by rw [h0]; rfl
            have H0 := lhid h0
            clear h0
            obtain ⟨⟨ra, τ1⟩, hk1⟩ : ∃ p, rNum 2 σ' = p := ⟨_, rfl⟩
            obtain ⟨⟨rb, τ2⟩, hk2⟩ : ∃ p, rNum 2 τ1 = p := ⟨_, rfl⟩
            obtain ⟨⟨rc, τ3⟩, hk3⟩ : ∃ p, rNum 2 τ2 = p := ⟨_, rfl⟩
            obtain ⟨⟨q, τ4⟩, hk4⟩ : ∃ p, rNum 2 τ3 = p := ⟨_, rfl⟩
            obtain ⟨⟨cg, τ5⟩, hk5⟩ : ∃ p, rCgh ρ.L q τ4 = p := ⟨_, rfl⟩
            have HROW : Hid (rRow ρ.L σ' = (⟨ra, rb, rc, cg⟩, τ5)) := lhid (by unfold rRow; rw [hk1]; dsimp only; rw [hk2]; dsimp only; rw [hk3]; dsimp only; rw [hk4]; dsimp only; rw [hk5])
            have HQ0 : Hid (q ≠ 0 → τ4.1 = 0) := lhid (by have := @rNum_pos 2 τ3; rw [hk4] at this; exact this)
            have HK1 := lhid hk1
            have HK2 := lhid hk2
            have HK3 := lhid hk3
            have HK4 := lhid hk4
            have HK5 := lhid hk5
            clear hk1 hk2 hk3 hk4 hk5
            go_wp2_with fail
            with_reducible refine (rnum_any ρ σ' 2 2 _ HRr (by omega) (lhid rfl)).mono ?_
            rintro e w1 ⟨rfl, hr, ho⟩
            rw [HK1.out] at hr ⊢
            have HR1 := lhid hr
            have HO1 := lhid (HOr.out.step ho)
            have HS1 := lhid (Rf.stay HRr.out ho)
            have HD1 := lhid (Only.keep ho HDr.out HDM.out)
            have HW1 := lhid (own_stay HWr.out HS1.out (by decide))
            have HB1 := lhid (byts_stay (by simp [tC, tM, tF]) HBr.out HS1.out)
            clear hr ho
            go_wp2_with fail
            have HXa : Hid ((w1.alloc (.cells #[.int .i64 ra, .int .i64 0, .int .i64 0, .string ⟨#[]⟩] 88 (0, 0))).heap[w1.heap.size]? = some (.cells #[.int .i64 ra, .int .i64 0, .int .i64 0, .string ⟨#[]⟩] 88 (0, 0))) := lhid (heap_alloc_new w1 _)
            have HRa := lhid (HR1.out.alloc (.cells #[.int .i64 ra, .int .i64 0, .int .i64 0, .string ⟨#[]⟩] 88 (0, 0)))
            have HOa := lhid (HO1.out.alloc (.cells #[.int .i64 ra, .int .i64 0, .int .i64 0, .string ⟨#[]⟩] 88 (0, 0)))
            have HDa := lhid ((Below.heap_alloc w1 (.cells #[.int .i64 ra, .int .i64 0, .int .i64 0, .string ⟨#[]⟩] 88 (0, 0)) _ (heap_lt HD1.out)).trans HD1.out)
            have HWa := lhid (HW1.out.alloc (.cells #[.int .i64 ra, .int .i64 0, .int .i64 0, .string ⟨#[]⟩] 88 (0, 0)))
            have HSaa : Hid (Stay tC w1 (w1.alloc (.cells #[.int .i64 ra, .int .i64 0, .int .i64 0, .string ⟨#[]⟩] 88 (0, 0)))) := lhid ((Stay.refl tC w1).alloc (.cells #[.int .i64 ra, .int .i64 0, .int .i64 0, .string ⟨#[]⟩] 88 (0, 0)))
            have HXw : Hid (w.heap.size ≤ w1.heap.size) := lhid HO1.out.size
            have HXM : Hid (w1.heap.size ≠ ρ.M) := lhid (Nat.ne_of_gt HR1.out.lt)
            have HDX : Hid (D ≠ w1.heap.size) := lhid (Nat.ne_of_lt (heap_lt HD1.out))
            have HXB : Hid (ρ.B ≤ w1.heap.size) := lhid (Nat.le_trans HBW.out HXw.out)
            have HXo : Hid (∀ g, (.slice A acc.length c : Value).ownBlock = some g → g ≠ w1.heap.size) := lhid fun g hg => Nat.ne_of_lt (HW1.out.lt g hg).2
            have HBa := lhid (byts_stay (by simp [tC, tM, tF]) HB1.out HSaa.out)
            generalize hWa : (w1.alloc (.cells #[.int .i64 ra, .int .i64 0, .int .i64 0, .string ⟨#[]⟩] 88 (0, 0))) = Wa at *
            generalize hX : w1.heap.size = X at *
            clear hWa hX
            with_reducible refine (rnum_any ρ τ1 2 2 _ HRa (by omega) (lhid rfl)).mono ?_
            rintro e w2 ⟨rfl, hr, ho⟩
            rw [HK2.out] at hr ⊢
            have HR2 := lhid hr
            have HO2 := lhid (HOa.out.step ho)
            have HS2 := lhid (Rf.stay HRa.out ho)
            have HD2 := lhid (Only.keep ho HDa.out HDM.out)
            have HW2 := lhid (own_stay HWa.out HS2.out (by decide))
            have HB2 := lhid (byts_stay (by simp [tC, tM, tF]) HBa.out HS2.out)
            have HX2 := lhid (Only.keep ho HXa.out HXM.out)
            clear hr ho
            have q2s := heap_cell (i := 1) HX2.out rfl
            have z2s := heap_thaw HX2.out 1
            have HX2s : Hid ((w2.setCell ⟨X, 1, none⟩ (.int .i64 rb)).heap[X]? = some (.cells #[.int .i64 ra, .int .i64 rb, .int .i64 0, .string ⟨#[]⟩] 88 (0, 0))) := lhid (heap_set HX2.out _)
            have HD2s := lhid ((Below.heap_setCell w2 ⟨X, 1, none⟩ (.int .i64 rb) D HDX.out).trans HD2.out)
            have HR2s := lhid (Rf.set HR2.out (show Boxed _ _ 88 from ⟨_, _, HX2.out⟩) (by decide) HXB.out 1 (.int .i64 rb))
            have HO2s := lhid (HO2.out.setCell (p := ⟨X, 1, none⟩) (.inr HXw.out) (.int .i64 rb))
            have HW2s := lhid (own_far HW2.out (w' := (w2.setCell ⟨X, 1, none⟩ (.int .i64 rb))) fun g hg => Below.heap_setCell _ _ _ _ (HXo.out g hg))
            have HB2s := lhid (byts_set HB2.out ⟨_, _, HX2.out⟩ (by decide) 1 (.int .i64 rb))
            go_wp2_with fail
            with_reducible refine (rnum_any ρ τ2 2 2 _ HR2s (by omega) (lhid rfl)).mono ?_
            rintro e w3 ⟨rfl, hr, ho⟩
            rw [HK3.out] at hr ⊢
            have HR3 := lhid hr
            have HO3 := lhid (HO2s.out.step ho)
            have HS3 := lhid (Rf.stay HR2s.out ho)
            have HD3 := lhid (Only.keep ho HD2s.out HDM.out)
            have HW3 := lhid (own_stay HW2s.out HS3.out (by decide))
            have HB3 := lhid (byts_stay (by simp [tC, tM, tF]) HB2s.out HS3.out)
            have HX3 := lhid (Only.keep ho HX2s.out HXM.out)
            clear hr ho
            have q3s := heap_cell (i := 2) HX3.out rfl
            have z3s := heap_thaw HX3.out 2
            have HX3s : Hid ((w3.setCell ⟨X, 2, none⟩ (.int .i64 rc)).heap[X]? = some (.cells #[.int .i64 ra, .int .i64 rb, .int .i64 rc, .string ⟨#[]⟩] 88 (0, 0))) := lhid (heap_set HX3.out _)
            have HD3s := lhid ((Below.heap_setCell w3 ⟨X, 2, none⟩ (.int .i64 rc) D HDX.out).trans HD3.out)
            have HR3s := lhid (Rf.set HR3.out (show Boxed _ _ 88 from ⟨_, _, HX3.out⟩) (by decide) HXB.out 2 (.int .i64 rc))
            have HO3s := lhid (HO3.out.setCell (p := ⟨X, 2, none⟩) (.inr HXw.out) (.int .i64 rc))
            have HW3s := lhid (own_far HW3.out (w' := (w3.setCell ⟨X, 2, none⟩ (.int .i64 rc))) fun g hg => Below.heap_setCell _ _ _ _ (HXo.out g hg))
            have HB3s := lhid (byts_set HB3.out ⟨_, _, HX3.out⟩ (by decide) 2 (.int .i64 rc))
            go_wp2_with fail
            with_reducible refine (rnum_any ρ τ3 2 2 _ HR3s (by omega) (lhid rfl)).mono ?_
            rintro e w4 ⟨rfl, hr, ho⟩
            rw [HK4.out] at hr ⊢
            have HR4 := lhid hr
            have HO4 := lhid (HO3s.out.step ho)
            have HS4 := lhid (Rf.stay HR3s.out ho)
            have HD4 := lhid (Only.keep ho HD3s.out HDM.out)
            have HW4 := lhid (own_stay HW3s.out HS4.out (by decide))
            have HB4 := lhid (byts_stay (by simp [tC, tM, tF]) HB3s.out HS4.out)
            have HX4 := lhid (Only.keep ho HX3s.out HXM.out)
            clear hr ho
            go_upto_if 71 with fail
            go_cut [] from 59 to 122 (fun wc => Hid (wc.heap[X]? = some (.cells #[.int .i64 ra, .int .i64 rb, .int .i64 rc, .string (tx cg)] 88 (0, 0))) ∧ Hid (wc.heap[D]? = some (.cells #[.int .i64 f, .string (tx m.1), .string (tx m.2), .int .i64 st, .int .i64 lo, v5, .slice A acc.length c, .slice none 0 0] 62 (0, 0))) ∧ Hid (wc.ownsRow w.heap.size 88 4 (.slice A acc.length c) acc.length xs) ∧ Hid (BytsO wc v5 cd) ∧ Hid (Rf ρ τ5 wc) ∧ Hid (Two D ρ.M w wc))
            case first =>
              by_cases hq : q = 0
              · subst hq
                have hk5 := HK5.out
                rw [rCgh, if_pos rfl] at hk5
                injection hk5 with e1 e2
                subst e1 e2
                clear HK5
                go_wp2_with fail
                go_meet
                case rel => exact ⟨HX4, HD4, HW4, HB4, HR4, HO4⟩
              · have hqp : (0 : Int) < q := by omega
                have H4 := lhid (HQ0.out hq)
                have hk5 := HK5.out
                rw [rCgh, if_neg hq] at hk5
                clear HK5 hq
                cases hc : kAt ρ.L q 7 with
                | none =>
                  rw [hc] at hk5
                  injection hk5 with e1 e2
                  subst e1 e2
                  have hcase := kAt_none hc
                  clear hc
                  rcases hcase with hl | ⟨x, hx, hne⟩
                  · have t2 : (ρ.L.length : Int) ≤ q := by omega
                    clear hl
                    have c3 := HR4.out.c3
                    have hpl := HR4.out.pool H4.out
                    rw [hpl.1] at c3
                    clear hpl
                    go_wp2_with fail
                    with_reducible refine (rwrong_any ρ τ4 12 12 (by decide) _ HR4 (lhid rfl)).mono ?_
                    rintro e w5 ⟨rfl, hr, ho⟩
                    have HRw := lhid hr
                    go_wp2_with fail
                    go_meet
                    case rel => exact ⟨lhid (Only.keep ho HX4.out HXM.out), lhid (Only.keep ho HD4.out HDM.out), lhid (own_stay HW4.out (Rf.stay HR4.out ho) (by decide)), lhid (byts_stay (by simp [tC, tM, tF]) HB4.out (Rf.stay HR4.out ho)), HRw, lhid (HO4.out.step ho)⟩
                  · have hil := (List.getElem?_eq_some_iff.1 hx).1
                    have t2 : ¬ (ρ.L.length : Int) ≤ q := by omega
                    have t2' : (q : Int) < ρ.L.length := by omega
                    have t3 : ((x.kind : Int) != 7) = true := by rw [bne_iff_ne]; omega
                    have HXX := lhid hx
                    clear hx hne hil
                    have c3 := HR4.out.c3
                    have hpl := HR4.out.pool H4.out
                    rw [hpl.1] at c3
                    obtain ⟨a0, a1, a2, a3, a4⟩ := con_at hpl.2.1 HXX.out
                    clear hpl a1 a2 a3 a4
                    go_wp2_with fail
                    with_reducible refine (rwrong_any ρ τ4 12 12 (by decide) _ HR4 (lhid rfl)).mono ?_
                    rintro e w5 ⟨rfl, hr, ho⟩
                    have HRw := lhid hr
                    go_wp2_with fail
                    go_meet
                    case rel => exact ⟨lhid (Only.keep ho HX4.out HXM.out), lhid (Only.keep ho HD4.out HDM.out), lhid (own_stay HW4.out (Rf.stay HR4.out ho) (by decide)), lhid (byts_stay (by simp [tC, tM, tF]) HB4.out (Rf.stay HR4.out ho)), HRw, lhid (HO4.out.step ho)⟩
                | some cc =>
                  rw [hc] at hk5
                  dsimp only at hk5
                  obtain ⟨hx, hxk⟩ := kAt_some hc
                  have hgood := at_named (s := []) (r := []) h.out.good (by unfold atP; rw [hc])
                  have hil := (List.getElem?_eq_some_iff.1 hx).1
                  have t2 : ¬ (ρ.L.length : Int) ≤ q := by omega
                  have t2' : (q : Int) < ρ.L.length := by omega
                  have t3 : ((cc.kind : Int) != 7) = false := by rw [bne_eq_false_iff_eq]; omega
                  have HXX := lhid hx
                  clear hx hc hil hxk
                  cases hct : cc.text with
                  | nil => rw [hct] at hgood; exact absurd hgood.1 (by decide)
                  | cons c0 r0 =>
                    rw [hct] at hk5
                    have hs := tx_cons_size c0 r0
                    have hs2 : (0 : Int) < (tx (c0 :: r0)).size := by omega
                    have HCT := lhid hct
                    clear hct hgood
                    cases hb : (c0 == 91) with
                    | true =>
                      have t4 : ((((tx (c0 :: r0))[0]'hs).toNat : Int) == 91) = true := by rw [tx_at]; exact u8_lit c0 91 (by omega) _ hb
                      have hb2 : (c0 :: r0).head? = some 91 := by simpa using hb
                      rw [if_pos hb2] at hk5
                      injection hk5 with e1 e2
                      subst e1 e2
                      clear hb hb2
                      have c3 := HR4.out.c3
                      have hpl := HR4.out.pool H4.out
                      rw [hpl.1] at c3
                      obtain ⟨a0, a1, a2, a3, a4⟩ := con_at hpl.2.1 HXX.out
                      rw [HCT.out] at a2
                      clear hpl a1 a3 a4
                      go_wp2_with fail
                      with_reducible refine (rwrong_any ρ τ4 12 12 (by decide) _ HR4 (lhid rfl)).mono ?_
                      rintro e w5 ⟨rfl, hr, ho⟩
                      have HRw := lhid hr
                      go_wp2_with fail
                      go_meet
                      case rel => exact ⟨lhid (Only.keep ho HX4.out HXM.out), lhid (Only.keep ho HD4.out HDM.out), lhid (own_stay HW4.out (Rf.stay HR4.out ho) (by decide)), lhid (byts_stay (by simp [tC, tM, tF]) HB4.out (Rf.stay HR4.out ho)), HRw, lhid (HO4.out.step ho)⟩
                    | false =>
                      have t4 : ((((tx (c0 :: r0))[0]'hs).toNat : Int) == 91) = false := by rw [tx_at]; exact u8_lit c0 91 (by omega) _ hb
                      have hb2 : ¬ (c0 :: r0).head? = some 91 := by simpa using hb
                      rw [if_neg hb2] at hk5
                      injection hk5 with e1 e2
                      subst e1 e2
                      clear hb hb2
                      have c3 := HR4.out.c3
                      have hpl := HR4.out.pool H4.out
                      rw [hpl.1] at c3
                      obtain ⟨a0, a1, a2, a3, a4⟩ := con_at hpl.2.1 HXX.out
                      rw [HCT.out] at a2
                      clear hpl a1 a3 a4
                      have q4s := heap_cell (i := 3) HX4.out rfl
                      have z4s := heap_thaw HX4.out 3
                      go_wp2_with fail
                      go_meet
                      case rel => exact ⟨lhid (heap_set HX4.out _), lhid ((Below.heap_setCell w4 ⟨X, 3, none⟩ (.string (tx (c0 :: r0))) D HDX.out).trans HD4.out), lhid (own_far HW4.out fun g hg => Below.heap_setCell _ _ _ _ (HXo.out g hg)), lhid (byts_set HB4.out ⟨_, _, HX4.out⟩ (by decide) 3 _), lhid (Rf.set HR4.out (show Boxed _ _ 88 from ⟨_, _, HX4.out⟩) (by decide) HXB.out 3 _), lhid (HO4.out.setCell (p := ⟨X, 3, none⟩) (.inr HXw.out) _)⟩
            case rest =>
              obtain ⟨HX5, HD5, HW5, HB5, HR5, HO5⟩ := hcut
              generalize wc = w5 at *
              clear HX4 HD4 HW4 HB4 HR4 HO4 HS4
              have HRa : Hid (Rf ρ τ5 (w5.alloc (.cells #[.int .i64 ra, .int .i64 rb, .int .i64 rc, .string (tx cg)] 88 (0, 0))).drew) := lhid ((HR5.out.alloc (.cells #[.int .i64 ra, .int .i64 rb, .int .i64 rc, .string (tx cg)] 88 (0, 0))).drewN 1)
              have HWa : Hid ((w5.alloc (.cells #[.int .i64 ra, .int .i64 rb, .int .i64 rc, .string (tx cg)] 88 (0, 0))).drew.ownsRow w.heap.size 88 4 (.slice A acc.length c) acc.length xs) := lhid (own_far (HW5.out.alloc (.cells #[.int .i64 ra, .int .i64 rb, .int .i64 rc, .string (tx cg)] 88 (0, 0))) (w' := (w5.alloc (.cells #[.int .i64 ra, .int .i64 rb, .int .i64 rc, .string (tx cg)] 88 (0, 0))).drew) fun _ _ => rfl)
              have HDa : Hid ((w5.alloc (.cells #[.int .i64 ra, .int .i64 rb, .int .i64 rc, .string (tx cg)] 88 (0, 0))).heap[D]? = some (.cells #[.int .i64 f, .string (tx m.1), .string (tx m.2), .int .i64 st, .int .i64 lo, v5, .slice A acc.length c, .slice none 0 0] 62 (0, 0))) := lhid ((Below.heap_alloc w5 (.cells #[.int .i64 ra, .int .i64 rb, .int .i64 rc, .string (tx cg)] 88 (0, 0)) _ (heap_lt HD5.out)).trans HD5.out)
              have HBa : Hid (BytsO (w5.alloc (.cells #[.int .i64 ra, .int .i64 rb, .int .i64 rc, .string (tx cg)] 88 (0, 0))).drew v5 cd) := lhid (byts_drewN (byts_stay (by simp [tC, tM, tF]) HB5.out ((Stay.refl tC w5).alloc (.cells #[.int .i64 ra, .int .i64 rb, .int .i64 rc, .string (tx cg)] 88 (0, 0)))) 1)
              have HOa : Hid (Two D ρ.M w (w5.alloc (.cells #[.int .i64 ra, .int .i64 rb, .int .i64 rc, .string (tx cg)] 88 (0, 0))).drew) := lhid ((HO5.out.alloc (.cells #[.int .i64 ra, .int .i64 rb, .int .i64 rc, .string (tx cg)] 88 (0, 0))).drew)
              have HNa : Hid ((w5.alloc (.cells #[.int .i64 ra, .int .i64 rb, .int .i64 rc, .string (tx cg)] 88 (0, 0))).drew.heap[w5.heap.size]? = some (.cells #[.int .i64 ra, .int .i64 rb, .int .i64 rc, .string (tx cg)] 88 (0, 0))) := lhid (heap_alloc_new w5 (.cells #[.int .i64 ra, .int .i64 rb, .int .i64 rc, .string (tx cg)] 88 (0, 0)))
              have H1C : Hid (∀ u ∈ ([.int .i64 ra, .int .i64 rb, .int .i64 rc, .string (tx cg)] : List Value), u.oneCell' = true) := lhid (by intro u hu; simp at hu; rcases hu with rfl | rfl | rfl | rfl <;> simp [Value.oneCell'])
              have h63 : acc.length + 1 ≤ maxLen := by unfold maxLen; omega
              have hby : (acc.length + 1) * 40 ≤ 140737488355328 := by omega
              have x0 := heap_cell (i := 0) HX5.out rfl
              have x1 := heap_cell (i := 1) HX5.out rfl
              have x2 := heap_cell (i := 2) HX5.out rfl
              have x3 := heap_cell (i := 3) HX5.out rfl
              have d6 := heap_cell (i := 6) HD5.out rfl
              have d6a := heap_cell (i := 6) HDa.out rfl
              go_upto_region 19 with fail
              go_region_law (refine step_append_lies _ rfl (.tmp 117) (.tmp 119) 59 rfl w.heap.size 88 i0 (.agg #[.int .i64 0, .int .i64 0, .int .i64 0, .string ⟨#[]⟩]) 4 40 Tryz.underlying59 hi0 hz0 hz1 hz2 rfl (by decide) (.slice A acc.length c) acc.length xs rfl HWa.out _ 1 _ [.int .i64 ra, .int .i64 rb, .int .i64 rc, .string (tx cg)] rfl rfl (World.news_of_block HNa.out) H1C.out (by decide) h63 hby HOa.out.size _ rfl ?_
                             intro g cap w6 hown hgrow hat hlt6
                             have hown' := hown
                             have hge := own_lt HWa.out
                             have hD6 : w6.heap[D]? = some (.cells #[.int .i64 f, .string (tx m.1), .string (tx m.2), .int .i64 st, .int .i64 lo, v5, .slice A acc.length c, .slice none 0 0] 62 (0, 0)) := by
                               rw [hgrow.block D (heap_lt HDa.out) (fun e => by have := hge D e.symm; have := HDL.out; omega)]
                               exact HDa.out
                             have q6 := heap_cell (i := 6) hD6 rfl
                             have z6 := heap_thaw hD6 6)
              all_goals
                have HDn : Hid ((w6.setCell ⟨D, 6, none⟩ (.slice (some ⟨g, 0, none⟩) (acc.length + 1) cap)).heap[D]? = some (.cells #[.int .i64 f, .string (tx m.1), .string (tx m.2), .int .i64 st, .int .i64 lo, v5, .slice (some ⟨g, 0, none⟩) (acc.length + 1) cap, .slice none 0 0] 62 (0, 0))) := lhid (heap_set hD6 _)
                have HWn : Hid ((w6.setCell ⟨D, 6, none⟩ (.slice (some ⟨g, 0, none⟩) (acc.length + 1) cap)).ownsRow w.heap.size 88 4 (.slice (some ⟨g, 0, none⟩) (acc.length + 1) cap) (acc.length + 1) (xs ++ [.int .i64 ra, .int .i64 rb, .int .i64 rc, .string (tx cg)])) := lhid (own_far hown fun g' hg' => Below.heap_setCell _ _ _ _ (show g' ≠ D from by have := (hown.lt g' hg').1; have := HDL.out; omega))
                have HEn : Hid (ListE (RwE (w6.setCell ⟨D, 6, none⟩ (.slice (some ⟨g, 0, none⟩) (acc.length + 1) cap))) (acc ++ [(⟨ra, rb, rc, cg⟩ : Rw)]) (xs ++ [.int .i64 ra, .int .i64 rb, .int .i64 rc, .string (tx cg)])) := lhid (ListE.snoc (E := RwE (w6.setCell ⟨D, 6, none⟩ (.slice (some ⟨g, 0, none⟩) (acc.length + 1) cap))) rfl (HE1.out.imp fun _ _ h => h))
                have HBn : Hid (BytsO (w6.setCell ⟨D, 6, none⟩ (.slice (some ⟨g, 0, none⟩) (acc.length + 1) cap)) v5 cd) := lhid (byts_set (byts_stay (Ts := [5]) (by simp) HBa.out (grown_stay hgrow HWa.out (by decide))) ⟨_, _, hD6⟩ (by decide) 6 _)
                have HRn : Hid (Rf ρ τ5 (w6.setCell ⟨D, 6, none⟩ (.slice (some ⟨g, 0, none⟩) (acc.length + 1) cap))) := lhid (Rf.set (Rf.grown HRa.out hgrow (grown_stay hgrow HWa.out (by decide)) (fun k hk => Nat.le_trans HBW.out (hge k hk))) (show Boxed _ _ 62 from ⟨_, _, hD6⟩) (by decide) HDB.out 6 _)
                have HOn : Hid (Two D ρ.M w (w6.setCell ⟨D, 6, none⟩ (.slice (some ⟨g, 0, none⟩) (acc.length + 1) cap))) := lhid ((Two.grown HOa.out hgrow hge).setCell (p := ⟨D, 6, none⟩) (.inl (.inr rfl)) _)
                clear hown hown' hgrow hat hge hlt6 hD6 q6 z6
                go_wp2
                go_roundw
                case rel =>
                  have hlen : (acc ++ [(⟨ra, rb, rc, cg⟩ : Rw)]).length = acc.length + 1 := by simp
                  refine ⟨acc ++ [(⟨ra, rb, rc, cg⟩ : Rw)], τ5, some ⟨g, 0, none⟩, cap, xs ++ [.int .i64 ra, .int .i64 rb, .int .i64 rc, .string (tx cg)], by simp, by omega, lhid (by rw [hlen]; exact HDn.out), lhid (by rw [hlen]; exact HWn.out), HEn, HBn, HRn, HOn, lhid ?_⟩
                  rw [← HM.out, show k - acc.length = k - (acc ++ [(⟨ra, rb, rc, cg⟩ : Rw)]).length + 1 by omega, manyR, if_neg (by rw [H0.out]; simp), HROW.out]
                case measure => simp [intOf]; omega
          · have t0 : ((σ'.1 : Int) == 0) = false := by rw [beq_eq_false_iff_ne]; omega
            have H0 := lhid h0
            clear h0
            have hm2 := HM.out
            rw [show k - acc.length = k - acc.length - 1 + 1 by omega, manyR, if_pos H0.out] at hm2
            injection hm2 with e1 e2
            subst e1 e2
            clear HM
            go_wp2_with fail
            go_meet
            case rel => exact ⟨_, _, _, HDr, HWr, HE1, HBr, HRr, HOr⟩
        · have he : acc.length = k := by omega
          have hlt2 : ¬ (acc.length : Int) < k := by omega
          have hm2 := HM.out
          rw [he, Nat.sub_self] at hm2
          injection hm2 with e1 e2
          subst e1 e2
          clear HM he
          go_wp2_with fail
          go_meet
          case rel => exact ⟨_, _, _, HDr, HWr, HE1, HBr, HRr, HOr⟩
    case rest =>
      obtain ⟨A6, c6, xs6, HD1, HOW1, HE1, HB1, HR1, HO1⟩ := hcut
      clear HD9 HB9 HR9 HO9 hz2 hz1 hz0 hi0 i0
      generalize wc = w10 at *
      have HV1 : Hid (RwsO w10 (.slice A6 rows.length c6) rows) := lhid ⟨xs6, own_base HOW1.out (Nat.zero_le _), HE1.out⟩
      clear HOW1 HE1
      have hqle := rCnt_le 2 4000 τr
      obtain ⟨⟨q2, t11⟩, hk11⟩ : ∃ p, rCnt 2 4000 τr = p := ⟨_, rfl⟩
      have HK11 := lhid hk11
      clear hk11
      rw [HK11.out] at hqle
      have hqle2 : q2 ≤ 4000 := hqle
      clear hqle
      go_wp2_with fail
      with_reducible refine (rcount_any ρ τr 2 4000 2 4000 _ HR1 (by omega) (lhid rfl) (lhid rfl)).mono ?_
      rintro e w11 ⟨rfl, hr, ho⟩
      rw [HK11.out] at hr ⊢
      have HR11 := lhid hr
      have HO11 := lhid (HO1.out.step ho)
      have HD11 := lhid (Only.keep ho HD1.out HDM.out)
      have HS11 := lhid (Rf.stay HR1.out ho)
      have HB11 := lhid (byts_stay (by simp [tC, tM, tF]) HB1.out HS11.out)
      have HV11 := lhid (rws_stay (by simp [tC, tM, tF]) HV1.out HS11.out)
      clear hr ho HD1 HB1 HR1 HO1 HV1 HS11
      obtain ⟨⟨frs, τf⟩, hfrs⟩ : ∃ p, manyR (rFrm ρ.L) q2 [] t11 = p := ⟨_, rfl⟩
      have HFRS := lhid hfrs
      clear hfrs
      have HBDY : Hid (rBdy ρ.L f m σ = (⟨f, m.1, m.2, st, lo, cd, rows, frs⟩, τf)) := lhid (by simp only [rBdy, rTail, HK1.out, HK4.out, HK7.out, HCD.out, HK9.out, HROWS.out, HK11.out, HFRS.out])
      obtain ⟨i0, hi0, hz0, hz1, hz2⟩ := info_parts infoFrm
      go_wp2_with fail
      go_loopw [10] (fun i wr => ∃ (acc : List Frm) (σ' : Sg) (A : Option Addr) (c : Nat) (xs : List Value), i = .int .i64 acc.length ∧ acc.length ≤ q2 ∧ Hid (wr.heap[D]? = some (.cells #[.int .i64 f, .string (tx m.1), .string (tx m.2), .int .i64 st, .int .i64 lo, v5, .slice A6 rows.length c6, .slice A acc.length c] 62 (0, 0))) ∧ Hid (wr.ownsRow w.heap.size 74 3 (.slice A acc.length c) acc.length xs) ∧ Hid (ListE (FrmE wr) acc xs) ∧ Hid (BytsO wr v5 cd) ∧ Hid (RwsO wr (.slice A6 rows.length c6) rows) ∧ Hid (Rf ρ σ' wr) ∧ Hid (Two D ρ.M w wr) ∧ Hid (manyR (rFrm ρ.L) (q2 - acc.length) acc σ' = (frs, τf))) (fun i _ => q2 - (intOf i).toNat)
      case atStart => exact ⟨[], _, none, 0, [], rfl, Nat.zero_le _, HD11, lhid (World.ownsRow_nil _ _ _ _), lhid rfl, HB11, HV11, HR11, HO11, HFRS⟩
      case round =>
        clear HD11 HB11 HV11 HR11 HO11 HFRS
        obtain ⟨acc, σ', A, c, xs, rfl, hle, HDr, HWr, HEr, HBr, HVr, HRr, HOr, HM⟩ := hrel
        have c4 := HRr.out.c4
        by_cases hlt : acc.length < q2
        · have hlt2 : (acc.length : Int) < q2 := by omega
          by_cases h0 : σ'.1 = 0
          · have t0 : ((σ'.1 : Int) == 0) = true := by rw [h0]; rfl
            have H0 := lhid h0
            clear h0
            obtain ⟨⟨pc, τ1⟩, hk1⟩ : ∃ p, rNum 2 σ' = p := ⟨_, rfl⟩
            obtain ⟨⟨ls, τ2⟩, hk2⟩ : ∃ p, rTys ρ.L 40 τ1 = p := ⟨_, rfl⟩
            obtain ⟨⟨ss, τ3⟩, hk3⟩ : ∃ p, rTys ρ.L 20 τ2 = p := ⟨_, rfl⟩
            have HROW : Hid (rFrm ρ.L σ' = (⟨pc, ls, ss⟩, τ3)) := lhid (by unfold rFrm; rw [hk1]; dsimp only; rw [hk2]; dsimp only; rw [hk3])
            have HK1 := lhid hk1
            have HK2 := lhid hk2
            have HK3 := lhid hk3
            clear hk1 hk2 hk3
            go_wp2_with fail
            with_reducible refine (rnum_any ρ σ' 2 2 _ HRr (by omega) (lhid rfl)).mono ?_
            rintro e w1 ⟨rfl, hr, ho⟩
            rw [HK1.out] at hr ⊢
            have HR1 := lhid hr
            have HO1 := lhid (HOr.out.step ho)
            have HS1 := lhid (Rf.stay HRr.out ho)
            have HD1 := lhid (Only.keep ho HDr.out HDM.out)
            have HW1 := lhid (own_stay HWr.out HS1.out (by decide))
            have HB1 := lhid (byts_stay (by simp [tC, tM, tF]) HBr.out HS1.out)
            have HV1 := lhid (rws_stay (by simp [tC, tM, tF]) HVr.out HS1.out)
            have HE1 := lhid (HEr.out.imp fun a c h => frmE_keeps (Ts := tC) (by simp [tC, tM, tF]) _ _ _ _ HS1.out h)
            clear hr ho
            go_wp2_with fail
            have HXa : Hid ((w1.alloc (.cells #[.int .i64 pc, .slice none 0 0, .slice none 0 0] 74 (0, 0))).heap[w1.heap.size]? = some (.cells #[.int .i64 pc, .slice none 0 0, .slice none 0 0] 74 (0, 0))) := lhid (heap_alloc_new w1 _)
            have HRa := lhid (HR1.out.alloc (.cells #[.int .i64 pc, .slice none 0 0, .slice none 0 0] 74 (0, 0)))
            have HOa := lhid (HO1.out.alloc (.cells #[.int .i64 pc, .slice none 0 0, .slice none 0 0] 74 (0, 0)))
            have HDa := lhid ((Below.heap_alloc w1 (.cells #[.int .i64 pc, .slice none 0 0, .slice none 0 0] 74 (0, 0)) _ (heap_lt HD1.out)).trans HD1.out)
            have HWa := lhid (HW1.out.alloc (.cells #[.int .i64 pc, .slice none 0 0, .slice none 0 0] 74 (0, 0)))
            have HSaa : Hid (Stay tC w1 (w1.alloc (.cells #[.int .i64 pc, .slice none 0 0, .slice none 0 0] 74 (0, 0)))) := lhid ((Stay.refl tC w1).alloc (.cells #[.int .i64 pc, .slice none 0 0, .slice none 0 0] 74 (0, 0)))
            have HXw : Hid (w.heap.size ≤ w1.heap.size) := lhid HO1.out.size
            have HXM : Hid (w1.heap.size ≠ ρ.M) := lhid (Nat.ne_of_gt HR1.out.lt)
            have HDX : Hid (D ≠ w1.heap.size) := lhid (Nat.ne_of_lt (heap_lt HD1.out))
            have HXB : Hid (ρ.B ≤ w1.heap.size) := lhid (Nat.le_trans HBW.out HXw.out)
            have HXo : Hid (∀ g, (.slice A acc.length c : Value).ownBlock = some g → g ≠ w1.heap.size) := lhid fun g hg => Nat.ne_of_lt (HW1.out.lt g hg).2
            have HBa := lhid (byts_stay (by simp [tC, tM, tF]) HB1.out HSaa.out)
            have HVa := lhid (rws_stay (by simp [tC, tM, tF]) HV1.out HSaa.out)
            have HEa := lhid (HE1.out.imp fun a c h => frmE_keeps (Ts := tC) (by simp [tC, tM, tF]) _ _ _ _ HSaa.out h)
            generalize hWa : (w1.alloc (.cells #[.int .i64 pc, .slice none 0 0, .slice none 0 0] 74 (0, 0))) = Wa at *
            generalize hX : w1.heap.size = X at *
            clear hWa hX
            with_reducible refine (rtypes_any ρ τ1 40 40 _ HRa (by omega) (lhid rfl)).mono ?_
            rintro e w2 ⟨v, rfl, hv, hr, ho⟩
            rw [HK2.out] at hr hv
            have HR2 := lhid hr
            have HO2 := lhid (HOa.out.step ho)
            have HS2 := lhid (Rf.stay HRa.out ho)
            have HD2 := lhid (Only.keep ho HDa.out HDM.out)
            have HW2 := lhid (own_stay HWa.out HS2.out (by decide))
            have HB2 := lhid (byts_stay (by simp [tC, tM, tF]) HBa.out HS2.out)
            have HV2 := lhid (rws_stay (by simp [tC, tM, tF]) HVa.out HS2.out)
            have HE2 := lhid (HEa.out.imp fun a c h => frmE_keeps (Ts := tC) (by simp [tC, tM, tF]) _ _ _ _ HS2.out h)
            have HX2 := lhid (Only.keep ho HXa.out HXM.out)
            clear hr ho
            obtain ⟨A1, c1, rfl⟩ := slO_shape hv
            have HL2 := lhid hv
            clear hv
            have q2s := heap_cell (i := 1) HX2.out rfl
            have z2s := heap_thaw HX2.out 1
            have HX2s : Hid ((w2.setCell ⟨X, 1, none⟩ (.slice A1 ls.length c1)).heap[X]? = some (.cells #[.int .i64 pc, .slice A1 ls.length c1, .slice none 0 0] 74 (0, 0))) := lhid (heap_set HX2.out _)
            have HD2s := lhid ((Below.heap_setCell w2 ⟨X, 1, none⟩ (.slice A1 ls.length c1) D HDX.out).trans HD2.out)
            have HR2s := lhid (Rf.set HR2.out (show Boxed _ _ 74 from ⟨_, _, HX2.out⟩) (by decide) HXB.out 1 (.slice A1 ls.length c1))
            have HO2s := lhid (HO2.out.setCell (p := ⟨X, 1, none⟩) (.inr HXw.out) (.slice A1 ls.length c1))
            have HW2s := lhid (own_far HW2.out (w' := (w2.setCell ⟨X, 1, none⟩ (.slice A1 ls.length c1))) fun g hg => Below.heap_setCell _ _ _ _ (HXo.out g hg))
            have HB2s := lhid (byts_set HB2.out ⟨_, _, HX2.out⟩ (by decide) 1 (.slice A1 ls.length c1))
            have HV2s := lhid (rws_set HV2.out ⟨_, _, HX2.out⟩ (by decide) 1 (.slice A1 ls.length c1))
            have HE2s := lhid (HE2.out.imp fun a c h => frmE_keeps (Ts := [9]) (by simp) _ _ _ _ ((Stay.refl [9] _).set (p := ⟨X, 1, none⟩) HX2.out (by decide) (.slice A1 ls.length c1)) h)
            have HL2s := lhid (strs_set HL2.out ⟨_, _, HX2.out⟩ (by decide) 1 (.slice A1 ls.length c1))
            go_wp2_with fail
            with_reducible refine (rtypes_any ρ τ2 20 20 _ HR2s (by omega) (lhid rfl)).mono ?_
            rintro e w3 ⟨v, rfl, hv, hr, ho⟩
            rw [HK3.out] at hr hv
            have HR3 := lhid hr
            have HO3 := lhid (HO2s.out.step ho)
            have HS3 := lhid (Rf.stay HR2s.out ho)
            have HD3 := lhid (Only.keep ho HD2s.out HDM.out)
            have HW3 := lhid (own_stay HW2s.out HS3.out (by decide))
            have HB3 := lhid (byts_stay (by simp [tC, tM, tF]) HB2s.out HS3.out)
            have HV3 := lhid (rws_stay (by simp [tC, tM, tF]) HV2s.out HS3.out)
            have HE3 := lhid (HE2s.out.imp fun a c h => frmE_keeps (Ts := tC) (by simp [tC, tM, tF]) _ _ _ _ HS3.out h)
            have HL3 := lhid (strs_stay (by simp [tC, tM, tF]) HL2s.out HS3.out)
            have HX3 := lhid (Only.keep ho HX2s.out HXM.out)
            clear hr ho
            obtain ⟨A2, c2, rfl⟩ := slO_shape hv
            have HM3 := lhid hv
            clear hv
            have q3s := heap_cell (i := 2) HX3.out rfl
            have z3s := heap_thaw HX3.out 2
            have HX3s : Hid ((w3.setCell ⟨X, 2, none⟩ (.slice A2 ss.length c2)).heap[X]? = some (.cells #[.int .i64 pc, .slice A1 ls.length c1, .slice A2 ss.length c2] 74 (0, 0))) := lhid (heap_set HX3.out _)
            have HD3s := lhid ((Below.heap_setCell w3 ⟨X, 2, none⟩ (.slice A2 ss.length c2) D HDX.out).trans HD3.out)
            have HR3s := lhid (Rf.set HR3.out (show Boxed _ _ 74 from ⟨_, _, HX3.out⟩) (by decide) HXB.out 2 (.slice A2 ss.length c2))
            have HO3s := lhid (HO3.out.setCell (p := ⟨X, 2, none⟩) (.inr HXw.out) (.slice A2 ss.length c2))
            have HW3s := lhid (own_far HW3.out (w' := (w3.setCell ⟨X, 2, none⟩ (.slice A2 ss.length c2))) fun g hg => Below.heap_setCell _ _ _ _ (HXo.out g hg))
            have HB3s := lhid (byts_set HB3.out ⟨_, _, HX3.out⟩ (by decide) 2 (.slice A2 ss.length c2))
            have HV3s := lhid (rws_set HV3.out ⟨_, _, HX3.out⟩ (by decide) 2 (.slice A2 ss.length c2))
            have HE3s := lhid (HE3.out.imp fun a c h => frmE_keeps (Ts := [9]) (by simp) _ _ _ _ ((Stay.refl [9] _).set (p := ⟨X, 2, none⟩) HX3.out (by decide) (.slice A2 ss.length c2)) h)
            have HL3s := lhid (strs_set HL3.out ⟨_, _, HX3.out⟩ (by decide) 2 (.slice A2 ss.length c2))
            have HM3s := lhid (strs_set HM3.out ⟨_, _, HX3.out⟩ (by decide) 2 (.slice A2 ss.length c2))
            go_upto_region 27 with fail
            generalize (w3.setCell ⟨X, 2, none⟩ (.slice A2 ss.length c2)) = w5 at *
            skip
            have HRa : Hid (Rf ρ τ3 (w5.alloc (.cells #[.int .i64 pc, .slice A1 ls.length c1, .slice A2 ss.length c2] 74 (0, 0))).drew) := lhid ((HR3s.out.alloc (.cells #[.int .i64 pc, .slice A1 ls.length c1, .slice A2 ss.length c2] 74 (0, 0))).drewN 1)
            have HWa : Hid ((w5.alloc (.cells #[.int .i64 pc, .slice A1 ls.length c1, .slice A2 ss.length c2] 74 (0, 0))).drew.ownsRow w.heap.size 74 3 (.slice A acc.length c) acc.length xs) := lhid (own_far (HW3s.out.alloc (.cells #[.int .i64 pc, .slice A1 ls.length c1, .slice A2 ss.length c2] 74 (0, 0))) (w' := (w5.alloc (.cells #[.int .i64 pc, .slice A1 ls.length c1, .slice A2 ss.length c2] 74 (0, 0))).drew) fun _ _ => rfl)
            have HDa : Hid ((w5.alloc (.cells #[.int .i64 pc, .slice A1 ls.length c1, .slice A2 ss.length c2] 74 (0, 0))).heap[D]? = some (.cells #[.int .i64 f, .string (tx m.1), .string (tx m.2), .int .i64 st, .int .i64 lo, v5, .slice A6 rows.length c6, .slice A acc.length c] 62 (0, 0))) := lhid ((Below.heap_alloc w5 (.cells #[.int .i64 pc, .slice A1 ls.length c1, .slice A2 ss.length c2] 74 (0, 0)) _ (heap_lt HD3s.out)).trans HD3s.out)
            have HBa : Hid (BytsO (w5.alloc (.cells #[.int .i64 pc, .slice A1 ls.length c1, .slice A2 ss.length c2] 74 (0, 0))).drew v5 cd) := lhid (byts_drewN (byts_stay (by simp [tC, tM, tF]) HB3s.out ((Stay.refl tC w5).alloc (.cells #[.int .i64 pc, .slice A1 ls.length c1, .slice A2 ss.length c2] 74 (0, 0)))) 1)
            have HOa : Hid (Two D ρ.M w (w5.alloc (.cells #[.int .i64 pc, .slice A1 ls.length c1, .slice A2 ss.length c2] 74 (0, 0))).drew) := lhid ((HO3s.out.alloc (.cells #[.int .i64 pc, .slice A1 ls.length c1, .slice A2 ss.length c2] 74 (0, 0))).drew)
            have HNa : Hid ((w5.alloc (.cells #[.int .i64 pc, .slice A1 ls.length c1, .slice A2 ss.length c2] 74 (0, 0))).drew.heap[w5.heap.size]? = some (.cells #[.int .i64 pc, .slice A1 ls.length c1, .slice A2 ss.length c2] 74 (0, 0))) := lhid (heap_alloc_new w5 (.cells #[.int .i64 pc, .slice A1 ls.length c1, .slice A2 ss.length c2] 74 (0, 0)))
            have H1C : Hid (∀ u ∈ ([.int .i64 pc, .slice A1 ls.length c1, .slice A2 ss.length c2] : List Value), u.oneCell' = true) := lhid (by intro u hu; simp at hu; rcases hu with rfl | rfl | rfl <;> simp [Value.oneCell'])
            have h63 : acc.length + 1 ≤ maxLen := by unfold maxLen; omega
            have hby : (acc.length + 1) * 56 ≤ 140737488355328 := by omega
            have x0 := heap_cell (i := 0) HX3s.out rfl
            have x1 := heap_cell (i := 1) HX3s.out rfl
            have x2 := heap_cell (i := 2) HX3s.out rfl
            have d6 := heap_cell (i := 7) HD3s.out rfl
            have d6a := heap_cell (i := 7) HDa.out rfl
            go_region_law (refine step_append_lies _ rfl (.tmp 150) (.tmp 152) 60 rfl w.heap.size 74 i0 (.agg #[.int .i64 0, .slice none 0 0, .slice none 0 0]) 3 56 Tryz.underlying60 hi0 hz0 hz1 hz2 rfl (by decide) (.slice A acc.length c) acc.length xs rfl HWa.out _ 1 _ [.int .i64 pc, .slice A1 ls.length c1, .slice A2 ss.length c2] rfl rfl (World.news_of_block HNa.out) H1C.out (by decide) h63 hby HOa.out.size _ rfl ?_
                           intro g cap w6 hown hgrow hat hlt6
                           have hown' := hown
                           have hge := own_lt HWa.out
                           have hD6 : w6.heap[D]? = some (.cells #[.int .i64 f, .string (tx m.1), .string (tx m.2), .int .i64 st, .int .i64 lo, v5, .slice A6 rows.length c6, .slice A acc.length c] 62 (0, 0)) := by
                             rw [hgrow.block D (heap_lt HDa.out) (fun e => by have := hge D e.symm; have := HDL.out; omega)]
                             exact HDa.out
                           have q6 := heap_cell (i := 7) hD6 rfl
                           have z6 := heap_thaw hD6 7)
            all_goals
              have HDn : Hid ((w6.setCell ⟨D, 7, none⟩ (.slice (some ⟨g, 0, none⟩) (acc.length + 1) cap)).heap[D]? = some (.cells #[.int .i64 f, .string (tx m.1), .string (tx m.2), .int .i64 st, .int .i64 lo, v5, .slice A6 rows.length c6, .slice (some ⟨g, 0, none⟩) (acc.length + 1) cap] 62 (0, 0))) := lhid (heap_set hD6 _)
              have HWn : Hid ((w6.setCell ⟨D, 7, none⟩ (.slice (some ⟨g, 0, none⟩) (acc.length + 1) cap)).ownsRow w.heap.size 74 3 (.slice (some ⟨g, 0, none⟩) (acc.length + 1) cap) (acc.length + 1) (xs ++ [.int .i64 pc, .slice A1 ls.length c1, .slice A2 ss.length c2])) := lhid (own_far hown fun g' hg' => Below.heap_setCell _ _ _ _ (show g' ≠ D from by have := (hown.lt g' hg').1; have := HDL.out; omega))
              have HSn : Hid (Stay [5, 9, 88] w5 (w6.setCell ⟨D, 7, none⟩ (.slice (some ⟨g, 0, none⟩) (acc.length + 1) cap))) := lhid (((((Stay.refl _ w5).alloc _).drew).trans (grown_stay hgrow HWa.out (by decide))).set (p := ⟨D, 7, none⟩) hD6 (by decide) _)
              have HEn : Hid (ListE (FrmE (w6.setCell ⟨D, 7, none⟩ (.slice (some ⟨g, 0, none⟩) (acc.length + 1) cap))) (acc ++ [(⟨pc, ls, ss⟩ : Frm)]) (xs ++ [.int .i64 pc, .slice A1 ls.length c1, .slice A2 ss.length c2])) := lhid (ListE.snoc (E := FrmE (w6.setCell ⟨D, 7, none⟩ (.slice (some ⟨g, 0, none⟩) (acc.length + 1) cap))) ⟨_, _, rfl, strs_stay (by simp) HL3s.out HSn.out, strs_stay (by simp) HM3s.out HSn.out⟩ (HE3s.out.imp fun a c h => frmE_keeps (by simp) _ _ _ _ HSn.out h))
              have HBn : Hid (BytsO (w6.setCell ⟨D, 7, none⟩ (.slice (some ⟨g, 0, none⟩) (acc.length + 1) cap)) v5 cd) := lhid (byts_stay (by simp) HB3s.out HSn.out)
              have HVn : Hid (RwsO (w6.setCell ⟨D, 7, none⟩ (.slice (some ⟨g, 0, none⟩) (acc.length + 1) cap)) (.slice A6 rows.length c6) rows) := lhid (rws_stay (by simp) HV3s.out HSn.out)
              have HRn : Hid (Rf ρ τ3 (w6.setCell ⟨D, 7, none⟩ (.slice (some ⟨g, 0, none⟩) (acc.length + 1) cap))) := lhid (Rf.set (Rf.grown HRa.out hgrow (grown_stay hgrow HWa.out (by decide)) (fun k hk => Nat.le_trans HBW.out (hge k hk))) (show Boxed _ _ 62 from ⟨_, _, hD6⟩) (by decide) HDB.out 7 _)
              have HOn : Hid (Two D ρ.M w (w6.setCell ⟨D, 7, none⟩ (.slice (some ⟨g, 0, none⟩) (acc.length + 1) cap))) := lhid ((Two.grown HOa.out hgrow hge).setCell (p := ⟨D, 7, none⟩) (.inl (.inr rfl)) _)
              clear hown hown' hgrow hat hge hlt6 hD6 q6 z6
              go_wp2
              go_roundw
              case rel =>
                have hlen : (acc ++ [(⟨pc, ls, ss⟩ : Frm)]).length = acc.length + 1 := by simp
                refine ⟨acc ++ [(⟨pc, ls, ss⟩ : Frm)], τ3, some ⟨g, 0, none⟩, cap, xs ++ [.int .i64 pc, .slice A1 ls.length c1, .slice A2 ss.length c2], by simp, by omega, lhid (by rw [hlen]; exact HDn.out), lhid (by rw [hlen]; exact HWn.out), HEn, HBn, HVn, HRn, HOn, lhid ?_⟩
                rw [← HM.out, show q2 - acc.length = q2 - (acc ++ [(⟨pc, ls, ss⟩ : Frm)]).length + 1 by omega, manyR, if_neg (by rw [H0.out]; simp), HROW.out]
              case measure => simp [intOf]; omega
          · have t0 : ((σ'.1 : Int) == 0) = false := by rw [beq_eq_false_iff_ne]; omega
            have H0 := lhid h0
            clear h0
            have hm2 := HM.out
            rw [show q2 - acc.length = q2 - acc.length - 1 + 1 by omega, manyR, if_pos H0.out] at hm2
            injection hm2 with e1 e2
            subst e1 e2
            clear HM
            go_wp2_with fail
            go_end0
            rw [HBDY.out]
            exact ⟨rfl, HOr.out, HRr.out, _, HDr.out, _, _, _, rfl, HBr.out, HVr.out, ⟨xs, own_base HWr.out (Nat.zero_le _), HEr.out⟩⟩
        · have he : acc.length = q2 := by omega
          have hlt2 : ¬ (acc.length : Int) < q2 := by omega
          have hm2 := HM.out
          rw [he, Nat.sub_self] at hm2
          injection hm2 with e1 e2
          subst e1 e2
          clear HM he
          go_wp2_with fail
          go_end0
          rw [HBDY.out]
          exact ⟨rfl, HOr.out, HRr.out, _, HDr.out, _, _, _, rfl, HBr.out, HVr.out, ⟨xs, own_base HWr.out (Nat.zero_le _), HEr.out⟩⟩
end Go.Proofs.YtgihfcimngogfaaGreat
