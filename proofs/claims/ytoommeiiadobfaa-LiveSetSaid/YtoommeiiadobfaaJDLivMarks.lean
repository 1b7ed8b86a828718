/- Which registers are live: the program's Marks over the closure of ahead. -/
import Derived.Test.YtoommeiiadobfaaJDLivDo
import Derived.Test.YtoommeiiadobfaaDM2
namespace Go.Proofs.Ytoommeiiadobfaa
open Go.RowKit Go
attribute [local go_sem] Oper.semAt_some
set_option linter.unusedVariables false
set_option linter.unusedSimpArgs false
theorem LvI.tm {W : LwN} {m : Nat → Mk} {T : List Nat} (h : ∀ i, i < W.n → m i = W.us i) (hT : ∀ j ∈ T, j < W.n) (hz : ∀ j, j < W.n → j ∉ T → m j = 0) : LvI W W.n m (fun _ => 0) T where
 sound b i hi hm := .use hi (by rw [← h i hi]; exact hm)
 lt := hT
 use b i hi _ hu := by rw [h i hi]; exact hu
 thr b s hs := by simp at hs
 closed j hj hn b hm := by rw [hz j hj hn] at hm; simp at hm
def MkOut (n G R TW : Nat) (LW : LwN) (w : World) (e : Ending) (w' : World) : Prop := e = .returned (.tuple #[]) ∧ ∃ m' : Nat → Mk, Mks w' G n m' ∧ (∀ b i, i < n → ((m' i).getLsbD b = true ↔ Cb LW b i)) ∧ Ch (fun k => k = G ∨ k = R ∨ k = TW) w w'
set_option maxHeartbeats 32000000 in
set_option maxRecDepth 100000 in
theorem marks_l (n S : Nat) (Ps Th Cs : List (List Int)) (UA DA NA PA TA CA : Option Addr) (uc dc nc pc tc cc WX LX RX TX G R TW : Nat) (LW : LwN) (w0 w : World) (m : Nat → Mk) (T : List Nat) (wm tm : Nat → Mk) (tv : Value) (hP : Hid (RdX Tru 1 (LsE Tru) w0 (.slice PA n pc) Ps)) (hT : Hid (RdX Tru 1 (LsE Tru) w0 (.slice TA S tc) Th)) (hCs : Hid (RdX Tru 1 (LsE Tru) w0 (.slice CA n cc) Cs))
  (hlen : Hid (Ps.length = n ∧ Th.length = S ∧ Cs.length = n)) (hb : Hid (n * 2048 ≤ 140737488355328 ∧ S * 1024 ≤ 140737488355328)) (hel : Hid ((∀ l ∈ Ps, ∀ z ∈ l, ∃ j : Nat, z = j ∧ j < n) ∧ (∀ l ∈ Th, ∀ z ∈ l, ∃ j : Nat, z = j ∧ j < n) ∧ (∀ l ∈ Cs, ∀ z ∈ l, ∃ s : Nat, z = s ∧ s < S)))
  (HLN : Hid (LW.n = n)) (HLW : Hid ((∀ i, LW.pr i = Ps.getD i []) ∧ (∀ i, LW.ca i = Cs.getD i []) ∧ ∀ i, LW.th i = Th.getD i [])) (HWF : Hid (∀ j, j < n → wm j = LW.wr j))
  (HD : Hid (DoX n S UA DA NA PA TA CA uc dc nc pc tc cc WX LX RX TX G R TW w0 w)) (HG : Hid (Mks w G n m ∧ Mks w R n wm ∧ Mks w TW S tm)) (HNE : Hid (G ≠ R ∧ G ≠ TW ∧ R ≠ TW)) (HLE : Hid (w0.heap.size ≤ G ∧ w0.heap.size ≤ R ∧ w0.heap.size ≤ TW))
  (HTv : Hid (RdX Tru 1 NuE w tv (T.map fun i : Nat => (i : Int)))) (HT : Hid (T.Nodup ∧ ∀ j ∈ T, j < n)) (HI : Hid (LvI LW LW.n m tm T)) (HZ : Hid (2 * zerS n m + T.length ≤ 256 * n)) :
  Calls Try.prog 55 #[.slice (some ⟨G, 0, none⟩) n n, tv, .func (.func 56) #[] #[.pointer (some ⟨WX, 0, none⟩), .pointer (some ⟨LX, 0, none⟩), .pointer (some ⟨RX, 0, none⟩), .pointer (some ⟨TX, 0, none⟩)]] w fun e w' => MkOut n G R TW LW w e w' := by
 obtain ⟨A, tcap, htv⟩ := HTv.out.shape
 subst htv
 have hmk3 := make_bools n (by have := hb.out; omega)
 obtain ⟨L, hL⟩ : ∃ L, (T.map fun i : Nat => (i : Int)) = L := ⟨_, rfl⟩
 have hLl : L.length = T.length := by rw [← hL]; simp
 have HLL := lhid hLl
 rw [hL] at HTv
 rw [hL]
 have HL := lhid hL
 have HTB : Hid (L.length * 8 ≤ 140737488355328) := lhid (by have h1 := HZ.out; have h2 := hb.out; omega)
 clear hL hLl
 obtain ⟨LB, hLB⟩ : ∃ LB, LB = w.heap.size := ⟨_, rfl⟩
 obtain ⟨wd, hwd⟩ : ∃ wd, wd = (w.alloc (.cells #[.slice (some ⟨G, 0, none⟩) n n] 50)).alloc (.cells #[.slice A L.length tcap] 22) := ⟨_, rfl⟩
 have hbd : Below w.heap.size w wd := by rw [hwd]; exact ((Below.refl _ _).alloc (Nat.le_refl _) _).alloc (by simp) _
 have hsd : wd.heap.size = LB + 2 := by rw [hwd, hLB]; simp
 have hLd : wd.heap[LB]? = some (.cells #[.slice (some ⟨G, 0, none⟩) n n] 50 (0, 0)) := by rw [hwd, hLB]; exact (Below.heap_alloc _ _ _ (by simp)).trans (heap_alloc_new w _)
 have hTd : wd.heap[LB + 1]? = some (.cells #[.slice A L.length tcap] 22 (0, 0)) := by rw [hwd, hLB]; exact heap_new2 w _ _
 have HTVd := lhid (HTv.out.below (keptX_nu _) hbd)
 have q0 := heap_cell (i := 0) hTd rfl
 have HBD := lhid hbd
 have HSD := lhid hsd
 have HLD := lhid hLd
 have HTD := lhid hTd
 have HWD := lhid hwd
 have HLBW := lhid hLB
 clear hbd hsd hLd hTd
 go_enter Try.func55, Try.ntmps55
 go_upto_region 1 with fail
 rw [← hwd, ← hLB]
 clear hwd hLB
 go_wp2_with fail
 with_reducible refine (clone_nu (P := Tru) (E := NuE) row_nu _ L wd HTVd (by have := HTB.out; omega)).mono ?_
 rintro e w3 ⟨v', xs, rfl, hown, hxs, hb3⟩
 have hxe := rowsE_nu hxs
 subst hxe
 obtain ⟨A3, c3, hv3⟩ := own_shape hown
 subst hv3
 have hB3 : wd.heap.size ≤ w3.heap.size := hb3.size
 have hT3 := heap_keep HTD.out hb3
 have hL3 := heap_keep HLD.out hb3
 have q1 := heap_cell (i := 0) hL3 rfl
 have q2 := heap_cell (i := 0) hT3 rfl
 have z2 := heap_thaw hT3 0
 have g2 := heap_lt hT3
 have HO3 := lhid hown
 have HB3 := lhid hb3
 have HL3 := lhid hL3
 have HT3 := lhid hT3
 clear hown hxs hb3 hL3 hT3 q0
 go_upto_region 2 with fail
 obtain ⟨w4, hw4⟩ : ∃ w4, w4 = w3.setCell ⟨LB + 1, 0, none⟩ (.slice A3 L.length c3) := ⟨_, rfl⟩
 rw [← hw4]
 have hc4 : Ch (fun k => k = LB + 1) w3 w4 := by rw [hw4]; exact (Ch.refl (fun k => k = LB + 1) w3).set (p := ⟨LB + 1, 0, none⟩) (fun _ => rfl) _
 have hs4 : w4.heap.size = w3.heap.size := by rw [hw4]; simp
 have hT4 : w4.heap[LB + 1]? = some (.cells #[.slice A3 L.length c3] 22 (0, 0)) := by rw [hw4]; have := heap_set (i := 0) HT3.out (.slice A3 L.length c3); simpa using this
 have hL4 := hc4.keep HL3.out (by omega)
 have hO4 : OwN w4 wd.heap.size (.slice A3 L.length c3) L := own_ch HO3.out hc4 (fun g hg e => by have := own_lt HO3.out g hg; have := HSD.out; omega)
 have q3 := heap_cell (i := 0) hL4 rfl
 have g4 := heap_lt hL4
 have HC4 := lhid hc4
 have HL4 := lhid hL4
 have HT4 := lhid hT4
 have HO4 := lhid hO4
 have HS4 := lhid hs4
 clear hw4 hc4 hs4 hT4 hL4 hO4 q1 q2 z2 g2
 go_upto_region 3 with fail
 obtain ⟨H, hH⟩ : ∃ H, H = w4.heap.size := ⟨_, rfl⟩
 generalize hW : World.alloc _ _ = w5
 try rw [← hH]
 have hb5 : Below w4.heap.size w4 w5 := by rw [← hW]; exact ((Below.refl _ _).alloc (Nat.le_refl _) _).alloc (by simp) _
 have hs5 : w5.heap.size = H + 2 := by rw [← hW, hH]; simp
 have hH5 : BooB w5 H n (fun _ => false) n := by
  have h9 : w5.heap[H]? = some (.cells (madeCells #[.bool false] n) 4 (0, 0)) := by
   rw [← hW, hH]
   exact (Below.heap_alloc _ _ _ (by simp)).trans (heap_alloc_new w4 _)
  exact ⟨_, h9, by rw [size_madeCells], fun j hj => ⟨false, made_at0 _ _ _ _ hj (by rw [show j % (#[Value.bool false] : Array Value).size = 0 from Nat.mod_one j]; rfl), fun _ => rfl⟩⟩
 have hW5 : w5.heap[H + 1]? = some (.cells #[.slice (some ⟨H, 0, none⟩) n n] 81 (0, 0)) := by rw [← hW, hH]; exact heap_alloc_new' _ _ _ (by simp)
 have hT5 := heap_keep HT4.out hb5
 have hL5 := heap_keep HL4.out hb5
 have hO5 : OwN w5 wd.heap.size (.slice A3 L.length c3) L := own_below HO4.out hb5
 have HRD5 := lhid (hO5.rd HTv.out.len)
 have q4 := heap_cell (i := 0) hT5 rfl
 have q5 := heap_cell (i := 0) hW5 rfl
 have HH : Hid (H = w4.heap.size ∧ w5.heap.size = H + 2 ∧ w4.heap.size = w3.heap.size ∧ wd.heap.size ≤ w3.heap.size ∧ wd.heap.size = LB + 2 ∧ LB = w.heap.size) := lhid ⟨hH, hs5, HS4.out, hB3, HSD.out, HLBW.out⟩
 have HB5 := lhid hb5
 have HH5 := lhid hH5
 have HW5 := lhid hW5
 have HT5 := lhid hT5
 have HL5 := lhid hL5
 have HO5 := lhid hO5
 clear hW hb5 hs5 hH5 hW5 hT5 hL5 hO5 hH q3 g4 hB3 hmk3
 go_wp2_with fail
 clear q4
 have HTVL := lhid HTv.out.len
 go_loopg [18] L.length (fun g s wr => ∃ (k : Nat) (W : Nat → Bool), g = L.length - k ∧ s = .int .i64 k ∧ k ≤ L.length ∧ Hid (Ch (fun b => b = H) w5 wr) ∧ Hid (BooB wr H n W n) ∧ Hid (∀ j, W j = true ↔ j ∈ T.take k))
 case atStart => exact ⟨0, fun _ => false, rfl, rfl, Nat.zero_le _, lhid (Ch.refl _ _), HH5, lhid (fun j => by simp)⟩
 case round =>
  obtain ⟨k, W, rfl, rfl, hk, HC, HW, HWT⟩ := hrel
  by_cases hlt : k < L.length
  ·as_aux_lemma =>
    have k3 : (k : Int) < L.length := by omega
    have hwk : wrap64 ((k : Int) + 1) = ((k + 1 : Nat) : Int) := by rw [IntWalk.wrap64_in _ (by have := HTVL.out; omega)]; omega
    have htl : k < T.length := by rw [← HLL.out]; exact hlt
    obtain ⟨t, ht⟩ : ∃ t, T[k]? = some t := ⟨_, List.getElem?_eq_getElem htl⟩
    have hLk : L[k]? = some (t : Int) := by rw [← HL.out, List.getElem?_map, ht]; rfl
    have htn : t < n := HT.out.2 t (List.mem_of_getElem? ht)
    have htn2 : (t : Int) < n := by omega
    obtain ⟨gl, ol, hLA, c0⟩ := nu_cell (HRD5.out.ch (keptX_nu _) HC.out (fun g hg e => HH5.out.net HO5.out (by rw [hg.2, e]))) hLk
    subst hLA
    have c1 := heap_cell (i := 0) (HC.out.keep HW5.out (by omega)) rfl
    have z1 := HW.out.fz t
    obtain ⟨zb, c2⟩ := HW.out.any htn
    have g1 := HW.out.lt
    have HTK := lhid ht
    have HW2 := lhid (HW.out.upd (p := t))
    have HC2 := lhid (HC.out.set (p := ⟨H, t, none⟩) (fun _ => rfl) (.bool true))
    have HWT2 : Hid (∀ j, updB W t j = true ↔ j ∈ T.take (k + 1)) := lhid (fun j => by
     rw [List.take_add_one, HTK.out]
     unfold updB
     by_cases e : j = t
     ·subst e; simp
     ·rw [if_neg e, HWT.out]; simp [e])
    clear ht hLk htl htn
    go_wp2_with fail
    go_roundg (L.length - (k + 1))
    case measure => omega
    case rel => exact ⟨k + 1, _, rfl, by first | rfl | rw [hwk], by omega, HC2, HW2, HWT2⟩
  ·have k3 : ¬ (k : Int) < L.length := by omega
   have hke : k = L.length := by omega
   have HWE : Hid (∀ j, W j = true ↔ j ∈ T) := lhid (fun j => by have h1 := HWT.out j; rwa [hke, HLL.out, List.take_length] at h1)
   obtain ⟨w6, hw6⟩ : ∃ x, x = wr := ⟨_, rfl⟩
   subst hw6
   have hn := HH.out
   have hd0 := HD.out
   have HS6 : Hid (LvS wd LB (H + 1) (LB + 1) G H R TW (LB + 2) n S m W T wm tm w6) := lhid (by
    have hc35 : Ch (fun b => b = LB + 1) wd w5 := ((Ch.refl _ wd).below HB3.out |>.trans HC4.out (fun _ _ e => e)).below HB5.out
    have hc : Ch (fun b => b = LB + 1 ∨ b = H) wd w6 := (hc35.mono (Y := fun b => b = LB + 1 ∨ b = H) fun _ _ e => .inl e).trans (HC.out.mono (Y := fun b => b = LB + 1 ∨ b = H) fun _ _ e => .inr e) (fun _ _ e => e)
    have hg1 := HG.out.1.below HBD.out
    have hg2 := HG.out.2.1.below HBD.out
    have hg3 := HG.out.2.2.below HBD.out
    have l1 := HG.out.1.lt
    have l2 := HG.out.2.1.lt
    have l3 := HG.out.2.2.lt
    refine ⟨⟨fun e => HNE.out.1 e.symm, fun e => HNE.out.2.1 e.symm, HNE.out.2.2, by omega, by omega, by omega, by omega, by omega, by omega, by omega⟩, ⟨HC.out.keep HL5.out (by omega), HC.out.keep HW5.out (by omega), hg1.of (hc.block G hg1.lt (by omega)), HW.out, ⟨_, HC.out.keep HT5.out (by omega), ?_⟩, ⟨HWE.out, HT.out.1⟩, by have := HC.out.size; omega, by omega⟩, hg2.of (hc.block R hg2.lt (by omega)), hg3.of (hc.block TW hg3.lt (by omega)), hc.mono fun b _ e => ?_⟩
    ·rw [HL.out]
     have h9 := own_ch HO5.out HC.out (fun g hg e => HH5.out.net HO5.out (by rw [hg, e]))
     rwa [HSD.out] at h9
    ·rcases e with e | e
     ·exact .inl (.inr (.inr (.inl e)))
     ·exact .inl (.inr (.inl e)))
   have HCX : Hid (∀ (m : Nat → Mk) (W : Nat → Bool) (T : List Nat) (tm : Nat → Mk) (wr : World), LvS wd LB (H + 1) (LB + 1) G H R TW (LB + 2) n S m W T wm tm wr → DoX n S UA DA NA PA TA CA uc dc nc pc tc cc WX LX RX TX G R TW w0 wr) := lhid (fun m W T tm wr hs => by
    obtain ⟨d1, d2, d3, d4, d5⟩ := hd0
    have e1 := heap_lt d1
    have e2 := heap_lt d2
    have e3 := heap_lt d3
    have e4 := heap_lt d4
    have n1 := HG.out.1
    have n2 := HG.out.2.1
    have n3 := HG.out.2.2
    have kk : ∀ {k : Nat} {c : Array Value} {t : TypeId}, w.heap[k]? = some (.cells c t (0, 0)) → t ≠ 59 → wr.heap[k]? = some (.cells c t (0, 0)) := fun {k c t} hk ht => by
     have hl := heap_lt hk
     obtain ⟨_, m1, _⟩ := n1
     obtain ⟨_, m2, _⟩ := n2
     obtain ⟨_, m3, _⟩ := n3
     exact hs.keep (heap_keep hk HBD.out) (blk_ne hk m1 ht) (by omega) (by omega) (blk_ne hk m2 ht) (blk_ne hk m3 ht)
    refine ⟨kk d1 (by decide), kk d2 (by decide), kk d3 (by decide), kk d4 (by decide), ?_⟩
    have hle := HLE.out
    have hd5 := d5.size
    exact (d5.trans (HBD.out.mono hd5)).trans (hs.to (by omega)))
   clear hke hn hd0
   go_wp2_with fail
   have HIW : Hid (LvI LW LW.n m tm T) := HI
   have HZW : Hid (2 * zerS n m + T.length ≤ 256 * n) := HZ
   go_loopg [] (2 * zerS n m + T.length) (fun g wr => ∃ (m : Nat → Mk) (W : Nat → Bool) (T : List Nat) (tm : Nat → Mk), g = 2 * zerS n m + T.length ∧ Hid (LvS wd LB (H + 1) (LB + 1) G H R TW (LB + 2) n S m W T wm tm wr) ∧ Hid (LvI LW LW.n m tm T) ∧ Hid (2 * zerS n m + T.length ≤ 256 * n))
   case atStart => exact ⟨m, W, T, tm, rfl, HS6, HIW, HZW⟩
   case round =>
    have HMG := lhid HG.out.1.lt
    clear HS6 HIW HZW HI HZ HT HTv HTVd HTB HL HLL HWE HWT HW HC HG hk k3 hlt
    obtain ⟨m, W, T, tm, rfl, HS, HI, HZ⟩ := hrel
    rcases List.eq_nil_or_concat T with rfl | ⟨T', i, hTc⟩
    ·obtain ⟨v, hv, ho⟩ := HS.out.mem.todo
     obtain ⟨A, c, hva⟩ := own_shape ho
     subst hva
     have q0 : wr.cell? ⟨LB + 1, 0, none⟩ = some (.slice A 0 c) := heap_cell (i := 0) hv rfl
     have HALL : Hid (∀ b i, i < n → ((m i).getLsbD b = true ↔ Cb LW b i)) := lhid (fun b i hi => HI.out.all b i (by rw [HLN.out]; exact hi))
     clear hv ho
     go_wp2_with fail
     refine ⟨rfl, _, results_none rfl _ _ _, rfl, m, HS.out.mem.marks, HALL.out, ?_⟩
     refine ((Ch.refl _ w).below HBD.out).trans HS.out.ch (fun k hk e => ?_)
     have hn := HH.out
     rcases e with (e | e | e | e) | e | e
     ·exact .inl e
     ·exact absurd e (by omega)
     ·exact absurd e (by omega)
     ·exact absurd e (by omega)
     ·exact .inr (.inl e)
     ·exact .inr (.inr e)
    ·rw [List.concat_eq_append] at hTc
     subst hTc
     obtain ⟨v, hv, ho⟩ := HS.out.mem.todo
     obtain ⟨L2, hL2⟩ : ∃ L2, (T'.map fun i : Nat => (i : Int)) = L2 := ⟨_, rfl⟩
     have hLl : L2.length = T'.length := by rw [← hL2]; simp
     rw [List.map_append, hL2] at ho
     obtain ⟨g, cap, hvg, hgB, hgw⟩ := own_last ho
     subst hvg
     obtain ⟨ho3, c3', hcap⟩ := own_init ho
     obtain ⟨N, hN⟩ : ∃ N, L2.length = N := ⟨_, rfl⟩
     obtain ⟨M, hM⟩ : ∃ M, N + 1 = M := ⟨_, rfl⟩
     have hin : i < n := by have := HI.out.lt i (by simp); rwa [HLN.out] at this
     rw [hN] at hv c3' hcap ho3 hLl
     rw [hM] at hv hcap
     have q0 := heap_cell (i := 0) hv rfl
     have qz := heap_thaw hv 0
     have htb := heap_lt hv
     have q1 := heap_cell (i := 0) HS.out.mem.wb rfl
     have q2 := HS.out.mem.waits.fz i
     obtain ⟨zb, q3⟩ := HS.out.mem.waits.any hin
     have q4 := HS.out.mem.waits.lt
     have HO3 : Hid (OwN wr (LB + 2) (.slice (some ⟨g, 0, none⟩) N cap) (T'.map fun i : Nat => (i : Int))) := lhid (by rw [hL2]; exact ho3)
     have HV := lhid hv
     have HIN := lhid hin
     have hw1' : wrap64 ((M : Int) - 1) = (N : Int) := by rw [IntWalk.wrap64_in _ (by have h1 := HZ.out; have h2 := hb.out; simp at h1; omega)]; omega
     have k0 : (0 : Int) < M := by omega
     have k1 : (N : Int) < M := by omega
     have k2 : (N : Int) ≤ cap := by omega
     have k3 : ¬ cap = 0 := by omega
     have k4 : (i : Int) < n := by omega
     have HZ2 : Hid (2 * zerS n m + T'.length + 1 ≤ 256 * n) := lhid (by have := HZ.out; simp at this; omega)
     clear hL2 hLl hN hM ho ho3 hcap hgB hv
     have nn1 : ¬ H = LB := by have := HH.out; omega
     have nn2 : ¬ LB = H := by have := HH.out; omega
     have nn3 : ¬ H = LB + 1 := by have := HH.out; omega
     have nn4 : ¬ LB + 1 = H := by have := HH.out; omega
     go_upto_region 13 with fail
     clear nn1 nn2 nn3 nn4
     have HS7 := lhid (HS.out.pop HV.out HO3.out hin)
     obtain ⟨w7, hw3⟩ : ∃ w7, w7 = (wr.setCell ⟨LB + 1, 0, none⟩ (.slice (some ⟨g, 0, none⟩) N cap)).setCell ⟨H, i, none⟩ (.bool false) := ⟨_, rfl⟩
     rw [← hw3] at HS7 ⊢
     have HL1 : Hid (Lv1 LW i [] m tm T') := lhid (Lv1.start HI.out)
     clear hw3 q0 qz htb q1 q2 q3 q4 c3' hgw hw1' k0 k1 k2 k3 HO3 HV HS HI
     go_wp2_with fail
     with_reducible refine (do_l n S i Ps Th Cs UA DA NA PA TA CA uc dc nc pc tc cc WX LX RX TX LB (H + 1) (LB + 1) G H R TW (LB + 2) LW w0 wd w7 m _ T' wm tm hP hT hCs hlen hb hel HLN HLW HWF HCX HIN HS7 HL1 HZ2).mono ?_
     rintro e w8 ⟨rfl, m', W', T3, tm', hs8, hi8, hz8⟩
     have HS8 := lhid hs8
     have HI8 := lhid hi8
     have HZ8 := lhid hz8
     clear hs8 hi8 hz8
     go_wp2_with fail
     go_roundg (2 * zerS n m' + T3.length)
     case measure => have h1 := HZ8.out; simp; omega
     case rel => exact ⟨m', W', T3, tm', rfl, HS8, HI8, lhid (by have h1 := HZ8.out; have h2 := HZ2.out; omega)⟩
end Go.Proofs.Ytoommeiiadobfaa
